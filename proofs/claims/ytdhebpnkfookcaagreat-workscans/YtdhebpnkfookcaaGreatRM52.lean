import Derived.Test.YtdhebpnkfookcaaGreatRM51
set_option maxRecDepth 100000
set_option maxHeartbeats 8000000
namespace Go.Proofs.YtdhebpnkfookcaaGreat
section
open Go.RowKit Go.Shelf Apo
theorem wone_few {w W:World} {s m:Nat} {O:Nat->Prop} {T:List (List Int)} (h:TSw w W s O T m) (hp:pgT T<=4096) (hx:TxOk T) {es:List En} {id:Nat} (hr:RootOf T es id) (hok:MapOk es) (hle:es.length<=100) (hfw:es.length+1<=20) (x:Ed) (hz:x.k.size<=maxLen/\x.v.size<=maxLen) (hroom:∀ fs,MapOk fs->fs.length<=es.length+1->(fs.flatMap enB).length<=40000/\pgT (treeT T fs)<=4096) :
  Calls Tryz.prog 19 #[.pointer (some ⟨s,0,none⟩),.int .u64 id,.slice (some ⟨W.heap.size,0,none⟩) 1 1] (W.alloc (.cells #[.string x.k,.string x.v,.bool x.g] 46)) (PtP w W s O T m es x):=by
 have hml:maxLen<=9223372036854775807:=by decide
 have b:Below W.heap.size W (W.alloc (.cells #[.string x.k,.string x.v,.bool x.g] 46)):=(Below.refl _ W).alloc (Nat.le_refl _) _;have rl:RdG cEd 3 (W.alloc (.cells #[.string x.k,.string x.v,.bool x.g] 46)) (some ⟨W.heap.size,0,none⟩) [x]:=rd_lit 46 W x;by_cases hE:edE x=0
 ·have C:=wdo_few (h.below b) hp hx hr hok hle (some ⟨W.heap.size,0,none⟩) 1 [x] rl (fun y hy=>by cases hy;exact ⟨by simp,fun q=>by have:=h.hi _ q;simp at this⟩) (by simp) hfw (fun y hy=>by rw [List.mem_singleton.1 hy];exact hE) (fun y hy=>by rw [List.mem_singleton.1 hy];exact hz) (fun fs _ _ h3 h4=>hroom fs h3 h4);exact C.mono (fun e W' q=>.inr ⟨hE,q.one b hle⟩)
 ·have C:=wdo_err (W.alloc (.cells #[.string x.k,.string x.v,.bool x.g] 46)) s id (some ⟨W.heap.size,0,none⟩) 1 [x] rl (by simp) (fun y hy=>by rw [List.mem_singleton.1 hy];omega) (fun q=>hE (q x (by simp)));rw [edsE_one] at C;exact C.mono (fun e W' q=>.inl ⟨hE,q.1,b.trans (q.2.mono b.size)⟩)
theorem wput_few {w W:World} {s m:Nat} {O:Nat->Prop} {T:List (List Int)} (h:TSw w W s O T m) (hp:pgT T<=4096) (hx:TxOk T) {es:List En} {id:Nat} (hr:RootOf T es id) (hok:MapOk es) (hle:es.length<=100) (hfw:es.length+1<=20) (key val:ByteArray) (hz:key.size<=maxLen/\val.size<=maxLen) (hroom:∀ fs,MapOk fs->fs.length<=es.length+1->(fs.flatMap enB).length<=40000/\pgT (treeT T fs)<=4096) :
  Calls Tryz.prog 11 #[.pointer (some ⟨s,0,none⟩),.int .u64 id,.string key,.string val] W (PtP w W s O T m es ⟨key,val,false⟩):=by
 have HC:=Za (wone_few h hp hx hr hok hle hfw ⟨key,val,false⟩ hz hroom);simp only at HC;clear h hp hx hr hok hle hfw hz hroom;go_enter Tryz.func11,Tryz.ntmps11
 go_wp2_with fail
 refine HC.out.mono ?_;rintro e w1 hh;obtain ⟨a,E,he⟩:=hh.shape;rw [he] at hh ⊢;have HH:=Za hh;clear hh he HC;go_wp2;refine bodyPost_ret (by simp [results,Tryz.results11,go_sem];rfl) rfl ?_;exact HH.out
theorem wdel_few {w W:World} {s m:Nat} {O:Nat->Prop} {T:List (List Int)} (h:TSw w W s O T m) (hp:pgT T<=4096) (hx:TxOk T) {es:List En} {id:Nat} (hr:RootOf T es id) (hok:MapOk es) (hle:es.length<=100) (hfw:es.length+1<=20) (key:ByteArray) (hz:key.size<=maxLen) (hroom:∀ fs,MapOk fs->fs.length<=es.length+1->(fs.flatMap enB).length<=40000/\pgT (treeT T fs)<=4096) :
  Calls Tryz.prog 12 #[.pointer (some ⟨s,0,none⟩),.int .u64 id,.string key] W (DlP w W s O T m es key):=by
 have hml:maxLen<=9223372036854775807:=by decide
 have hT:T.length<=16000:=by have:=h.len;omega
 obtain ⟨ls,q1,q2,q3,_⟩:=hr.tree hok (by omega) hT
 have HCG:Hid (∀ W',Below W.heap.size W W'->Calls Tryz.prog 25 #[.pointer (some ⟨s,0,none⟩),.int .u64 id,.string key] W' (GtP es key W')):=Za (fun W' b=>by
  have C:=tgettree_any (h.below b) hT hx id ls q1 (by rw [q2];exact riseE_iff.2 hok.rise) key;rwa [q2] at C)
 have HK:=Za (fun W=>key_any key W (by omega));have HC:=Za (fun W' (b:Below W.heap.size W W')=>wone_few (h.below b) hp hx hr hok hle hfw ⟨key,⟨#[]⟩,true⟩ ⟨hz,Nat.zero_le _⟩ hroom);simp only at HC;obtain ⟨K,hK⟩:∃ K,K=Z7 key:=⟨_,rfl⟩;have HKE:=Za hK;rw [<- hK] at HK;clear h hp hx hr hok hle hfw hz hroom q1 q2 q3 hT hK;go_enter Tryz.func12,Tryz.ntmps12
 go_wp2_with fail
 refine (HK.out _).mono ?_;rintro e w1 ⟨rfl,rfl⟩;by_cases hK0:K=0
 rotate_left
 ·have dc:(K != 0)=true:=by simpa using hK0
  go_wp2;refine bodyPost_ret (by simp [results,Tryz.results12,go_sem];rfl) rfl ?_;exact .inl ⟨by rw [<- HKE.out];exact hK0,by rw [<- HKE.out];exact ⟨rfl,Below.refl _ _⟩⟩
 subst hK0;have HG:=Za (HCG.out W (Below.refl _ _));go_wp2_with fail
 refine HG.out.mono ?_;rintro e w2 ⟨v,b,rfl,hg,b2⟩;have HG2:=Za hg;have HB2:=Za b2;cases b with
 | false =>
  have hno:∀ x ∈ es,x.k≠key:=by
   rcases hg with ⟨q,_⟩ | ⟨_,_,q⟩
   ·cases q
   ·exact q
  have HNO:=Za hno;clear hg b2 hno;go_wp2;refine bodyPost_ret (by simp [results,Tryz.results12,go_sem];rfl) rfl ?_;exact .inr (.inl ⟨HKE.out.symm,HNO.out,rfl,HB2.out⟩)
 | true =>
  have hyes:∃ x ∈ es,x.k=key:=by
   rcases hg with ⟨_,x,h1,h2,_⟩ | ⟨q,_⟩
   ·exact ⟨x,h1,h2⟩
   ·cases q
  have HY:=Za hyes;have HC2:=Za (HC.out w2 b2);clear hg b2 hyes HC HCG HG;go_wp2_with fail
  refine HC2.out.mono ?_;rintro e w3 hh
  have hh2:OneP w w2 s O T m es ⟨key,⟨#[]⟩,true⟩ e w3:=by
   rcases hh with ⟨q,_⟩ | ⟨_,q⟩
   ·exact absurd (edE_gone HKE.out.symm) q
   ·exact q
  have HH:Hid (OneP w W s O T m es ⟨key,⟨#[]⟩,true⟩ e w3):=Za (by
   obtain ⟨fs,id',O',T',h0,h1,h3,h4,h5,h6,h7,h8,h9,h10,h11⟩:=hh2;have hb:=HB2.out.size;exact ⟨fs,id',O',T',h0,h1,h3,h4,h5,h6,h7,h8,h9,fun i q=>(h10 i q).imp (fun z=>z) (fun z=>by omega),(Onl.ofBelow HB2.out).trans h11⟩)
  obtain ⟨a,E,he⟩:=hh2.shape;rw [he] at HH ⊢;clear hh hh2 he;go_wp2;refine bodyPost_ret (by simp [results,Tryz.results12,go_sem];rfl) rfl ?_;exact .inr (.inr ⟨HKE.out.symm,HY.out,HH.out⟩)
end
section
open Go.RowKit Apo
theorem awake18f (w:World):Calls Tryz.prog 7 #[] w fun e w'=>e=.returned (.bool true)/\Below w.heap.size w w':=by
 go_enter Tryz.func7,Tryz.ntmps7
 go_wp2_with fail
 refine (tstore_any w).mono ?_;rintro e w1 ⟨s,O,rfl,t1⟩;have C2:=wput_few t1 (by rw [pg_none];omega) (fun t ht=>by simp at ht) root_none (rightE_map rightE_nil) (by simp) (by simp) ⟨#[97]⟩ ⟨#[49]⟩ ⟨by decide,by decide⟩ (room_put (by rw [pg_none];simp) (by simp) (by rw [pg_none];simp));have HC2:=Za C2;have HB1:=Za t1.bel;have HLO:=Za t1.lo;clear C2 t1;go_wp2_with fail
 refine HC2.out.mono ?_;rintro e w2 hh
 obtain ⟨fs,id,O',T',rfl,hap,hok,hfl,r1,r2,r2',r3,r4,r5,r6⟩:OneP w w1 s O [] 1 [] ⟨⟨#[97]⟩,⟨#[49]⟩,false⟩ e w2:=by
  rcases hh with ⟨q,_⟩ | ⟨_,q⟩
  ·exact absurd (by decide) q
  ·exact q
 have hfs:=one_put hap
 have hpg:pgT T'<=23:=by
  have:=pages_put (T:=[]) (n:=0) (by rw [pg_none];simp) (by omega) (by rw [pg_none];omega) hok hfl;rw [r3.1];rw [pg_none] at this;omega
 have htx:TxOk T':=r2' (fun t ht=>by simp at ht);subst hfs;have hlen:=r4.len;have C3:=wdel_few r4 (by omega) htx r1 hok (by simp) (by simp) ⟨#[98]⟩ (by decide) (room_put hlen (by simp) (by simp;omega));have HC3:=Za C3;have HR:=Za (And.intro r1 (And.intro r4 (And.intro htx (And.intro hok hpg))));have HB2:=Za (Below.onl HB1.out r6 (fun i q=>HLO.out i q) (Nat.le_refl _));clear C3 r1 r2 r2' r3 r4 r5 r6 hpg htx hok hlen hap hfl hh HC2;go_wp2_with fail
 refine HC3.out.mono ?_;rintro e w3 hh
 obtain ⟨rfl,b3⟩:BadP 3 w2 e w3:=by
  rcases hh with ⟨q,_⟩ | ⟨_,_,q⟩ | ⟨_,⟨x,hx,hk⟩,_⟩
  ·exact absurd (by decide) q
  ·exact q
  ·rw [List.mem_singleton.1 hx] at hk;exact absurd hk (by decide)
 obtain ⟨r1,r4,htx,hok,hpg⟩:=HR.out;have hlen:=r4.len;have hT:T'.length<=16000:=by omega
 obtain ⟨ls,q1,q2,q3,q4⟩:=r1.tree hok (by simp) hT;have C4:=tgettree_any (r4.below b3) hT htx id ls q1 (by rw [q2];exact riseE_iff.2 hok.rise) ⟨#[97]⟩;rw [q2] at C4;have HC4:=Za C4;have HB3:=Za (HB2.out.trans (b3.mono HB2.out.size));have HRI:Hid (Zz [(⟨⟨#[97]⟩,⟨#[49]⟩⟩:En)]):=Za (riseE_iff.2 hok.rise);clear C4 b3 r1 r4 htx hok hpg hlen hT q1 q2 q3 q4 HR hh HC3;go_wp2_with fail
 refine HC4.out.mono ?_;rintro e w4 ⟨v,b,rfl,hg,b4⟩;obtain ⟨rfl,rfl⟩:v=⟨#[49]⟩/\b=true:=Z8 HRI.out hg (.inl ⟨rfl,_,List.mem_singleton.2 rfl,rfl,rfl⟩);have HF:=Za (HB3.out.trans (b4.mono HB3.out.size));clear hg b4;go_wp2;go_ret
 exact ⟨rfl,HF.out⟩
end
end Go.Proofs.YtdhebpnkfookcaaGreat
namespace Apo
open Go Go.RowKit
open Go.MapKept
open Go.Maps (Keyed)
def kK (f:Ki):Lit:=.string (keyBytes [.string f.k.data.toList,.int .u64 (f.i:Int)])
def kidV (f:Ki):Value:=.agg #[.string f.k,.int .u64 (f.i:Int)]
def OkK (f:Ki):Prop:=f.k.size<=maxLen/\f.i < 18446744073709551616
structure KidKeys (P:Program) (k:TypeId):Prop where
 keyed:Keyed P k
 lit:∀ f,OkK f->keyOf P k (kidV f)=some (kK f)
theorem KidKeys.inj {P:Program} {k:TypeId} (K:KidKeys P k) {f g:Ki} (hf:OkK f) (hg:OkK g) (h:kK f=kK g):f=g:=by
 have:=K.keyed.inj (K.lit f hf) ((K.lit g hg).trans (by rw [h]));unfold kidV at this;simp only [Value.agg.injEq,Array.mk.injEq,List.cons.injEq,Value.string.injEq,Value.int.injEq,true_and,and_true] at this;obtain ⟨a,b⟩:=f;obtain ⟨c,d⟩:=g;simp only at this;obtain ⟨h1,h2⟩:=this;rw [h1];congr 1
 omega
theorem kK_key (f:Ki):WideAt.IsKeyLit (kK f):=trivial
structure MkD (D:DataW Value) (L:List Ki) (z:Value):Prop where
 has:∀ f,OkK f->(Maps.has D (kK f)=true↔f ∈ L)
 get:∀ f,OkK f->f ∈ L->∀ y,D.atKey (kK f) y=.held z
def Mk (P:Program) (k:TypeId) (w:World) (b c:Nat) (L:List Ki) (z:Value):Prop:=∃ D:DataW Value,w.ownsMap P k heldR b (Maps.size D) D/\MkD D L z/\Maps.size D<=c
section
variable {P:Program} {k t e:TypeId} {w w':World} {b c:Nat} {L:List Ki} {z:Value}
theorem Mk.lt (h:Mk P k w b c L z):b < w.heap.size:=by obtain ⟨D,h,_⟩:=h;exact h.lt
theorem Mk.onl {F:Nat->Prop} (h:Mk P k w b c L z) (o:Onl F w w') (hb:¬ F b):Mk P k w' b c L z:=by
 have hl:=h.lt;obtain ⟨D,⟨es,c,h1,h2⟩,m⟩:=h;exact ⟨D,⟨es,c,(o.block b hl hb).trans h1,h2⟩,m⟩
theorem Mk.below (h:Mk P k w b c L z) (o:Below w.heap.size w w'):Mk P k w' b c L z:=h.onl (F:=fun _=>False) (Onl.ofBelow o) id
theorem Mk.made (w:World) (P:Program) (k:TypeId) (z:Value):Mk P k (w.alloc (.map #[] 0)) w.heap.size 0 [] z :=
 ⟨.map [],World.ownsMap_made w P k heldR,⟨fun _ _=>⟨(fun h=>by cases h),(fun h=>by simp at h)⟩,(fun _ _ h=>by simp at h)⟩,by simp [Maps.size_eq]⟩
open Classical in
theorem Mk.look2 (K:KidKeys P k) (h:Mk P k w b c L z) (ht:P.underlying t=some (.map k e)) (hz:∀ W,(zeroValue e).run P W=.ok z W) {f:Ki} (hf:OkK f) :
  (Instr.lookup t (.map (some b)) (kidV f) true).run P w=.ok (.tuple #[z,.bool (decide (f ∈ L))]) w:=by
 obtain ⟨D,h,m,_⟩:=h;obtain ⟨v,ps,h1,h2⟩:=h.look_ok K.keyed ht (hz w) (zd:=.held z) (zp:=[]) rfl (K.lit f hf);have h3:DataW.held v=D.atKey (kK f) (.held z):=by simp [heldR] at h2;exact h2.1
 have hh:Maps.has D (kK f)=decide (f ∈ L):=by
  rw [Bool.eq_iff_iff];simp only [decide_eq_true_eq];exact m.has f hf
 rw [h1,hh];by_cases q:f ∈ L
 ·rw [m.get f hf q] at h3;cases h3
  rfl
 ·rw [Maps.atKey_of_not_has (by simpa [q] using hh)] at h3;cases h3
  rfl
theorem MkD.put (K:KidKeys P k) {D:DataW Value} (m:MkD D L z) (hD:Maps.IsMap D) {f:Ki} (hf:OkK f):MkD (D.put (kK f) (.held z)) (f :: L) z:=by
 refine ⟨fun g hg=>?_,fun g hg hm y=>?_⟩
 ·by_cases q:g=f
  ·subst q;rw [Maps.has_put_same hD (kK_key _)];simp
  ·rw [Maps.has_put_other (fun e=>q (K.inj hg hf e)),m.has g hg];simp [q]
 ·by_cases q:g=f
  ·subst q;exact Maps.atKey_put_same hD (kK_key _) _ _
  ·rw [Maps.atKey_put_other (fun e=>q (K.inj hg hf e)),m.get g hg (by simpa [q] using hm)]
theorem Mk.store (K:KidKeys P k) (h:Mk P k w b c L z) (ht:P.underlying t=some (.map k e)) (hc:c < 1000000) {f:Ki} (hf:OkK f) :
  ∃ w',(Instr.mapUpdate t (.map (some b)) (kidV f) z).run P w=.ok () w'/\Mk P k w' b (c+1) (f :: L) z/\w.mapTurned w' b:=by
 obtain ⟨D,h,m,hl⟩:=h;obtain ⟨w',h1,h2,h3⟩:=h.store K.keyed ht (show Maps.size D < maxLen by unfold maxLen;omega) (K.lit f hf) (val:=z) (d:=.held z) (ps:=[]) rfl;have hput:MkD (D.put (kK f) (.held z)) (f :: L) z:=m.put K h.isMap hf;refine ⟨w',h1,⟨_,?_,hput,?_⟩,h3⟩
 ·obtain ⟨es,c,q1,q2,q3,q4⟩:=h2;refine ⟨es,c,q1,q2,?_,q4⟩;rw [q4];simp [Maps.size,length_sorted]
 ·have ht:=h.tidy K.keyed;rw [Maps.size_put ht];split <;> omega
end
end Apo
namespace Go.Proofs.YtdhebpnkfookcaaGreat
open Go.RowKit Apo
section
open Go.Maps (Keyed)
theorem laidOutT:laidOutB Tryz.prog=true:=by kernel_rfl
theorem kid_size:∃ m,Tryz.prog.types.size=m+1:=⟨Tryz.prog.types.size - 1,by
 have:1<=Tryz.prog.types.size:=of_decide_eq_true (by kernel_rfl);omega⟩
theorem kid_lit (f:Ki) (h:OkK f):keyOf Tryz.prog 128 (kidV f)=some (kK f):=by
 obtain ⟨m,hm⟩:=kid_size;have h9:=Tryz.underlying9;have h6:=Tryz.underlying27;have hk:=Tryz.underlying128;have hkt:Tryz.prog.keyType 128=true:=by kernel_rfl
 have c9:Tryz.prog.cellsOf 9=1:=by kernel_rfl
 have c6:Tryz.prog.cellsOf 27=1:=by kernel_rfl
 have ck:Tryz.prog.cellsOf 128=2:=by kernel_rfl
 have hw:(Lit.int .u64 (f.i:Int)).wf=true:=wf64 h.2;have hfo:(kidV f).formed Tryz.prog 128=true:=by simp [kidV,Value.formed,hk,ck]
 have hl:Tryz.prog.keyLits (Tryz.prog.types.size+1) 128 (kidV f).cells.toList=some [.string f.k.data.toList,.int .u64 (f.i:Int)]:=by
  rw [hm];simp [Program.keyLits,hk,h9,h6,kidV,Value.cells,c9,c6,ck,h.1,hw]
 unfold keyOf;rw [hk];simp only;rw [if_pos (by rw [hkt,hfo];rfl),hl];rfl
theorem kidKeys:KidKeys Tryz.prog 128 where
 keyed:=Keyed.of_law (deep_law_laid laidOutT (m:=3) (by omega) (of_decide_eq_true (by kernel_rfl)) (by kernel_rfl) (by kernel_rfl))
 lit:=kid_lit
end
section
attribute [local go_sem ↓] Apo.app_exec
open Classical in
noncomputable def lessK (o l:List Ki):List Ki:=l.filter (fun k=>decide (k ∉ o))
theorem lessK_snoc (o l:List Ki) (k:Ki):lessK o (l++[k])=lessK o l++(lessK o [k]):=by unfold lessK;rw [List.filter_append]
theorem lessK_in {o:List Ki} {k:Ki} (h:k ∈ o):lessK o [k]=[]:=by unfold lessK;simp [h]
theorem lessK_out {o:List Ki} {k:Ki} (h:¬ k ∈ o):lessK o [k]=[k]:=by unfold lessK;simp [h]
theorem lessK_len (o l:List Ki):(lessK o l).length<=l.length:=List.length_filter_le _ _
def WoP (o l:List Ki) (w:World) (e:Ending) (w':World):Prop:=∃ a c,e=.returned (.slice a (lessK o l).length c)/\RdKi w' a (lessK o l)/\(lessK o l).length<=c/\c<=maxLen/\(a=none->c=0)/\Below w.heap.size w w'
theorem without_any (w:World) (a b:Option Addr) (ca cb:Nat) (l o:List Ki) (ha:RdKi w a l) (hb:RdKi w b o) (hla:l.length<=400000) (hlb:o.length<=400000) (hka:∀ f ∈ l,OkK f) (hkb:∀ f ∈ o,OkK f) :
  Calls Tryz.prog 69 #[.slice a l.length ca,.slice b o.length cb] w (WoP o l w):=by
 obtain ⟨n,hn⟩:∃ n,n=l.length:=⟨_,rfl⟩;obtain ⟨m,hm⟩:∃ m,m=o.length:=⟨_,rfl⟩;have hmm:=@run_makeMap Tryz.prog;obtain ⟨W0,hW0⟩:∃ W0,W0=w.alloc (.map #[] 0):=⟨_,rfl⟩;have m0:Mk Tryz.prog 128 W0 w.heap.size 0 [] (.agg #[]):=by rw [hW0];exact Mk.made w Tryz.prog _ _
 have b0:Below w.heap.size w W0:=by rw [hW0];exact (Below.refl _ w).alloc (Nat.le_refl _) _
 have HN:=Za hn;have HM:=Za hm;have HA:=Za ha;have HBO:=Za hb;have HKA:=Za hka;have HKB:=Za hkb;have HM0:=Za m0;have HB0:=Za b0;rw [<- hn] at hla ⊢;rw [<- hm] at hlb ⊢;clear ha hb hn hm hka hkb m0 b0;go_enter Tryz.func69,Tryz.ntmps69
 go_wp2;rw [<- hW0];clear hW0;go_loopw [16] (fun i wr=>∃ (j:Nat) (L:List Ki),j<=m/\i=.int .i64 j/\Hid (∀ f,f ∈ L↔f ∈ o.take j)/\Hid (Mk Tryz.prog 128 wr w.heap.size j L (.agg #[]))/\Hid (Below w.heap.size w wr)) (fun i _=>m - (intOf i).toNat)
 case atStart=>exact ⟨0,[],Nat.zero_le _,rfl,Za (by simp),HM0,HB0⟩
 case round =>
  obtain ⟨j,L,hj,rfl,HL,HMk,HB⟩:=hrel;by_cases hjn:j < m
  ·obtain ⟨⟨ek,ei⟩,hx⟩:∃ x,o[j]?=some x:=⟨o[j]'(by have:=HM.out;omega),List.getElem?_eq_getElem _⟩;obtain ⟨g,of,rfl,p1,p2⟩:=HBO.out j _ hx;simp only at p1 p2;have p1':=(HB.out.cell (p:=⟨g,of+j * 2,none⟩) (World.block_lt_of_cell? _ _ p1)).trans p1;have p2':=(HB.out.cell (p:=⟨g,of+j * 2+1,none⟩) (World.block_lt_of_cell? _ _ p2)).trans p2;obtain ⟨W1,hW1⟩:∃ W1,W1=wr.alloc (.cells #[.string ek,.int .u64 (ei:Int)] 128):=⟨_,rfl⟩;have b1:Below wr.heap.size wr W1:=by rw [hW1];exact (Below.refl _ wr).alloc (Nat.le_refl _) _
   obtain ⟨w2,R,m2,t2⟩:=(HMk.out.below b1).store (t:=192) kidKeys (by rfl) (by omega) (HKB.out _ (List.mem_of_getElem? hx));have htk:o.take (j+1)=o.take j++[⟨ek,ei⟩]:=by rw [List.take_add_one,hx];rfl
   have HL2:Hid (∀ f,f ∈ (⟨ek,ei⟩:Ki) :: L↔f ∈ o.take (j+1)):=Za (fun f=>by rw [htk,List.mem_append,List.mem_cons,HL.out f,List.mem_singleton];exact Or.comm);have hB2:Below w.heap.size w w2:=Below.onl (HB.out.trans (b1.mono HB.out.size)) (turned_onl t2) (fun i hi=>by rw [hi];exact Nat.le_refl _) (Nat.le_refl _);have HM2:=Za m2;have HB2:=Za hB2;rw [hW1] at R;unfold kidV at R;simp only at R;clear m2 t2 hB2 hx htk hW1 b1 p1 p2;go_wp2;go_roundw
   case rel=>exact ⟨j+1,_,by omega,by simp,HL2,HM2,HB2⟩
   case measure=>simp [intOf];omega
  ·obtain rfl:j=m:=by omega
   obtain ⟨W2,hW2⟩:∃ x,x=wr:=⟨wr,rfl⟩;subst hW2;have HLo:Hid (∀ f,f ∈ L↔f ∈ o):=Za (fun f=>by have:=HL.out f;rwa [List.take_of_length_le (by have:=HM.out;omega)] at this);have HAr:=Za (HA.out.below HB.out);clear HL HA HBO;go_wp2;go_loopw [8,26] (fun v i wr=>∃ (k:Nat) (va:Option Addr) (vc nk:Nat),k<=n/\i=.int .i64 k/\v=.slice va nk vc/\Hid (nk=(lessK o (l.take k)).length)/\Hid (Row (fun g=>W2.heap.size<=g) wr 128 2 (.slice va nk vc) (lessK o (l.take k)).length (Zn (lessK o (l.take k))))/\Hid (Below W2.heap.size W2 wr)) (fun _ i _=>n - (intOf i).toNat)
   case atStart=>exact ⟨0,none,0,0,Nat.zero_le _,rfl,rfl,Za rfl,Za (Row.nil _ _ _ _),Za (Below.refl _ _)⟩
   case round =>
    obtain ⟨k,va,vc,nk,hk,rfl,rfl,HNK,HRW,HBs⟩:=hrel;by_cases hkn:k < n
    ·obtain ⟨⟨ek,ei⟩,hx⟩:∃ x,l[k]?=some x:=⟨l[k]'(by have:=HN.out;omega),List.getElem?_eq_getElem _⟩;obtain ⟨g,of,rfl,p1,p2⟩:=(HAr.out.below HBs.out) k _ hx;simp only at p1 p2;have hok:=HKA.out _ (List.mem_of_getElem? hx);have htk:l.take (k+1)=l.take k++[⟨ek,ei⟩]:=by rw [List.take_add_one,hx];rfl
     obtain ⟨W1,hW1⟩:∃ W1,W1=wr.alloc (.cells #[.string ek,.int .u64 (ei:Int)] 128):=⟨_,rfl⟩;have b1:Below wr.heap.size wr W1:=by rw [hW1];exact (Below.refl _ wr).alloc (Nat.le_refl _) _
     have hlk:=((HMk.out.below HBs.out).below b1).look2 (t:=192) kidKeys (by rfl) zero_unit hok;obtain ⟨Wc,hWc⟩:∃ Wc,Wc=W1.alloc (.cells #[] 143):=⟨_,rfl⟩;have bc:Below W1.heap.size W1 Wc:=by rw [hWc];exact (Below.refl _ W1).alloc (Nat.le_refl _) _
     have k1:Ob Wc wr.heap.size 128 [.string ek,.int .u64 (ei:Int)]:=by rw [hWc,hW1];exact (Ob.new wr [.string ek,.int .u64 (ei:Int)] 128).alloc _
     have row1:=(HRW.out.onl (F:=fun _=>False) (Onl.ofBelow b1) (fun _ _ q=>q)).onl (F:=fun _=>False) (Onl.ofBelow bc) (fun _ _ q=>q);have hll:=lessK_len o (l.take k);have htl:(l.take k).length<=n:=by have:=HN.out;simp;omega
     have s1:Wc.heap.size=wr.heap.size+2:=by rw [hWc,hW1];simp
     have hbc:Below W2.heap.size W2 Wc:=(HBs.out.trans (b1.mono HBs.out.size)).trans (bc.mono (by rw [hW1];have:=HBs.out.size;simp;omega));by_cases hin:(⟨ek,ei⟩:Ki) ∈ o
     ·have e1:lessK o (l.take (k+1))=lessK o (l.take k):=by rw [htk,lessK_snoc,lessK_in hin,List.append_nil]
      have HNK2:Hid (nk=(lessK o (l.take (k+1))).length):=Za (by rw [e1];exact HNK.out);have HR2:Hid (Row (fun g=>W2.heap.size<=g) Wc 128 2 (.slice va nk vc) (lessK o (l.take (k+1))).length (Zn (lessK o (l.take (k+1))))):=Za (by rw [e1];exact row1);have HB2:Hid (Below W2.heap.size W2 Wc):=Za hbc;have hinL:=(HLo.out ⟨ek,ei⟩).2 hin;simp only [hinL,decide_true] at hlk;unfold kidV at hlk;try simp only at hlk
      rw [hWc,hW1] at HR2 HB2;rw [hW1] at hlk;clear k1 row1 e1 htk hx hWc hW1 b1 bc hbc hll s1;go_wp2;go_roundw
      case rel=>exact ⟨k+1,va,vc,nk,by omega,by simp,rfl,HNK2,HR2,HB2⟩
      case measure=>simp [intOf];omega
     ·have e1:lessK o (l.take (k+1))=lessK o (l.take k)++[⟨ek,ei⟩]:=by rw [htk,lessK_snoc,lessK_out hin]
      obtain ⟨v2,w2,RA,r2,o2⟩:=app_Ki row1 (by omega) ⟨ek,ei⟩;obtain ⟨a2,c2,hv2,_⟩:=r2.form;have hb2:Below W2.heap.size W2 w2:=Below.onl hbc o2 (fun i q=>q) (Nat.le_refl _);have HR2:Hid (Row (fun g=>W2.heap.size<=g) w2 128 2 v2 (lessK o (l.take (k+1))).length (Zn (lessK o (l.take (k+1))))):=Za (by rw [e1];exact r2.mono (fun g hg=>hg.elim (fun z=>z) (fun z=>by have:=HBs.out.size;omega)));subst hv2;have HNK2:Hid (nk+1=(lessK o (l.take (k+1))).length):=Za (by rw [e1,List.length_append,HNK.out];rfl);rw [show (lessK o (l.take k)++[(⟨ek,ei⟩:Ki)]).length=nk+1 by rw [List.length_append,HNK.out];rfl] at RA HR2;obtain ⟨z1,z2,z3⟩:=Ze RA;have HB2:=Za hb2;have y0:=k1.cell 0;have y1:=k1.cell 1;simp only [List.getElem?_cons_zero,List.getElem?_cons_succ] at y0 y1;have hinL:¬ (⟨ek,ei⟩:Ki) ∈ L:=fun q=>hin ((HLo.out _).1 q)
      simp only [hinL,decide_false] at hlk;unfold kidV at hlk;try simp only at hlk
      rw [s1] at z1 z2 z3;rw [hW1] at hlk;rw [hWc,hW1] at y0 y1 z1 z2 z3;clear k1 row1 e1 htk hx hWc hW1 b1 bc hbc hll s1 r2 o2 hb2 RA;go_wp2;go_roundw
      case rel=>exact ⟨k+1,a2,c2,nk+1,by omega,by simp,rfl,HNK2,HR2,HB2⟩
      case measure=>simp [intOf];omega
    ·obtain rfl:k=n:=by omega
     have hrow:=HRW.out;rw [List.take_of_length_le (by have:=HN.out;omega),HNK.out,List.take_of_length_le (by have:=HN.out;omega)] at hrow
     have HF:Hid (WoP o l w (.returned (.slice va nk vc)) wr):=by
      obtain ⟨a2,c2,hv,r1,r2,r3,r4⟩:=rd_kcells hrow;injection hv with e1 e2 e3
      subst e1 e3;refine Za ⟨va,vc,?_,r1,r2,r3,r4,HB.out.trans (HBs.out.mono HB.out.size)⟩;rw [HNK.out,List.take_of_length_le (by have:=HN.out;omega)]
     clear hrow HRW;go_wp2;go_ret
     exact HF.out
def ZQ (ls:List (Nat × List En)):List En:=ls.flatMap Prod.snd
theorem entP_snoc (ls:List (Nat × List En)) (p:Nat × List En):ZQ (ls++[p])=ZQ ls++p.2:=by simp [ZQ]
theorem entP_take (ls:List (Nat × List En)) (k:Nat):(ZQ (ls.take k)).length<=(ZQ ls).length:=by
 have h:ZQ ls=ZQ (ls.take k)++ZQ (ls.drop k):=by unfold ZQ;rw [<- List.flatMap_append,List.take_append_drop]
 rw [h,List.length_append];omega
def EnsP (es:List En) (w:World) (e:Ending) (w':World):Prop:=∃ a c,e=.returned (.tuple #[.slice a es.length c,.int .i64 0])/\RdEn w' a es/\es.length<=c/\c<=maxLen/\Below w.heap.size w w'
theorem entries_any {w W:World} {s m:Nat} {O:Nat->Prop} {T:List (List Int)} (h:TSw w W s O T m) (hT:T.length<=16000) (hx:TxOk T) (ls:List (Nat × List En)) (a:Option Addr) (c:Nat) (hr:RdKi W a (Zq ls)) (hld:∀ p ∈ ls,loadT T p.1=(⟨0,p.2,[]⟩,0)/\p.1 < 18446744073709551616/\0 < p.2.length) (hl:ls.length<=1000) (hsz:(ZQ ls).length<=1000) :
  Calls Tryz.prog 70 #[.pointer (some ⟨s,0,none⟩),.slice a ls.length c] W (EnsP (ZQ ls) W):=by
 obtain ⟨n,hn⟩:∃ n,n=ls.length:=⟨_,rfl⟩
 have HL:=Za (fun (V:World) (b:Below W.heap.size W V) (p:Nat × List En) (hp:p ∈ ls)=>(show Calls Tryz.prog 111 #[.pointer (some ⟨s,0,none⟩),.int .u64 p.1] V (NoP V ⟨0,p.2,[]⟩ 0) by
  have:=tLoad_any (h.below b) hT hx p.1 (hld p hp).2.1;rw [(hld p hp).1] at this;exact this))
 have HP:=Za (fun p hp=>(hld p hp).2.2);have HN:=Za hn;have HR:=Za hr;have HSZ:=Za hsz;rw [<- hn] at hl ⊢;clear h hT hx hld hr hn hsz;go_enter Tryz.func70,Tryz.ntmps70
 go_wp2;go_loopw [6,13] (fun v i wr=>∃ (k:Nat) (va:Option Addr) (vc nk:Nat),k<=n/\i=.int .i64 k/\v=.slice va nk vc/\Hid (nk=(ZQ (ls.take k)).length)/\Hid (Row (fun g=>W.heap.size<=g) wr 43 2 (.slice va nk vc) (ZQ (ls.take k)).length (Zf cEn (ZQ (ls.take k))))/\Hid (Below W.heap.size W wr)) (fun _ i _=>n - (intOf i).toNat)
 case atStart=>exact ⟨0,none,0,0,Nat.zero_le _,rfl,rfl,Za rfl,Za (Row.nil _ _ _ _),Za (Below.refl _ _)⟩
 case round =>
  obtain ⟨k,va,vc,nk,hk,rfl,rfl,HNK,HRW,HB⟩:=hrel;by_cases hkn:k < n
  ·obtain ⟨⟨id,es⟩,hx⟩:∃ x,ls[k]?=some x:=⟨ls[k]'(by have:=HN.out;omega),List.getElem?_eq_getElem _⟩;have hkx:(Zq ls)[k]?=some (kidOf (id,es)):=by unfold Zq;rw [List.getElem?_map,hx];rfl
   obtain ⟨g,of,rfl,p1,p2⟩:=(HR.out.below HB.out) k _ hkx;simp only [kidOf] at p1 p2;have hmem:=List.mem_of_getElem? hx;have hpos:=HP.out _ hmem;have htk:ZQ (ls.take (k+1))=ZQ (ls.take k)++es:=by rw [List.take_add_one,hx];exact entP_snoc _ _
   have htl:=entP_take ls (k+1);have hsz:=HSZ.out;rw [htk,List.length_append] at htl;obtain ⟨ky,hky⟩:∃ ky,ky=ZC ⟨0,es,[]⟩:=⟨_,rfl⟩;rw [<- hky] at p1;obtain ⟨W1,hW1⟩:∃ W1,W1=wr.alloc (.cells #[.string ky,.int .u64 (id:Int)] 128):=⟨_,rfl⟩;have b1:Below wr.heap.size wr W1:=by rw [hW1];exact (Below.refl _ wr).alloc (Nat.le_refl _) _
   have s1:W1.heap.size=wr.heap.size+1:=by rw [hW1];simp
   have k1:Ob W1 wr.heap.size 128 [.string ky,.int .u64 (id:Int)]:=by rw [hW1];exact Ob.new wr [.string ky,.int .u64 (id:Int)] 128
   have hB1:Below W.heap.size W W1:=HB.out.trans (b1.mono HB.out.size);have HC:=Za (HL.out W1 hB1 (id,es) hmem);have y0:=k1.cell 0;have y1:=k1.cell 1;simp only [List.getElem?_cons_zero,List.getElem?_cons_succ] at y0 y1;have HB1:=Za hB1;have HR1:=Za (HRW.out.onl (F:=fun _=>False) (Onl.ofBelow b1) (fun _ _ q=>q));have HS1:=Za s1;have HTK:=Za htk;have HTL:=Za htl;have HPS:=Za hpos;simp only at HC HPS;rw [hW1] at y0 y1;have hws:=HB.out.size;have HWS:=Za hws;clear hkx hx hmem hpos htk htl hsz hky b1 s1 k1 hB1 HRW HB hws;go_wp2_with fail
   rw [<- hW1];clear hW1;refine HC.out.mono ?_;rintro e w3 ⟨x,hxn,ok,_,rfl,b3⟩;obtain ⟨⟨lv,es',ks⟩,ea,ec,ka,kc⟩:=x;simp only [NdA.cells] at hxn ⊢;injection hxn with e1 e2 e3
   subst e1 e2 e3;have h0:=HPS.out
   obtain ⟨y,rfl⟩:∃ y,ea=some y:=by
    cases ea with
    | none=>have:=ok.en rfl;have:=ok.el;simp only at *;omega
    | some y=>exact ⟨y,rfl⟩
   have row3:=HR1.out.onl (F:=fun _=>False) (Onl.ofBelow b3) (fun _ _ q=>q);obtain ⟨ne,hne⟩:∃ ne,ne=es'.length:=⟨_,rfl⟩;obtain ⟨W4,hW4⟩:∃ W4,W4=w3.alloc (.cells #[.int .i64 0,.slice (some y) ne ec,.slice ka 0 kc] 90):=⟨_,rfl⟩;have b4:Below w3.heap.size w3 W4:=by rw [hW4];exact (Below.refl _ w3).alloc (Nat.le_refl _) _
   have k4:Ob W4 w3.heap.size 90 [.int .i64 0,.slice (some y) ne ec,.slice ka 0 kc]:=by rw [hW4];exact Ob.new w3 [.int .i64 0,.slice (some y) ne ec,.slice ka 0 kc] 90
   have row4:=row3.onl (F:=fun _=>False) (Onl.ofBelow b4) (fun _ _ q=>q);have hs1:=HS1.out;have hws:=HWS.out;have hs3:=b3.size;have bel4:Below W.heap.size W W4:=(HB1.out.trans (b3.mono (by omega))).trans (b4.mono (by omega));have rd4:RdG cEn 2 W4 (some y) es':=RdG.en.2 (ok.es.below b4);obtain ⟨v5,w5,RR,r5,o5,ow5⟩:=app_en (cp:=ec) row4 (by have:=HTL.out;have:=HSZ.out;omega) rd4;have htk:=HTK.out;obtain ⟨a5,c5,hv5,_⟩:=r5.form;subst hv5;have hb5:Below W.heap.size W w5:=Below.onl bel4 o5 (fun i q=>row4.2 i q) (Nat.le_refl _)
   have HR5:Hid (Row (fun g=>W.heap.size<=g) w5 43 2 (.slice a5 (ZQ (ls.take (k+1))).length c5) (ZQ (ls.take (k+1))).length (Zf cEn (ZQ (ls.take (k+1))))):=Za (by
    rw [htk];exact r5.mono (fun g hg=>hg.elim (fun z=>z) (fun z=>by have:=b4.size;omega)))
   rw [<- htk] at RR;obtain ⟨ln,hln⟩:∃ ln,ln=(ZQ (ls.take (k+1))).length:=⟨_,rfl⟩;rw [<- hln] at RR HR5;rw [<- hne] at RR;have HLN:=Za hln;have HB5:=Za hb5;rw [hW4] at RR;obtain ⟨z1,z2,z3⟩:=Ze RR;have c0:=k4.cell 0;have c1:=k4.cell 1;simp only [List.getElem?_cons_zero,List.getElem?_cons_succ] at c0 c1;rw [hW4] at c0 c1;rw [<- hne];simp only [List.length_nil];clear row3 hW4 b4 k4 row4 hs1 hws hs3 bel4 rd4 RR r5 o5 ow5 htk hb5 ok b3 hne hln h0 HTL HTK HPS HR1;go_wp2;go_roundw
   case rel=>exact ⟨k+1,a5,c5,ln,by omega,by simp,rfl,HLN,(by have q:=HR5;have e:=HLN.out;rw [<- e];exact q),HB5⟩
   case measure=>simp [intOf];omega
  ·obtain rfl:k=n:=by omega
   have hrow:=HRW.out;rw [List.take_of_length_le (by have:=HN.out;omega),HNK.out,List.take_of_length_le (by have:=HN.out;omega)] at hrow
   have HF:Hid (EnsP (ZQ ls) W (.returned (.tuple #[.slice va nk vc,.int .i64 0])) wr):=by
    obtain ⟨a2,c2,hv,r1,r2,r3,_⟩:=rd_ecells hrow;injection hv with e1 e2 e3
    subst e1 e3;refine Za ⟨va,vc,?_,r1,r2,r3,HB.out⟩;rw [HNK.out,List.take_of_length_le (by have:=HN.out;omega)]
   clear hrow HRW;go_wp2;refine bodyPost_ret (by simp [results,Tryz.results70,go_sem];rfl) rfl ?_;exact HF.out
end
end Go.Proofs.YtdhebpnkfookcaaGreat
