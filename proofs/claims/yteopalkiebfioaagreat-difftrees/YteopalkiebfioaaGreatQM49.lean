import Derived.Test.YteopalkiebfioaaGreatQM48
set_option maxRecDepth 100000
set_option maxHeartbeats 4000000
namespace Go.Proofs.YteopalkiebfioaaGreat
open Go.RowKit Apo
section
open Go.Maps (Keyed)
theorem laidOutT:laidOutB Tryz.prog=true:=by kernel_rfl
theorem kid_size:∃ m,Tryz.prog.types.size=m+1:=⟨Tryz.prog.types.size - 1,by
 have:1<=Tryz.prog.types.size:=of_decide_eq_true (by kernel_rfl)
 omega⟩
theorem kid_lit (f:Ki) (h:OkK f):keyOf Tryz.prog 41 (kidV f)=some (kK f):=by
 obtain ⟨m,hm⟩:=kid_size;have h9:=Tryz.underlying9;have h6:=Tryz.underlying29;have hk:=Tryz.underlying41;have hkt:Tryz.prog.keyType 41=true:=by kernel_rfl
 have c9:Tryz.prog.cellsOf 9=1:=by kernel_rfl
 have c6:Tryz.prog.cellsOf 29=1:=by kernel_rfl
 have ck:Tryz.prog.cellsOf 41=2:=by kernel_rfl
 have hw:(Lit.int .u64 (f.i:Int)).wf=true:=wf64 h.2;have hfo:(kidV f).formed Tryz.prog 41=true:=by simp [kidV,Value.formed,hk,ck]
 have hl:Tryz.prog.keyLits (Tryz.prog.types.size+1) 41 (kidV f).cells.toList=some [.string f.k.data.toList,.int .u64 (f.i:Int)]:=by
  rw [hm];simp [Program.keyLits,hk,h9,h6,kidV,Value.cells,c9,c6,ck,h.1,hw]
 unfold keyOf;rw [hk];simp only;rw [if_pos (by rw [hkt,hfo];rfl),hl]
 rfl
theorem kidKeys:KidKeys Tryz.prog 41 where
 keyed:=Keyed.of_law (deep_law_laid laidOutT (m:=3) (by omega) (of_decide_eq_true (by kernel_rfl)) (by kernel_rfl) (by kernel_rfl))
 lit:=kid_lit
end
section
attribute [local go_sem ↓] Apo.app_exec
open Classical in
noncomputable def lessK (o l:List Ki):List Ki:=l.filter (fun k=>decide (k ∉ o))
theorem lessK_snoc (o l:List Ki) (k:Ki):lessK o (l++[k])=lessK o l++(lessK o [k]):=by unfold lessK;rw [List.filter_append]
theorem lessK_in {o:List Ki} {k:Ki} (h:k ∈ o):lessK o [k]=[]:=by unfold lessK;simp [h]
theorem lessK_out {o:List Ki} {k:Ki} (h:¬ k ∈ o):lessK o [k]=[k]:=by unfold lessK;simp [h]
theorem lessK_len (o l:List Ki):(lessK o l).length<=l.length:=List.length_filter_le _ _
def WoP (o l:List Ki) (w:World) (e:Ending) (w':World):Prop:=∃ a c,e=.returned (.slice a (lessK o l).length c)/\RdKi w' a (lessK o l)/\(lessK o l).length<=c/\c<=maxLen/\(a=none->c=0)/\Below w.heap.size w w'
theorem without_any (w:World) (a b:Option Addr) (ca cb:Nat) (l o:List Ki) (ha:RdKi w a l) (hb:RdKi w b o) (hla:l.length<=400000) (hlb:o.length<=400000) (hka:∀ f ∈ l,OkK f) (hkb:∀ f ∈ o,OkK f) :
  Calls Tryz.prog 29 #[.slice a l.length ca,.slice b o.length cb] w (WoP o l w):=by
 obtain ⟨n,hn⟩:∃ n,n=l.length:=⟨_,rfl⟩;obtain ⟨m,hm⟩:∃ m,m=o.length:=⟨_,rfl⟩;have hmm:=@run_makeMap Tryz.prog;obtain ⟨W0,hW0⟩:∃ W0,W0=w.alloc (.map #[] 0):=⟨_,rfl⟩;have m0:Mk Tryz.prog 41 W0 w.heap.size 0 [] (.agg #[]):=by rw [hW0];exact Mk.made w Tryz.prog _ _
 have b0:Below w.heap.size w W0:=by rw [hW0];exact (Below.refl _ w).alloc (Nat.le_refl _) _
 have HN:=Za hn;have HM:=Za hm;have HA:=Za ha;have HBO:=Za hb;have HKA:=Za hka;have HKB:=Za hkb;have HM0:=Za m0;have HB0:=Za b0;rw [<- hn] at hla ⊢;rw [<- hm] at hlb ⊢;clear ha hb hn hm hka hkb m0 b0;go_enter Tryz.func29,Tryz.ntmps29
 go_wp2;rw [<- hW0];clear hW0;go_loopw [16] (fun i wr=>∃ (j:Nat) (L:List Ki),j<=m/\i=.int .i64 j/\Hid (∀ f,f ∈ L↔f ∈ o.take j)/\Hid (Mk Tryz.prog 41 wr w.heap.size j L (.agg #[]))/\Hid (Below w.heap.size w wr)) (fun i _=>m - (intOf i).toNat)
 case atStart=>exact ⟨0,[],Nat.zero_le _,rfl,Za (by simp),HM0,HB0⟩
 case round =>
  obtain ⟨j,L,hj,rfl,HL,HMk,HB⟩:=hrel;by_cases hjn:j < m
  ·obtain ⟨⟨ek,ei⟩,hx⟩:∃ x,o[j]?=some x:=⟨o[j]'(by have:=HM.out;omega),List.getElem?_eq_getElem _⟩
   obtain ⟨g,of,rfl,p1,p2⟩:=HBO.out j _ hx;simp only at p1 p2;have p1':=(HB.out.cell (p:=⟨g,of+j * 2,none⟩) (World.block_lt_of_cell? _ _ p1)).trans p1;have p2':=(HB.out.cell (p:=⟨g,of+j * 2+1,none⟩) (World.block_lt_of_cell? _ _ p2)).trans p2;obtain ⟨W1,hW1⟩:∃ W1,W1=wr.alloc (.cells #[.string ek,.int .u64 (ei:Int)] 41):=⟨_,rfl⟩;have b1:Below wr.heap.size wr W1:=by rw [hW1];exact (Below.refl _ wr).alloc (Nat.le_refl _) _
   obtain ⟨w2,R,m2,t2⟩:=(HMk.out.below b1).store (t:=137) kidKeys (by rfl) (by omega) (HKB.out _ (List.mem_of_getElem? hx))
   have htk:o.take (j+1)=o.take j++[⟨ek,ei⟩]:=by rw [List.take_add_one,hx];rfl
   have HL2:Hid (∀ f,f ∈ (⟨ek,ei⟩:Ki) :: L↔f ∈ o.take (j+1)):=Za (fun f=>by rw [htk,List.mem_append,List.mem_cons,HL.out f,List.mem_singleton];exact Or.comm)
   have hB2:Below w.heap.size w w2:=Below.onl (HB.out.trans (b1.mono HB.out.size)) (turned_onl t2) (fun i hi=>by rw [hi];exact Nat.le_refl _) (Nat.le_refl _)
   have HM2:=Za m2;have HB2:=Za hB2;rw [hW1] at R;unfold kidV at R;simp only at R;clear m2 t2 hB2 hx htk hW1 b1 p1 p2;go_wp2;go_roundw
   case rel=>exact ⟨j+1,_,by omega,by simp,HL2,HM2,HB2⟩
   case measure=>simp [intOf];omega
  ·obtain rfl:j=m:=by omega
   obtain ⟨W2,hW2⟩:∃ x,x=wr:=⟨wr,rfl⟩;subst hW2;have HLo:Hid (∀ f,f ∈ L↔f ∈ o):=Za (fun f=>by have:=HL.out f;rwa [List.take_of_length_le (by have:=HM.out;omega)] at this)
   have HAr:=Za (HA.out.below HB.out);clear HL HA HBO;go_wp2;go_loopw [8,26] (fun v i wr=>∃ (k:Nat) (va:Option Addr) (vc nk:Nat),k<=n/\i=.int .i64 k/\v=.slice va nk vc/\Hid (nk=(lessK o (l.take k)).length)/\Hid (Row (fun g=>W2.heap.size<=g) wr 41 2 (.slice va nk vc) (lessK o (l.take k)).length (Zn (lessK o (l.take k))))/\Hid (Below W2.heap.size W2 wr)) (fun _ i _=>n - (intOf i).toNat)
   case atStart=>exact ⟨0,none,0,0,Nat.zero_le _,rfl,rfl,Za rfl,Za (Row.nil _ _ _ _),Za (Below.refl _ _)⟩
   case round =>
    obtain ⟨k,va,vc,nk,hk,rfl,rfl,HNK,HRW,HBs⟩:=hrel;by_cases hkn:k < n
    ·obtain ⟨⟨ek,ei⟩,hx⟩:∃ x,l[k]?=some x:=⟨l[k]'(by have:=HN.out;omega),List.getElem?_eq_getElem _⟩
     obtain ⟨g,of,rfl,p1,p2⟩:=(HAr.out.below HBs.out) k _ hx;simp only at p1 p2;have hok:=HKA.out _ (List.mem_of_getElem? hx);have htk:l.take (k+1)=l.take k++[⟨ek,ei⟩]:=by rw [List.take_add_one,hx];rfl
     obtain ⟨W1,hW1⟩:∃ W1,W1=wr.alloc (.cells #[.string ek,.int .u64 (ei:Int)] 41):=⟨_,rfl⟩;have b1:Below wr.heap.size wr W1:=by rw [hW1];exact (Below.refl _ wr).alloc (Nat.le_refl _) _
     have hlk:=((HMk.out.below HBs.out).below b1).look2 (t:=137) kidKeys (by rfl) zero_unit hok
     obtain ⟨Wc,hWc⟩:∃ Wc,Wc=W1.alloc (.cells #[] 138):=⟨_,rfl⟩;have bc:Below W1.heap.size W1 Wc:=by rw [hWc];exact (Below.refl _ W1).alloc (Nat.le_refl _) _
     have k1:Ob Wc wr.heap.size 41 [.string ek,.int .u64 (ei:Int)]:=by rw [hWc,hW1];exact (Ob.new wr [.string ek,.int .u64 (ei:Int)] 41).alloc _
     have row1:=(HRW.out.onl (F:=fun _=>False) (Onl.ofBelow b1) (fun _ _ q=>q)).onl (F:=fun _=>False) (Onl.ofBelow bc) (fun _ _ q=>q)
     have hll:=lessK_len o (l.take k);have htl:(l.take k).length<=n:=by have:=HN.out;simp;omega
     have s1:Wc.heap.size=wr.heap.size+2:=by rw [hWc,hW1];simp
     have hbc:Below W2.heap.size W2 Wc:=(HBs.out.trans (b1.mono HBs.out.size)).trans (bc.mono (by rw [hW1];have:=HBs.out.size;simp;omega))
     by_cases hin:(⟨ek,ei⟩:Ki) ∈ o
     ·have e1:lessK o (l.take (k+1))=lessK o (l.take k):=by rw [htk,lessK_snoc,lessK_in hin,List.append_nil]
      have HNK2:Hid (nk=(lessK o (l.take (k+1))).length):=Za (by rw [e1];exact HNK.out)
      have HR2:Hid (Row (fun g=>W2.heap.size<=g) Wc 41 2 (.slice va nk vc) (lessK o (l.take (k+1))).length (Zn (lessK o (l.take (k+1))))):=Za (by rw [e1];exact row1)
      have HB2:Hid (Below W2.heap.size W2 Wc):=Za hbc;have hinL:=(HLo.out ⟨ek,ei⟩).2 hin;simp only [hinL,decide_true] at hlk;unfold kidV at hlk;try simp only at hlk
      rw [hWc,hW1] at HR2 HB2;rw [hW1] at hlk;clear k1 row1 e1 htk hx hWc hW1 b1 bc hbc hll s1;go_wp2;go_roundw
      case rel=>exact ⟨k+1,va,vc,nk,by omega,by simp,rfl,HNK2,HR2,HB2⟩
      case measure=>simp [intOf];omega
     ·have e1:lessK o (l.take (k+1))=lessK o (l.take k)++[⟨ek,ei⟩]:=by rw [htk,lessK_snoc,lessK_out hin]
      obtain ⟨v2,w2,RA,r2,o2⟩:=app_Ki row1 (by omega) ⟨ek,ei⟩
      obtain ⟨a2,c2,hv2,_⟩:=r2.form;have hb2:Below W2.heap.size W2 w2:=Below.onl hbc o2 (fun i q=>q) (Nat.le_refl _)
      have HR2:Hid (Row (fun g=>W2.heap.size<=g) w2 41 2 v2 (lessK o (l.take (k+1))).length (Zn (lessK o (l.take (k+1))))):=Za (by rw [e1];exact r2.mono (fun g hg=>hg.elim (fun z=>z) (fun z=>by have:=HBs.out.size;omega)))
      subst hv2;have HNK2:Hid (nk+1=(lessK o (l.take (k+1))).length):=Za (by rw [e1,List.length_append,HNK.out];rfl)
      rw [show (lessK o (l.take k)++[(⟨ek,ei⟩:Ki)]).length=nk+1 by rw [List.length_append,HNK.out];rfl] at RA HR2
      obtain ⟨z1,z2,z3⟩:=Zf RA;have HB2:=Za hb2;have y0:=k1.cell 0;have y1:=k1.cell 1;simp only [List.getElem?_cons_zero,List.getElem?_cons_succ] at y0 y1
      have hinL:¬ (⟨ek,ei⟩:Ki) ∈ L:=fun q=>hin ((HLo.out _).1 q)
      simp only [hinL,decide_false] at hlk;unfold kidV at hlk;try simp only at hlk
      rw [s1] at z1 z2 z3;rw [hW1] at hlk;rw [hWc,hW1] at y0 y1 z1 z2 z3;clear k1 row1 e1 htk hx hWc hW1 b1 bc hbc hll s1 r2 o2 hb2 RA;go_wp2;go_roundw
      case rel=>exact ⟨k+1,a2,c2,nk+1,by omega,by simp,rfl,HNK2,HR2,HB2⟩
      case measure=>simp [intOf];omega
    ·obtain rfl:k=n:=by omega
     have hrow:=HRW.out;rw [List.take_of_length_le (by have:=HN.out;omega),HNK.out,List.take_of_length_le (by have:=HN.out;omega)] at hrow
     have HF:Hid (WoP o l w (.returned (.slice va nk vc)) wr):=by
      obtain ⟨a2,c2,hv,r1,r2,r3,r4⟩:=rd_kcells hrow;injection hv with e1 e2 e3
      subst e1 e3;refine Za ⟨va,vc,?_,r1,r2,r3,r4,HB.out.trans (HBs.out.mono HB.out.size)⟩;rw [HNK.out,List.take_of_length_le (by have:=HN.out;omega)]
     clear hrow HRW;go_wp2;go_ret
     exact HF.out
def ZE (ls:List (Nat × List En)):List En:=ls.flatMap Prod.snd
theorem entP_snoc (ls:List (Nat × List En)) (p:Nat × List En):ZE (ls++[p])=ZE ls++p.2:=by simp [ZE]
theorem entP_take (ls:List (Nat × List En)) (k:Nat):(ZE (ls.take k)).length<=(ZE ls).length:=by
 have h:ZE ls=ZE (ls.take k)++ZE (ls.drop k):=by unfold ZE;rw [<- List.flatMap_append,List.take_append_drop]
 rw [h,List.length_append];omega
def EnsP (es:List En) (w:World) (e:Ending) (w':World):Prop:=∃ a c,e=.returned (.tuple #[.slice a es.length c,.int .i64 0])/\RdEn w' a es/\es.length<=c/\c<=maxLen/\Below w.heap.size w w'
theorem entries_any {w W:World} {s m:Nat} {O:Nat->Prop} {T:List (List Int)} (h:TSw w W s O T m) (hT:T.length<=16000) (hx:TxOk T) (ls:List (Nat × List En)) (a:Option Addr) (c:Nat) (hr:RdKi W a (Zi ls)) (hld:∀ p ∈ ls,loadT T p.1=(⟨0,p.2,[]⟩,0)/\p.1 < 18446744073709551616/\0 < p.2.length) (hl:ls.length<=1000) (hsz:(ZE ls).length<=1000) :
  Calls Tryz.prog 30 #[.pointer (some ⟨s,0,none⟩),.slice a ls.length c] W (EnsP (ZE ls) W):=by
 obtain ⟨n,hn⟩:∃ n,n=ls.length:=⟨_,rfl⟩
 have HL:=Za (fun (V:World) (b:Below W.heap.size W V) (p:Nat × List En) (hp:p ∈ ls)=>(show Calls Tryz.prog 64 #[.pointer (some ⟨s,0,none⟩),.int .u64 p.1] V (NoP V ⟨0,p.2,[]⟩ 0) by
  have:=tLoad_any (h.below b) hT hx p.1 (hld p hp).2.1;rw [(hld p hp).1] at this;exact this))
 have HP:=Za (fun p hp=>(hld p hp).2.2)
 have HN:=Za hn;have HR:=Za hr;have HSZ:=Za hsz;rw [<- hn] at hl ⊢;clear h hT hx hld hr hn hsz;go_enter Tryz.func30,Tryz.ntmps30
 go_wp2;go_loopw [6,13] (fun v i wr=>∃ (k:Nat) (va:Option Addr) (vc nk:Nat),k<=n/\i=.int .i64 k/\v=.slice va nk vc/\Hid (nk=(ZE (ls.take k)).length)/\Hid (Row (fun g=>W.heap.size<=g) wr 47 2 (.slice va nk vc) (ZE (ls.take k)).length (Zg cEn (ZE (ls.take k))))/\Hid (Below W.heap.size W wr)) (fun _ i _=>n - (intOf i).toNat)
 case atStart=>exact ⟨0,none,0,0,Nat.zero_le _,rfl,rfl,Za rfl,Za (Row.nil _ _ _ _),Za (Below.refl _ _)⟩
 case round =>
  obtain ⟨k,va,vc,nk,hk,rfl,rfl,HNK,HRW,HB⟩:=hrel;by_cases hkn:k < n
  ·obtain ⟨⟨id,es⟩,hx⟩:∃ x,ls[k]?=some x:=⟨ls[k]'(by have:=HN.out;omega),List.getElem?_eq_getElem _⟩
   have hkx:(Zi ls)[k]?=some (kidOf (id,es)):=by unfold Zi;rw [List.getElem?_map,hx];rfl
   obtain ⟨g,of,rfl,p1,p2⟩:=(HR.out.below HB.out) k _ hkx;simp only [kidOf] at p1 p2;have hmem:=List.mem_of_getElem? hx;have hpos:=HP.out _ hmem;have htk:ZE (ls.take (k+1))=ZE (ls.take k)++es:=by rw [List.take_add_one,hx];exact entP_snoc _ _
   have htl:=entP_take ls (k+1);have hsz:=HSZ.out;rw [htk,List.length_append] at htl;obtain ⟨ky,hky⟩:∃ ky,ky=ZC ⟨0,es,[]⟩:=⟨_,rfl⟩;rw [<- hky] at p1;obtain ⟨W1,hW1⟩:∃ W1,W1=wr.alloc (.cells #[.string ky,.int .u64 (id:Int)] 41):=⟨_,rfl⟩;have b1:Below wr.heap.size wr W1:=by rw [hW1];exact (Below.refl _ wr).alloc (Nat.le_refl _) _
   have s1:W1.heap.size=wr.heap.size+1:=by rw [hW1];simp
   have k1:Ob W1 wr.heap.size 41 [.string ky,.int .u64 (id:Int)]:=by rw [hW1];exact Ob.new wr [.string ky,.int .u64 (id:Int)] 41
   have hB1:Below W.heap.size W W1:=HB.out.trans (b1.mono HB.out.size);have HC:=Za (HL.out W1 hB1 (id,es) hmem);have y0:=k1.cell 0;have y1:=k1.cell 1;simp only [List.getElem?_cons_zero,List.getElem?_cons_succ] at y0 y1
   have HB1:=Za hB1;have HR1:=Za (HRW.out.onl (F:=fun _=>False) (Onl.ofBelow b1) (fun _ _ q=>q))
   have HS1:=Za s1;have HTK:=Za htk;have HTL:=Za htl;have HPS:=Za hpos;simp only at HC HPS;rw [hW1] at y0 y1;have hws:=HB.out.size;have HWS:=Za hws;clear hkx hx hmem hpos htk htl hsz hky b1 s1 k1 hB1 HRW HB hws;go_wp2_with fail
   rw [<- hW1];clear hW1;refine HC.out.mono ?_;rintro e w3 ⟨x,hxn,ok,_,rfl,b3⟩;obtain ⟨⟨lv,es',ks⟩,ea,ec,ka,kc⟩:=x;simp only [NdA.cells] at hxn ⊢;injection hxn with e1 e2 e3
   subst e1 e2 e3;have h0:=HPS.out
   obtain ⟨y,rfl⟩:∃ y,ea=some y:=by
    cases ea with
    | none=>have:=ok.en rfl;have:=ok.el;simp only at *;omega
    | some y=>exact ⟨y,rfl⟩
   have row3:=HR1.out.onl (F:=fun _=>False) (Onl.ofBelow b3) (fun _ _ q=>q)
   obtain ⟨ne,hne⟩:∃ ne,ne=es'.length:=⟨_,rfl⟩;obtain ⟨W4,hW4⟩:∃ W4,W4=w3.alloc (.cells #[.int .i64 0,.slice (some y) ne ec,.slice ka 0 kc] 129):=⟨_,rfl⟩;have b4:Below w3.heap.size w3 W4:=by rw [hW4];exact (Below.refl _ w3).alloc (Nat.le_refl _) _
   have k4:Ob W4 w3.heap.size 129 [.int .i64 0,.slice (some y) ne ec,.slice ka 0 kc]:=by rw [hW4];exact Ob.new w3 [.int .i64 0,.slice (some y) ne ec,.slice ka 0 kc] 129
   have row4:=row3.onl (F:=fun _=>False) (Onl.ofBelow b4) (fun _ _ q=>q)
   have hs1:=HS1.out;have hws:=HWS.out;have hs3:=b3.size;have bel4:Below W.heap.size W W4:=(HB1.out.trans (b3.mono (by omega))).trans (b4.mono (by omega))
   have rd4:RdG cEn 2 W4 (some y) es':=RdG.en.2 (ok.es.below b4);obtain ⟨v5,w5,RR,r5,o5,ow5⟩:=app_en (cp:=ec) row4 (by have:=HTL.out;have:=HSZ.out;omega) rd4
   have htk:=HTK.out;obtain ⟨a5,c5,hv5,_⟩:=r5.form;subst hv5;have hb5:Below W.heap.size W w5:=Below.onl bel4 o5 (fun i q=>row4.2 i q) (Nat.le_refl _)
   have HR5:Hid (Row (fun g=>W.heap.size<=g) w5 47 2 (.slice a5 (ZE (ls.take (k+1))).length c5) (ZE (ls.take (k+1))).length (Zg cEn (ZE (ls.take (k+1))))):=Za (by
    rw [htk];exact r5.mono (fun g hg=>hg.elim (fun z=>z) (fun z=>by have:=b4.size;omega)))
   rw [<- htk] at RR;obtain ⟨ln,hln⟩:∃ ln,ln=(ZE (ls.take (k+1))).length:=⟨_,rfl⟩;rw [<- hln] at RR HR5;rw [<- hne] at RR;have HLN:=Za hln;have HB5:=Za hb5;rw [hW4] at RR;obtain ⟨z1,z2,z3⟩:=Zf RR;have c0:=k4.cell 0;have c1:=k4.cell 1;simp only [List.getElem?_cons_zero,List.getElem?_cons_succ] at c0 c1
   rw [hW4] at c0 c1;rw [<- hne];simp only [List.length_nil];clear row3 hW4 b4 k4 row4 hs1 hws hs3 bel4 rd4 RR r5 o5 ow5 htk hb5 ok b3 hne hln h0 HTL HTK HPS HR1;go_wp2;go_roundw
   case rel=>exact ⟨k+1,a5,c5,ln,by omega,by simp,rfl,HLN,(by have q:=HR5;have e:=HLN.out;rw [<- e];exact q),HB5⟩
   case measure=>simp [intOf];omega
  ·obtain rfl:k=n:=by omega
   have hrow:=HRW.out;rw [List.take_of_length_le (by have:=HN.out;omega),HNK.out,List.take_of_length_le (by have:=HN.out;omega)] at hrow
   have HF:Hid (EnsP (ZE ls) W (.returned (.tuple #[.slice va nk vc,.int .i64 0])) wr):=by
    obtain ⟨a2,c2,hv,r1,r2,r3,_⟩:=rd_ecells hrow;injection hv with e1 e2 e3
    subst e1 e3;refine Za ⟨va,vc,?_,r1,r2,r3,HB.out⟩;rw [HNK.out,List.take_of_length_le (by have:=HN.out;omega)]
   clear hrow HRW;go_wp2;refine bodyPost_ret (by simp [results,Tryz.results30,go_sem];rfl) rfl ?_
   exact HF.out
end
section
open Classical in
noncomputable def ZS (la lb:List (Nat × List En)):List (Nat × List En):=la.filter (fun p=>decide (kidOf p ∉ Zi lb))
theorem kidsOf_off (la lb:List (Nat × List En)):lessK (Zi lb) (Zi la)=Zi (ZS la lb):=by
 unfold lessK Zi ZS;rw [List.filter_map];rfl
theorem Zt (la:List (Nat × List En)):(Zi la).length=la.length:=by simp [Zi]
theorem offL_mem {la lb:List (Nat × List En)} {p:Nat × List En} (h:p ∈ ZS la lb):p ∈ la:=(List.mem_filter.1 h).1
theorem offL_len (la lb:List (Nat × List En)):(ZS la lb).length<=la.length:=List.length_filter_le _ _
theorem entP_off (la lb:List (Nat × List En)):(ZE (ZS la lb)).length<=(ZE la).length:=by
 unfold ZS ZE;induction la with
 | nil=>simp
 | cons p l ih =>
  rw [List.filter_cons];split
  ·simp only [List.flatMap_cons,List.length_append];omega
  ·simp only [List.flatMap_cons,List.length_append];omega
structure LvsT (T:List (List Int)) (root:Nat) (ls:List (Nat × List En)):Prop where
 root:RootT T root ls
 ld:∀ p ∈ ls,loadT T p.1=(⟨0,p.2,[]⟩,0)/\p.1 < 18446744073709551616/\0 < p.2.length
 kz:∀ f ∈ Zi ls,OkK f
 len:ls.length<=1000
 few:(ZE ls).length<=1000
def DTP (la lb:List (Nat × List En)) (w:World) (e:Ending) (w':World):Prop:=∃ (cs:List Ch) (va:Option Addr) (vc:Nat),e=.returned (.tuple #[.slice va cs.length vc,.int .i64 (((ZS la lb).length+(ZS lb la).length:Nat):Int),.int .i64 0])/\OfR (ZE (ZS la lb)) (ZE (ZS lb la)) cs/\Row (fun g=>w.heap.size<=g) w' 49 5 (.slice va cs.length vc) cs.length (Zg cCh cs)/\Below w.heap.size w w'
theorem trees_any {w W:World} {s m:Nat} {O:Nat->Prop} {T:List (List Int)} (h:TSw w W s O T m) (hT:T.length<=16000) (hx:TxOk T) {ra rb:Nat} {la lb:List (Nat × List En)} (ha:LvsT T ra la) (hb:LvsT T rb lb) :
  Calls Tryz.prog 10 #[.pointer (some ⟨s,0,none⟩),.int .u64 ra,.int .u64 rb] W (DTP la lb W):=by
 have HS:=Za h;have HTL:=Za hT;have HX:=Za hx;have HA:=Za ha;have HBL:=Za hb;have HL1:=Za (tleaves_any h hT hx ra la ha.root ha.len);clear h hT hx ha hb;go_enter Tryz.func10,Tryz.ntmps10
 go_wp2_with fail
 refine HL1.out.mono ?_;rintro e w1 ⟨v,rfl,row1,b1⟩;obtain ⟨a1,c1,rfl,r1,_⟩:=rd_kcells row1;have HL2:=Za (tleaves_any (HS.out.below b1) HTL.out HX.out rb lb HBL.out.root HBL.out.len);have HR1:=Za r1;have HB1:=Za b1;rw [Zt];obtain ⟨n1,hn1⟩:∃ n,n=la.length:=⟨_,rfl⟩;have HN1:=Za hn1;rw [<- hn1];clear HL1 row1 r1 b1 hn1;go_wp2_with fail
 refine HL2.out.mono ?_;rintro e w2 ⟨v,rfl,row2,b2⟩;obtain ⟨a2,c2,rfl,r2,_⟩:=rd_kcells row2;have HR1:=Za (HR1.out.below b2);have HB2:=Za (HB1.out.trans (b2.mono HB1.out.size));have HC3:=Za (without_any w2 a1 a2 c1 c2 (Zi la) (Zi lb) HR1.out r2 (by rw [Zt];have:=HA.out.len;omega) (by rw [Zt];have:=HBL.out.len;omega) HA.out.kz HBL.out.kz)
 have HR2:=Za r2;rw [Zt];obtain ⟨n2,hn2⟩:∃ n,n=lb.length:=⟨_,rfl⟩;have HN2:=Za hn2;rw [<- hn2];rw [Zt,Zt,<- HN1.out,<- hn2] at HC3;clear HL2 row2 r2 b2 hn2;go_wp2_with fail
 refine HC3.out.mono ?_;rintro e w3 ⟨a3,c3,rfl,r3,_,_,_,b3⟩;rw [kidsOf_off] at r3 ⊢;rw [Zt];have HB3:=Za (HB2.out.trans (b3.mono HB2.out.size));have HC4:=Za (without_any w3 a2 a1 c2 c1 (Zi lb) (Zi la) (HR2.out.below b3) (HR1.out.below b3) (by rw [Zt];have:=HBL.out.len;omega) (by rw [Zt];have:=HA.out.len;omega) HBL.out.kz HA.out.kz)
 have HR3:=Za r3;obtain ⟨x1,hx1⟩:∃ n,n=ZS la lb:=⟨_,rfl⟩;have HX1:=Za hx1;rw [<- hx1] at HR3 ⊢;obtain ⟨n3,hn3⟩:∃ n,n=x1.length:=⟨_,rfl⟩;have HN3:=Za hn3;rw [<- hn3];rw [Zt,Zt,<- HN1.out,<- HN2.out] at HC4;clear HC3 r3 b3 hx1 hn3;go_wp2_with fail
 refine HC4.out.mono ?_;rintro e w4 ⟨a4,c4,rfl,r4,_,_,_,b4⟩;rw [kidsOf_off] at r4 ⊢;rw [Zt];have HB4:=Za (HB3.out.trans (b4.mono HB3.out.size));obtain ⟨x2,hx2⟩:∃ n,n=ZS lb la:=⟨_,rfl⟩;have HX2:=Za hx2;rw [<- hx2] at r4 ⊢;obtain ⟨n4,hn4⟩:∃ n,n=x2.length:=⟨_,rfl⟩;have HN4:=Za hn4;have HR4:=Za r4;have HC5:=Za (entries_any (HS.out.below HB4.out) HTL.out HX.out x1 a3 c3 (HR3.out.below b4) (fun p hp=>HA.out.ld p (offL_mem (by rw [<- HX1.out];exact hp))) (by have:=HA.out.len;have:=offL_len la lb;rw [HX1.out];omega) (by have:=HA.out.few;have:=entP_off la lb;rw [HX1.out];omega))
 rw [<- hn4];rw [<- HN3.out] at HC5;clear HC4 r4 b4 hx2 hn4;go_wp2_with fail
 refine HC5.out.mono ?_;rintro e w5 ⟨a5,c5,rfl,r5,q5,m5,b5⟩;have HB5:=Za (HB4.out.trans (b5.mono HB4.out.size));have HC6:=Za (entries_any (HS.out.below HB5.out) HTL.out HX.out x2 a4 c4 (HR4.out.below b5) (fun p hp=>HBL.out.ld p (offL_mem (by rw [<- HX2.out];exact hp))) (by have:=HBL.out.len;have:=offL_len lb la;rw [HX2.out];omega) (by have:=HBL.out.few;have:=entP_off lb la;rw [HX2.out];omega))
 have HR5:=Za r5;have HQ5:=Za (And.intro q5 m5);rw [<- HN4.out] at HC6;obtain ⟨n5,hn5⟩:∃ n,n=(ZE x1).length:=⟨_,rfl⟩;have HN5:=Za hn5;rw [<- hn5];clear HC5 r5 q5 m5 b5 hn5;go_wp2_with fail
 refine HC6.out.mono ?_;rintro e w6 ⟨a6,c6,rfl,r6,q6,m6,b6⟩;have HB6:=Za (HB5.out.trans (b6.mono HB5.out.size));have HC7:=Za (dof_any w6 a5 a6 c5 c6 (ZE x1) (ZE x2) (HR5.out.below b6) r6 (by have:=HA.out.few;have:=entP_off la lb;rw [HX1.out];omega) (by have:=HBL.out.few;have:=entP_off lb la;rw [HX2.out];omega) HQ5.out.1 q6 HQ5.out.2 m6)
 rw [<- HN5.out] at HC7;obtain ⟨n6,hn6⟩:∃ n,n=(ZE x2).length:=⟨_,rfl⟩;rw [<- hn6] at HC7 ⊢;have h3:n3<=1000:=by have:=HA.out.len;have:=offL_len la lb;rw [HN3.out,HX1.out];omega
 have h4:n4<=1000:=by have:=HBL.out.len;have:=offL_len lb la;rw [HN4.out,HX2.out];omega
 clear HC6 r6 q6 m6 b6 hn6;go_wp2_with fail
 refine HC7.out.mono ?_;rintro e w7 ⟨cs,va,vc,rfl,hof,row7,b7⟩
 have HF:Hid (DTP la lb W (.returned (.tuple #[.slice va cs.length vc,.int .i64 ((n3:Int)+(n4:Int)),.int .i64 0])) w7):=by
  have e1:=HX1.out;have e2:=HX2.out;refine Za ⟨cs,va,vc,?_,by rw [<- e1,<- e2];exact hof,row7.mono (fun g hg=>by have:=HB6.out.size;omega),HB6.out.trans (b7.mono HB6.out.size)⟩
  rw [HN3.out,HN4.out,e1,e2];simp
 clear hof row7 b7;go_wp2;refine bodyPost_ret (by simp [results,Tryz.results10,go_sem];rfl) rfl ?_
 exact HF.out
theorem leaf_one:∀ {la:List (Nat × List En)},Zo (ZE la)->∀ p ∈ la,∀ q ∈ la,∀ e ∈ p.2,∀ f ∈ q.2,e.k=f.k->p=q
 | [],_,p,hp,_,_,_,_,_,_,_=>by simp at hp
 | x :: l,h,p,hp,q,hq,e,he,f,hf,hk=>by
  have h':Zo (x.2++ZE l):=h;unfold Zo at h';rw [List.pairwise_append] at h';obtain ⟨_,h2,h3⟩:=h';have ent:∀ z ∈ l,∀ y ∈ z.2,y ∈ ZE l:=fun z hz y hy=>List.mem_flatMap.2 ⟨z,hz,hy⟩
  rcases List.mem_cons.1 hp with rfl | hp'
  ·rcases List.mem_cons.1 hq with rfl | hq'
   ·rfl
   ·have:=h3 e he f (ent q hq' f hf);rw [hk,Zr] at this;cases this
  ·rcases List.mem_cons.1 hq with rfl | hq'
   ·have:=h3 f hf e (ent p hp' e he);rw [hk,Zr] at this;cases this
   ·exact leaf_one h2 p hp' q hq' e he f hf hk
theorem mem_entP {la:List (Nat × List En)} {e:En}:e ∈ ZE la↔∃ p ∈ la,e ∈ p.2:=List.mem_flatMap
theorem mem_offL {la lb:List (Nat × List En)} {p:Nat × List En}:p ∈ ZS la lb↔p ∈ la/\¬ kidOf p ∈ Zi lb:=by
 unfold ZS;rw [List.mem_filter];simp
theorem offL_rise {la lb:List (Nat × List En)} (h:Zo (ZE la)):Zo (ZE (ZS la lb)):=by
 refine List.Pairwise.sublist ?_ h;unfold ZE ZS;induction la with
 | nil=>simp
 | cons p l ih =>
  have h2:Zo (ZE l):=by
   have h':Zo (p.2++ZE l):=h;exact (List.pairwise_append.1 h').2.1
  rw [List.filter_cons];split
  ·exact List.Sublist.append (List.Sublist.refl _) (ih h2)
  ·exact (ih h2).trans (List.sublist_append_right p.2 (l.flatMap Prod.snd))
def SameT (la lb:List (Nat × List En)):Prop:=∀ p ∈ la,∀ q ∈ lb,p.1=q.1->p.2=q.2
theorem kid_mem {p:Nat × List En} {lb:List (Nat × List En)} (h:kidOf p ∈ Zi lb):∃ q ∈ lb,q.1=p.1:=by
 obtain ⟨q,hq,e⟩:=List.mem_map.1 h;exact ⟨q,hq,by have:=congrArg Ki.i e;exact this⟩
theorem gets_off {la lb:List (Nat × List En)} {key v:ByteArray} {b:Bool} (hn:∀ p ∈ la,kidOf p ∈ Zi lb->∀ e ∈ p.2,e.k≠key):Gets (ZE (ZS la lb)) key v b↔Gets (ZE la) key v b:=by
 have hm:∀ e:En,e.k=key->(e ∈ ZE (ZS la lb)↔e ∈ ZE la):=fun e hk=>by
  rw [mem_entP,mem_entP];constructor
  ·rintro ⟨p,hp,he⟩;exact ⟨p,(mem_offL.1 hp).1,he⟩
  ·rintro ⟨p,hp,he⟩;exact ⟨p,mem_offL.2 ⟨hp,fun q=>hn p hp q e he hk⟩,he⟩
 unfold Gets;constructor
 ·rintro (⟨h1,e,h2,h3,h4⟩ | ⟨h1,h2,h3⟩)
  ·exact .inl ⟨h1,e,(hm e h3).1 h2,h3,h4⟩
  ·exact .inr ⟨h1,h2,fun e he hk=>h3 e ((hm e hk).2 he) hk⟩
 ·rintro (⟨h1,e,h2,h3,h4⟩ | ⟨h1,h2,h3⟩)
  ·exact .inl ⟨h1,e,(hm e h3).2 h2,h3,h4⟩
  ·exact .inr ⟨h1,h2,fun e he hk=>h3 e ((hm e hk).1 he) hk⟩
theorem same_kid {p q:Nat × List En} (h1:p.1=q.1) (h2:p.2=q.2):p=q:=Prod.ext h1 h2
theorem isCh_off {la lb:List (Nat × List En)} (ra:Zo (ZE la)) (rb:Zo (ZE lb)) (hs:SameT la lb) (c:Ch):IsCh (ZE (ZS la lb)) (ZE (ZS lb la)) c↔IsCh (ZE la) (ZE lb) c:=by
 by_cases hc:∃ p ∈ la,kidOf p ∈ Zi lb/\∃ e ∈ p.2,e.k=c.k
 ·obtain ⟨p,hp,hk,e,he,hek⟩:=hc;obtain ⟨q,hq,hqp⟩:=kid_mem hk;have hpq:p=q:=same_kid hqp.symm (hs p hp q hq hqp.symm);subst hpq;have ka:kidOf p ∈ Zi la:=List.mem_map_of_mem hp
  have no1:∀ x ∈ ZE (ZS la lb),x.k≠c.k:=fun x hx hxk=>by
   obtain ⟨r,hr,hxr⟩:=mem_entP.1 hx;obtain ⟨r1,r2⟩:=mem_offL.1 hr;have:=leaf_one ra r r1 p hp x hxr e he (by rw [hxk,hek])
   rw [this] at r2;exact r2 hk
  have no2:∀ x ∈ ZE (ZS lb la),x.k≠c.k:=fun x hx hxk=>by
   obtain ⟨r,hr,hxr⟩:=mem_entP.1 hx;obtain ⟨r1,r2⟩:=mem_offL.1 hr;have:=leaf_one rb r r1 p hq x hxr e he (by rw [hxk,hek])
   rw [this] at r2;exact r2 ka
  constructor
  ·rintro ⟨h1,h2,h3⟩;exfalso
   rcases h1 with ⟨_,x,hx,hxk,_⟩ | ⟨h1,h1v,_⟩
   ·exact no1 x hx hxk
   ·rcases h2 with ⟨_,x,hx,hxk,_⟩ | ⟨h2,h2v,_⟩
    ·exact no2 x hx hxk
    ·exact h3 (by rw [h1,h1v,h2,h2v])
  ·rintro ⟨h1,h2,h3⟩;exfalso
   have ea:Gets (ZE la) c.k e.v true:=.inl ⟨rfl,e,mem_entP.2 ⟨p,hp,he⟩,hek,rfl⟩;have eb:Gets (ZE lb) c.k e.v true:=.inl ⟨rfl,e,mem_entP.2 ⟨p,hq,he⟩,hek,rfl⟩;obtain ⟨u1,u2⟩:=Z7 ra h1 ea;obtain ⟨u3,u4⟩:=Z7 rb h2 eb;exact h3 (by rw [u1,u2,u3,u4])
 ·have n1:∀ p ∈ la,kidOf p ∈ Zi lb->∀ e ∈ p.2,e.k≠c.k:=fun p hp hk e he q=>hc ⟨p,hp,hk,e,he,q⟩
  have n2:∀ p ∈ lb,kidOf p ∈ Zi la->∀ e ∈ p.2,e.k≠c.k:=fun p hp hk e he q=>by
   obtain ⟨r,hr,hrp⟩:=kid_mem hk;have hrq:r=p:=same_kid hrp (hs r hr p hp hrp);subst hrq;exact hc ⟨r,hr,List.mem_map_of_mem hp,e,he,q⟩
  unfold IsCh;rw [gets_off n1,gets_off n2]
theorem diff_off {la lb:List (Nat × List En)} {cs:List Ch} (ra:Zo (ZE la)) (rb:Zo (ZE lb)) (hs:SameT la lb) (h:DiffC (ZE (ZS la lb)) (ZE (ZS lb la)) cs):DiffC (ZE la) (ZE lb) cs :=
 ⟨h.1,fun c=>(h.2 c).trans (isCh_off ra rb hs c)⟩
theorem NearR.symm {α:Type} {key:α->ByteArray} {L L':List α} (h:NearR key L L'):NearR key L' L:=by
 obtain ⟨P,M,M',S,h1,h2,h3,h4,h5⟩:=h;refine ⟨P,M',M,S,h2,h1,h4,h3,?_⟩;rcases h5 with q | ⟨x,y,q1,q2,q3⟩
 ·exact .inl q
 ·exact .inr ⟨y,x,q2,q1,q3.symm⟩
theorem ChN.count' {l:Nat} (q:Tre->Bool):∀ {n:Nat} {a b:List En},ChN n a b->(ctL a l).countP q<=(ctL b l).countP q+2 * n
 | 0,_,_,h=>by have:_=_:=h;rw [this];omega
 | n+1,a,b,⟨c,h1,h2,_⟩=>by
  have i1:=ChN.count' (l:=l) q h1;have i2:=(near_lv h2 l).symm.count q;omega
structure LvsC (T:List (List Int)) (es:List En) (ls:List (Nat × List En)):Prop where
 rows:ls.map Prod.snd=Ze (fun e:En=>Zk 0 e.k) es
 tx:∀ p ∈ ls,T[p.1 - 1]?=some (Z4 ⟨0,p.2,[]⟩)/\1<=p.1/\p.1<=T.length
 good:∀ p ∈ ls,GoodN ⟨0,p.2,[]⟩
theorem LvsC.ent {T:List (List Int)} {es:List En} {ls:List (Nat × List En)} (h:LvsC T es ls):ZE ls=es:=split_entT h.rows
theorem LvsC.of {T:List (List Int)} {es:List En} {id:Nat} (hok:MapOk es) (hel:es.length<=100) (hT:T.length<=16000) (h:RootOf T es id):∃ ls,LvsT T id ls/\LvsC T es ls:=by
 obtain ⟨ls,q1,q2,q3⟩:=h.tree2 hok hel hT;obtain ⟨g1,_⟩:=hok.leaves (by omega) (hok.bytes (by omega))
 have hg:∀ p ∈ ls,GoodN ⟨0,p.2,[]⟩:=fun p hp=>g1 _ (by
  rw [<- q2];unfold lvns;rw [List.map_map];exact List.mem_map.2 ⟨p,hp,rfl⟩)
 have hc:LvsC T es ls:=⟨q2,q3,hg⟩;have hn:∀ p ∈ ls,TNod T p.1 ⟨0,p.2,[]⟩:=fun p hp=>(hg p hp).nod (q3 p hp).2.1 (q3 p hp).1 hT (fun k hk=>by simp at hk)
 have q5:∀ p ∈ ls,0 < p.2.length:=fun p hp=>List.length_pos_iff.2 (node_leaf (hn p hp).ok rfl).1
 have q6:ls.length<=100:=by
  have h3:=rows_lenT (rows:=ls.map Prod.snd) (fun r hr=>by obtain ⟨p,q,rfl⟩:=List.mem_map.1 hr;exact q5 p q)
  rw [q2] at h3;rw [Z6,<- q2,List.length_map] at h3;omega
 refine ⟨ls,⟨q1,fun p hp=>⟨(hn p hp).ld,(hn p hp).lt,q5 p hp⟩,fun f hf=>?_,by omega,by rw [hc.ent];omega⟩,hc⟩
 obtain ⟨p,hp,rfl⟩:=List.mem_map.1 hf;refine ⟨?_,(hn p hp).lt⟩;show (ZC ⟨0,p.2,[]⟩).size<=maxLen
 rw [lastK_lf0]
 have hk:∀ e ∈ p.2,e.k.size<=maxLen:=fun e he=>by
  have:=hok.key e (by rw [<- hc.ent];exact mem_entP.2 ⟨p,hp,he⟩)
  unfold maxLen;omega
 unfold keyRow;cases hl:p.2.getLast? with
 | none=>simp [maxLen]
 | some e=>exact hk e (List.mem_of_getLast? hl)
section
variable {T:List (List Int)} {es fs:List En} {la lb:List (Nat × List En)}
theorem LvsC.same (hT:T.Nodup) (ha:LvsC T es la) (hb:LvsC T fs lb) {p q:Nat × List En} (hp:p ∈ la) (hq:q ∈ lb) (h:p.2=q.2):p=q:=by
 have h1:=ha.tx p hp;have h2:=hb.tx q hq;rw [<- h] at h2;have:=at_one hT h1.1 h2.1;exact same_kid (by omega) h
theorem LvsC.kid (hT:T.Nodup) (ha:LvsC T es la) (hb:LvsC T fs lb) (hs:SameT la lb) {p:Nat × List En} (hp:p ∈ la):kidOf p ∈ Zi lb↔Tre.lf p.2 ∈ ctL fs 0:=by
 unfold ctL;rw [<- hb.rows,List.map_map,List.mem_map];constructor
 ·intro h;obtain ⟨q,hq,e⟩:=kid_mem h;exact ⟨q,hq,by simp [hs p hp q hq e.symm]⟩
 ·rintro ⟨q,hq,e⟩;have:q.2=p.2:=by simpa using e
  rw [ha.same hT hb hp hq this.symm];exact List.mem_map_of_mem hq
open Classical in
theorem LvsC.count (hT:T.Nodup) (ha:LvsC T es la) (hb:LvsC T fs lb) (hs:SameT la lb):(ZS la lb).length=(ctL es 0).countP (fun t=>decide (¬ t ∈ ctL fs 0)):=by
 unfold ZS;rw [<- List.countP_eq_length_filter];have hct:ctL es 0=(la.map Prod.snd).map Tre.lf:=by unfold ctL;rw [ha.rows]
 rw [hct,List.map_map,List.countP_map];refine List.countP_congr fun p hp=>?_
 have:=ha.kid hT hb hs hp;simp only [decide_eq_true_eq,Function.comp];rw [this]
open Classical in
theorem off_edits (hT:T.Nodup) (ha:LvsC T es la) (hb:LvsC T fs lb) (hs:SameT la lb) (hs':SameT lb la) {n:Nat} (h:ChN n es fs):(ZS la lb).length+(ZS lb la).length<=4 * n:=by
 rw [ha.count hT hb hs,hb.count hT ha hs'];have h1:=h.count' (l:=0) (fun t=>decide (¬ t ∈ ctL fs 0))
 have h2:=h.count (l:=0) (fun t=>decide (¬ t ∈ ctL es 0))
 have z:∀ L:List Tre,L.countP (fun t=>decide (¬ t ∈ L))=0:=fun L=>List.countP_eq_zero.2 (fun t ht=>by simp [ht])
 rw [z (ctL fs 0)] at h1;rw [z (ctL es 0)] at h2;omega
theorem SameT.of {ra rb:Nat} (ha:LvsT T ra la) (hb:LvsT T rb lb):SameT la lb:=fun p hp q hq e=>by
 have h1:=(ha.ld p hp).1;have h2:=(hb.ld q hq).1;rw [e,h2] at h1;injection h1 with h1
 injection h1 with _ h1
 exact h1.symm
end
end
end Go.Proofs.YteopalkiebfioaaGreat
