import Derived.Deep.Slices
import Derived.Test.YtdhebpnkfookcaaGreatRM40
set_option maxRecDepth 100000
set_option maxHeartbeats 4000000
namespace Go.Proofs.YtdhebpnkfookcaaGreat
section
open Go.RowKit Apo
theorem rrises_any (w:World) (a:Option Addr) (c:Nat) (es:List En) (h:RdEn w a es) (hl:es.length<=1000000) :
  Calls Tryz.prog 46 #[.slice a es.length c] w (RsP es w):=by
 obtain ⟨n,hn⟩:∃ n,n=es.length:=⟨_,rfl⟩;have HN:=Za hn;have HR:=Za h;rw [<- hn] at hl ⊢;clear h hn;go_enter Tryz.func46,Tryz.ntmps46
 go_wp2;go_loopw [6] (fun v wr=>∃ i:Nat,i<=n/\v=.int .i64 i/\Hid (∀ t e f,t+1 < i->es[t]?=some e->es[t+1]?=some f->Z2 e.k f.k=true)/\Hid (Below w.heap.size w wr)) (fun v _=>n - (intOf v).toNat)
 case atStart=>exact ⟨0,Nat.zero_le _,rfl,Za (fun t e f ht=>absurd ht (by omega)),Za (Below.refl _ _)⟩
 case round =>
  obtain ⟨i,hi2,rfl,HS,HB⟩:=hrel;by_cases hin:i < n
  ·by_cases hi0:i=0
   ·subst hi0;have HS3:Hid (∀ t e f,t+1 < 0+1->es[t]?=some e->es[t+1]?=some f->Z2 e.k f.k=true):=Za (fun t e f ht=>absurd ht (by omega));clear HS;go_wp2;go_quiet (fail)
    go_wp2;go_roundw
    case rel=>exact ⟨1,by omega,by simp,HS3,Za (below_drewN HB.out _)⟩
    case measure=>simp [intOf];omega
   ·obtain ⟨i1,hi3⟩:∃ i1,i=i1+1:=⟨i - 1,by omega⟩;obtain ⟨s1,hs1⟩:∃ s,es[i1]?=some s:=⟨es[i1]'(by have:=HN.out;omega),List.getElem?_eq_getElem _⟩;obtain ⟨s2,hs2⟩:∃ s,es[i1+1]?=some s:=⟨es[i1+1]'(by have:=HN.out;omega),List.getElem?_eq_getElem _⟩;obtain ⟨g,of,rfl,q1,_⟩:=(HR.out.below HB.out) i1 s1 hs1;obtain ⟨g2,of2,hgg,q2,_⟩:=(HR.out.below HB.out) (i1+1) s2 hs2;injection hgg with hgg
    injection hgg with e1 e2 _
    subst e1 e2;have hwi:IntKind.i64.wrap ((i:Int) - 1)=(i1:Int):=by rw [IntKind.wrap_i64];omega
    have hsub:(i:Int) - 1=(i1:Int):=by omega
    have hi1n:i1 < n:=by omega
    have hd0:decide ((0:Int) < (i:Int))=true:=decide_eq_true (by omega);have hd1:decide (0 < i)=true:=decide_eq_true (by omega);have hpos:0 < i:=by omega
    rw [<- hi3] at q2;have HI3:=Za hi3;have HS12:=Za (And.intro hs1 hs2);clear hs1 hs2 hi3;cases hb1:Z2 s1.k s2.k
    ·have hbl:Op.bytesLess s1.k.toList s2.k.toList=false:=hb1
     have HX:Hid (¬ Rise (es.map En.k)):=Za (fun z=>by
      have q:=rise_getD z HS12.out.1 HS12.out.2;rw [hb1] at q;cases q)
     clear hb1;go_wp2;go_quiet (fail)
     go_wp2;go_ret
     exact ⟨false,rfl,⟨fun q=>(by cases q),fun q=>absurd q HX.out⟩,below_drewN HB.out _⟩
    ·have hbl:Op.bytesLess s1.k.toList s2.k.toList=true:=hb1
     have HS3:Hid (∀ t e f,t+1 < i+1->es[t]?=some e->es[t+1]?=some f->Z2 e.k f.k=true):=by
      refine Za (fun t e f ht h1 h2=>?_);by_cases z:t+1 < i
      ·exact HS.out t e f z h1 h2
      ·obtain rfl:t=i1:=by have:=HI3.out;omega
       rw [HS12.out.1] at h1;rw [HS12.out.2] at h2;cases h1
       cases h2
       exact hb1
     clear hb1 HS;go_wp2;go_quiet (fail)
     go_wp2;go_roundw
     case rel=>exact ⟨i+1,by omega,by simp,HS3,Za (below_drewN HB.out _)⟩
     case measure=>simp [intOf];omega
  ·have HF:Hid (Rise (es.map En.k)):=Za (rise_all (fun t e f h1 h2=>HS.out t e f (by have:=(List.getElem?_eq_some_iff.1 h2).1;have:=HN.out;omega) h1 h2));clear HS;go_wp2;go_ret
   exact ⟨true,rfl,⟨fun _=>HF.out,fun _=>rfl⟩,HB.out⟩
def RrP (es:List En) (w:World) (e:Ending) (w':World):Prop:=e=.returned (.int .i64 (Z1 es))/\Below w.heap.size w w'
theorem rright_any (W:World) (ea:Option Addr) (ec:Nat) (es:List En) (hr:RdEn W ea es) (hel:es.length<=1000000) (hsz:∀ e ∈ es,e.k.size<=maxLen/\e.v.size<=maxLen) :
  Calls Tryz.prog 27 #[.slice ea es.length ec] W (RrP es W):=by
 have C2:∀ W',Below W.heap.size W W'->Calls Tryz.prog 46 #[.slice ea es.length ec] W' (RsP es W'):=fun W' b=>rrises_any W' ea ec es (hr.below b) hel
 obtain ⟨ne,hne⟩:∃ ne,ne=es.length:=⟨_,rfl⟩;have hmx:maxLen<=9223372036854775807:=by decide
 have HC2:=Za C2;have HNE:=Za hne;have HR:=Za hr;have HSZ:=Za hsz;rw [<- hne] at HC2 hel ⊢;clear C2 hne hr hsz;go_enter Tryz.func27,Tryz.ntmps27
 go_wp2;go_loopw [9] (fun i wr=>∃ k:Nat,k<=ne/\i=.int .i64 k/\Hid (∀ y ∈ es.take k,enE y=0)/\Hid (Below W.heap.size W wr)) (fun i _=>ne - (intOf i).toNat)
 case atStart=>exact ⟨0,Nat.zero_le _,rfl,Za (fun y hy=>by simp at hy),Za (Below.refl _ _)⟩
 case round =>
  obtain ⟨k,hk,rfl,HP,HB⟩:=hrel;by_cases hkn:k < ne
  ·obtain ⟨⟨ek,ev⟩,hx⟩:∃ x,es[k]?=some x:=⟨es[k]'(by have:=HNE.out;omega),List.getElem?_eq_getElem _⟩;obtain ⟨g,of,rfl,q1,q2⟩:=(HR.out.below HB.out) k _ hx;simp only at q1 q2;have hz:=HSZ.out _ (List.mem_of_getElem? hx);simp only at hz;obtain ⟨W1,hW1⟩:∃ W1,W1=wr.alloc (.cells #[.string ek,.string ev] 43):=⟨_,rfl⟩;have kb:Ob W1 wr.heap.size 43 [.string ek,.string ev]:=by rw [hW1];exact Ob.new wr [.string ek,.string ev] 43
   have b1:Below W.heap.size W W1:=by rw [hW1];exact HB.out.alloc HB.out.size _
   have y0:=kb.cell 0;have y1:=kb.cell 1;simp only [List.getElem?_cons_zero,List.getElem?_cons_succ] at y0 y1;have CK:=rkey_any ek W1 (by omega);have CV:=rval_any ev W1 (by omega);have HX:=Za hx;have HB1:=Za b1;have HCK:=Za CK;have HCV:=Za CV;clear hx kb b1 CK CV;by_cases hke:Z7 ek=0
   ·rw [hke] at HCK;by_cases hve:valE ev=0
    ·rw [hve] at HCV;have HN:Hid (∀ y ∈ es.take (k+1),enE y=0):=Za (take_enE HX.out HP.out (by rw [enE_val hke];exact hve));clear hke hve HP;go_wp2_with fail
     rw [<- hW1];clear hW1;refine HCK.out.mono ?_;rintro e w2 ⟨rfl,rfl⟩;go_wp2_with fail
     refine HCV.out.mono ?_;rintro e w2 ⟨rfl,rfl⟩;go_wp2;go_roundw
     case rel=>exact ⟨k+1,by omega,by simp,HN,HB1⟩
     case measure=>simp [intOf];omega
    ·have HF:Hid (RrP es W (.returned (.int .i64 (valE ev))) W1):=by
      have hq:Z1 es=valE ev:=by rw [rightE_at HX.out HP.out (by rw [enE_val hke];exact hve),enE_val hke]
      exact Za ⟨by rw [hq],HB1.out⟩
     obtain ⟨er,her⟩:∃ er,er=valE ev:=⟨_,rfl⟩;rw [<- her] at HCV HF hve;have hb:(er != 0)=true:=by simpa using hve
     clear hke hve HP her;go_wp2_with fail
     rw [<- hW1];clear hW1;refine HCK.out.mono ?_;rintro e w2 ⟨rfl,rfl⟩;go_wp2_with fail
     refine HCV.out.mono ?_;rintro e w2 ⟨rfl,rfl⟩;go_wp2;go_ret
     exact HF.out
   ·have HF:Hid (RrP es W (.returned (.int .i64 (Z7 ek))) W1):=by
     have hq:Z1 es=Z7 ek:=by rw [rightE_at HX.out HP.out (by rw [enE_key hke];exact hke),enE_key hke]
     exact Za ⟨by rw [hq],HB1.out⟩
    obtain ⟨er,her⟩:∃ er,er=Z7 ek:=⟨_,rfl⟩;rw [<- her] at HCK HF hke;have hb:(er != 0)=true:=by simpa using hke
    clear hke HP her;go_wp2_with fail
    rw [<- hW1];clear hW1;refine HCK.out.mono ?_;rintro e w2 ⟨rfl,rfl⟩;go_wp2;go_ret
    exact HF.out
  ·have hf0:ZK enE es=0:=firstE_none (fun y hy=>HP.out y (by rw [List.take_of_length_le (by have:=HNE.out;omega)];exact hy));have CR:=HC2.out wr HB.out;have HF0:=Za hf0;have HCR:=Za CR;clear hf0 CR HP;go_wp2_with fail
   refine HCR.out.mono ?_;rintro e w2 ⟨b,rfl,hb,b2⟩;have HBW:=Za (HB.out.trans (b2.mono HB.out.size));cases b with
   | false =>
    have HF:Hid (RrP es W (.returned (.int .i64 90)) w2):=by
     have hq:Z1 es=90:=by
      unfold Z1;rw [if_neg (by rw [HF0.out];simp),if_neg (fun q=>by have:=hb.2 q;cases this)]
     exact Za ⟨by rw [hq],HBW.out⟩
    clear hb b2;go_wp2;go_ret
    exact HF.out
   | true =>
    have HF:Hid (RrP es W (.returned (.int .i64 0)) w2):=by
     have hq:Z1 es=0:=by
      unfold Z1;rw [if_neg (by rw [HF0.out];simp),if_pos (hb.1 rfl)]
     exact Za ⟨by rw [hq],HBW.out⟩
    clear hb b2;go_wp2;go_ret
    exact HF.out
def RgP (es:List En) (key:ByteArray) (w:World) (e:Ending) (w':World):Prop:=∃ (v:ByteArray) (b:Bool),e=.returned (.agg #[.bool b,.string v])/\Gets es key v b/\Below w.heap.size w w'
theorem size_side:(Tryz.prog.info? 35).map (·.size)=some 2:=by kernel_rfl
theorem fin_rget {W:World} {g:Nat} {c0 c1:Value} {tmps:Array Value} {Q:Ending->World->Prop} (k:Ob W g 35 [c0,c1]) (h4:tmps.getD 4 undef=.pointer (some ⟨g,0,none⟩)) (hq:Q (.returned (.agg #[c0,c1])) W) :
  bodyPost Tryz.prog Tryz.f15 Q Exit.ret { tmps:=tmps,defers:=[] } W:=by
 have hl:=run_loadVar_row (P:=Tryz.prog) W g 35 35 #[c0,c1] (0,0) _ k Tryz.underlying35 rfl (by rw [size_side];rfl);have h4':tmps[4]?.getD undef=.pointer (some ⟨g,0,none⟩):=by simpa using h4
 refine bodyPost_ret (v:=.agg #[c0,c1]) ?_ rfl hq;simp [results,Tryz.results15,asAddr,h4',hl]
theorem rget_any (w:World) (a:Option Addr) (c:Nat) (es:List En) (key:ByteArray) (h:RdEn w a es) (hl:es.length<=1000000) :
  Calls Tryz.prog 15 #[.slice a es.length c,.string key] w (RgP es key w):=by
 obtain ⟨n,hn⟩:∃ n,n=es.length:=⟨_,rfl⟩;have HN:=Za hn;obtain ⟨W0,hW0⟩:∃ W0,W0=w.alloc (.cells #[.bool false,.string ⟨#[]⟩] 35):=⟨_,rfl⟩;have b0:Below w.heap.size w W0:=by rw [hW0];exact (Below.refl _ w).alloc (Nat.le_refl _) _
 have s0:W0.heap.size=w.heap.size+1:=by rw [hW0];simp
 have k0:Ob W0 w.heap.size 35 [.bool false,.string ⟨#[]⟩]:=by rw [hW0];exact Ob.new w [.bool false,.string ⟨#[]⟩] 35
 have HR:=Za (h.below b0);have HB0:=Za b0;have HK0:=Za k0;rw [<- hn] at hl ⊢;clear h hn b0 k0;go_enter Tryz.func15,Tryz.ntmps15
 go_wp2;rw [<- hW0];clear hW0;go_loopw [9] (fun v wr=>∃ i:Nat,i<=n/\v=.int .i64 i/\Hid (∀ e ∈ es.take i,e.k≠key)/\Hid (Below W0.heap.size W0 wr)) (fun v _=>n - (intOf v).toNat)
 case atStart=>exact ⟨0,Nat.zero_le _,rfl,Za (fun e he=>by simp at he),Za (Below.refl _ _)⟩
 case round =>
  obtain ⟨i,hi2,rfl,HS,HB⟩:=hrel;have kr:=HK0.out.old HB.out;have sr:=HB.out.size;by_cases hin:i < n
  ·obtain ⟨⟨ek,ev⟩,hx⟩:∃ x,es[i]?=some x:=⟨es[i]'(by have:=HN.out;omega),List.getElem?_eq_getElem _⟩;obtain ⟨g,of,rfl,q1,q2⟩:=(HR.out.below HB.out) i _ hx;simp only at q1 q2;obtain ⟨W1,hW1⟩:∃ W1,W1=wr.alloc (.cells #[.string ek,.string ev] 43):=⟨_,rfl⟩;have b1:Below wr.heap.size wr W1:=by rw [hW1];exact (Below.refl _ wr).alloc (Nat.le_refl _) _
   have kb:Ob W1 wr.heap.size 43 [.string ek,.string ev]:=by rw [hW1];exact Ob.new wr [.string ek,.string ev] 43
   have kr1:=kr.old b1;have bW1:Below w.heap.size w W1:=HB0.out.trans ((HB.out.mono (by omega)).trans (b1.mono (by omega)));by_cases hk:ek=key
   ·have hd:(ek.toList == key.toList)=true:=by rw [hk];simp
    have y0:=kb.cell 0;have y1:=kb.cell 1;have z0:=kr1.cell 0;have z1:=kr1.cell 1;have f0:=kr1.frozen 0;have f1:=kr1.frozen 1;simp only [List.getElem?_cons_zero,List.getElem?_cons_succ] at y0 y1 z0 z1;obtain ⟨W2,hW2⟩:∃ W2,W2=(W1.setCell ⟨w.heap.size,0,none⟩ (.bool true)).setCell ⟨w.heap.size,1,none⟩ (.string ev):=⟨_,rfl⟩;have o2:Onl (fun j=>j=w.heap.size) W1 W2:=by rw [hW2];exact ((Onl.refl (fun j=>j=w.heap.size) W1).set (p:=w.heap.size) (.inl rfl) _).set (p:=w.heap.size) (.inl rfl) _
    have k2:Ob W2 w.heap.size 35 [.bool true,.string ev]:=by rw [hW2];exact (kr1.set 0 _).set 1 _
    have HF:Hid (RgP es key w (.returned (.agg #[.bool true,.string ev])) W2):=Za ⟨ev,true,rfl,.inl ⟨rfl,_,List.mem_of_getElem? hx,hk,rfl⟩,Below.onl bW1 o2 (fun j q=>by omega) (Nat.le_refl _)⟩;have HK2:=Za k2;rw [hW2] at HF HK2;rw [hW1] at y0 y1 z0 z1 f0 f1 HF HK2;clear hW2 hW1 o2 k2 kr kr1 kb b1 bW1 hx hk HS HB;go_wp2;exact fin_rget HK2.out rfl HF.out
   ·have hd:(ek.toList == key.toList)=false:=by
     cases q:(ek.toList == key.toList) with
     | false=>rfl
     | true=>exact absurd (ZA (by simpa using q)) hk
    have y0:=kb.cell 0;simp only [List.getElem?_cons_zero] at y0
    have HS2:Hid (∀ e ∈ es.take (i+1),e.k≠key):=Za (fun e he=>by
     rw [List.take_add_one,hx] at he;rcases List.mem_append.1 he with q | q
     ·exact HS.out e q
     ·simp at q;rw [q];exact hk)
    have HB2:=Za (HB.out.trans (b1.mono (by omega)));rw [hW1] at y0 HB2;clear hW1 kr kr1 kb b1 bW1 hx hk HS HB;go_wp2;go_roundw
    case rel=>exact ⟨i+1,by omega,by simp,HS2,HB2⟩
    case measure=>simp [intOf];omega
  ·have hall:∀ e ∈ es,e.k≠key:=fun e he=>HS.out e (by rw [List.take_of_length_le (by have:=HN.out;omega)];exact he)
   have z0:=kr.cell 0;have z1:=kr.cell 1;have f0:=kr.frozen 0;have f1:=kr.frozen 1;simp only [List.getElem?_cons_zero,List.getElem?_cons_succ] at z0 z1;obtain ⟨W2,hW2⟩:∃ W2,W2=(wr.setCell ⟨w.heap.size,0,none⟩ (.bool false)).setCell ⟨w.heap.size,1,none⟩ (.string ⟨#[]⟩):=⟨_,rfl⟩;have o2:Onl (fun j=>j=w.heap.size) wr W2:=by rw [hW2];exact ((Onl.refl (fun j=>j=w.heap.size) wr).set (p:=w.heap.size) (.inl rfl) _).set (p:=w.heap.size) (.inl rfl) _
   have k2:Ob W2 w.heap.size 35 [.bool false,.string ⟨#[]⟩]:=by rw [hW2];exact (kr.set 0 _).set 1 _
   have HF:Hid (RgP es key w (.returned (.agg #[.bool false,.string ⟨#[]⟩])) W2):=Za ⟨_,false,rfl,.inr ⟨rfl,rfl,hall⟩,Below.onl (HB0.out.trans (HB.out.mono (by omega))) o2 (fun j q=>by omega) (Nat.le_refl _)⟩;have HK2:=Za k2;rw [hW2] at HF HK2;clear hW2 o2 k2 kr hall HS HB;go_wp2;exact fin_rget HK2.out rfl HF.out
theorem Z8 {es:List En} {key v v':ByteArray} {b b':Bool} (hr:Zz es) (h:Gets es key v b) (h':Gets es key v' b'):v=v'/\b=b':=by
 rcases h with ⟨rfl,e,h1,h2,h3⟩ | ⟨rfl,rfl,h1⟩
 ·rcases h' with ⟨rfl,f,k1,k2,k3⟩ | ⟨rfl,rfl,k1⟩
  ·obtain ⟨i,hi,qi⟩:=List.mem_iff_getElem.1 h1;obtain ⟨j,hj,qj⟩:=List.mem_iff_getElem.1 k1;have hP:=List.pairwise_iff_getElem.1 hr;rcases Nat.lt_trichotomy i j with z | z | z
   ·have:=hP i j hi hj z;rw [qi,qj,h2,k2,ZM] at this;cases this
   ·subst z;rw [<- h3,<- k3,<- qi,<- qj];exact ⟨rfl,rfl⟩
   ·have:=hP j i hj hi z;rw [qi,qj,h2,k2,ZM] at this;cases this
  ·exact absurd h2 (k1 e h1)
 ·rcases h' with ⟨rfl,f,k1,k2,k3⟩ | ⟨rfl,rfl,k1⟩
  ·exact absurd k2 (h1 f k1)
  ·exact ⟨rfl,rfl⟩
theorem tstore_any (w:World):Calls Tryz.prog 9 #[] w fun e W'=>∃ s O,e=.returned (.pointer (some ⟨s,0,none⟩))/\TSw w W' s O [] 1:=by
 have h8:8<=lenOf 16384:=by decide
 have H8:=Za h8;clear h8;go_enter Tryz.func9,Tryz.ntmps9
 go_wp2_with fail
 refine (cnew_any 16384 w).mono ?_;rintro e w1 ⟨d,rfl,k1,b1⟩;have L1:LwD w w1 d (Zk 16384) (Fresh w w1):=⟨k1,fun i q=>q.1,fun i q=>q.2,b1⟩;have C2:=lopen_new L1 H8.out;have HC2:=Za C2;clear k1 b1 L1 C2;go_wp2_with fail
 refine HC2.out.mono ?_;rintro e w2 ⟨s,O2,rfl,L2⟩;have HF:=Za (show TSw w w2 s O2 [] 1 from ⟨d,_,L2,sta_new⟩);clear L2;go_wp2;go_ret
 exact ⟨s,O2,rfl,HF.out⟩
end
section
open Go.RowKit Apo Go.ChangeShapes Go.WideShapes Go.Deep
section
variable {H:Type} {enc:TypeId × Value->H} {w:World} {base:Nat} {spare:Nat->Bool} {held:Bool}
structure Tb where
 a:Option Addr
 c:Nat
 b:List Int
instance:Inhabited Tb:=⟨⟨none,0,[]⟩⟩
end
end
section
open Go.RowKit Apo Go.ChangeShapes Go.WideShapes Go.Deep
section
variable {H:Type} {enc:TypeId × Value->H} {w:World} {base:Nat} {spare:Nat->Bool} {held:Bool}
theorem open_ens {fuel:Nat} {v:Value} {x:DataW H × List MemPlace} (h:DataW.trod enc Tryz.prog w base spare held fuel 22 [v]=some x) :
  ∃ (a:Option Addr) (cap:Nat) (fs:List En),v=.slice a fs.length cap/\RdEn w a fs/\(∀ f ∈ fs,f.k.size<=maxLen/\f.v.size<=maxLen)/\fs.length<=cap/\cap<=maxLen/\(a=none->cap=0):=by
 rcases open_slice Tryz.underlying22 h with ⟨hcs,_⟩ | ⟨ad,len,cap,m,n,D,Pl,hcs,hb,hl,hm,hmm,_,hx⟩
 ·simp only [List.cons.injEq,and_true] at hcs;exact ⟨none,0,[],hcs,(fun i e hi=>by simp at hi),by simp,by simp,by omega,fun _=>rfl⟩
 ·simp only [List.cons.injEq,and_true] at hcs;have hlm:len<=m:=by rw [hmm];split <;> omega
  have ce:Tryz.prog.cellsOf 43=2:=by kernel_rfl
  have each:∀ i,i < len->∃ f:En,w.cell? (ad.add (i * 2))=some (.string f.k)/\w.cell? (ad.add (i * 2+1))=some (.string f.v)/\(f.k.size<=maxLen/\f.v.size<=maxLen):=by
   intro i hi;obtain ⟨cs',h1,h2⟩:=hx i (by omega);rw [ce] at h1;obtain ⟨_,hlen,hcell⟩:=World.cells?_some h1
   obtain ⟨xs,k,hk,hxy,_,hxl,hf⟩:=DataW.trod_struct Tryz.underlying43 h2;match xs,hxl,cs',hlen with
   | [y0,y1],_,[v0,v1],_ =>
    have c9:Tryz.prog.cellsOf 9=1:=by kernel_rfl
    have g0:=hf 0 _ rfl;have g1:=hf 1 _ rfl;simp [c9] at g0 g1
    obtain ⟨kk,e0,_,w0⟩:=DataW.trod_string Tryz.underlying9 g0;obtain ⟨vv,e1,_,w1⟩:=DataW.trod_string Tryz.underlying9 g1;have q0:=hcell 0 (by omega);have q1:=hcell 1 (by omega);rw [add_add] at q0 q1;simp only [List.cons.injEq,and_true] at e0 e1;subst e0 e1;exact ⟨⟨kk,vv⟩,by simpa using q0,by simpa using q1,w0,w1⟩
  obtain ⟨F,hF⟩:=choose_lt each;refine ⟨some ad,cap,(List.range len).map F,by simpa using hcs,?_,?_,by simp;omega,by omega,fun e=>by cases e⟩
  ·intro i f hi;obtain ⟨hlt,hv⟩:=List.getElem?_eq_some_iff.1 hi
   have hil:i < len:=by simpa using hlt
   have hfi:F i=f:=by simpa using hv
   obtain ⟨p0,p1,_⟩:=hF i hil;have z0:=(hF 0 (by omega)).1;obtain ⟨b,off,spot⟩:=ad;have hspot:spot=none:=by simpa [Addr.add] using World.cell?_spot z0
   subst hspot;rw [hfi] at p0 p1;rw [add_plain] at p0 p1;exact ⟨b,off,rfl,p0,by simpa [Nat.add_assoc] using p1⟩
  ·intro f hf;simp only [List.mem_map,List.mem_range] at hf;obtain ⟨i,hi,rfl⟩:=hf;exact (hF i hi).2.2
structure EsA where
 a:Option Addr
 c:Nat
 l:List En
structure OkEs (w:World) (x:EsA):Prop where
 rd:RdEn w x.a x.l
 sz:∀ e ∈ x.l,e.k.size<=maxLen/\e.v.size<=maxLen
 len:x.l.length<=x.c
 big:x.c<=maxLen
 nil:x.a=none->x.c=0
theorem OkEs.below {w w':World} {x:EsA} (h:OkEs w x) (b:Below w.heap.size w w'):OkEs w' x:={ h with rd:=h.rd.below b }
theorem ens_in {r:Reach} {b0:Nat} {v:Value} {d:DataW H} {ps:List MemPlace} (hval:Value.okWide Tryz.prog w r b0 22 v) (h:DataW.Trod enc Tryz.prog w base spare held 22 v d ps):∃ t:EsA,v=.slice t.a t.l.length t.c/\OkEs w t:=by
 obtain ⟨a,l,c,rfl⟩:=okWide_slice Tryz.underlying22 hval;obtain ⟨fuel,hf⟩:=h;obtain ⟨a',c',fs,e,h1,h2,h3,h4,h5⟩:=open_ens hf;exact ⟨⟨a',c',fs⟩,e,⟨h1,h2,h3,h4,h5⟩⟩
end
end
section
open Go.RowKit Apo
theorem TBld.good {w W W':World} {s m:Nat} {O:Nat->Prop} {T:List (List Int)} {es:List En} {e:Ending} (h:TBld w W s O T m es e W') (hr:Z1 es=0):TRoot w W s O T m es e W':=by
 rcases h with ⟨q,_⟩ | ⟨_,q⟩
 ·exact absurd hr q
 ·exact q
theorem rightE_nil:Z1 []=0:=by
 unfold Z1;rw [if_neg (by simp [ZK]),if_pos (show Rise (([]:List En).map En.k) from List.Pairwise.nil)]
end
end Go.Proofs.YtdhebpnkfookcaaGreat
namespace Apo
open Go Go.RowKit
structure Ed where
 k:ByteArray
 v:ByteArray
 g:Bool
structure Ch where
 k:ByteArray
 had:Bool
 was:ByteArray
 has:Bool
 now:ByteArray
def cEn (e:En):List Value:=[.string e.k,.string e.v]
def cEd (e:Ed):List Value:=[.string e.k,.string e.v,.bool e.g]
def cCh (e:Ch):List Value:=[.string e.k,.bool e.had,.string e.was,.bool e.has,.string e.now]
def cTx (s:ByteArray):List Value:=[.string s]
section
variable {α:Type} (c:α->List Value) (k:Nat)
def Zf (l:List α):List Value:=l.flatMap c
def RdG (w:World) (a:Option Addr) (l:List α):Prop :=
 ∀ i x,l[i]?=some x->∃ g o,a=some ⟨g,o,none⟩/\∀ j u,(c x)[j]?=some u->w.cell? ⟨g,o+i * k+j,none⟩=some u
variable {c:α->List Value} {k:Nat}
theorem gcells_app (a b:List α):Zf c (a++b)=Zf c a++Zf c b:=by simp [Zf]
theorem gcells_len (hk:∀ x,(c x).length=k):∀ l:List α,(Zf c l).length=l.length * k
 | []=>by simp [Zf]
 | x :: l=>by
  have:=gcells_len hk l;unfold Zf at this ⊢;rw [List.flatMap_cons,List.length_append,this,List.length_cons,hk,Nat.succ_mul];omega
theorem gcells_at (hk:∀ x,(c x).length=k):∀ (l:List α) {i j:Nat} {x:α} {u:Value},l[i]?=some x->(c x)[j]?=some u->(Zf c l)[i * k+j]?=some u
 | [],_,_,_,_,h,_=>by simp at h
 | y :: l,0,j,x,u,h,hu=>by
  simp at h
  subst h;have hj:=(List.getElem?_eq_some_iff.1 hu).1;unfold Zf;rw [List.flatMap_cons,Nat.zero_mul,Nat.zero_add,List.getElem?_append_left hj];exact hu
 | y :: l,i+1,j,x,u,h,hu=>by
  have:=gcells_at hk l (i:=i) (by simpa using h) hu;unfold Zf at this ⊢;rw [List.flatMap_cons,List.getElem?_append_right (by rw [hk,Nat.succ_mul];omega),hk,show (i+1) * k+j - k=i * k+j by rw [Nat.succ_mul];omega];exact this
theorem RdG.below {w w':World} {a:Option Addr} {l:List α} (h:RdG c k w a l) (b:Below w.heap.size w w'):RdG c k w' a l:=fun i e hi=>by
 obtain ⟨g,o,h1,h2⟩:=h i e hi;exact ⟨g,o,h1,fun j u hu=>(b.cell (p:=⟨g,o+i * k+j,none⟩) (World.block_lt_of_cell? _ _ (h2 j u hu))).trans (h2 j u hu)⟩
theorem RdG.onl {w w':World} {a:Option Addr} {l:List α} {O:Nat->Prop} (h:RdG c k w a l) (ho:Onl O w w') (hr:∀ x,a=some x->¬ O x.block):RdG c k w' a l:=fun i e hi=>by
 obtain ⟨g,o,h1,h2⟩:=h i e hi;refine ⟨g,o,h1,fun j u hu=>?_⟩;have hc:=h2 j u hu;exact (World.cell?_of_block (ho.block g (World.block_lt_of_cell? w _ hc) (hr ⟨g,o,none⟩ h1))).trans hc
theorem RdG.news (hk:∀ x,(c x).length=k) (hk0:0 < k) {w:World} {x:Addr} {l:List α} (h:RdG c k w (some x) l):∀ j u,(Zf c l)[j]?=some u->w.cell? (x.add j)=some u:=by
 intro j u hu;have hj:=(List.getElem?_eq_some_iff.1 hu).1;rw [gcells_len hk] at hj;have hi:j / k < l.length:=by rw [Nat.div_lt_iff_lt_mul hk0];exact hj
 have he:l[j / k]?=some (l[j / k]'hi):=List.getElem?_eq_getElem _
 obtain ⟨g,o,h1,h2⟩:=h _ _ he;injection h1 with h1
 subst h1;have hm:j % k < k:=Nat.mod_lt _ hk0;have hcu:(c (l[j / k]'hi))[j % k]?=some ((c (l[j / k]'hi))[j % k]'(by rw [hk];exact hm)):=List.getElem?_eq_getElem _
 have hat:=gcells_at hk l he hcu;have hjj:j / k * k+j % k=j:=Nat.div_add_mod' j k;rw [hjj] at hat;rw [hat] at hu;injection hu with hu
 have:=h2 _ _ hcu;rw [hu,Nat.add_assoc,hjj] at this;have hadd:(⟨g,o,none⟩:Addr).add j=⟨g,o+j,none⟩:=by unfold Addr.add;split <;> simp_all
 rw [hadd];exact this
theorem rd_gcells (hk:∀ x,(c x).length=k) {O:Nat->Prop} {W:World} {e:TypeId} {v:Value} {l:List α} (h:Row O W e k v l.length (Zf c l)) :
  ∃ a cp,v=.slice a l.length cp/\RdG c k W a l/\l.length<=cp/\cp<=maxLen/\(a=none->cp=0)/\∀ x,a=some x->∃ g,x=⟨g,0,none⟩/\O g:=by
 obtain ⟨a,cp,hv,h1,h2,h3,h4⟩:=h.form;refine ⟨a,cp,hv,fun i x hi=>?_,h1,h2,h3,h4⟩;have hil:=(List.getElem?_eq_some_iff.1 hi).1;obtain ⟨g,cap,hv2,_,_,_,_,hc,_⟩:=h.shape (by omega);rw [hv] at hv2;injection hv2 with e1 e2 e3
 refine ⟨g,0,e1,fun j u hu=>?_⟩;have hj:=(List.getElem?_eq_some_iff.1 hu).1;rw [hk] at hj
 rw [Nat.zero_add,hc (i * k+j) (by
  have:(i+1) * k<=l.length * k:=Nat.mul_le_mul_right k hil;rw [Nat.succ_mul] at this;omega)]
 exact gcells_at hk l hi hu
theorem rd_lit (t:TypeId) (W:World) (x:α):RdG c k (W.alloc (.cells (c x).toArray t)) (some ⟨W.heap.size,0,none⟩) [x]:=by
 intro i e h;have hi:i=0:=by have:=(List.getElem?_eq_some_iff.1 h).1;simp at this;omega
 subst hi;simp only [List.getElem?_cons_zero,Option.some.injEq] at h;subst h;refine ⟨_,_,rfl,fun j u hu=>?_⟩;have hob:Ob (W.alloc (.cells (c x).toArray t)) W.heap.size t (c x):=Ob.new W (c x) t;have:=hob.cell j;rw [hu] at this;simpa using this
theorem app_G {P:Program} (hk:∀ x,(c x).length=k) (hk0:0 < k) (h1:∀ x,∀ u ∈ c x,u.oneCell'=true) {t e:TypeId} {z:Value} {by':Nat} (hu:P.underlying t=some (.slice e)) (hi:(P.info? e).map (fun i=>(i.zero,i.size,i.bytes))=some (some z,k,by')) (hz:z.cells.size=k) (hby:by'<=1000)
  {O:Nat->Prop} {W:World} {v:Value} {l xs:List α} (h:Row O W e k v l.length (Zf c l)) (hn:l.length+xs.length<=100000000) {y:Addr} {cp:Nat} (hr:RdG c k W (some y) xs) :
  ∃ v' w',(Builtin.append_ #[t,t] t #[v,.slice (some y) xs.length cp]).run P W=.ok v' w'/\Row (fun g=>O g\/g=W.heap.size) w' e k v' (l++xs).length (Zf c (l++xs))/\Onl (fun g=>v.ownBlock=some g) W w'/\∀ g,v'.ownBlock=some g->v.ownBlock=some g\/g=W.heap.size:=by
 obtain ⟨i0,hi,hz0,hz1,hz2⟩:=info_parts hi
 obtain ⟨v5,w5,RR,r5,g5,_,ho5⟩:=run_append_own_at (P:=P) W 0 t t e i0 _ k by' hu hi hz0 hz1 hz2 hz hk0 v l.length (Zf c l) h.1 y xs.length cp (Zf c xs) (gcells_len hk xs) (RdG.news hk hk0 hr) (by intro u hu;simp only [Zf,List.mem_flatMap] at hu;obtain ⟨x,_,hu⟩:=hu;exact h1 x u hu) (by unfold maxLen;omega) (by
  have:(l.length+xs.length) * by'<=100000000 * 1000:=Nat.mul_le_mul hn hby
  omega) (Nat.zero_le _)
 refine ⟨v5,w5,RR,⟨?_,fun g hg=>?_⟩,(Onl.refl _ W).grown g5 (fun k hk=>.inl hk),fun g hg=>?_⟩
 ·rw [List.length_append,gcells_app];exact r5
 ·rcases ho5 with q | q
  ·rw [q] at hg;exact .inl (h.2 g hg)
  ·rw [q] at hg;cases hg;exact .inr rfl
 ·rcases ho5 with q | q
  ·rw [q] at hg;exact .inl hg
  ·rw [q] at hg;cases hg;exact .inr rfl
end
theorem cEn_len (x:En):(cEn x).length=2:=rfl
theorem cEd_len (x:Ed):(cEd x).length=3:=rfl
theorem cCh_len (x:Ch):(cCh x).length=5:=rfl
theorem cTx_len (x:ByteArray):(cTx x).length=1:=rfl
theorem cEn_one (x:En):∀ u ∈ cEn x,u.oneCell'=true:=by simp [cEn,Value.oneCell']
theorem cEd_one (x:Ed):∀ u ∈ cEd x,u.oneCell'=true:=by simp [cEd,Value.oneCell']
theorem cCh_one (x:Ch):∀ u ∈ cCh x,u.oneCell'=true:=by simp [cCh,Value.oneCell']
theorem cTx_one (x:ByteArray):∀ u ∈ cTx x,u.oneCell'=true:=by simp [cTx,Value.oneCell']
theorem RdG.en {w:World} {a:Option Addr} {l:List En}:RdG cEn 2 w a l↔RdEn w a l:=by
 constructor
 ·intro h i e hi;obtain ⟨g,o,h1,h2⟩:=h i e hi;exact ⟨g,o,h1,h2 0 _ rfl,h2 1 _ rfl⟩
 ·intro h i e hi;obtain ⟨g,o,h1,h2,h3⟩:=h i e hi;refine ⟨g,o,h1,fun j u hu=>?_⟩;match j with
  | 0=>simp [cEn] at hu;rw [<- hu];exact h2
  | 1=>simp [cEn] at hu;rw [<- hu];exact h3
  | j+2=>simp [cEn] at hu
theorem RdG.ed {w:World} {a:Option Addr} {l:List Ed} (h:RdG cEd 3 w a l) {i:Nat} {x:Ed} (hi:l[i]?=some x):∃ g o,a=some ⟨g,o,none⟩/\w.cell? ⟨g,o+i * 3,none⟩=some (.string x.k)/\w.cell? ⟨g,o+i * 3+1,none⟩=some (.string x.v)/\w.cell? ⟨g,o+i * 3+2,none⟩=some (.bool x.g):=by
 obtain ⟨g,o,h1,h2⟩:=h i x hi;exact ⟨g,o,h1,h2 0 _ rfl,h2 1 _ rfl,h2 2 _ rfl⟩
theorem RdG.ch {w:World} {a:Option Addr} {l:List Ch} (h:RdG cCh 5 w a l) {i:Nat} {x:Ch} (hi:l[i]?=some x):∃ g o,a=some ⟨g,o,none⟩/\w.cell? ⟨g,o+i * 5,none⟩=some (.string x.k)/\w.cell? ⟨g,o+i * 5+1,none⟩=some (.bool x.had)/\w.cell? ⟨g,o+i * 5+2,none⟩=some (.string x.was)/\w.cell? ⟨g,o+i * 5+3,none⟩=some (.bool x.has)/\w.cell? ⟨g,o+i * 5+4,none⟩=some (.string x.now):=by
 obtain ⟨g,o,h1,h2⟩:=h i x hi;exact ⟨g,o,h1,h2 0 _ rfl,h2 1 _ rfl,h2 2 _ rfl,h2 3 _ rfl,h2 4 _ rfl⟩
theorem RdG.tx {w:World} {a:Option Addr} {l:List ByteArray} (h:RdG cTx 1 w a l) {i:Nat} {x:ByteArray} (hi:l[i]?=some x):∃ g o,a=some ⟨g,o,none⟩/\w.cell? ⟨g,o+i,none⟩=some (.string x):=by
 obtain ⟨g,o,h1,h2⟩:=h i x hi;exact ⟨g,o,h1,by simpa using h2 0 _ rfl⟩
end Apo
namespace Go.Proofs.YtdhebpnkfookcaaGreat
open Go.RowKit Apo
theorem info_en:(Tryz.prog.info? 43).map (fun i=>(i.zero,i.size,i.bytes))=some (some (.agg #[.string ByteArray.empty,.string ByteArray.empty]),2,32):=by kernel_rfl
theorem info_ed:(Tryz.prog.info? 46).map (fun i=>(i.zero,i.size,i.bytes))=some (some (.agg #[.string ByteArray.empty,.string ByteArray.empty,.bool false]),3,40):=by kernel_rfl
theorem info_ch:(Tryz.prog.info? 80).map (fun i=>(i.zero,i.size,i.bytes))=some (some (.agg #[.string ByteArray.empty,.bool false,.string ByteArray.empty,.bool false,.string ByteArray.empty]),5,64):=by kernel_rfl
theorem info_tx:(Tryz.prog.info? 9).map (fun i=>(i.zero,i.size,i.bytes))=some (some (.string ByteArray.empty),1,16):=by kernel_rfl
section
variable {O:Nat->Prop} {W:World} {v:Value} {y:Addr} {cp:Nat}
theorem app_en {l xs:List En} (h:Row O W 43 2 v l.length (Zf cEn l)) (hn:l.length+xs.length<=100000000) (hr:RdG cEn 2 W (some y) xs) :
  ∃ v' w',(Builtin.append_ #[22,22] 22 #[v,.slice (some y) xs.length cp]).run Tryz.prog W=.ok v' w'/\Row (fun g=>O g\/g=W.heap.size) w' 43 2 v' (l++xs).length (Zf cEn (l++xs))/\Onl (fun g=>v.ownBlock=some g) W w'/\∀ g,v'.ownBlock=some g->v.ownBlock=some g\/g=W.heap.size :=
 app_G cEn_len (by decide) cEn_one Tryz.underlying22 info_en rfl (by decide) h hn hr
theorem app_ed {l xs:List Ed} (h:Row O W 46 3 v l.length (Zf cEd l)) (hn:l.length+xs.length<=100000000) (hr:RdG cEd 3 W (some y) xs) :
  ∃ v' w',(Builtin.append_ #[44,44] 44 #[v,.slice (some y) xs.length cp]).run Tryz.prog W=.ok v' w'/\Row (fun g=>O g\/g=W.heap.size) w' 46 3 v' (l++xs).length (Zf cEd (l++xs))/\Onl (fun g=>v.ownBlock=some g) W w'/\∀ g,v'.ownBlock=some g->v.ownBlock=some g\/g=W.heap.size :=
 app_G cEd_len (by decide) cEd_one Tryz.underlying44 info_ed rfl (by decide) h hn hr
theorem app_ch {l xs:List Ch} (h:Row O W 80 5 v l.length (Zf cCh l)) (hn:l.length+xs.length<=100000000) (hr:RdG cCh 5 W (some y) xs) :
  ∃ v' w',(Builtin.append_ #[52,52] 52 #[v,.slice (some y) xs.length cp]).run Tryz.prog W=.ok v' w'/\Row (fun g=>O g\/g=W.heap.size) w' 80 5 v' (l++xs).length (Zf cCh (l++xs))/\Onl (fun g=>v.ownBlock=some g) W w'/\∀ g,v'.ownBlock=some g->v.ownBlock=some g\/g=W.heap.size :=
 app_G cCh_len (by decide) cCh_one Tryz.underlying52 info_ch rfl (by decide) h hn hr
theorem app_tx {l xs:List ByteArray} (h:Row O W 9 1 v l.length (Zf cTx l)) (hn:l.length+xs.length<=100000000) (hr:RdG cTx 1 W (some y) xs) :
  ∃ v' w',(Builtin.append_ #[40,40] 40 #[v,.slice (some y) xs.length cp]).run Tryz.prog W=.ok v' w'/\Row (fun g=>O g\/g=W.heap.size) w' 9 1 v' (l++xs).length (Zf cTx (l++xs))/\Onl (fun g=>v.ownBlock=some g) W w'/\∀ g,v'.ownBlock=some g->v.ownBlock=some g\/g=W.heap.size :=
 app_G cTx_len (by decide) cTx_one Tryz.underlying40 info_tx rfl (by decide) h hn hr
end
end Go.Proofs.YtdhebpnkfookcaaGreat
