import Derived.Deep.Slices
import Derived.ProofKit
import Derived.OpenShut
import Derived.Handy
import Derived.Laws.StructEq
import Derived.BigQuiet
import Derived.Deep.QuietTactic
import Derived.Shelf.SlSorted.Search
import Derived.Lib.Bytealg
import Derived.Lib.Walk
import Derived.BigRegion
import Derived.Maps.AppendAt
import Derived.Test.YtfippaeoklnceaaGreatRows
import Derived.Test.YtfippaeoklnceaaGreatQM38
import Derived.Test.YtfippaeoklnceaaGreatQM01
import Derived.Test.YtfippaeoklnceaaGreatQM08
import Derived.Test.YtfippaeoklnceaaGreatQM22
import Derived.Test.YtfippaeoklnceaaGreatQM02
namespace Go.Proofs.YtfippaeoklnceaaGreat
set_option maxRecDepth 100000
set_option maxHeartbeats 8000000
open Go.RowKit Apo
theorem rrises_any (w:World) (a:Option Addr) (c:Nat) (es:List En) (h:RdEn w a es) (hl:es.length≤1000000) :
  Calls Tryz.prog 17 #[.slice a es.length c] w (RsP es w):=by
 obtain ⟨n,hn⟩:∃ n,n=es.length:=⟨_,rfl⟩
 have HN:=hide hn
 have HR:=hide h
 rw [← hn] at hl ⊢
 clear h hn
 go_enter Tryz.func17,Tryz.ntmps17
 go_wp2
 go_loopw [6] (fun v wr=>∃ i:Nat,i≤n∧v=.int .i64 i∧Hid (∀ t e f,t+1 < i→es[t]?=some e→es[t+1]?=some f→sLt e.k f.k=true)∧Hid (Below w.heap.size w wr)) (fun v _=>n - (intOf v).toNat)
 case atStart=>exact ⟨0,Nat.zero_le _,rfl,hide (fun t e f ht=>absurd ht (by omega)),hide (Below.refl _ _)⟩
 case round =>
  obtain ⟨i,hi2,rfl,HS,HB⟩:=hrel
  by_cases hin:i < n
  ·by_cases hi0:i=0
   ·subst hi0
    have HS3:Hid (∀ t e f,t+1 < 0+1→es[t]?=some e→es[t+1]?=some f→sLt e.k f.k=true):=hide (fun t e f ht=>absurd ht (by omega))
    clear HS
    go_wp2
    go_quiet (fail)
    go_wp2
    go_roundw
    case rel=>exact ⟨1,by omega,by simp,HS3,hide (below_drewN HB.out _)⟩
    case measure=>simp [intOf]; omega
   ·obtain ⟨i1,hi3⟩:∃ i1,i=i1+1:=⟨i - 1,by omega⟩
    obtain ⟨s1,hs1⟩:∃ s,es[i1]?=some s:=⟨es[i1]'(by have:=HN.out; omega),List.getElem?_eq_getElem _⟩
    obtain ⟨s2,hs2⟩:∃ s,es[i1+1]?=some s:=⟨es[i1+1]'(by have:=HN.out; omega),List.getElem?_eq_getElem _⟩
    obtain ⟨g,of,rfl,q1,_⟩:=(HR.out.below HB.out) i1 s1 hs1
    obtain ⟨g2,of2,hgg,q2,_⟩:=(HR.out.below HB.out) (i1+1) s2 hs2
    injection hgg with hgg
    injection hgg with e1 e2 _
    subst e1 e2
    have hwi:IntKind.i64.wrap ((i:Int) - 1)=(i1:Int):=by rw [IntKind.wrap_i64]; omega
    have hsub:(i:Int) - 1=(i1:Int):=by omega
    have hi1n:i1 < n:=by omega
    have hd0:decide ((0:Int) < (i:Int))=true:=decide_eq_true (by omega)
    have hd1:decide (0 < i)=true:=decide_eq_true (by omega)
    have hpos:0 < i:=by omega
    rw [← hi3] at q2
    have HI3:=hide hi3
    have HS12:=hide (And.intro hs1 hs2)
    clear hs1 hs2 hi3
    cases hb1:sLt s1.k s2.k
    ·have hbl:Op.bytesLess s1.k.toList s2.k.toList=false:=hb1
     have HX:Hid (¬ Rise (es.map En.k)):=hide (fun z=>by
      have q:=rise_getD z HS12.out.1 HS12.out.2
      rw [hb1] at q
      cases q)
     clear hb1
     go_wp2
     go_quiet (fail)
     go_wp2
     go_ret
     exact ⟨false,rfl,⟨fun q=>(by cases q),fun q=>absurd q HX.out⟩,below_drewN HB.out _⟩
    ·have hbl:Op.bytesLess s1.k.toList s2.k.toList=true:=hb1
     have HS3:Hid (∀ t e f,t+1 < i+1→es[t]?=some e→es[t+1]?=some f→sLt e.k f.k=true):=by
      refine hide (fun t e f ht h1 h2=>?_)
      by_cases z:t+1 < i
      ·exact HS.out t e f z h1 h2
      ·obtain rfl:t=i1:=by have:=HI3.out; omega
       rw [HS12.out.1] at h1
       rw [HS12.out.2] at h2
       cases h1
       cases h2
       exact hb1
     clear hb1 HS
     go_wp2
     go_quiet (fail)
     go_wp2
     go_roundw
     case rel=>exact ⟨i+1,by omega,by simp,HS3,hide (below_drewN HB.out _)⟩
     case measure=>simp [intOf]; omega
  ·have HF:Hid (Rise (es.map En.k)):=hide (rise_all (fun t e f h1 h2=>HS.out t e f (by have:=(List.getElem?_eq_some_iff.1 h2).1; have:=HN.out; omega) h1 h2))
   clear HS
   go_wp2
   go_ret
   exact ⟨true,rfl,⟨fun _=>HF.out,fun _=>rfl⟩,HB.out⟩
def RrP (es:List En) (w:World) (e:Ending) (w':World):Prop:=e=.returned (.int .i64 (rightE es))∧Below w.heap.size w w'
theorem rright_any (W:World) (ea:Option Addr) (ec:Nat) (es:List En) (hr:RdEn W ea es) (hel:es.length≤1000000) (hsz:∀ e ∈ es,e.k.size≤maxLen∧e.v.size≤maxLen) :
  Calls Tryz.prog 7 #[.slice ea es.length ec] W (RrP es W):=by
 have C2:∀ W',Below W.heap.size W W'→Calls Tryz.prog 17 #[.slice ea es.length ec] W' (RsP es W'):=fun W' b=>rrises_any W' ea ec es (hr.below b) hel
 obtain ⟨ne,hne⟩:∃ ne,ne=es.length:=⟨_,rfl⟩
 have hmx:maxLen≤9223372036854775807:=by decide
 have HC2:=hide C2
 have HNE:=hide hne
 have HR:=hide hr
 have HSZ:=hide hsz
 rw [← hne] at HC2 hel ⊢
 clear C2 hne hr hsz
 go_enter Tryz.func7,Tryz.ntmps7
 go_wp2
 go_loopw [9] (fun i wr=>∃ k:Nat,k≤ne∧i=.int .i64 k∧Hid (∀ y ∈ es.take k,enE y=0)∧Hid (Below W.heap.size W wr)) (fun i _=>ne - (intOf i).toNat)
 case atStart=>exact ⟨0,Nat.zero_le _,rfl,hide (fun y hy=>by simp at hy),hide (Below.refl _ _)⟩
 case round =>
  obtain ⟨k,hk,rfl,HP,HB⟩:=hrel
  by_cases hkn:k < ne
  ·obtain ⟨⟨ek,ev⟩,hx⟩:∃ x,es[k]?=some x:=⟨es[k]'(by have:=HNE.out; omega),List.getElem?_eq_getElem _⟩
   obtain ⟨g,of,rfl,q1,q2⟩:=(HR.out.below HB.out) k _ hx
   simp only at q1 q2
   have hz:=HSZ.out _ (List.mem_of_getElem? hx)
   simp only at hz
   obtain ⟨W1,hW1⟩:∃ W1,W1=wr.alloc (.cells #[.string ek,.string ev] 40):=⟨_,rfl⟩
   have kb:Ob W1 wr.heap.size 40 [.string ek,.string ev]:=by rw [hW1]; exact Ob.new wr [.string ek,.string ev] 40
   have b1:Below W.heap.size W W1:=by rw [hW1]; exact HB.out.alloc HB.out.size _
   have y0:=kb.cell 0
   have y1:=kb.cell 1
   simp only [List.getElem?_cons_zero,List.getElem?_cons_succ] at y0 y1
   have CK:=rkey_any ek W1 (by omega)
   have CV:=rval_any ev W1 (by omega)
   have HX:=hide hx
   have HB1:=hide b1
   have HCK:=hide CK
   have HCV:=hide CV
   clear hx kb b1 CK CV
   by_cases hke:keyE ek=0
   ·rw [hke] at HCK
    by_cases hve:valE ev=0
    ·rw [hve] at HCV
     have HN:Hid (∀ y ∈ es.take (k+1),enE y=0):=hide (take_enE HX.out HP.out (by rw [enE_val hke]; exact hve))
     clear hke hve HP
     go_wp2_with fail
     rw [← hW1]
     clear hW1
     refine HCK.out.mono ?_
     rintro e w2 ⟨rfl,rfl⟩
     go_wp2_with fail
     refine HCV.out.mono ?_
     rintro e w2 ⟨rfl,rfl⟩
     go_wp2
     go_roundw
     case rel=>exact ⟨k+1,by omega,by simp,HN,HB1⟩
     case measure=>simp [intOf]; omega
    ·have HF:Hid (RrP es W (.returned (.int .i64 (valE ev))) W1):=by
      have hq:rightE es=valE ev:=by rw [rightE_at HX.out HP.out (by rw [enE_val hke]; exact hve),enE_val hke]
      exact hide ⟨by rw [hq],HB1.out⟩
     obtain ⟨er,her⟩:∃ er,er=valE ev:=⟨_,rfl⟩
     rw [← her] at HCV HF hve
     have hb:(er != 0)=true:=by simpa using hve
     clear hke hve HP her
     go_wp2_with fail
     rw [← hW1]
     clear hW1
     refine HCK.out.mono ?_
     rintro e w2 ⟨rfl,rfl⟩
     go_wp2_with fail
     refine HCV.out.mono ?_
     rintro e w2 ⟨rfl,rfl⟩
     go_wp2
     go_ret
     exact HF.out
   ·have HF:Hid (RrP es W (.returned (.int .i64 (keyE ek))) W1):=by
     have hq:rightE es=keyE ek:=by rw [rightE_at HX.out HP.out (by rw [enE_key hke]; exact hke),enE_key hke]
     exact hide ⟨by rw [hq],HB1.out⟩
    obtain ⟨er,her⟩:∃ er,er=keyE ek:=⟨_,rfl⟩
    rw [← her] at HCK HF hke
    have hb:(er != 0)=true:=by simpa using hke
    clear hke HP her
    go_wp2_with fail
    rw [← hW1]
    clear hW1
    refine HCK.out.mono ?_
    rintro e w2 ⟨rfl,rfl⟩
    go_wp2
    go_ret
    exact HF.out
  ·have hf0:firstE enE es=0:=firstE_none (fun y hy=>HP.out y (by rw [List.take_of_length_le (by have:=HNE.out; omega)]; exact hy))
   have CR:=HC2.out wr HB.out
   have HF0:=hide hf0
   have HCR:=hide CR
   clear hf0 CR HP
   go_wp2_with fail
   refine HCR.out.mono ?_
   rintro e w2 ⟨b,rfl,hb,b2⟩
   have HBW:=hide (HB.out.trans (b2.mono HB.out.size))
   cases b with
   | false =>
    have HF:Hid (RrP es W (.returned (.int .i64 90)) w2):=by
     have hq:rightE es=90:=by
      unfold rightE
      rw [if_neg (by rw [HF0.out]; simp),if_neg (fun q=>by have:=hb.2 q; cases this)]
     exact hide ⟨by rw [hq],HBW.out⟩
    clear hb b2
    go_wp2
    go_ret
    exact HF.out
   | true =>
    have HF:Hid (RrP es W (.returned (.int .i64 0)) w2):=by
     have hq:rightE es=0:=by
      unfold rightE
      rw [if_neg (by rw [HF0.out]; simp),if_pos (hb.1 rfl)]
     exact hide ⟨by rw [hq],HBW.out⟩
    clear hb b2
    go_wp2
    go_ret
    exact HF.out
end Go.Proofs.YtfippaeoklnceaaGreat
namespace Go.Proofs.YtfippaeoklnceaaGreat
set_option maxRecDepth 100000
set_option maxHeartbeats 8000000
open Go.RowKit Apo
theorem gets_uniq {es:List En} {key v v':ByteArray} {b b':Bool} (hr:RiseE es) (h:Gets es key v b) (h':Gets es key v' b'):v=v'∧b=b':=by
 rcases h with ⟨rfl,e,h1,h2,h3⟩ | ⟨rfl,rfl,h1⟩
 ·rcases h' with ⟨rfl,f,k1,k2,k3⟩ | ⟨rfl,rfl,k1⟩
  ·obtain ⟨i,hi,qi⟩:=List.mem_iff_getElem.1 h1
   obtain ⟨j,hj,qj⟩:=List.mem_iff_getElem.1 k1
   have hP:=List.pairwise_iff_getElem.1 hr
   rcases Nat.lt_trichotomy i j with z | z | z
   ·have:=hP i j hi hj z
    rw [qi,qj,h2,k2,sLt_irr] at this
    cases this
   ·subst z
    rw [← h3,← k3,← qi,← qj]
    exact ⟨rfl,rfl⟩
   ·have:=hP j i hj hi z
    rw [qi,qj,h2,k2,sLt_irr] at this
    cases this
  ·exact absurd h2 (k1 e h1)
 ·rcases h' with ⟨rfl,f,k1,k2,k3⟩ | ⟨rfl,rfl,k1⟩
  ·exact absurd k2 (h1 f k1)
  ·exact ⟨rfl,rfl⟩
theorem tstore_any (w:World):Calls Tryz.prog 9 #[] w fun e W'=>∃ s O,e=.returned (.pointer (some ⟨s,0,none⟩))∧TSw w W' s O [] 1:=by
 have h8:8≤lenOf 16384:=by decide
 have H8:=hide h8
 clear h8
 go_enter Tryz.func9,Tryz.ntmps9
 go_wp2_with fail
 refine (cnew_any 16384 w).mono ?_
 rintro e w1 ⟨d,rfl,k1,b1⟩
 have L1:LwD w w1 d (newSd 16384) (Fresh w w1):=⟨k1,fun i q=>q.1,fun i q=>q.2,b1⟩
 have C2:=lopen_new L1 H8.out
 have HC2:=hide C2
 clear k1 b1 L1 C2
 go_wp2_with fail
 refine HC2.out.mono ?_
 rintro e w2 ⟨s,O2,rfl,L2⟩
 have HF:=hide (show TSw w w2 s O2 [] 1 from ⟨d,_,L2,sta_new⟩)
 clear L2
 go_wp2
 go_ret
 exact ⟨s,O2,rfl,HF.out⟩
end Go.Proofs.YtfippaeoklnceaaGreat
namespace Go.Proofs.YtfippaeoklnceaaGreat
set_option maxRecDepth 100000
set_option maxHeartbeats 8000000
open Go.RowKit Apo Go.ChangeShapes Go.WideShapes Go.Deep
section
variable {H:Type} {enc:TypeId × Value→H} {w:World} {base:Nat} {spare:Nat→Bool} {held:Bool}
structure Tb where
 a:Option Addr
 c:Nat
 b:List Int
instance:Inhabited Tb:=⟨⟨none,0,[]⟩⟩
end
end Go.Proofs.YtfippaeoklnceaaGreat
namespace Go.Proofs.YtfippaeoklnceaaGreat
set_option maxRecDepth 100000
set_option maxHeartbeats 8000000
open Go.RowKit Apo Go.ChangeShapes Go.WideShapes Go.Deep
section
variable {H:Type} {enc:TypeId × Value→H} {w:World} {base:Nat} {spare:Nat→Bool} {held:Bool}
theorem open_ens {fuel:Nat} {v:Value} {x:DataW H × List MemPlace} (h:DataW.trod enc Tryz.prog w base spare held fuel 22 [v]=some x) :
  ∃ (a:Option Addr) (cap:Nat) (fs:List En),v=.slice a fs.length cap∧RdEn w a fs∧(∀ f ∈ fs,f.k.size≤maxLen∧f.v.size≤maxLen)∧fs.length≤cap∧cap≤maxLen∧(a=none→cap=0):=by
 rcases open_slice Tryz.underlying22 h with ⟨hcs,_⟩ | ⟨ad,len,cap,m,n,D,Pl,hcs,hb,hl,hm,hmm,_,hx⟩
 ·simp only [List.cons.injEq,and_true] at hcs
  exact ⟨none,0,[],hcs,(fun i e hi=>by simp at hi),by simp,by simp,by omega,fun _=>rfl⟩
 ·simp only [List.cons.injEq,and_true] at hcs
  have hlm:len≤m:=by rw [hmm]; split <;> omega
  have ce:Tryz.prog.cellsOf 40=2:=by kernel_rfl
  have each:∀ i,i < len→∃ f:En,w.cell? (ad.add (i * 2))=some (.string f.k)∧w.cell? (ad.add (i * 2+1))=some (.string f.v)∧(f.k.size≤maxLen∧f.v.size≤maxLen):=by
   intro i hi
   obtain ⟨cs',h1,h2⟩:=hx i (by omega)
   rw [ce] at h1
   obtain ⟨_,hlen,hcell⟩:=World.cells?_some h1
   obtain ⟨xs,k,hk,hxy,_,hxl,hf⟩:=DataW.trod_struct Tryz.underlying40 h2
   match xs,hxl,cs',hlen with
   | [y0,y1],_,[v0,v1],_ =>
    have c9:Tryz.prog.cellsOf 9=1:=by kernel_rfl
    have g0:=hf 0 _ rfl
    have g1:=hf 1 _ rfl
    simp [c9] at g0 g1
    obtain ⟨kk,e0,_,w0⟩:=DataW.trod_string Tryz.underlying9 g0
    obtain ⟨vv,e1,_,w1⟩:=DataW.trod_string Tryz.underlying9 g1
    have q0:=hcell 0 (by omega)
    have q1:=hcell 1 (by omega)
    rw [add_add] at q0 q1
    simp only [List.cons.injEq,and_true] at e0 e1
    subst e0 e1
    exact ⟨⟨kk,vv⟩,by simpa using q0,by simpa using q1,w0,w1⟩
  obtain ⟨F,hF⟩:=choose_lt each
  refine ⟨some ad,cap,(List.range len).map F,by simpa using hcs,?_,?_,by simp; omega,by omega,fun e=>by cases e⟩
  ·intro i f hi
   obtain ⟨hlt,hv⟩:=List.getElem?_eq_some_iff.1 hi
   have hil:i < len:=by simpa using hlt
   have hfi:F i=f:=by simpa using hv
   obtain ⟨p0,p1,_⟩:=hF i hil
   have z0:=(hF 0 (by omega)).1
   obtain ⟨b,off,spot⟩:=ad
   have hspot:spot=none:=by simpa [Addr.add] using World.cell?_spot z0
   subst hspot
   rw [hfi] at p0 p1
   rw [add_plain] at p0 p1
   exact ⟨b,off,rfl,p0,by simpa [Nat.add_assoc] using p1⟩
  ·intro f hf
   simp only [List.mem_map,List.mem_range] at hf
   obtain ⟨i,hi,rfl⟩:=hf
   exact (hF i hi).2.2
structure EsA where
 a:Option Addr
 c:Nat
 l:List En
structure OkEs (w:World) (x:EsA):Prop where
 rd:RdEn w x.a x.l
 sz:∀ e ∈ x.l,e.k.size≤maxLen∧e.v.size≤maxLen
 len:x.l.length≤x.c
 big:x.c≤maxLen
 nil:x.a=none→x.c=0
theorem ens_in {r:Reach} {b0:Nat} {v:Value} {d:DataW H} {ps:List MemPlace} (hval:Value.okWide Tryz.prog w r b0 22 v) (h:DataW.Trod enc Tryz.prog w base spare held 22 v d ps):∃ t:EsA,v=.slice t.a t.l.length t.c∧OkEs w t:=by
 obtain ⟨a,l,c,rfl⟩:=okWide_slice Tryz.underlying22 hval
 obtain ⟨fuel,hf⟩:=h
 obtain ⟨a',c',fs,e,h1,h2,h3,h4,h5⟩:=open_ens hf
 exact ⟨⟨a',c',fs⟩,e,⟨h1,h2,h3,h4,h5⟩⟩
end
end Go.Proofs.YtfippaeoklnceaaGreat
namespace Go.Proofs.YtfippaeoklnceaaGreat
set_option maxRecDepth 100000
set_option maxHeartbeats 8000000
open Go.RowKit Apo
theorem TBld.good {w W W':World} {s m:Nat} {O:Nat→Prop} {T:List (List Int)} {es:List En} {e:Ending} (h:TBld w W s O T m es e W') (hr:rightE es=0):TRoot w W s O T m es e W':=by
 rcases h with ⟨q,_⟩ | ⟨_,q⟩
 ·exact absurd hr q
 ·exact q
theorem rightE_nil:rightE []=0:=by
 unfold rightE
 rw [if_neg (by simp [firstE]),if_pos (show Rise (([]:List En).map En.k) from List.Pairwise.nil)]
def oneE:List En:=[⟨⟨#[97]⟩,⟨#[49]⟩⟩]
theorem rightE_one:rightE oneE=0:=by
 unfold rightE
 have h1:firstE enE oneE=0:=firstE_none (fun x hx=>by
  simp only [oneE,List.mem_singleton] at hx
  subst hx
  unfold enE keyE valE
  decide)
 rw [if_neg (by rw [h1]; simp),if_pos (show Rise (oneE.map En.k) from List.pairwise_singleton _ _)]
theorem rd_oneE (W:World):RdEn (W.alloc (.cells #[.string ⟨#[97]⟩,.string ⟨#[49]⟩] 40)) (some ⟨W.heap.size,0,none⟩) oneE:=by
 intro i e hi
 have k:=Ob.new W [.string ⟨#[97]⟩,.string ⟨#[49]⟩] 40
 match i,hi with
 | 0,hi =>
  simp only [oneE,List.getElem?_cons_zero,Option.some.injEq] at hi
  subst hi
  exact ⟨W.heap.size,0,rfl,k.cell 0,k.cell 1⟩
 | i+1,hi=>simp [oneE] at hi
theorem one_pages (ok:MapOk oneE):pgT (treeT [] oneE)≤23:=by
 have:=tree_pages (T:=[]) ok (by simp [oneE]) (ok.bytes (by simp [oneE])) (by simp)
 simp [oneE,pgT] at this ⊢
 exact this
theorem one_room (ok:MapOk oneE):pgT (treeT [] oneE)≤4096:=Nat.le_trans (one_pages ok) (by decide)
theorem nil_pages {T:List (List Int)} (ok:MapOk []) (hT:T.length≤4096):pgT (treeT T [])≤pgT T:=by
 have:=tree_pages (T:=T) ok (by simp) (by simp) hT
 simpa using this
theorem tawake_any (w:World):Calls Tryz.prog 4 #[] w fun e w'=>e=.returned (.bool true)∧Below w.heap.size w w':=by
 go_enter Tryz.func4,Tryz.ntmps4
 go_wp2_with fail
 refine (tstore_any w).mono ?_
 rintro e w1 ⟨s,O,rfl,t1⟩
 have b1:Below w1.heap.size w1 (w1.alloc (.cells #[.string ⟨#[97]⟩,.string ⟨#[49]⟩] 40)):=(Below.refl _ w1).alloc (Nat.le_refl _) _
 have C2:=tBuild_any (t1.below b1) (some ⟨w1.heap.size,0,none⟩) 1 oneE (rd_oneE w1) (fun q=>by cases q) (by simp [oneE]) (fun e he=>by simp only [oneE,List.mem_singleton] at he; subst he; unfold maxLen; decide) (fun ok=>⟨ok.bytes (by simp [oneE]),one_room ok⟩)
 rw [show oneE.length=1 from rfl] at C2
 have HC2:=hide C2
 have HB1:=hide (t1.bel.trans (b1.mono t1.bel.size))
 clear C2 t1 b1
 go_wp2_with fail
 refine HC2.out.mono ?_
 rintro e w2 hb2
 obtain ⟨id,O2,T2,rfl,p1,p2,p2',p3,p4,p5,p6⟩:=hb2.good rightE_one
 have hTx:TxOk T2:=p2' (fun t ht=>by simp at ht)
 have hok:=rightE_map rightE_one
 have hpg:pgT T2≤23:=by rw [p3.1]; exact one_pages hok
 have hT2:T2.length≤16000:=by have:=p4.len; omega
 obtain ⟨ls,q1,q2,q3,q4⟩:=p1.tree hok (by simp [oneE]) hT2
 have hid:((id:Int) != 0)=true:=by
  have:id≠0:=fun z=>by have:=q4.1 z; simp [oneE] at this
  simp; omega
 have C3:=tgettree_any p4 hT2 hTx id ls q1 (by rw [q2]; exact riseE_iff.2 hok.rise) ⟨#[97]⟩
 rw [q2] at C3
 have HC3:=hide C3
 have HP4:=hide p4
 have HT2:=hide hT2
 have HL2:Hid (pgT T2≤23):=hide hpg
 have HLN:Hid (T2.length+1≤pgT T2):=hide p4.len
 clear C3 p1 p2 p2' p3 p4 p5 p6 q1 q2 q3 q4 hTx hok hT2 HC2 hpg
 go_wp2_with fail
 refine HC3.out.mono ?_
 rintro e w3 ⟨v,b,rfl,hg,b3⟩
 obtain ⟨rfl,rfl⟩:v=⟨#[49]⟩∧b=true:=by
  have:=gets_uniq (es:=oneE) (key:=⟨#[97]⟩) (riseE_iff.2 (rightE_map rightE_one).rise) hg (.inl ⟨rfl,_,List.mem_singleton.2 rfl,rfl,rfl⟩)
  exact this
 have t3:=HP4.out.below b3
 have C4:=tBuild_any t3 none 0 [] (fun i e hi=>by simp at hi) (fun _=>rfl) (by simp) (fun e he=>by simp at he) (fun ok=>⟨by simp,by have:=HL2.out; have:=nil_pages (T:=T2) ok (by have:=HLN.out; have:=HL2.out; omega); omega⟩)
 rw [show ([]:List En).length=0 from rfl] at C4
 have HC4:=hide C4
 clear C4 t3 hg b3 HC3
 go_wp2_with fail
 refine HC4.out.mono ?_
 rintro e w4 hb4
 obtain ⟨id4,O4,T4,rfl,p1,p2,p2',p3,p4,p5,p6⟩:=hb4.good rightE_nil
 have hz:id4=0:=by
  obtain ⟨ls,q1,q2,q3,q4⟩:=p1.tree (rightE_map rightE_nil) (by simp) (by have h1:=p4.len; have h2:=nil_pages (T:=T2) (rightE_map rightE_nil) (by have:=HLN.out; have:=HL2.out; omega); rw [p3.1] at h1 ⊢; have:=HL2.out; omega)
  exact q4.2 rfl
 subst hz
 have HF:=hide p4.bel
 clear p1 p2 p2' p3 p4 p5 p6
 go_wp2
 go_ret
 exact ⟨rfl,HF.out⟩
end Go.Proofs.YtfippaeoklnceaaGreat
namespace Apo
set_option maxRecDepth 100000
set_option maxHeartbeats 8000000
open Go Go.RowKit
structure Ed where
 k:ByteArray
 v:ByteArray
 g:Bool
structure Ch where
 k:ByteArray
 had:Bool
 was:ByteArray
 has:Bool
 now:ByteArray
def cEn (e:En):List Value:=[.string e.k,.string e.v]
def cEd (e:Ed):List Value:=[.string e.k,.string e.v,.bool e.g]
section
variable {α:Type} (c:α→List Value) (k:Nat)
def gcells (l:List α):List Value:=l.flatMap c
def RdG (w:World) (a:Option Addr) (l:List α):Prop :=
 ∀ i x,l[i]?=some x→∃ g o,a=some ⟨g,o,none⟩∧∀ j u,(c x)[j]?=some u→w.cell? ⟨g,o+i * k+j,none⟩=some u
variable {c:α→List Value} {k:Nat}
theorem gcells_app (a b:List α):gcells c (a++b)=gcells c a++gcells c b:=by simp [gcells]
theorem gcells_len (hk:∀ x,(c x).length=k):∀ l:List α,(gcells c l).length=l.length * k
 | []=>by simp [gcells]
 | x :: l=>by
  have:=gcells_len hk l
  unfold gcells at this ⊢
  rw [List.flatMap_cons,List.length_append,this,List.length_cons,hk,Nat.succ_mul]
  omega
theorem gcells_at (hk:∀ x,(c x).length=k):∀ (l:List α) {i j:Nat} {x:α} {u:Value},l[i]?=some x→(c x)[j]?=some u→(gcells c l)[i * k+j]?=some u
 | [],_,_,_,_,h,_=>by simp at h
 | y :: l,0,j,x,u,h,hu=>by
  simp at h
  subst h
  have hj:=(List.getElem?_eq_some_iff.1 hu).1
  unfold gcells
  rw [List.flatMap_cons,Nat.zero_mul,Nat.zero_add,List.getElem?_append_left hj]
  exact hu
 | y :: l,i+1,j,x,u,h,hu=>by
  have:=gcells_at hk l (i:=i) (by simpa using h) hu
  unfold gcells at this ⊢
  rw [List.flatMap_cons,List.getElem?_append_right (by rw [hk,Nat.succ_mul]; omega),hk,show (i+1) * k+j - k=i * k+j by rw [Nat.succ_mul]; omega]
  exact this
theorem RdG.nil (w:World) (a:Option Addr):RdG c k w a []:=fun i x h=>by simp at h
theorem RdG.below {w w':World} {a:Option Addr} {l:List α} (h:RdG c k w a l) (b:Below w.heap.size w w'):RdG c k w' a l:=fun i e hi=>by
 obtain ⟨g,o,h1,h2⟩:=h i e hi
 exact ⟨g,o,h1,fun j u hu=>(b.cell (p:=⟨g,o+i * k+j,none⟩) (World.block_lt_of_cell? _ _ (h2 j u hu))).trans (h2 j u hu)⟩
theorem RdG.news (hk:∀ x,(c x).length=k) (hk0:0 < k) {w:World} {x:Addr} {l:List α} (h:RdG c k w (some x) l):∀ j u,(gcells c l)[j]?=some u→w.cell? (x.add j)=some u:=by
 intro j u hu
 have hj:=(List.getElem?_eq_some_iff.1 hu).1
 rw [gcells_len hk] at hj
 have hi:j / k < l.length:=by rw [Nat.div_lt_iff_lt_mul hk0]; exact hj
 have he:l[j / k]?=some (l[j / k]'hi):=List.getElem?_eq_getElem _
 obtain ⟨g,o,h1,h2⟩:=h _ _ he
 injection h1 with h1
 subst h1
 have hm:j % k < k:=Nat.mod_lt _ hk0
 have hcu:(c (l[j / k]'hi))[j % k]?=some ((c (l[j / k]'hi))[j % k]'(by rw [hk]; exact hm)):=List.getElem?_eq_getElem _
 have hat:=gcells_at hk l he hcu
 have hjj:j / k * k+j % k=j:=Nat.div_add_mod' j k
 rw [hjj] at hat
 rw [hat] at hu
 injection hu with hu
 have:=h2 _ _ hcu
 rw [hu,Nat.add_assoc,hjj] at this
 have hadd:(⟨g,o,none⟩:Addr).add j=⟨g,o+j,none⟩:=by unfold Addr.add; split <;> simp_all
 rw [hadd]
 exact this
theorem rd_gcells (hk:∀ x,(c x).length=k) {O:Nat→Prop} {W:World} {e:TypeId} {v:Value} {l:List α} (h:Row O W e k v l.length (gcells c l)) :
  ∃ a cp,v=.slice a l.length cp∧RdG c k W a l∧l.length≤cp∧cp≤maxLen∧(a=none→cp=0)∧∀ x,a=some x→∃ g,x=⟨g,0,none⟩∧O g:=by
 obtain ⟨a,cp,hv,h1,h2,h3,h4⟩:=h.form
 refine ⟨a,cp,hv,fun i x hi=>?_,h1,h2,h3,h4⟩
 have hil:=(List.getElem?_eq_some_iff.1 hi).1
 obtain ⟨g,cap,hv2,_,_,_,_,hc,_⟩:=h.shape (by omega)
 rw [hv] at hv2
 injection hv2 with e1 e2 e3
 refine ⟨g,0,e1,fun j u hu=>?_⟩
 have hj:=(List.getElem?_eq_some_iff.1 hu).1
 rw [hk] at hj
 rw [Nat.zero_add,hc (i * k+j) (by
  have:(i+1) * k≤l.length * k:=Nat.mul_le_mul_right k hil
  rw [Nat.succ_mul] at this
  omega)]
 exact gcells_at hk l hi hu
theorem rd_lit (t:TypeId) (W:World) (x:α):RdG c k (W.alloc (.cells (c x).toArray t)) (some ⟨W.heap.size,0,none⟩) [x]:=by
 intro i e h
 have hi:i=0:=by have:=(List.getElem?_eq_some_iff.1 h).1; simp at this; omega
 subst hi
 simp only [List.getElem?_cons_zero,Option.some.injEq] at h
 subst h
 refine ⟨_,_,rfl,fun j u hu=>?_⟩
 have hob:Ob (W.alloc (.cells (c x).toArray t)) W.heap.size t (c x):=Ob.new W (c x) t
 have:=hob.cell j
 rw [hu] at this
 simpa using this
theorem app_G {P:Program} (hk:∀ x,(c x).length=k) (hk0:0 < k) (h1:∀ x,∀ u ∈ c x,u.oneCell'=true) {t e:TypeId} {z:Value} {by':Nat} (hu:P.underlying t=some (.slice e)) (hi:(P.info? e).map (fun i=>(i.zero,i.size,i.bytes))=some (some z,k,by')) (hz:z.cells.size=k) (hby:by'≤1000)
  {O:Nat→Prop} {W:World} {v:Value} {l xs:List α} (h:Row O W e k v l.length (gcells c l)) (hn:l.length+xs.length≤100000000) {y:Addr} {cp:Nat} (hr:RdG c k W (some y) xs) :
  ∃ v' w',(Builtin.append_ #[t,t] t #[v,.slice (some y) xs.length cp]).run P W=.ok v' w'∧Row (fun g=>O g∨g=W.heap.size) w' e k v' (l++xs).length (gcells c (l++xs))∧Onl (fun g=>v.ownBlock=some g) W w'∧∀ g,v'.ownBlock=some g→v.ownBlock=some g∨g=W.heap.size:=by
 obtain ⟨i0,hi,hz0,hz1,hz2⟩:=info_parts hi
 obtain ⟨v5,w5,RR,r5,g5,_,ho5⟩:=run_append_own_at (P:=P) W 0 t t e i0 _ k by' hu hi hz0 hz1 hz2 hz hk0 v l.length (gcells c l) h.1 y xs.length cp (gcells c xs) (gcells_len hk xs) (RdG.news hk hk0 hr) (by intro u hu; simp only [gcells,List.mem_flatMap] at hu; obtain ⟨x,_,hu⟩:=hu; exact h1 x u hu) (by unfold maxLen; omega) (by
  have:(l.length+xs.length) * by'≤100000000 * 1000:=Nat.mul_le_mul hn hby
  omega) (Nat.zero_le _)
 refine ⟨v5,w5,RR,⟨?_,fun g hg=>?_⟩,(Onl.refl _ W).grown g5 (fun k hk=>.inl hk),fun g hg=>?_⟩
 ·rw [List.length_append,gcells_app]
  exact r5
 ·rcases ho5 with q | q
  ·rw [q] at hg; exact .inl (h.2 g hg)
  ·rw [q] at hg; cases hg; exact .inr rfl
 ·rcases ho5 with q | q
  ·rw [q] at hg; exact .inl hg
  ·rw [q] at hg; cases hg; exact .inr rfl
end
theorem cEn_len (x:En):(cEn x).length=2:=rfl
theorem cEd_len (x:Ed):(cEd x).length=3:=rfl
theorem cEn_one (x:En):∀ u ∈ cEn x,u.oneCell'=true:=by simp [cEn,Value.oneCell']
theorem cEd_one (x:Ed):∀ u ∈ cEd x,u.oneCell'=true:=by simp [cEd,Value.oneCell']
theorem RdG.en {w:World} {a:Option Addr} {l:List En}:RdG cEn 2 w a l↔RdEn w a l:=by
 constructor
 ·intro h i e hi
  obtain ⟨g,o,h1,h2⟩:=h i e hi
  exact ⟨g,o,h1,h2 0 _ rfl,h2 1 _ rfl⟩
 ·intro h i e hi
  obtain ⟨g,o,h1,h2,h3⟩:=h i e hi
  refine ⟨g,o,h1,fun j u hu=>?_⟩
  match j with
  | 0=>simp [cEn] at hu; rw [← hu]; exact h2
  | 1=>simp [cEn] at hu; rw [← hu]; exact h3
  | j+2=>simp [cEn] at hu
theorem RdG.ed {w:World} {a:Option Addr} {l:List Ed} (h:RdG cEd 3 w a l) {i:Nat} {x:Ed} (hi:l[i]?=some x):∃ g o,a=some ⟨g,o,none⟩∧w.cell? ⟨g,o+i * 3,none⟩=some (.string x.k)∧w.cell? ⟨g,o+i * 3+1,none⟩=some (.string x.v)∧w.cell? ⟨g,o+i * 3+2,none⟩=some (.bool x.g):=by
 obtain ⟨g,o,h1,h2⟩:=h i x hi
 exact ⟨g,o,h1,h2 0 _ rfl,h2 1 _ rfl,h2 2 _ rfl⟩
end Apo
namespace Go.Proofs.YtfippaeoklnceaaGreat
set_option maxRecDepth 100000
set_option maxHeartbeats 8000000
open Go.RowKit Apo
theorem info_en:(Tryz.prog.info? 40).map (fun i=>(i.zero,i.size,i.bytes))=some (some (.agg #[.string ByteArray.empty,.string ByteArray.empty]),2,32):=by kernel_rfl
theorem info_ed:(Tryz.prog.info? 44).map (fun i=>(i.zero,i.size,i.bytes))=some (some (.agg #[.string ByteArray.empty,.string ByteArray.empty,.bool false]),3,40):=by kernel_rfl
section
variable {O:Nat→Prop} {W:World} {v:Value} {y:Addr} {cp:Nat}
theorem app_en {l xs:List En} (h:Row O W 40 2 v l.length (gcells cEn l)) (hn:l.length+xs.length≤100000000) (hr:RdG cEn 2 W (some y) xs) :
  ∃ v' w',(Builtin.append_ #[22,22] 22 #[v,.slice (some y) xs.length cp]).run Tryz.prog W=.ok v' w'∧Row (fun g=>O g∨g=W.heap.size) w' 40 2 v' (l++xs).length (gcells cEn (l++xs))∧Onl (fun g=>v.ownBlock=some g) W w'∧∀ g,v'.ownBlock=some g→v.ownBlock=some g∨g=W.heap.size :=
 app_G cEn_len (by decide) cEn_one Tryz.underlying22 info_en rfl (by decide) h hn hr
theorem app_ed {l xs:List Ed} (h:Row O W 44 3 v l.length (gcells cEd l)) (hn:l.length+xs.length≤100000000) (hr:RdG cEd 3 W (some y) xs) :
  ∃ v' w',(Builtin.append_ #[23,23] 23 #[v,.slice (some y) xs.length cp]).run Tryz.prog W=.ok v' w'∧Row (fun g=>O g∨g=W.heap.size) w' 44 3 v' (l++xs).length (gcells cEd (l++xs))∧Onl (fun g=>v.ownBlock=some g) W w'∧∀ g,v'.ownBlock=some g→v.ownBlock=some g∨g=W.heap.size :=
 app_G cEd_len (by decide) cEd_one Tryz.underlying23 info_ed rfl (by decide) h hn hr
end
end Go.Proofs.YtfippaeoklnceaaGreat
namespace Go.Proofs.YtfippaeoklnceaaGreat
set_option maxRecDepth 100000
set_option maxHeartbeats 8000000
open Go.RowKit Apo
def leK (a b:ByteArray):Prop:=sLt b a=false
theorem leK_refl (a:ByteArray):leK a a:=sLt_irr a
theorem leK_of {a b:ByteArray} (h:sLt a b=true):leK a b:=by
 unfold leK
 cases q:sLt b a with
 | false=>rfl
 | true=>have:=sLt_trans h q; rw [sLt_irr] at this; cases this
theorem leK_trans {a b c:ByteArray} (h:leK a b) (k:leK b c):leK a c:=by
 unfold leK at h k ⊢
 cases q:sLt c a with
 | false=>rfl
 | true =>
  cases z:sLt a b with
  | true=>have:=sLt_trans q z; rw [k] at this; cases this
  | false=>rw [sLt_conn h z] at k; rw [k] at q; cases q
theorem lt_leK {a b c:ByteArray} (h:sLt a b=true) (k:leK b c):sLt a c=true:=by
 cases q:sLt a c with
 | true=>rfl
 | false =>
  have:=leK_trans k (show leK c a from q)
  unfold leK at this
  rw [h] at this
  cases this
theorem leK_lt {a b c:ByteArray} (h:leK a b) (k:sLt b c=true):sLt a c=true:=by
 cases q:sLt a c with
 | true=>rfl
 | false =>
  have:=leK_trans (show leK c a from q) h
  unfold leK at this
  rw [k] at this
  cases this
def kAt (d:List Ed) (i:Nat):ByteArray:=((d[i]?).map Ed.k).getD ByteArray.empty
theorem kAt_some {d:List Ed} {i:Nat} {x:Ed} (h:d[i]?=some x):kAt d i=x.k:=by unfold kAt; rw [h]; rfl
def SrtIn (d:List Ed) (a b:Nat):Prop:=∀ i j,a≤i→i < j→j < b→leK (kAt d i) (kAt d j)
theorem SrtIn.sub {d:List Ed} {a b a' b':Nat} (h:SrtIn d a b) (h1:a≤a') (h2:b'≤b):SrtIn d a' b':=fun i j q1 q2 q3=>h i j (by omega) q2 (by omega)
theorem SrtIn.le {d:List Ed} {a b:Nat} (h:SrtIn d a b) {i j:Nat} (h1:a≤i) (h2:i≤j) (h3:j < b):leK (kAt d i) (kAt d j):=by
 by_cases q:i=j
 ·rw [q]; exact leK_refl _
 ·exact h i j h1 (by omega) h3
def Out (d d':List Ed) (a b:Nat):Prop:=∀ i,(i < a∨b≤i)→d'[i]?=d[i]?
theorem Out.refl (d:List Ed) (a b:Nat):Out d d a b:=fun _ _=>rfl
theorem Out.trans {d d' d'':List Ed} {a b a1 b1 a2 b2:Nat} (h:Out d d' a1 b1) (k:Out d' d'' a2 b2) (h1:a≤a1) (h2:b1≤b) (h3:a≤a2) (h4:b2≤b):Out d d'' a b:=fun i hi=>(k i (by omega)).trans (h i (by omega))
theorem Out.key {d d':List Ed} {a b:Nat} (h:Out d d' a b) {i:Nat} (hi:i < a∨b≤i):kAt d' i=kAt d i:=by unfold kAt; rw [h i hi]
theorem Out.srt {d d':List Ed} {a b x y:Nat} (h:Out d d' a b) (hs:SrtIn d x y) (hd:y≤a∨b≤x):SrtIn d' x y:=fun i j h1 h2 h3=>by
 rw [h.key (by omega),h.key (by omega)]
 exact hs i j h1 h2 h3
open Classical in
noncomputable def ofKey (d:List Ed) (k:ByteArray):List Ed:=d.filter (fun e=>decide (e.k=k))
def Stb (d d':List Ed):Prop:=d'.length=d.length∧∀ k,ofKey d' k=ofKey d k
theorem Stb.refl (d:List Ed):Stb d d:=⟨rfl,fun _=>rfl⟩
theorem Stb.trans {a b c:List Ed} (h:Stb a b) (k:Stb b c):Stb a c:=⟨k.1.trans h.1,fun q=>(k.2 q).trans (h.2 q)⟩
theorem ofK_app (a b:List Ed) (k:ByteArray):ofKey (a++b) k=ofKey a k++ofKey b k:=by simp [ofKey]
theorem Stb.swap {p a b s:List Ed} (h:∀ x ∈ a,∀ y ∈ b,x.k≠y.k):Stb (p++(a++(b++s))) (p++(b++(a++s))):=by
 refine ⟨by simp; omega,fun k=>?_⟩
 simp only [ofK_app]
 by_cases q:∃ x ∈ a,x.k=k
 ·obtain ⟨x,hx,hk⟩:=q
  have:ofKey b k=[]:=by
   unfold ofKey
   rw [List.filter_eq_nil_iff]
   intro y hy z
   rw [decide_eq_true_eq] at z
   exact h x hx y hy (hk.trans z.symm)
  rw [this]
  simp
 ·have:ofKey a k=[]:=by
   unfold ofKey
   rw [List.filter_eq_nil_iff]
   intro y hy z
   rw [decide_eq_true_eq] at z
   exact q ⟨y,hy,z⟩
  rw [this]
  simp
def swL (d:List Ed) (i j:Nat):List Ed:=match d[i]?,d[j]? with
 | some x,some y=>(d.set i y).set j x
 | _,_=>d
theorem swL_len (d:List Ed) (i j:Nat):(swL d i j).length=d.length:=by
 unfold swL
 split <;> simp
theorem swL_get {d:List Ed} {i j:Nat} (hi:i < d.length) (hj:j < d.length) (t:Nat):(swL d i j)[t]?=if t=j then d[i]? else if t=i then d[j]? else d[t]?:=by
 have e1:d[i]?=some d[i]:=List.getElem?_eq_getElem hi
 have e2:d[j]?=some d[j]:=List.getElem?_eq_getElem hj
 unfold swL
 rw [e1,e2]
 simp only
 rw [List.getElem?_set]
 by_cases h1:t=j
 ·subst h1; simp [hj]
 ·rw [if_neg h1,if_neg (Ne.symm h1),List.getElem?_set]
  by_cases h2:t=i
  ·subst h2; simp [hi]
  ·rw [if_neg h2,if_neg (Ne.symm h2)]
theorem swL_key {d:List Ed} {i j:Nat} (hi:i < d.length) (hj:j < d.length) (t:Nat):kAt (swL d i j) t=if t=j then kAt d i else if t=i then kAt d j else kAt d t:=by
 unfold kAt
 rw [swL_get hi hj]
 split
 ·rfl
 ·split <;> rfl
theorem swL_comm {d:List Ed} {i j:Nat} (hi:i < d.length) (hj:j < d.length):swL d i j=swL d j i:=by
 refine List.ext_getElem? (fun t=>?_)
 rw [swL_get hi hj,swL_get hj hi]
 by_cases h1:t=j
 ·by_cases h2:t=i
  ·subst h1; subst h2; rfl
  ·simp [h1,show ¬ j=i by omega]
 ·simp [h1]
theorem swL_out {d:List Ed} {i j a b:Nat} (hi:i < d.length) (hj:j < d.length) (h1:a≤i) (h2:a≤j) (h3:i < b) (h4:j < b):Out d (swL d i j) a b:=fun t ht=>by
 rw [swL_get hi hj,if_neg (by omega),if_neg (by omega)]
theorem swL_stb {d:List Ed} {i:Nat} (hi:i+1 < d.length) (hk:kAt d i≠kAt d (i+1)):Stb d (swL d i (i+1)):=by
 have e1:d[i]?=some (d[i]'(by omega)):=List.getElem?_eq_getElem _
 have e2:d[i+1]?=some d[i+1]:=List.getElem?_eq_getElem hi
 have hd:d=d.take i++([d[i]'(by omega)]++([d[i+1]]++d.drop (i+2))):=by
  conv=>lhs; rw [← List.take_append_drop i d]
  rw [List.drop_eq_getElem_cons (by omega),List.drop_eq_getElem_cons (by omega)]
  simp
 have hs:swL d i (i+1)=d.take i++([d[i+1]]++([d[i]'(by omega)]++d.drop (i+2))):=by
  refine List.ext_getElem? (fun t=>?_)
  rw [swL_get (by omega) hi]
  by_cases h0:t < i
  ·rw [if_neg (by omega),if_neg (by omega),List.getElem?_append_left (by simp; omega),List.getElem?_take,if_pos h0]
  ·rw [List.getElem?_append_right (by simp; omega),List.length_take,Nat.min_eq_left (by omega)]
   by_cases h1:t=i
   ·subst h1; rw [if_neg (by omega),if_pos rfl]; simp [e2]
   ·by_cases h2:t=i+1
    ·subst h2; rw [if_pos rfl,e1]; simp
    ·rw [if_neg h2,if_neg h1]
     obtain ⟨u,rfl⟩:∃ u,t=i+2+u:=⟨t - (i+2),by omega⟩
     rw [show i+2+u - i=u+2 by omega]
     simp
 rw [hs]
 conv=>arg 1; rw [hd]
 refine Stb.swap (fun x hx y hy q=>hk ?_)
 rw [List.mem_singleton] at hx hy
 rw [kAt_some e1,kAt_some e2,← hx,← hy]
 exact q
def Frm (d d':List Ed) (a b:Nat):Prop:=∀ i,a≤i→i < b→∃ j,a≤j∧j < b∧kAt d' i=kAt d j
theorem Frm.refl (d:List Ed) (a b:Nat):Frm d d a b:=fun i h1 h2=>⟨i,h1,h2,rfl⟩
theorem Frm.trans {d d' d'':List Ed} {a b:Nat} (h:Frm d d' a b) (k:Frm d' d'' a b):Frm d d'' a b:=fun i h1 h2=>by
 obtain ⟨j,q1,q2,q3⟩:=k i h1 h2
 obtain ⟨t,z1,z2,z3⟩:=h j q1 q2
 exact ⟨t,z1,z2,q3.trans z3⟩
theorem Frm.wide {d d':List Ed} {a b a' b':Nat} (h:Frm d d' a b) (o:Out d d' a b) (h1:a'≤a) (h2:b≤b'):Frm d d' a' b':=fun i q1 q2=>by
 by_cases z:a≤i∧i < b
 ·obtain ⟨j,y1,y2,y3⟩:=h i z.1 z.2
  exact ⟨j,by omega,by omega,y3⟩
 ·exact ⟨i,q1,q2,o.key (by omega)⟩
theorem swL_frm {d:List Ed} {i j a b:Nat} (hi:i < d.length) (hj:j < d.length) (h1:a≤i) (h2:a≤j) (h3:i < b) (h4:j < b):Frm d (swL d i j) a b:=fun t q1 q2=>by
 rw [swL_key hi hj]
 split
 ·exact ⟨i,h1,h3,rfl⟩
 ·split
  ·exact ⟨j,h2,h4,rfl⟩
  ·exact ⟨t,q1,q2,rfl⟩
theorem neK_lt {a b:ByteArray} (h:sLt a b=true):a≠b:=fun q=>by rw [q,sLt_irr] at h; cases h
end Go.Proofs.YtfippaeoklnceaaGreat
namespace Go.Proofs.YtfippaeoklnceaaGreat
set_option maxRecDepth 100000
set_option maxHeartbeats 8000000
open Go.RowKit Apo
end Go.Proofs.YtfippaeoklnceaaGreat
namespace Go.Proofs.YtfippaeoklnceaaGreat
set_option maxRecDepth 100000
set_option maxHeartbeats 8000000
open Go.RowKit Apo
attribute [local go_sem ↓] app_exec
end Go.Proofs.YtfippaeoklnceaaGreat
namespace Go.Proofs.YtfippaeoklnceaaGreat
set_option maxRecDepth 100000
set_option maxHeartbeats 8000000
open Go.RowKit Apo
attribute [local go_sem ↓] app_exec
def EnP (R:List En→Prop) (w:World) (e:Ending) (w':World):Prop:=∃ (es:List En) (va:Option Addr) (vc:Nat),e=.returned (.slice va es.length vc)∧R es∧Row (fun g=>w.heap.size≤g) w' 40 2 (.slice va es.length vc) es.length (gcells cEn es)∧Below w.heap.size w w'
end Go.Proofs.YtfippaeoklnceaaGreat
