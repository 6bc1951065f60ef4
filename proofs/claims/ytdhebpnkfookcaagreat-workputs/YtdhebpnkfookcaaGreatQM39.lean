import Derived.Deep.Slices
import Derived.Test.YtdhebpnkfookcaaGreatQM38
set_option maxRecDepth 100000
set_option maxHeartbeats 4000000
namespace Go.Proofs.YtdhebpnkfookcaaGreat
open Go.RowKit Go.Shelf Apo
theorem rd_litW (W:World) (x:En):RdEn (W.alloc (.cells #[.string x.k,.string x.v] 43)) (some ⟨W.heap.size,0,none⟩) [x]:=by
 intro i e h;have hi:i=0:=by have:=(List.getElem?_eq_some_iff.1 h).1;simp at this;omega
 subst hi;simp only [List.getElem?_cons_zero,Option.some.injEq] at h
 subst h;exact ⟨_,_,rfl,by simp,by simp⟩
theorem ob_loopW {A:World} {g l:Nat} {t:TypeId} {cs:List Value} {o:Obj} (kk:Ob A g t cs) (hA:A.heap[l]?=some o) (hc:o.isCells=false):¬ (g=l):=fun q=>by
 have:A.heap[g]?=_:=kk;rw [q,hA] at this;cases this
 cases hc
structure BxJ (d:Nat) (r:Loop) (bx:Nat) (B:List (Nat × Int)) (L:List En) (k:Nat) (U:Nat->Prop) (A:World):Prop where
 lp:LpAt d r A
 kl:k<=L.length
 got:∃ v,Ob A bx 22 [v]/\Row (fun g=>d+2<=g) A 43 2 v (L.take k).length (Zq (L.take k))/\∀ i,U i↔i=bx\/v.ownBlock=some i
 mb:∀ x ∈ B,Ob A x.1 3 [.int .i64 x.2]
theorem BxJ.below {d:Nat} {r:Loop} {bx:Nat} {B:List (Nat × Int)} {L:List En} {k:Nat} {U:Nat->Prop} {A A':World} (hj:BxJ d r bx B L k U A) (hb:Below A.heap.size A A'):BxJ d r bx B L k U A':=by
 obtain ⟨v,q1,q2,q3⟩:=hj.got;exact ⟨hj.lp.below hb,hj.kl,⟨v,q1.old hb,q2.onl (F:=fun _=>False) (Onl.ofBelow hb) (fun _ _ q=>q),q3⟩,fun x hx=>(hj.mb x hx).old hb⟩
theorem BxJ.lt {d:Nat} {r:Loop} {bx:Nat} {B:List (Nat × Int)} {L:List En} {k:Nat} {U:Nat->Prop} {A:World} (hj:BxJ d r bx B L k U A):∀ i,U i->i < A.heap.size:=fun i hi=>by
 obtain ⟨v,q1,q2,q3⟩:=hj.got;rcases (q3 i).1 hi with q | q
 ·rw [q];exact q1.lt
 ·exact q2.lt i q
theorem BxJ.put {d:Nat} {r:Loop} {bx:Nat} {B:List (Nat × Int)} {L:List En} {k:Nat} {U:Nat->Prop} {A:World} {l:Nat} {o o':Obj} (h:BxJ d r bx B L k U A) (hl:d+2<=l) (hA:A.heap[l]?=some o) (hc:o.isCells=false):BxJ d r bx B L k U (A.putObj l o'):=by
 have o2:Onl (fun i=>i=l) A (A.putObj l o'):=put_onl _
 obtain ⟨v,q1,q2,q3⟩:=h.got;exact ⟨h.lp.onl o2 (by omega) (by omega),h.kl,⟨v,q1.onl o2 (ob_loopW q1 hA hc),q2.onl o2 (fun g hg z=>Row.noLoop q2 hA hc (by rw [<- z];exact hg)),q3⟩,fun x hx=>(h.mb x hx).onl o2 (ob_loopW (h.mb x hx) hA hc)⟩
theorem bx_app {d:Nat} {r:Loop} {bx:Nat} {B:List (Nat × Int)} {L:List En} {k:Nat} {U:Nat->Prop} {A:World} {x:En} (hj:BxJ d r bx B L k U A) (hx:L[k]?=some x) (hB:∀ z ∈ B,z.1≠bx) (hL:L.length<=100000) (rb:Loop) (A2:World) (hA2:A2=A.putObj (d+1) (.loop rb)) :
  ∃ (va:Option Addr) (vc:Nat) (va8:Option Addr) (vc8:Nat) (w8:World),Ob A2 bx 22 [.slice va k vc]/\(∀ z ∈ B,Ob A2 z.1 3 [.int .i64 z.2]) /\
   (Builtin.append_ #[22,22] 22 #[.slice va k vc,.slice (some ⟨A2.heap.size,0,none⟩) 1 1]).run Tryz.prog (A2.alloc (.cells #[.string x.k,.string x.v] 43))=.ok (.slice va8 (k+1:Nat) vc8) w8 /\
   Ob w8 bx 22 [.slice va k vc]/\Ob (w8.setCell ⟨bx,0,none⟩ (.slice va8 (k+1:Nat) vc8)) bx 22 [.slice va8 (k+1:Nat) vc8]/\(∀ z ∈ B,Ob (w8.setCell ⟨bx,0,none⟩ (.slice va8 (k+1:Nat) vc8)) z.1 3 [.int .i64 z.2]) /\
   (w8.setCell ⟨bx,0,none⟩ (.slice va8 (k+1:Nat) vc8)).heap[d+1]?=some (.loop rb) /\
   ∀ r':Loop,∃ U',BxJ d r' bx B L (k+1) U' ((w8.setCell ⟨bx,0,none⟩ (.slice va8 (k+1:Nat) vc8)).putObj (d+1) (.loop r'))/\Onl (fun i=>U i\/i=d+1) A ((w8.setCell ⟨bx,0,none⟩ (.slice va8 (k+1:Nat) vc8)).putObj (d+1) (.loop r'))/\(r'=r->Onl U A ((w8.setCell ⟨bx,0,none⟩ (.slice va8 (k+1:Nat) vc8)).putObj (d+1) (.loop r')))/\∀ i,U' i->U i\/A.heap.size<=i:=by
 obtain ⟨v,q1,q2,q3⟩:=hj.got;have hk:k < L.length:=(List.getElem?_eq_some_iff.1 hx).1
 have o1:Onl (fun i=>i=d+1) A A2:=by rw [hA2];exact put_onl _
 have k2:=q1.onl o1 (fun q=>ob_loopW q1 hj.lp.1 rfl q)
 have m2:∀ z ∈ B,Ob A2 z.1 3 [.int .i64 z.2]:=fun z hz=>(hj.mb z hz).onl o1 (fun q=>ob_loopW (hj.mb z hz) hj.lp.1 rfl q)
 have row2:=q2.onl o1 (fun g hg z=>Row.noLoop q2 hj.lp.1 rfl (by rw [<- z];exact hg))
 have hkt:(L.take k).length=k:=by rw [List.length_take];omega
 obtain ⟨va2,vc2,hva2,_⟩:=row2.form;rw [hkt] at hva2;subst hva2;have bL:Below A2.heap.size A2 (A2.alloc (.cells #[.string x.k,.string x.v] 43)):=(Below.refl _ _).alloc (Nat.le_refl _) _;have rowL:=row2.onl (F:=fun _=>False) (Onl.ofBelow bL) (fun _ _ q=>q)
 have htk:L.take (k+1)=L.take k++[x]:=by rw [List.take_add_one,hx];rfl
 obtain ⟨v8,w8,RR,r8,o8,ow8⟩:=app_Es (es:=[x]) (c:=1) (y:=⟨A2.heap.size,0,none⟩) rowL (by simp;omega) (rd_litW _ x)
 rw [<- htk] at r8;have hkt1:(L.take (k+1)).length=k+1:=by rw [List.length_take];omega
 obtain ⟨va8,vc8,hva8,_⟩:=r8.form;rw [hkt1] at hva8;rw [show [x].length=1 from rfl] at RR
 have hap1:(Value.slice va2 k vc2).ownBlock≠some bx:=rowL.apartOb (k2.old bL) (by decide)
 have k8:=(k2.old bL).onl o8 (fun q=>hap1 q)
 have m8:∀ z ∈ B,Ob w8 z.1 3 [.int .i64 z.2]:=fun z hz=>((m2 z hz).old bL).onl o8 (fun q=>rowL.apartOb ((m2 z hz).old bL) (by decide) q)
 subst hva8;obtain ⟨W9,hW9⟩:∃ W9,W9=w8.setCell ⟨bx,0,none⟩ (.slice va8 (k+1:Nat) vc8):=⟨_,rfl⟩;have o9:Onl (fun i=>i=bx) w8 W9:=by rw [hW9];exact (Onl.refl (fun i=>i=bx) w8).set (p:=bx) (.inl rfl) _
 have k9:Ob W9 bx 22 [.slice va8 (k+1:Nat) vc8]:=by rw [hW9];exact k8.set 0 _
 have hap3:(Value.slice va8 (k+1:Nat) vc8).ownBlock≠some bx:=r8.apartOb k8 (by decide)
 have r9:=r8.onl o9 (fun g hg z=>hap3 (by rw [<- z];exact hg))
 have m9:∀ z ∈ B,Ob W9 z.1 3 [.int .i64 z.2]:=fun z hz=>(m8 z hz).onl o9 (hB z hz)
 have hlpA:=hj.lp;have hA1:=(Array.getElem?_eq_some_iff.1 hlpA.1).1
 have hszA:A2.heap.size=A.heap.size:=by rw [hA2];simp
 have r9':Row (fun g=>d+2<=g) W9 43 2 (.slice va8 (k+1:Nat) vc8) (L.take (k+1)).length (Zq (L.take (k+1))):=⟨r9.1,fun g hg=>(r9.2 g hg).elim (fun z=>z) (fun z=>by rw [z];simp;omega)⟩
 have o29:Onl U A2 W9:=((Onl.ofBelow bL).trans (o8.mono (fun i q=>(q3 i).2 (.inr q)))).trans (o9.mono (fun i q=>(q3 i).2 (.inl q)))
 have hlo:∀ i,U i->¬ (i=d)/\¬ (i=d+1):=fun i hi=>by
  rcases (q3 i).1 hi with z | z
  ·rw [z];exact ⟨fun q=>ob_loopW q1 hlpA.2 rfl q,fun q=>ob_loopW q1 hlpA.1 rfl q⟩
  ·have:=q2.2 i z;omega
 have e1:A2.heap[d+1]?=some (.loop rb):=by rw [hA2];exact World.putObj_heap_same hA1
 have hd2:A2.heap[d]?=some (.deferred (some [])):=(o1.block d (Array.getElem?_eq_some_iff.1 hlpA.2).1 (by omega)).trans hlpA.2
 have e3:W9.heap[d+1]?=some (.loop rb):=(o29.block _ (Array.getElem?_eq_some_iff.1 e1).1 (fun q=>(hlo _ q).2 rfl)).trans e1
 have f3:W9.heap[d]?=some (.deferred (some [])):=(o29.block _ (Array.getElem?_eq_some_iff.1 hd2).1 (fun q=>(hlo _ q).1 rfl)).trans hd2
 refine ⟨va2,vc2,va8,vc8,w8,k2,m2,RR,k8,?_,?_,?_,fun r'=>?_⟩
 ·rw [<- hW9];exact k9
 ·rw [<- hW9];exact m9
 ·rw [<- hW9];exact e3
 rw [<- hW9];have o4:Onl (fun i=>i=d+1) W9 (W9.putObj (d+1) (.loop r')):=put_onl _
 have e4:(W9.putObj (d+1) (.loop r')).heap[d+1]?=some (.loop r'):=World.putObj_heap_same (Array.getElem?_eq_some_iff.1 e3).1
 have oo:Onl (fun i=>U i\/i=d+1) A (W9.putObj (d+1) (.loop r')):=((o1.mono (fun i q=>.inr q)).trans (o29.mono (fun i q=>.inl q))).trans (o4.mono (fun i q=>.inr q))
 refine ⟨fun i=>i=bx\/(Value.slice va8 (k+1:Nat) vc8).ownBlock=some i,⟨⟨e4,(o4.block _ (Array.getElem?_eq_some_iff.1 f3).1 (by omega)).trans f3⟩,hk,⟨_,k9.onl o4 (fun q=>ob_loopW k9 e3 rfl q),r9'.onl o4 (fun g hg z=>Row.noLoop r9' e3 rfl (by rw [<- z];exact hg)),fun i=>Iff.rfl⟩,fun z hz=>(m9 z hz).onl o4 (fun q=>ob_loopW (m9 z hz) e3 rfl q)⟩,oo,fun hr=>?_,fun i q=>?_⟩
 ·rw [hr] at e4 oo ⊢;exact onl_back oo (e4.trans hlpA.1.symm)
 ·rcases q with q | q
  ·exact .inl ((q3 i).2 (.inl q))
  ·rcases ow8 i q with z | z
   ·exact .inl ((q3 i).2 (.inr z))
   ·exact .inr (by rw [z];simp;omega)
end Go.Proofs.YtdhebpnkfookcaaGreat
namespace Apo
open Go Go.RowKit
def smallEn (e:En):Bool:=decide (e.k.size<=60) && decide (e.v.size<=250)
def lightB (l:List En):Bool:=l.all smallEn && decide (l.length<=60)
theorem all_take_false {α:Type} {p:α->Bool} {l:List α} {k:Nat} {x:α} (h:l[k]?=some x) (hx:p x=false):l.all p=false:=by
 rw [List.all_eq_false];exact ⟨x,List.mem_of_getElem? h,by rw [hx];simp⟩
end Apo
namespace Go.Proofs.YtdhebpnkfookcaaGreat
section
open Go.RowKit Apo
theorem light_any (w:World) (a:Option Addr) (c:Nat) (l:List En) (h:RdEn w a l) (hl:l.length<=9223372036854775807) (hz:∀ e ∈ l,e.k.size<=maxLen/\e.v.size<=maxLen) :
  Calls Tryz.prog 26 #[.slice a l.length c] w fun e w'=>e=.returned (.bool (lightB l))/\Below w.heap.size w w':=by
 obtain ⟨n,hn⟩:∃ n,n=l.length:=⟨_,rfl⟩;have HN:=Za hn;have HE:=Za h;have HZ:=Za hz;rw [<- hn] at hl ⊢;clear h hn hz;go_enter Tryz.func26,Tryz.ntmps26
 go_wp2;go_loopw [7] (fun i wr=>∃ k:Nat,k<=n/\i=.int .i64 k/\Hid ((l.take k).all smallEn=true)/\Hid (Below w.heap.size w wr)) (fun i _=>n - (intOf i).toNat)
 case atStart=>exact ⟨0,Nat.zero_le _,rfl,Za (by simp),Za (Below.refl _ _)⟩
 case round =>
  obtain ⟨k,hk,rfl,HS,HB⟩:=hrel;by_cases hkn:k < n
  ·obtain ⟨e,hek⟩:∃ e,l[k]?=some e:=⟨l[k]'(by have:=HN.out;omega),List.getElem?_eq_getElem _⟩
   obtain ⟨g,o,rfl,q1,q2⟩:=HE.out k e hek;have q1':=(HB.out.cell (p:=⟨g,o+k * 2,none⟩) (World.block_lt_of_cell? _ _ q1)).trans q1;have q2':=(HB.out.cell (p:=⟨g,o+k * 2+1,none⟩) (World.block_lt_of_cell? _ _ q2)).trans q2;have hsz:=HZ.out _ (List.mem_of_getElem? hek);obtain ⟨ek,ev⟩:=e;simp only at q1' q2' hsz;unfold maxLen at hsz;have HEK:=Za hek;have HBA:=Za (HB.out.alloc HB.out.size (.cells #[.string ek,.string ev] 43));clear q1 q2 hek;by_cases h1:ek.size<=60
   ·have d1:decide ((60:Int) < (ek.size:Int))=false:=by simp;omega
    have d1n:decide (60 < ek.size)=false:=by simp;omega
    by_cases h2:ev.size<=250
    ·have d2:decide ((250:Int) < (ev.size:Int))=false:=by simp;omega
     have d2n:decide (250 < ev.size)=false:=by simp;omega
     have HS2:Hid ((l.take (k+1)).all smallEn=true):=by
      refine Za ?_;rw [List.take_add_one,HEK.out,List.all_append,HS.out];simp [smallEn,h1,h2]
     go_wp2;go_roundw
     case rel=>exact ⟨k+1,by omega,by simp,HS2,HBA⟩
     case measure=>simp [intOf];omega
    ·have d2:decide ((250:Int) < (ev.size:Int))=true:=by simp;omega
     have d2n:decide (250 < ev.size)=true:=by simp;omega
     have HX:Hid (lightB l=false):=Za (by unfold lightB;rw [all_take_false HEK.out (by simp [smallEn,h2])];rfl)
     go_wp2;go_ret
     rw [HX.out];exact ⟨rfl,HBA.out⟩
   ·have d1:decide ((60:Int) < (ek.size:Int))=true:=by simp;omega
    have d1n:decide (60 < ek.size)=true:=by simp;omega
    have HX:Hid (lightB l=false):=Za (by unfold lightB;rw [all_take_false HEK.out (by simp [smallEn,h1])];rfl)
    go_wp2;go_ret
    rw [HX.out];exact ⟨rfl,HBA.out⟩
  ·obtain rfl:k=n:=by omega
   have HX:Hid (lightB l=decide (k<=60)):=by
    refine Za ?_;have q:=HS.out;rw [HN.out,List.take_length] at q;unfold lightB;rw [q,HN.out];simp
   have hdd:decide ((k:Int)<=60)=decide (k<=60):=by
    by_cases q:k<=60
    ·simp [q];omega
    ·simp [q];omega
   go_wp2;go_ret
   rw [HX.out];exact ⟨by rw [<- hdd];rfl,HB.out⟩
theorem rrises_any (w:World) (a:Option Addr) (c:Nat) (es:List En) (h:RdEn w a es) (hl:es.length<=1000000) :
  Calls Tryz.prog 46 #[.slice a es.length c] w (RsP es w):=by
 obtain ⟨n,hn⟩:∃ n,n=es.length:=⟨_,rfl⟩;have HN:=Za hn;have HR:=Za h;rw [<- hn] at hl ⊢;clear h hn;go_enter Tryz.func46,Tryz.ntmps46
 go_wp2;go_loopw [6] (fun v wr=>∃ i:Nat,i<=n/\v=.int .i64 i/\Hid (∀ t e f,t+1 < i->es[t]?=some e->es[t+1]?=some f->ZN e.k f.k=true)/\Hid (Below w.heap.size w wr)) (fun v _=>n - (intOf v).toNat)
 case atStart=>exact ⟨0,Nat.zero_le _,rfl,Za (fun t e f ht=>absurd ht (by omega)),Za (Below.refl _ _)⟩
 case round =>
  obtain ⟨i,hi2,rfl,HS,HB⟩:=hrel;by_cases hin:i < n
  ·by_cases hi0:i=0
   ·subst hi0;have HS3:Hid (∀ t e f,t+1 < 0+1->es[t]?=some e->es[t+1]?=some f->ZN e.k f.k=true):=Za (fun t e f ht=>absurd ht (by omega))
    clear HS;go_wp2;go_quiet (fail)
    go_wp2;go_roundw
    case rel=>exact ⟨1,by omega,by simp,HS3,Za (below_drewN HB.out _)⟩
    case measure=>simp [intOf];omega
   ·obtain ⟨i1,hi3⟩:∃ i1,i=i1+1:=⟨i - 1,by omega⟩
    obtain ⟨s1,hs1⟩:∃ s,es[i1]?=some s:=⟨es[i1]'(by have:=HN.out;omega),List.getElem?_eq_getElem _⟩
    obtain ⟨s2,hs2⟩:∃ s,es[i1+1]?=some s:=⟨es[i1+1]'(by have:=HN.out;omega),List.getElem?_eq_getElem _⟩
    obtain ⟨g,of,rfl,q1,_⟩:=(HR.out.below HB.out) i1 s1 hs1;obtain ⟨g2,of2,hgg,q2,_⟩:=(HR.out.below HB.out) (i1+1) s2 hs2;injection hgg with hgg
    injection hgg with e1 e2 _
    subst e1 e2;have hwi:IntKind.i64.wrap ((i:Int) - 1)=(i1:Int):=by rw [IntKind.wrap_i64];omega
    have hsub:(i:Int) - 1=(i1:Int):=by omega
    have hi1n:i1 < n:=by omega
    have hd0:decide ((0:Int) < (i:Int))=true:=decide_eq_true (by omega)
    have hd1:decide (0 < i)=true:=decide_eq_true (by omega)
    have hpos:0 < i:=by omega
    rw [<- hi3] at q2;have HI3:=Za hi3;have HS12:=Za (And.intro hs1 hs2);clear hs1 hs2 hi3;cases hb1:ZN s1.k s2.k
    ·have hbl:Op.bytesLess s1.k.toList s2.k.toList=false:=hb1
     have HX:Hid (¬ Rise (es.map En.k)):=Za (fun z=>by
      have q:=rise_getD z HS12.out.1 HS12.out.2;rw [hb1] at q;cases q)
     clear hb1;go_wp2;go_quiet (fail)
     go_wp2;go_ret
     exact ⟨false,rfl,⟨fun q=>(by cases q),fun q=>absurd q HX.out⟩,below_drewN HB.out _⟩
    ·have hbl:Op.bytesLess s1.k.toList s2.k.toList=true:=hb1
     have HS3:Hid (∀ t e f,t+1 < i+1->es[t]?=some e->es[t+1]?=some f->ZN e.k f.k=true):=by
      refine Za (fun t e f ht h1 h2=>?_)
      by_cases z:t+1 < i
      ·exact HS.out t e f z h1 h2
      ·obtain rfl:t=i1:=by have:=HI3.out;omega
       rw [HS12.out.1] at h1;rw [HS12.out.2] at h2;cases h1
       cases h2
       exact hb1
     clear hb1 HS;go_wp2;go_quiet (fail)
     go_wp2;go_roundw
     case rel=>exact ⟨i+1,by omega,by simp,HS3,Za (below_drewN HB.out _)⟩
     case measure=>simp [intOf];omega
  ·have HF:Hid (Rise (es.map En.k)):=Za (rise_all (fun t e f h1 h2=>HS.out t e f (by have:=(List.getElem?_eq_some_iff.1 h2).1;have:=HN.out;omega) h1 h2))
   clear HS;go_wp2;go_ret
   exact ⟨true,rfl,⟨fun _=>HF.out,fun _=>rfl⟩,HB.out⟩
def RrP (es:List En) (w:World) (e:Ending) (w':World):Prop:=e=.returned (.int .i64 (ZX es))/\Below w.heap.size w w'
theorem rright_any (W:World) (ea:Option Addr) (ec:Nat) (es:List En) (hr:RdEn W ea es) (hel:es.length<=1000000) (hsz:∀ e ∈ es,e.k.size<=maxLen/\e.v.size<=maxLen) :
  Calls Tryz.prog 27 #[.slice ea es.length ec] W (RrP es W):=by
 have C2:∀ W',Below W.heap.size W W'->Calls Tryz.prog 46 #[.slice ea es.length ec] W' (RsP es W'):=fun W' b=>rrises_any W' ea ec es (hr.below b) hel
 obtain ⟨ne,hne⟩:∃ ne,ne=es.length:=⟨_,rfl⟩;have hmx:maxLen<=9223372036854775807:=by decide
 have HC2:=Za C2;have HNE:=Za hne;have HR:=Za hr;have HSZ:=Za hsz;rw [<- hne] at HC2 hel ⊢;clear C2 hne hr hsz;go_enter Tryz.func27,Tryz.ntmps27
 go_wp2;go_loopw [9] (fun i wr=>∃ k:Nat,k<=ne/\i=.int .i64 k/\Hid (∀ y ∈ es.take k,enE y=0)/\Hid (Below W.heap.size W wr)) (fun i _=>ne - (intOf i).toNat)
 case atStart=>exact ⟨0,Nat.zero_le _,rfl,Za (fun y hy=>by simp at hy),Za (Below.refl _ _)⟩
 case round =>
  obtain ⟨k,hk,rfl,HP,HB⟩:=hrel;by_cases hkn:k < ne
  ·obtain ⟨⟨ek,ev⟩,hx⟩:∃ x,es[k]?=some x:=⟨es[k]'(by have:=HNE.out;omega),List.getElem?_eq_getElem _⟩
   obtain ⟨g,of,rfl,q1,q2⟩:=(HR.out.below HB.out) k _ hx;simp only at q1 q2;have hz:=HSZ.out _ (List.mem_of_getElem? hx);simp only at hz;obtain ⟨W1,hW1⟩:∃ W1,W1=wr.alloc (.cells #[.string ek,.string ev] 43):=⟨_,rfl⟩;have kb:Ob W1 wr.heap.size 43 [.string ek,.string ev]:=by rw [hW1];exact Ob.new wr [.string ek,.string ev] 43
   have b1:Below W.heap.size W W1:=by rw [hW1];exact HB.out.alloc HB.out.size _
   have y0:=kb.cell 0;have y1:=kb.cell 1;simp only [List.getElem?_cons_zero,List.getElem?_cons_succ] at y0 y1
   have CK:=rkey_any ek W1 (by omega)
   have CV:=rval_any ev W1 (by omega)
   have HX:=Za hx;have HB1:=Za b1;have HCK:=Za CK;have HCV:=Za CV;clear hx kb b1 CK CV;by_cases hke:ZT ek=0
   ·rw [hke] at HCK;by_cases hve:valE ev=0
    ·rw [hve] at HCV;have HN:Hid (∀ y ∈ es.take (k+1),enE y=0):=Za (take_enE HX.out HP.out (by rw [enE_val hke];exact hve))
     clear hke hve HP;go_wp2_with fail
     rw [<- hW1];clear hW1;refine HCK.out.mono ?_;rintro e w2 ⟨rfl,rfl⟩;go_wp2_with fail
     refine HCV.out.mono ?_;rintro e w2 ⟨rfl,rfl⟩;go_wp2;go_roundw
     case rel=>exact ⟨k+1,by omega,by simp,HN,HB1⟩
     case measure=>simp [intOf];omega
    ·have HF:Hid (RrP es W (.returned (.int .i64 (valE ev))) W1):=by
      have hq:ZX es=valE ev:=by rw [rightE_at HX.out HP.out (by rw [enE_val hke];exact hve),enE_val hke]
      exact Za ⟨by rw [hq],HB1.out⟩
     obtain ⟨er,her⟩:∃ er,er=valE ev:=⟨_,rfl⟩;rw [<- her] at HCV HF hve;have hb:(er != 0)=true:=by simpa using hve
     clear hke hve HP her;go_wp2_with fail
     rw [<- hW1];clear hW1;refine HCK.out.mono ?_;rintro e w2 ⟨rfl,rfl⟩;go_wp2_with fail
     refine HCV.out.mono ?_;rintro e w2 ⟨rfl,rfl⟩;go_wp2;go_ret
     exact HF.out
   ·have HF:Hid (RrP es W (.returned (.int .i64 (ZT ek))) W1):=by
     have hq:ZX es=ZT ek:=by rw [rightE_at HX.out HP.out (by rw [enE_key hke];exact hke),enE_key hke]
     exact Za ⟨by rw [hq],HB1.out⟩
    obtain ⟨er,her⟩:∃ er,er=ZT ek:=⟨_,rfl⟩;rw [<- her] at HCK HF hke;have hb:(er != 0)=true:=by simpa using hke
    clear hke HP her;go_wp2_with fail
    rw [<- hW1];clear hW1;refine HCK.out.mono ?_;rintro e w2 ⟨rfl,rfl⟩;go_wp2;go_ret
    exact HF.out
  ·have hf0:ZD enE es=0:=firstE_none (fun y hy=>HP.out y (by rw [List.take_of_length_le (by have:=HNE.out;omega)];exact hy))
   have CR:=HC2.out wr HB.out;have HF0:=Za hf0;have HCR:=Za CR;clear hf0 CR HP;go_wp2_with fail
   refine HCR.out.mono ?_;rintro e w2 ⟨b,rfl,hb,b2⟩;have HBW:=Za (HB.out.trans (b2.mono HB.out.size));cases b with
   | false =>
    have HF:Hid (RrP es W (.returned (.int .i64 90)) w2):=by
     have hq:ZX es=90:=by
      unfold ZX;rw [if_neg (by rw [HF0.out];simp),if_neg (fun q=>by have:=hb.2 q;cases this)]
     exact Za ⟨by rw [hq],HBW.out⟩
    clear hb b2;go_wp2;go_ret
    exact HF.out
   | true =>
    have HF:Hid (RrP es W (.returned (.int .i64 0)) w2):=by
     have hq:ZX es=0:=by
      unfold ZX;rw [if_neg (by rw [HF0.out];simp),if_pos (hb.1 rfl)]
     exact Za ⟨by rw [hq],HBW.out⟩
    clear hb b2;go_wp2;go_ret
    exact HF.out
def RgP (es:List En) (key:ByteArray) (w:World) (e:Ending) (w':World):Prop:=∃ (v:ByteArray) (b:Bool),e=.returned (.agg #[.bool b,.string v])/\Gets es key v b/\Below w.heap.size w w'
theorem size_side:(Tryz.prog.info? 35).map (·.size)=some 2:=by kernel_rfl
theorem fin_rget {W:World} {g:Nat} {c0 c1:Value} {tmps:Array Value} {Q:Ending->World->Prop} (k:Ob W g 35 [c0,c1]) (h4:tmps.getD 4 undef=.pointer (some ⟨g,0,none⟩)) (hq:Q (.returned (.agg #[c0,c1])) W) :
  bodyPost Tryz.prog Tryz.f15 Q Exit.ret { tmps:=tmps,defers:=[] } W:=by
 have hl:=run_loadVar_row (P:=Tryz.prog) W g 35 35 #[c0,c1] (0,0) _ k Tryz.underlying35 rfl (by rw [size_side];rfl)
 have h4':tmps[4]?.getD undef=.pointer (some ⟨g,0,none⟩):=by simpa using h4
 refine bodyPost_ret (v:=.agg #[c0,c1]) ?_ rfl hq;simp [results,Tryz.results15,asAddr,h4',hl]
theorem rget_any (w:World) (a:Option Addr) (c:Nat) (es:List En) (key:ByteArray) (h:RdEn w a es) (hl:es.length<=1000000) :
  Calls Tryz.prog 15 #[.slice a es.length c,.string key] w (RgP es key w):=by
 obtain ⟨n,hn⟩:∃ n,n=es.length:=⟨_,rfl⟩;have HN:=Za hn;obtain ⟨W0,hW0⟩:∃ W0,W0=w.alloc (.cells #[.bool false,.string ⟨#[]⟩] 35):=⟨_,rfl⟩;have b0:Below w.heap.size w W0:=by rw [hW0];exact (Below.refl _ w).alloc (Nat.le_refl _) _
 have s0:W0.heap.size=w.heap.size+1:=by rw [hW0];simp
 have k0:Ob W0 w.heap.size 35 [.bool false,.string ⟨#[]⟩]:=by rw [hW0];exact Ob.new w [.bool false,.string ⟨#[]⟩] 35
 have HR:=Za (h.below b0);have HB0:=Za b0;have HK0:=Za k0;rw [<- hn] at hl ⊢;clear h hn b0 k0;go_enter Tryz.func15,Tryz.ntmps15
 go_wp2;rw [<- hW0];clear hW0;go_loopw [9] (fun v wr=>∃ i:Nat,i<=n/\v=.int .i64 i/\Hid (∀ e ∈ es.take i,e.k≠key)/\Hid (Below W0.heap.size W0 wr)) (fun v _=>n - (intOf v).toNat)
 case atStart=>exact ⟨0,Nat.zero_le _,rfl,Za (fun e he=>by simp at he),Za (Below.refl _ _)⟩
 case round =>
  obtain ⟨i,hi2,rfl,HS,HB⟩:=hrel;have kr:=HK0.out.old HB.out;have sr:=HB.out.size;by_cases hin:i < n
  ·obtain ⟨⟨ek,ev⟩,hx⟩:∃ x,es[i]?=some x:=⟨es[i]'(by have:=HN.out;omega),List.getElem?_eq_getElem _⟩
   obtain ⟨g,of,rfl,q1,q2⟩:=(HR.out.below HB.out) i _ hx;simp only at q1 q2;obtain ⟨W1,hW1⟩:∃ W1,W1=wr.alloc (.cells #[.string ek,.string ev] 43):=⟨_,rfl⟩;have b1:Below wr.heap.size wr W1:=by rw [hW1];exact (Below.refl _ wr).alloc (Nat.le_refl _) _
   have kb:Ob W1 wr.heap.size 43 [.string ek,.string ev]:=by rw [hW1];exact Ob.new wr [.string ek,.string ev] 43
   have kr1:=kr.old b1;have bW1:Below w.heap.size w W1:=HB0.out.trans ((HB.out.mono (by omega)).trans (b1.mono (by omega)))
   by_cases hk:ek=key
   ·have hd:(ek.toList == key.toList)=true:=by rw [hk];simp
    have y0:=kb.cell 0;have y1:=kb.cell 1;have z0:=kr1.cell 0;have z1:=kr1.cell 1;have f0:=kr1.frozen 0;have f1:=kr1.frozen 1;simp only [List.getElem?_cons_zero,List.getElem?_cons_succ] at y0 y1 z0 z1
    obtain ⟨W2,hW2⟩:∃ W2,W2=(W1.setCell ⟨w.heap.size,0,none⟩ (.bool true)).setCell ⟨w.heap.size,1,none⟩ (.string ev):=⟨_,rfl⟩;have o2:Onl (fun j=>j=w.heap.size) W1 W2:=by rw [hW2];exact ((Onl.refl (fun j=>j=w.heap.size) W1).set (p:=w.heap.size) (.inl rfl) _).set (p:=w.heap.size) (.inl rfl) _
    have k2:Ob W2 w.heap.size 35 [.bool true,.string ev]:=by rw [hW2];exact (kr1.set 0 _).set 1 _
    have HF:Hid (RgP es key w (.returned (.agg #[.bool true,.string ev])) W2):=Za ⟨ev,true,rfl,.inl ⟨rfl,_,List.mem_of_getElem? hx,hk,rfl⟩,Below.onl bW1 o2 (fun j q=>by omega) (Nat.le_refl _)⟩
    have HK2:=Za k2;rw [hW2] at HF HK2;rw [hW1] at y0 y1 z0 z1 f0 f1 HF HK2;clear hW2 hW1 o2 k2 kr kr1 kb b1 bW1 hx hk HS HB;go_wp2;exact fin_rget HK2.out rfl HF.out
   ·have hd:(ek.toList == key.toList)=false:=by
     cases q:(ek.toList == key.toList) with
     | false=>rfl
     | true=>exact absurd (bytes_of_list (by simpa using q)) hk
    have y0:=kb.cell 0;simp only [List.getElem?_cons_zero] at y0
    have HS2:Hid (∀ e ∈ es.take (i+1),e.k≠key):=Za (fun e he=>by
     rw [List.take_add_one,hx] at he;rcases List.mem_append.1 he with q | q
     ·exact HS.out e q
     ·simp at q;rw [q];exact hk)
    have HB2:=Za (HB.out.trans (b1.mono (by omega)))
    rw [hW1] at y0 HB2;clear hW1 kr kr1 kb b1 bW1 hx hk HS HB;go_wp2;go_roundw
    case rel=>exact ⟨i+1,by omega,by simp,HS2,HB2⟩
    case measure=>simp [intOf];omega
  ·have hall:∀ e ∈ es,e.k≠key:=fun e he=>HS.out e (by rw [List.take_of_length_le (by have:=HN.out;omega)];exact he)
   have z0:=kr.cell 0;have z1:=kr.cell 1;have f0:=kr.frozen 0;have f1:=kr.frozen 1;simp only [List.getElem?_cons_zero,List.getElem?_cons_succ] at z0 z1
   obtain ⟨W2,hW2⟩:∃ W2,W2=(wr.setCell ⟨w.heap.size,0,none⟩ (.bool false)).setCell ⟨w.heap.size,1,none⟩ (.string ⟨#[]⟩):=⟨_,rfl⟩;have o2:Onl (fun j=>j=w.heap.size) wr W2:=by rw [hW2];exact ((Onl.refl (fun j=>j=w.heap.size) wr).set (p:=w.heap.size) (.inl rfl) _).set (p:=w.heap.size) (.inl rfl) _
   have k2:Ob W2 w.heap.size 35 [.bool false,.string ⟨#[]⟩]:=by rw [hW2];exact (kr.set 0 _).set 1 _
   have HF:Hid (RgP es key w (.returned (.agg #[.bool false,.string ⟨#[]⟩])) W2):=Za ⟨_,false,rfl,.inr ⟨rfl,rfl,hall⟩,Below.onl (HB0.out.trans (HB.out.mono (by omega))) o2 (fun j q=>by omega) (Nat.le_refl _)⟩
   have HK2:=Za k2;rw [hW2] at HF HK2;clear hW2 o2 k2 kr hall HS HB;go_wp2;exact fin_rget HK2.out rfl HF.out
theorem gets_uniq {es:List En} {key v v':ByteArray} {b b':Bool} (hr:ZY es) (h:Gets es key v b) (h':Gets es key v' b'):v=v'/\b=b':=by
 rcases h with ⟨rfl,e,h1,h2,h3⟩ | ⟨rfl,rfl,h1⟩
 ·rcases h' with ⟨rfl,f,k1,k2,k3⟩ | ⟨rfl,rfl,k1⟩
  ·obtain ⟨i,hi,qi⟩:=List.mem_iff_getElem.1 h1;obtain ⟨j,hj,qj⟩:=List.mem_iff_getElem.1 k1;have hP:=List.pairwise_iff_getElem.1 hr;rcases Nat.lt_trichotomy i j with z | z | z
   ·have:=hP i j hi hj z;rw [qi,qj,h2,k2,ZQ] at this;cases this
   ·subst z;rw [<- h3,<- k3,<- qi,<- qj];exact ⟨rfl,rfl⟩
   ·have:=hP j i hj hi z;rw [qi,qj,h2,k2,ZQ] at this;cases this
  ·exact absurd h2 (k1 e h1)
 ·rcases h' with ⟨rfl,f,k1,k2,k3⟩ | ⟨rfl,rfl,k1⟩
  ·exact absurd k2 (h1 f k1)
  ·exact ⟨rfl,rfl⟩
theorem tstore_any (w:World):Calls Tryz.prog 9 #[] w fun e W'=>∃ s O,e=.returned (.pointer (some ⟨s,0,none⟩))/\TSw w W' s O [] 1:=by
 have h8:8<=lenOf 16384:=by decide
 have H8:=Za h8;clear h8;go_enter Tryz.func9,Tryz.ntmps9
 go_wp2_with fail
 refine (cnew_any 16384 w).mono ?_;rintro e w1 ⟨d,rfl,k1,b1⟩;have L1:LwD w w1 d (Zk 16384) (Fresh w w1):=⟨k1,fun i q=>q.1,fun i q=>q.2,b1⟩
 have C2:=lopen_new L1 H8.out;have HC2:=Za C2;clear k1 b1 L1 C2;go_wp2_with fail
 refine HC2.out.mono ?_;rintro e w2 ⟨s,O2,rfl,L2⟩;have HF:=Za (show TSw w w2 s O2 [] 1 from ⟨d,_,L2,sta_new⟩)
 clear L2;go_wp2;go_ret
 exact ⟨s,O2,rfl,HF.out⟩
end
section
open Go.RowKit Apo Go.ChangeShapes Go.WideShapes Go.Deep
section
variable {H:Type} {enc:TypeId × Value->H} {w:World} {base:Nat} {spare:Nat->Bool} {held:Bool}
structure Tb where
 a:Option Addr
 c:Nat
 b:List Int
instance:Inhabited Tb:=⟨⟨none,0,[]⟩⟩
end
end
section
open Go.RowKit Apo Go.ChangeShapes Go.WideShapes Go.Deep
section
variable {H:Type} {enc:TypeId × Value->H} {w:World} {base:Nat} {spare:Nat->Bool} {held:Bool}
theorem open_ens {fuel:Nat} {v:Value} {x:DataW H × List MemPlace} (h:DataW.trod enc Tryz.prog w base spare held fuel 22 [v]=some x) :
  ∃ (a:Option Addr) (cap:Nat) (fs:List En),v=.slice a fs.length cap/\RdEn w a fs/\(∀ f ∈ fs,f.k.size<=maxLen/\f.v.size<=maxLen)/\fs.length<=cap/\cap<=maxLen/\(a=none->cap=0):=by
 rcases open_slice Tryz.underlying22 h with ⟨hcs,_⟩ | ⟨ad,len,cap,m,n,D,Pl,hcs,hb,hl,hm,hmm,_,hx⟩
 ·simp only [List.cons.injEq,and_true] at hcs;exact ⟨none,0,[],hcs,(fun i e hi=>by simp at hi),by simp,by simp,by omega,fun _=>rfl⟩
 ·simp only [List.cons.injEq,and_true] at hcs;have hlm:len<=m:=by rw [hmm];split <;> omega
  have ce:Tryz.prog.cellsOf 43=2:=by kernel_rfl
  have each:∀ i,i < len->∃ f:En,w.cell? (ad.add (i * 2))=some (.string f.k)/\w.cell? (ad.add (i * 2+1))=some (.string f.v)/\(f.k.size<=maxLen/\f.v.size<=maxLen):=by
   intro i hi;obtain ⟨cs',h1,h2⟩:=hx i (by omega)
   rw [ce] at h1;obtain ⟨_,hlen,hcell⟩:=World.cells?_some h1
   obtain ⟨xs,k,hk,hxy,_,hxl,hf⟩:=DataW.trod_struct Tryz.underlying43 h2;match xs,hxl,cs',hlen with
   | [y0,y1],_,[v0,v1],_ =>
    have c9:Tryz.prog.cellsOf 9=1:=by kernel_rfl
    have g0:=hf 0 _ rfl;have g1:=hf 1 _ rfl;simp [c9] at g0 g1
    obtain ⟨kk,e0,_,w0⟩:=DataW.trod_string Tryz.underlying9 g0;obtain ⟨vv,e1,_,w1⟩:=DataW.trod_string Tryz.underlying9 g1;have q0:=hcell 0 (by omega)
    have q1:=hcell 1 (by omega)
    rw [add_add] at q0 q1;simp only [List.cons.injEq,and_true] at e0 e1;subst e0 e1;exact ⟨⟨kk,vv⟩,by simpa using q0,by simpa using q1,w0,w1⟩
  obtain ⟨F,hF⟩:=choose_lt each;refine ⟨some ad,cap,(List.range len).map F,by simpa using hcs,?_,?_,by simp;omega,by omega,fun e=>by cases e⟩
  ·intro i f hi;obtain ⟨hlt,hv⟩:=List.getElem?_eq_some_iff.1 hi
   have hil:i < len:=by simpa using hlt
   have hfi:F i=f:=by simpa using hv
   obtain ⟨p0,p1,_⟩:=hF i hil;have z0:=(hF 0 (by omega)).1
   obtain ⟨b,off,spot⟩:=ad;have hspot:spot=none:=by simpa [Addr.add] using World.cell?_spot z0
   subst hspot;rw [hfi] at p0 p1;rw [add_plain] at p0 p1;exact ⟨b,off,rfl,p0,by simpa [Nat.add_assoc] using p1⟩
  ·intro f hf;simp only [List.mem_map,List.mem_range] at hf;obtain ⟨i,hi,rfl⟩:=hf;exact (hF i hi).2.2
structure EsA where
 a:Option Addr
 c:Nat
 l:List En
structure OkEs (w:World) (x:EsA):Prop where
 rd:RdEn w x.a x.l
 sz:∀ e ∈ x.l,e.k.size<=maxLen/\e.v.size<=maxLen
 len:x.l.length<=x.c
 big:x.c<=maxLen
 nil:x.a=none->x.c=0
theorem OkEs.below {w w':World} {x:EsA} (h:OkEs w x) (b:Below w.heap.size w w'):OkEs w' x:={ h with rd:=h.rd.below b }
theorem ens_in {r:Reach} {b0:Nat} {v:Value} {d:DataW H} {ps:List MemPlace} (hval:Value.okWide Tryz.prog w r b0 22 v) (h:DataW.Trod enc Tryz.prog w base spare held 22 v d ps):∃ t:EsA,v=.slice t.a t.l.length t.c/\OkEs w t:=by
 obtain ⟨a,l,c,rfl⟩:=okWide_slice Tryz.underlying22 hval;obtain ⟨fuel,hf⟩:=h;obtain ⟨a',c',fs,e,h1,h2,h3,h4,h5⟩:=open_ens hf;exact ⟨⟨a',c',fs⟩,e,⟨h1,h2,h3,h4,h5⟩⟩
end
end
section
open Go.RowKit Apo
theorem TBld.good {w W W':World} {s m:Nat} {O:Nat->Prop} {T:List (List Int)} {es:List En} {e:Ending} (h:TBld w W s O T m es e W') (hr:ZX es=0):TRoot w W s O T m es e W':=by
 rcases h with ⟨q,_⟩ | ⟨_,q⟩
 ·exact absurd hr q
 ·exact q
theorem rightE_nil:ZX []=0:=by
 unfold ZX;rw [if_neg (by simp [ZD]),if_pos (show Rise (([]:List En).map En.k) from List.Pairwise.nil)]
end
end Go.Proofs.YtdhebpnkfookcaaGreat
