import Derived.Test.YtdhebpnkfookcaaGreatRM40
set_option maxRecDepth 100000
set_option maxHeartbeats 8000000
namespace Go.Proofs.YtdhebpnkfookcaaGreat
open Go.RowKit Go.Shelf Apo
section
attribute [local go_sem] Oper.semAt_some
def inR (lo hi:ByteArray) (e:En):Bool:=!(Z2 e.k lo) && (decide (hi=ByteArray.empty) || Z2 e.k hi)
def rgL (lo hi:ByteArray) (es:List En):List En:=es.filter (inR lo hi)
def rgC (lo hi:ByteArray) (es:List En) (k:Nat):Nat:=(rgL lo hi (es.take k)).length
theorem rg_at {lo hi:ByteArray} {es:List En} {k:Nat} {e:En} (h:es[k]?=some e):(inR lo hi e=false->rgC lo hi es (k+1)=rgC lo hi es k)/\(inR lo hi e=true->rgC lo hi es (k+1)=rgC lo hi es k+1/\(rgL lo hi es)[rgC lo hi es k]?=some e):=by
 obtain ⟨hk,he⟩:=List.getElem?_eq_some_iff.1 h
 have h1:es.take (k+1)=es.take k++[e]:=by rw [<- he];exact List.take_succ_eq_append_getElem hk
 refine ⟨fun q=>?_,fun q=>⟨?_,?_⟩⟩
 ·unfold rgC rgL;rw [h1,List.filter_append];simp [q]
 ·unfold rgC rgL;rw [h1,List.filter_append];simp [q]
 ·have h2:es=es.take k++e :: es.drop (k+1):=by rw [<- he,<- List.drop_eq_getElem_cons hk,List.take_append_drop]
  have h3:rgL lo hi es=rgL lo hi (es.take k)++e :: rgL lo hi (es.drop (k+1)):=by
   conv=>lhs;rw [h2]
   unfold rgL;rw [List.filter_append,List.filter_cons_of_pos q]
  rw [h3];unfold rgC;rw [List.getElem?_append_right (Nat.le_refl _),Nat.sub_self];rfl
structure RgJ (J:Nat->(Nat->Prop)->World->Prop) (lo hi:ByteArray) (es:List En) (By Bl Bh d ly:Nat) (r:Loop) (k:Nat) (U:Nat->Prop) (A:World):Prop where
 lp:LpAt d r A
 j:J (rgC lo hi es k) U A
 y:Ob A By 136 [.func (.yield ly) #[] #[]]
 lo:Ob A Bl 9 [.string lo]
 hi:Ob A Bh 9 [.string hi]
 u:¬ U By/\¬ U Bl/\¬ U Bh/\¬ U d/\¬ U (d+1)
def RgX (Jx:Nat->(Nat->Prop)->World->Prop) (lo hi:ByteArray) (es:List En) (d:Nat) (rd:Code->Loop) (_:Nat) (U:Nat->Prop) (A:World):Prop:=LpAt d (rd .ret) A/\∃ k,k<=(rgL lo hi es).length/\Jx k U A
def RgR (V:Nat->Prop) (Q:(Nat->Prop)->World->Prop) (U:Nat->Prop) (A A':World):Prop:=∃ U',Q U' A'/\Onl V A A'/\∀ i,U' i->U i\/A.heap.size<=i
theorem range1_in {it:Nat->En} {lp B:Nat} {X:Nat->Prop} {J Jx:Nat->(Nat->Prop)->World->Prop} (lo hi:ByteArray) (es:List En) (hlen:es.length<=1000000) (H:TellsE (rgL lo hi es).length it lp B X J Jx) (hit:∀ (i:Nat) e,(rgL lo hi es)[i]?=some e->it i=e) (nn:Nat) (W:World) (Ba Bl Bh Bs:Nat) (v:Value) (U:Nat->Prop) (hB:B<=W.heap.size) (hj:J 0 U W) (ha:Ob W Ba 75 [.func (.func 108) #[] #[.pointer (some ⟨Bs,0,none⟩)]]) (hl:Ob W Bl 9 [.string lo]) (hh:Ob W Bh 9 [.string hi]) (hb:Ob W Bs 22 [v]) (hr:Row (fun _=>True) W 43 2 v es.length (Zm es)) (hU:∀ i,v.ownBlock=some i->¬ U i) (hUl:¬ U Bl) (hUh:¬ U Bh) (hX:∀ i,X i->i < W.heap.size) :
  CallsIn Fence.wide nn Tryz.prog 67 #[.func (.yield lp) #[] #[],.pointer (some ⟨Ba,0,none⟩),.pointer (some ⟨Bl,0,none⟩),.pointer (some ⟨Bh,0,none⟩)] W (Told2 (rgL lo hi es).length X J Jx U W):=by
 obtain ⟨W0,hW0⟩:∃ W0,W0=W.alloc (.cells #[.func (.yield lp) #[] #[]] 136):=⟨_,rfl⟩;have b0:Below W.heap.size W W0:=by rw [hW0];exact (Below.refl _ W).alloc (Nat.le_refl _) _
 have s0:W0.heap.size=W.heap.size+1:=by rw [hW0];simp
 have ky:Ob W0 W.heap.size 136 [.func (.yield lp) #[] #[]]:=by rw [hW0];exact Ob.new W [.func (.yield lp) #[] #[]] 136
 have hlt:=H.lt _ _ _ hj;have y0:=(ha.old b0).cell 0;simp only [List.getElem?_cons_zero] at y0;rw [hW0] at y0;refine callsIn_of_wp_marks Tryz.func67 rfl trivial ?_ rfl;simp only [Tryz.ntmps67,List.size_toArray,List.length_cons,List.length_nil,Nat.reduceAdd,Nat.reduceSub,Array.replicate_succ,Array.replicate_zero,List.push_toArray,List.append_toArray,List.nil_append,List.cons_append];gi_wp2
 rw [<- hW0];clear hW0 y0;refine range_two (gf:=108) (lb:=#[.pointer (some ⟨Bs,0,none⟩)]) rfl enter_all1 (fun W2=>(∃ r2,W2.heap[W0.heap.size+1]?=some (.loop r2))/\∃ U',J (rgL lo hi es).length U' W2/\Onl U W W2/\∀ i,U' i->U i\/W.heap.size<=i) (fun c W2=>c=.ret/\(∃ r2,W2.heap[W0.heap.size+1]?=some (.loop r2))/\∃ k U',k<=(rgL lo hi es).length/\Jx k U' W2/\Onl (fun i=>U i\/X i) W W2/\∀ i,U' i->U i\/W.heap.size<=i) ?call ?done ?stop
 case call =>
  intro fn r rd W1 hr' hrd lp1 b1 s1
  have H2:TellsE es.length (fun k=>es.getD k ⟨ByteArray.empty,ByteArray.empty⟩) (W0.heap.size+1) (W0.heap.size+2) (fun i=>X i\/i=W0.heap.size+1) (RgJ J lo hi es W.heap.size Bl Bh W0.heap.size lp r) (RgX Jx lo hi es W0.heap.size rd):=by
   refine ⟨fun k U A B hj hb=>⟨hj.lp.below hb,H.bel _ _ _ _ hj.j hb,hj.y.old hb,hj.lo.old hb,hj.hi.old hb,hj.u⟩,fun k U A hj=>H.lt _ _ _ hj.j,fun k U A l o o' hj hl hA hc=>?_,fun k U A l o o' hj hl hA hc=>?_,fun k U A hj hk nn=>?_⟩
   ·have o2:Onl (fun i=>i=l) A (A.putObj l o'):=ZI _
    have hne:∀ {g t cs},Ob A g t cs->¬ (g=l):=fun {g t cs} kk q=>by
     have:A.heap[g]?=_:=kk;rw [q,hA] at this;cases this
     cases hc
    exact ⟨hj.lp.onl o2 (by omega) (by omega),H.put _ _ _ _ _ _ hj.j (by omega) hA hc,hj.y.onl o2 (hne hj.y),hj.lo.onl o2 (hne hj.lo),hj.hi.onl o2 (hne hj.hi),hj.u⟩
   ·obtain ⟨q1,k2,q2,q3⟩:=hj;have o2:Onl (fun i=>i=l) A (A.putObj l o'):=ZI _;exact ⟨q1.onl o2 (by omega) (by omega),k2,q2,H.putx _ _ _ _ _ _ q3 (by omega) hA hc⟩
   ·obtain ⟨x,hx⟩:∃ x,es[k]?=some x:=⟨es[k],List.getElem?_eq_getElem hk⟩;have hgd:es.getD k ⟨ByteArray.empty,ByteArray.empty⟩=x:=by simp [List.getD_eq_getElem?_getD,hx]
    simp only [hgd];obtain ⟨hno,hyes⟩:=rg_at (lo:=lo) (hi:=hi) hx;have ha:=congrArg Loop.assign hr';have hb:=congrArg Loop.body hr';have hpa:=congrArg Loop.params hr';have htm:=congrArg Loop.tmps hr';obtain ⟨rb,hrb⟩:∃ rb,rb={ r with state:=.busy }:=⟨_,rfl⟩;have lpA:=hj.lp;obtain ⟨d,hd⟩:∃ d,d=W0.heap.size:=⟨_,rfl⟩;show YieldAt Fence.wide nn Tryz.prog (W0.heap.size+1) _ A (fun e A'=>(e=.returned (.bool true)/\RgR U (RgJ J lo hi es W.heap.size Bl Bh W0.heap.size lp r (k+1)) U A A')\/(e=.returned (.bool false)/\RgR (fun i=>U i\/X i\/i=W0.heap.size+1) (RgX Jx lo hi es W0.heap.size rd (k+1)) U A A'))
    refine yield_two hrb hrd (by rw [hr'];rfl) (by rw [hr'];rfl) ha hb hpa htm hj.lp rfl ?_;simp only [recL];obtain ⟨A2,hA2⟩:∃ A2,A2=A.putObj (W0.heap.size+1) (.loop rb):=⟨_,rfl⟩;have o2:Onl (fun i=>i=W0.heap.size+1) A A2:=by rw [hA2];exact ZI _
    have hlb2:A2.heap[W0.heap.size+1]?=some (.loop rb):=by rw [hA2];exact World.putObj_heap_same (Array.getElem?_eq_some_iff.1 lpA.1).1
    have hne:∀ {g t cs},Ob A g t cs->¬ (g=W0.heap.size+1):=fun {g t cs} kk q=>by
     have:A.heap[g]?=_:=kk;rw [q,lpA.1] at this;cases this
    have ky2:=hj.y.onl o2 (hne hj.y);have kl2:=hj.lo.onl o2 (hne hj.lo);have kh2:=hj.hi.onl o2 (hne hj.hi);have jA2:J (rgC lo hi es k) U A2:=by rw [hA2];exact H.put _ _ _ _ _ _ hj.j (by omega) lpA.1 rfl
    have hd2:A2.heap[W0.heap.size]?=some (.deferred (some [])):=(o2.block _ (Array.getElem?_eq_some_iff.1 lpA.2).1 (by omega)).trans lpA.2;have z1:=ky2.cell 0;have z2:=kl2.cell 0;have z3:=kh2.cell 0;simp only [List.getElem?_cons_zero] at z1 z2 z3;have hu:=hj.u
    have back:∀ (V:Nat->Prop) (A3:World) (r3:Loop) (U3:Nat->Prop),Onl V A2 A3->¬ V W0.heap.size->¬ V (W0.heap.size+1)->(∀ i,U3 i->U i\/A2.heap.size<=i)->A3.heap[W0.heap.size+1]?=some (.loop rb)/\LpAt W0.heap.size r3 (A3.putObj (W0.heap.size+1) (.loop r3))/\(∀ i,U3 i->U i\/A.heap.size<=i):=by
     intro V A3 r3 U3 o3 v1 v2 u3;have e1:=(o3.block _ (Array.getElem?_eq_some_iff.1 hlb2).1 v2).trans hlb2;have e2:=(o3.block _ (Array.getElem?_eq_some_iff.1 hd2).1 v1).trans hd2;have o4:Onl (fun i=>i=W0.heap.size+1) A3 (A3.putObj (W0.heap.size+1) (.loop r3)):=ZI _;refine ⟨e1,⟨World.putObj_heap_same (Array.getElem?_eq_some_iff.1 e1).1,(o4.block _ (Array.getElem?_eq_some_iff.1 e2).1 (by omega)).trans e2⟩,fun i q=>(u3 i q).imp (fun z=>z) (fun z=>by have:=o2.size;omega)⟩
    have HNO:=Za hno;have HYES:=Za hyes;have HJA:=Za jA2;have HBACK:=Za back;have HO2:=Za o2;have HJJ:=Za hj;have HLPA:=Za lpA;have HK3:=Za (And.intro ky2 (And.intro kl2 kh2));have HD:=Za hx
    have fin1:∀ (a3:Act) (A3:World) (U3:Nat->Prop),Onl U A2 A3->(∀ i,U3 i->U i\/A2.heap.size<=i)->J (rgC lo hi es (k+1)) U3 A3->TwoP W0.heap.size r rb rd (RgR U (RgJ J lo hi es W.heap.size Bl Bh W0.heap.size lp r (k+1)) U A) (RgR (fun i=>U i\/X i\/i=W0.heap.size+1) (RgX Jx lo hi es W0.heap.size rd (k+1)) U A) .normal a3 A3:=by
     intro a3 A3 U3 o3 u3 j3;obtain ⟨e1,e2,e4⟩:=HBACK.out U A3 r U3 o3 hu.2.2.2.1 hu.2.2.2.2 u3;have o4:Onl (fun i=>i=W0.heap.size+1) A3 (A3.putObj (W0.heap.size+1) (.loop r)):=ZI _
     have hn3:∀ {g t cs},Ob A3 g t cs->¬ (g=W0.heap.size+1):=fun {g t cs} kk q=>by
      have:A3.heap[g]?=_:=kk;rw [q,e1] at this;cases this
     obtain ⟨p1,p2,p3⟩:=HK3.out;have p1':=p1.onl o3 hu.1;have p2':=p2.onl o3 hu.2.1;have p3':=p3.onl o3 hu.2.2.1;refine .inl ⟨rfl,e1,U3,⟨e2,H.put _ _ _ _ _ _ j3 (by omega) e1 rfl,p1'.onl o4 (hn3 p1'),p2'.onl o4 (hn3 p2'),p3'.onl o4 (hn3 p3'),?_⟩,?_,e4⟩
     ·have a1:=HJJ.out.y.lt;have a2:=HJJ.out.lo.lt;have a3:=HJJ.out.hi.lt;have a4:=(Array.getElem?_eq_some_iff.1 HLPA.out.1).1;have nu:∀ i,i < A.heap.size->¬ U i->¬ U3 i:=fun i hi hn q=>(e4 i q).elim hn (fun z=>by omega)
      exact ⟨nu _ a1 hu.1,nu _ a2 hu.2.1,nu _ a3 hu.2.2.1,nu _ (by omega) hu.2.2.2.1,nu _ a4 hu.2.2.2.2⟩
     ·exact onl_back (((HO2.out.mono (fun i q=>.inr q)).trans (o3.mono (fun i q=>.inl q))).trans (o4.mono (fun i q=>.inr q))) (e2.1.trans HLPA.out.1.symm)
    have fin2:∀ (a3:Act) (A3:World) (U3:Nat->Prop),Onl (fun i=>U i\/X i) A2 A3->(∀ i,U3 i->U i\/A2.heap.size<=i)->(∃ k,k<=(rgL lo hi es).length/\Jx k U3 A3)->TwoP W0.heap.size r rb rd (RgR U (RgJ J lo hi es W.heap.size Bl Bh W0.heap.size lp r (k+1)) U A) (RgR (fun i=>U i\/X i\/i=W0.heap.size+1) (RgX Jx lo hi es W0.heap.size rd (k+1)) U A) .ret a3 A3:=by
     intro a3 A3 U3 o3 u3 j3;obtain ⟨e1,e2,e4⟩:=HBACK.out _ A3 (rd .ret) U3 o3 (fun q=>q.elim hu.2.2.2.1 (fun z=>by have:=hX _ z;omega)) (fun q=>q.elim hu.2.2.2.2 (fun z=>by have:=hX _ z;omega)) u3;obtain ⟨k2,hk2,j3⟩:=j3;have o4:Onl (fun i=>i=W0.heap.size+1) A3 (A3.putObj (W0.heap.size+1) (.loop (rd .ret))):=ZI _;refine .inr ⟨.ret,rfl,e1,U3,⟨e2,k2,hk2,H.putx _ _ _ _ _ _ j3 (by omega) e1 rfl⟩,?_,e4⟩;exact ((HO2.out.mono (fun i q=>.inr (.inr q))).trans (o3.mono (fun i q=>q.imp (fun z=>z) .inl))).trans (o4.mono (fun i q=>.inr (.inr q)))
    have HF1:=Za fin1;have HF2:=Za fin2;have HYO:=Za (fun (j:J (rgC lo hi es k) U A2) (hin:inR lo hi x=true)=>H.yield _ U A2 j (by have:=(List.getElem?_eq_some_iff.1 (hyes hin).2).1;exact this) (nn - 1));have HIT:=Za (fun (hin:inR lo hi x=true)=>hit _ _ (hyes hin).2);cases hb1:Z2 x.k lo
    ·have hbl:Op.bytesLess x.k.toList lo.toList=false:=hb1;by_cases he:hi=ByteArray.empty
     ·have hin:inR lo hi x=true:=by simp [inR,hb1,he]
      have hee:hi=⟨#[]⟩:=he;have hnx:=(HYES.out hin).1;have C:=HYO.out HJA.out hin;rw [HIT.out hin] at C;obtain ⟨fn9,tmps9,assign9,body9,hy9,hR9⟩:=C;have HR9:=Za hR9;have HNX:=Za hnx;have hle:Hid (rgC lo hi es k+1<=(rgL lo hi es).length):=Za (by have:=(List.getElem?_eq_some_iff.1 (HYES.out hin).2).1;omega);clear hR9 hnx hin he;clear hno hyes jA2 back o2 hj lpA ky2 kl2 kh2 hx fin1 fin2 ha hb hpa htm hr' hrd hrb hgd hb1 hd2 hlb2 hne;gi_wp2
      rw [<- hA2];refine ⟨HLPA.out,?_⟩;clear hA2;gi_wp2
      refine ⟨fun q=>(by cases q),HR9.out.mono ?_⟩;rintro e A3 (⟨rfl,U3,j3,o3,u3⟩ | ⟨rfl,U3,j3,o3,u3⟩)
      ·have HG:=Za (fun a3=>HF1.out a3 A3 U3 o3 u3 (by rw [HNX.out];exact j3));clear j3 o3 u3;gi_wp2
       exact HG.out _
      ·have HG:=Za (fun a3=>HF2.out a3 A3 U3 o3 u3 ⟨_,hle.out,j3⟩);clear j3 o3 u3;gi_wp2
       exact HG.out _
     ·have hee:¬ (hi.toList=[]):=fun q=>he (ZA (by rw [q];exact (by simp:([]:List UInt8)=(⟨#[]⟩:ByteArray).toList)))
      have hef:hi.toList.isEmpty=false:=by rw [List.isEmpty_eq_false_iff];exact hee
      cases hb3:Z2 x.k hi
      ·have hbh:Op.bytesLess x.k.toList hi.toList=false:=hb3;have hin:inR lo hi x=false:=by simp [inR,hb1,he,hb3]
       clear he hb3;have HFF:Hid (∀ a3,TwoP W0.heap.size r rb rd (RgR U (RgJ J lo hi es W.heap.size Bl Bh W0.heap.size lp r (k+1)) U A) (RgR (fun i=>U i\/X i\/i=W0.heap.size+1) (RgX Jx lo hi es W0.heap.size rd (k+1)) U A) .normal a3 A2):=Za (fun a3=>HF1.out a3 A2 U (Onl.refl _ _) (fun i q=>.inl q) (by rw [HNO.out hin];exact HJA.out));clear hin;clear hno hyes jA2 back o2 hj lpA ky2 kl2 kh2 hx fin1 fin2 ha hb hpa htm hr' hrd hrb hgd hb1 hd2 hlb2 hne;gi_wp2
       rw [<- hA2];refine ⟨HLPA.out,?_⟩;clear hA2;gi_wp2
       exact HFF.out _
      ·have hbh:Op.bytesLess x.k.toList hi.toList=true:=hb3;have hin:inR lo hi x=true:=by simp [inR,hb1,hb3]
       clear he hb3;have hnx:=(HYES.out hin).1;have C:=HYO.out HJA.out hin;rw [HIT.out hin] at C;obtain ⟨fn9,tmps9,assign9,body9,hy9,hR9⟩:=C;have HR9:=Za hR9;have HNX:=Za hnx;have hle:Hid (rgC lo hi es k+1<=(rgL lo hi es).length):=Za (by have:=(List.getElem?_eq_some_iff.1 (HYES.out hin).2).1;omega);clear hR9 hnx hin;clear hno hyes jA2 back o2 hj lpA ky2 kl2 kh2 hx fin1 fin2 ha hb hpa htm hr' hrd hrb hgd hb1 hd2 hlb2 hne;gi_wp2
       rw [<- hA2];refine ⟨HLPA.out,?_⟩;clear hA2;gi_wp2
       refine ⟨fun q=>(by cases q),HR9.out.mono ?_⟩;rintro e A3 (⟨rfl,U3,j3,o3,u3⟩ | ⟨rfl,U3,j3,o3,u3⟩)
       ·have HG:=Za (fun a3=>HF1.out a3 A3 U3 o3 u3 (by rw [HNX.out];exact j3));clear j3 o3 u3;gi_wp2
        exact HG.out _
       ·have HG:=Za (fun a3=>HF2.out a3 A3 U3 o3 u3 ⟨_,hle.out,j3⟩);clear j3 o3 u3;gi_wp2
        exact HG.out _
    ·have hbl:Op.bytesLess x.k.toList lo.toList=true:=hb1;have hin:inR lo hi x=false:=by simp [inR,hb1]
     have HFF:Hid (∀ a3,TwoP W0.heap.size r rb rd (RgR U (RgJ J lo hi es W.heap.size Bl Bh W0.heap.size lp r (k+1)) U A) (RgR (fun i=>U i\/X i\/i=W0.heap.size+1) (RgX Jx lo hi es W0.heap.size rd (k+1)) U A) .normal a3 A2):=Za (fun a3=>HF1.out a3 A2 U (Onl.refl _ _) (fun i q=>.inl q) (by rw [HNO.out hin];exact HJA.out));clear hno hyes jA2 back o2 hj lpA ky2 kl2 kh2 hx fin1 fin2 ha hb hpa htm hr' hrd hrb hgd hin hb1 hd2 hlb2 hne;gi_wp2
     rw [<- hA2];refine ⟨HLPA.out,?_⟩;clear hA2;gi_wp2
     exact HFF.out _
  have hcn:rgC lo hi es es.length=(rgL lo hi es).length:=by unfold rgC;rw [List.take_length]
  have hj1:RgJ J lo hi es W.heap.size Bl Bh W0.heap.size lp r 0 U W1:=⟨lp1,H.bel _ _ _ _ (H.bel _ _ _ _ hj b0) b1,ky.old b1,(hl.old b0).old b1,(hh.old b0).old b1,fun q=>by have:=hlt _ q;omega,hUl,hUh,fun q=>by have:=hlt _ q;omega,fun q=>by have:=hlt _ q;omega⟩;refine (all1_in es hlen H2 (fun i e h=>by simp [List.getD_eq_getElem?_getD,h]) (nn - 1) W1 Bs v U hj1 ((hb.old b0).old b1) ((hr.onl (F:=fun _=>False) (Onl.ofBelow b0) (fun _ _ q=>q)).onl (F:=fun _=>False) (Onl.ofBelow b1) (fun _ _ q=>q)) hU).mono ?_;rintro e W2 ⟨hv,⟨U',j2,o2,u2⟩ | ⟨k,U',hk,⟨x1,k2,hk2,x2⟩,o2,u2⟩⟩
  ·refine ⟨hv,.inl ⟨j2.lp,⟨_,j2.lp.1⟩,U',by rw [<- hcn];exact j2.j,((Onl.ofBelow b0).trans (Onl.ofBelow b1)).trans o2,fun i q=>(u2 i q).imp (fun z=>z) (fun z=>by omega)⟩⟩
  ·exact ⟨hv,.inr ⟨.ret,x1,rfl,⟨_,x1.1⟩,k2,U',hk2,x2,((Onl.ofBelow b0).trans (Onl.ofBelow b1)).more o2 (fun i q=>q.elim (fun z=>.inl (.inl z)) (fun z=>z.elim (fun z=>.inl (.inr z)) (fun z=>.inr (by omega)))),fun i q=>(u2 i q).imp (fun z=>z) (fun z=>by omega)⟩⟩
 case done =>
  rintro W2 o ⟨⟨r2,l2⟩,U',j2,o2,u2⟩ dd dl;have hsz:=o2.size;have oa:Onl (fun i=>i=W0.heap.size+1) W2 (W2.putObj (W0.heap.size+1) o):=ZI _;have ed:(W2.putObj (W0.heap.size+1) o).heap[W0.heap.size]?=some (.deferred (some [])):=(oa.block _ (by omega) (by omega)).trans dd;have ob:Onl (fun i=>i=W0.heap.size) (W2.putObj (W0.heap.size+1) o) ((W2.putObj (W0.heap.size+1) o).putObj W0.heap.size (.deferred none)):=ZI _;have HF:Hid (Told2 (rgL lo hi es).length X J Jx U W (.returned (.tuple #[])) ((W2.putObj (W0.heap.size+1) o).putObj W0.heap.size (.deferred none))):=Za ⟨⟨_,rfl⟩,.inl ⟨U',H.put _ _ _ _ _ _ (H.put _ _ _ _ _ _ j2 (by omega) l2 rfl) (by omega) ed rfl,(o2.more oa (fun i q=>.inr (by omega))).more ob (fun i q=>.inr (by omega)),u2⟩⟩;have HD:=Za ed;obtain ⟨W3,hW3⟩:∃ W3,W3=W2.putObj (W0.heap.size+1) o:=⟨_,rfl⟩;obtain ⟨D,hD⟩:∃ D,D=W0.heap.size:=⟨_,rfl⟩;rw [<- hW3,<- hD] at HF HD;rw [<- hW3,<- hD];clear hW3 hD s0 j2 o2 u2 l2 r2 dd dl oa ed ob ky b0 hlt hsz;gi_wp2
  refine ⟨by simp,.inl ⟨_,_,rfl,run_takeDeferred HD.out,?_⟩⟩;exact ⟨_,results_none rfl _ _ _,HF.out⟩
 case stop =>
  rintro c W2 o ⟨rfl,⟨r2,l2⟩,k,U',hk,j2,o2,u2⟩ dd dl;have hsz:=o2.size;have oa:Onl (fun i=>i=W0.heap.size+1) W2 (W2.putObj (W0.heap.size+1) o):=ZI _;have ed:(W2.putObj (W0.heap.size+1) o).heap[W0.heap.size]?=some (.deferred (some [])):=(oa.block _ (by omega) (by omega)).trans dd;have ob:Onl (fun i=>i=W0.heap.size) (W2.putObj (W0.heap.size+1) o) ((W2.putObj (W0.heap.size+1) o).putObj W0.heap.size (.deferred none)):=ZI _;have HF:Hid (Told2 (rgL lo hi es).length X J Jx U W (.returned (.tuple #[])) ((W2.putObj (W0.heap.size+1) o).putObj W0.heap.size (.deferred none))):=Za ⟨⟨_,rfl⟩,.inr ⟨k,U',hk,H.putx _ _ _ _ _ _ (H.putx _ _ _ _ _ _ j2 (by omega) l2 rfl) (by omega) ed rfl,(o2.more oa (fun i q=>.inr (by omega))).more ob (fun i q=>.inr (by omega)),u2⟩⟩;have HD:=Za ed;obtain ⟨W3,hW3⟩:∃ W3,W3=W2.putObj (W0.heap.size+1) o:=⟨_,rfl⟩;obtain ⟨D,hD⟩:∃ D,D=W0.heap.size:=⟨_,rfl⟩;rw [<- hW3,<- hD] at HF HD;rw [<- hW3,<- hD];clear hW3 hD s0 j2 o2 u2 l2 r2 dd dl oa ed ob ky b0 hlt hsz;gi_wp2
  refine ⟨by simp,.inl ⟨_,_,rfl,run_takeDeferred HD.out,?_⟩⟩;exact ⟨_,results_none rfl _ _ _,HF.out⟩
theorem enter_range1:∀ args w,(callFunc 67 args).run Tryz.prog w=.ok (.enter 67 args) w:=fun _ _=>by kernel_rfl
def RngP (W:World) (lo hi:ByteArray) (es:List En) (e:Ending) (W':World):Prop:=∃ Ba Bl Bh Bs v,e=.returned (.func (.func 67) #[] #[.pointer (some ⟨Ba,0,none⟩),.pointer (some ⟨Bl,0,none⟩),.pointer (some ⟨Bh,0,none⟩)])/\W.heap.size<=Bl/\W.heap.size<=Bh/\Ob W' Ba 75 [.func (.func 108) #[] #[.pointer (some ⟨Bs,0,none⟩)]]/\Ob W' Bl 9 [.string lo]/\Ob W' Bh 9 [.string hi]/\Ob W' Bs 22 [v]/\Row (fun g=>W.heap.size<=g) W' 43 2 v es.length (Zm es)/\Below W.heap.size W W'
theorem trange_any {w W:World} {s m:Nat} {O:Nat->Prop} {T:List (List Int)} (h:TSw w W s O T m) (hT:T.length<=16000) (hx:TxOk T) (root:Nat) (ls:List (Nat × List En)) (ht:RootT T root ls) (hpos:∀ p ∈ ls,0 < p.2.length) (hsz:(ls.flatMap (fun p=>p.2)).length<=1000) (lo hi:ByteArray) :
  Calls Tryz.prog 38 #[.pointer (some ⟨s,0,none⟩),.int .u64 root,.string lo,.string hi] W (RngP W lo hi (ls.flatMap (fun p=>p.2))):=by
 obtain ⟨W2,hW2⟩:∃ W2,W2=(W.alloc (.cells #[.string lo] 9)).alloc (.cells #[.string hi] 9):=⟨_,rfl⟩;have b2:Below W.heap.size W W2:=by rw [hW2];exact ((Below.refl _ W).alloc (Nat.le_refl _) _).alloc (by simp) _
 have s2:W2.heap.size=W.heap.size+2:=by rw [hW2];simp
 have kl:Ob W2 W.heap.size 9 [.string lo]:=by rw [hW2];exact (Ob.new W [.string lo] 9).alloc _
 have kh:Ob W2 (W.heap.size+1) 9 [.string hi]:=by
  have:=Ob.new (W.alloc (.cells #[.string lo] 9)) [.string hi] 9;rw [World.size_alloc] at this;rw [hW2];exact this
 have C:=tall_any (h.below b2) hT hx root ls ht hpos hsz;obtain ⟨es,hes⟩:∃ es,es=ls.flatMap (fun p=>p.2):=⟨_,rfl⟩;rw [<- hes] at C ⊢;have HC:=Za C;have HK:=Za (And.intro kl (And.intro kh b2));clear C h hes hsz hpos ht kl kh b2;go_enter Tryz.func38,Tryz.ntmps38
 go_wp2_with fail
 rw [<- hW2];clear hW2;refine HC.out.mono ?_;rintro e w3 ⟨Bs,v,hBs,rfl,kb,r3,b3⟩;have hz:=b3.size;obtain ⟨kl,kh,b2⟩:=HK.out;have b4:Below w3.heap.size w3 (w3.alloc (.cells #[.func (.func 108) #[] #[.pointer (some ⟨Bs,0,none⟩)]] 75)):=(Below.refl _ w3).alloc (Nat.le_refl _) _
 have HF:Hid (RngP W lo hi es (.returned (.func (.func 67) #[] #[.pointer (some ⟨w3.heap.size,0,none⟩),.pointer (some ⟨W.heap.size,0,none⟩),.pointer (some ⟨W.heap.size+1,0,none⟩)])) (w3.alloc (.cells #[.func (.func 108) #[] #[.pointer (some ⟨Bs,0,none⟩)]] 75))):=by
  refine Za ⟨w3.heap.size,W.heap.size,W.heap.size+1,Bs,v,rfl,Nat.le_refl _,by omega,Ob.new w3 [.func (.func 108) #[] #[.pointer (some ⟨Bs,0,none⟩)]] 75,(kl.old b3).old b4,(kh.old b3).old b4,kb.old b4,⟨(r3.onl (F:=fun _=>False) (Onl.ofBelow b4) (fun _ _ q=>q)).1,fun g hg=>by have:=r3.2 g hg;omega⟩,b2.trans ((b3.trans (b4.mono hz)).mono b2.size)⟩
 clear kl kh b2 b3 b4 kb r3 HC HK hBs hz s2;go_wp2;go_ret
 exact HF.out
end
section
attribute [local go_sem] Oper.semAt_some
attribute [local go_sem ↓] app_sem
def mostL (L:List En) (most:Int):List En:=if most=0 then L else L.take most.toNat
def ScP (es:List En) (lo hi:ByteArray) (most:Int) (W:World) (e:Ending) (W':World):Prop :=
 (most < 0/\e=.returned (.tuple #[.slice none 0 0,.int .i64 1])/\Below W.heap.size W W')\/(0<=most/\∃ v,e=.returned (.tuple #[v,.int .i64 0])/\Row (fun g=>W.heap.size<=g) W' 43 2 v (mostL (rgL lo hi es) most).length (Zm (mostL (rgL lo hi es) most))/\Below W.heap.size W W')
theorem fin_scan {X:World} {tmps:Array Value} {D:Nat} {v:Value} {Q:Ending->World->Prop} (h1:X.heap[D]?=some (.deferred (some []))) (hr:tmps.getD 10 undef=v) (hr2:tmps.getD 11 undef=.int .i64 0) (hQ:Q (.returned (.tuple #[v,.int .i64 0])) (X.putObj D (.deferred none))) :
  bodyPostM Fence.wide 1 Tryz.prog Tryz.f20 Q Exit.ret { tmps:=tmps,defers:=[{ target:=.collected D,args:=#[] }] } X:=by
 refine ⟨by simp,.inl ⟨_,_,rfl,run_takeDeferred h1,?_⟩⟩;exact ⟨_,results_tmp2 rfl _ _ _,by rw [hr,hr2];exact hQ⟩
def ScJ (d:Nat) (r:Loop) (bx mb:Nat) (most:Int) (L:List En) (k:Nat) (U:Nat->Prop) (A:World):Prop:=BxJ d r bx [(mb,most)] L k U A/\(most=0\/(k:Int) < most)
def ScX (d:Nat) (r:Loop) (bx mb:Nat) (most:Int) (L:List En) (k:Nat) (U:Nat->Prop) (A:World):Prop:=BxJ d r bx [(mb,most)] L k U A/\(k:Int)=most/\0 < k
theorem wscan_any {w W:World} {s m:Nat} {O:Nat->Prop} {T:List (List Int)} (h:TSw w W s O T m) (hT:T.length<=16000) (hx:TxOk T) (root:Nat) (ls:List (Nat × List En)) (ht:RootT T root ls) (hpos:∀ p ∈ ls,0 < p.2.length) (hsz:(ls.flatMap (fun p=>p.2)).length<=1000) (lo hi:ByteArray) (most:Int) (hmm:most<=9223372036854775807) (hmn:-9223372036854775808<=most) :
  Calls Tryz.prog 20 #[.pointer (some ⟨s,0,none⟩),.int .u64 root,.string lo,.string hi,.int .i64 most] W (ScP (ls.flatMap (fun p=>p.2)) lo hi most W):=by
 refine (callsIn_wide (n:=1)).1 ?_;obtain ⟨W0,hW0⟩:∃ W0,W0=W.alloc (.cells #[.int .i64 most] 3):=⟨_,rfl⟩;have b0:Below W.heap.size W W0:=by rw [hW0];exact (Below.refl _ W).alloc (Nat.le_refl _) _
 have k0:Ob W0 W.heap.size 3 [.int .i64 most]:=by rw [hW0];exact Ob.new W [.int .i64 most] 3
 have C:=tlist_any (h.below b0) hT hx root ls ht hpos hsz;have HCR:=Za (fun W' (b:Below W.heap.size W W')=>trange_any (h.below b) hT hx root ls ht hpos hsz lo hi);obtain ⟨es,hes⟩:∃ es,es=ls.flatMap (fun p=>p.2):=⟨_,rfl⟩;rw [<- hes] at C HCR hsz ⊢;have HC:=Za C;have HB0:=Za b0;have HK0:=Za k0;have HSZ:=Za hsz;have y0:=k0.cell 0;simp only [List.getElem?_cons_zero] at y0;clear C h hT hx ht hpos hes b0 k0 hsz;refine callsIn_of_wp_marks Tryz.func20 rfl trivial ?_ rfl;simp only [Tryz.ntmps20,List.size_toArray,List.length_cons,List.length_nil,Nat.reduceAdd,Nat.reduceSub,Array.replicate_succ,Array.replicate_zero,List.push_toArray,List.append_toArray,List.nil_append,List.cons_append];obtain ⟨mb,hmb⟩:∃ mb,mb=W.heap.size:=⟨_,rfl⟩;have HMB:=Za hmb;rw [<- hmb] at y0 HK0;rw [hW0] at y0;by_cases hneg:most < 0
 ·have hd:decide (most < 0)=true:=decide_eq_true hneg;gi_wp2
  rw [<- hW0];exact ⟨_,results_tmp2 rfl _ _ _,.inl ⟨hneg,rfl,HB0.out⟩⟩
 have hd:decide (most < 0)=false:=decide_eq_false hneg;gi_wp2_with fail
 rw [<- hW0,<- hmb];clear hW0 y0 hmb;refine ⟨trivial,(callsIn_wide.2 HC.out).mono ?_⟩;rintro e w1 ⟨vl,rfl,rowl,b1⟩;have k1:=HK0.out.old b1;have B1:=HB0.out.trans (b1.mono HB0.out.size);obtain ⟨W1,hW1⟩:∃ W1,W1=w1.alloc (.cells #[.slice none 0 0] 22):=⟨_,rfl⟩;have c1:Below w1.heap.size w1 W1:=by rw [hW1];exact (Below.refl _ _).alloc (Nat.le_refl _) _
 have kx1:Ob W1 w1.heap.size 22 [.slice none 0 0]:=by rw [hW1];exact Ob.new w1 [.slice none 0 0] 22
 have km1:=k1.old c1;have BW1:=B1.trans (c1.mono B1.size);have HCR1:=Za (HCR.out W1 BW1);obtain ⟨bx,hbx⟩:∃ bx,bx=w1.heap.size:=⟨_,rfl⟩;have hbm:mb < bx:=by rw [hbx];exact k1.lt
 have HBX:=Za hbx;rw [<- hbx] at kx1;have HKX:=Za kx1;have HKM:=Za km1;have HBW:=Za BW1;have hb1s:=B1.size;obtain ⟨al,cl,hvl,_⟩:=rowl.form;subst hvl;clear rowl b1 k1 B1 c1 kx1 km1 BW1 HC HCR HK0 HB0;gi_wp2_with fail
 rw [<- hbx,<- hW1];clear hW1 hbx;refine ⟨trivial,(callsIn_wide.2 HCR1.out).mono ?_⟩;rintro e w7 ⟨Ba,Bl,Bh,Bs,v,rfl,hBl,hBh,kBa,kBl,kBh,kBs,rowA,bA⟩;have k7:=HKX.out.old bA;have m7:=HKM.out.old bA;obtain ⟨L,hL⟩:∃ L,L=rgL lo hi es:=⟨_,rfl⟩;have hLl:L.length<=1000:=by rw [hL];have:=List.length_filter_le (inR lo hi) es;have:=HSZ.out;unfold rgL;omega
 gi_wp2
 refine range_two (gf:=67) (lb:=#[.pointer (some ⟨Ba,0,none⟩),.pointer (some ⟨Bl,0,none⟩),.pointer (some ⟨Bh,0,none⟩)]) rfl enter_range1 (fun W2=>(∃ r2,W2.heap[w7.heap.size+1]?=some (.loop r2))/\∃ v2,Ob W2 bx 22 [v2]/\Row (fun g=>w7.heap.size+2<=g) W2 43 2 v2 (mostL L most).length (Zm (mostL L most))/\Onl (fun i=>i=bx) w7 W2) (fun c W2=>c=.exit 0/\(∃ r2,W2.heap[w7.heap.size+1]?=some (.loop r2))/\∃ v2,Ob W2 bx 22 [v2]/\Row (fun g=>w7.heap.size+2<=g) W2 43 2 v2 (mostL L most).length (Zm (mostL L most))/\Onl (fun i=>i=bx) w7 W2) ?call ?done ?stop
 case call =>
  intro fn r rd W1 hr' hrd lp1 b1 s1;have ha:=congrArg Loop.assign hr';have hb:=congrArg Loop.body hr';have hpa:=congrArg Loop.params hr';have htm:=congrArg Loop.tmps hr'
  have H2:TellsE L.length (fun k=>L.getD k ⟨ByteArray.empty,ByteArray.empty⟩) (w7.heap.size+1) (w7.heap.size+2) (fun i=>i=w7.heap.size+1) (ScJ w7.heap.size r bx mb most L) (ScX w7.heap.size (rd (.exit 0)) bx mb most L):=by
   refine ⟨fun k U A B hj hb=>⟨hj.1.below hb,hj.2⟩,fun k U A hj=>hj.1.lt,fun k U A l o o' hj hl hA hc=>⟨hj.1.put hl hA hc,hj.2⟩,fun k U A l o o' hj hl hA hc=>⟨hj.1.put hl hA hc,hj.2⟩,fun k U A hj0 hk nn=>?_⟩;obtain ⟨hj,hkm⟩:=hj0;obtain ⟨x,hx⟩:∃ x,L[k]?=some x:=⟨L[k],List.getElem?_eq_getElem hk⟩;have hgd:L.getD k ⟨ByteArray.empty,ByteArray.empty⟩=x:=by simp [List.getD_eq_getElem?_getD,hx]
   simp only [hgd];obtain ⟨rb,hrb⟩:∃ rb,rb={ r with state:=.busy }:=⟨_,rfl⟩;obtain ⟨A2,hA2⟩:∃ A2,A2=A.putObj (w7.heap.size+1) (.loop rb):=⟨_,rfl⟩;obtain ⟨va,vc,va8,vc8,w8,a1,_,RR,a4,a5,a6,a7,a8⟩:=bx_app hj hx (by simp;omega) (by omega) rb A2 hA2;have a6':=a6 (mb,most) (by simp);simp only at a6';show YieldAt Fence.wide nn Tryz.prog (w7.heap.size+1) _ A (fun e A'=>(e=.returned (.bool true)/\∃ U',ScJ w7.heap.size r bx mb most L (k+1) U' A'/\Onl U A A'/\∀ i,U' i->U i\/A.heap.size<=i)\/(e=.returned (.bool false)/\∃ U',ScX w7.heap.size (rd (.exit 0)) bx mb most L (k+1) U' A'/\Onl (fun i=>U i\/i=w7.heap.size+1) A A'/\∀ i,U' i->U i\/A.heap.size<=i))
   refine yield_two hrb hrd (by rw [hr'];rfl) (by rw [hr'];rfl) ha hb hpa htm hj.lp rfl ?_;simp only [recL];have z1:=a1.cell 0;have z1f:=a1.frozen 0;have y8:=a4.cell 0;have y8f:=a4.frozen 0;have y9:=a5.cell 0;have m9:=a6'.cell 0;simp only [List.getElem?_cons_zero] at z1 y8 y9 m9;obtain ⟨x1,x2,x3⟩:=Ze RR;have HLPA:=Za hj.lp;by_cases hlast:((k+1:Nat):Int)=most
   ·have HF:Hid (∀ a3:Act,TwoP w7.heap.size r rb rd (fun A'=>∃ U',ScJ w7.heap.size r bx mb most L (k+1) U' A'/\Onl U A A'/\∀ i,U' i->U i\/A.heap.size<=i) (fun A'=>∃ U':Nat->Prop,ScX w7.heap.size (rd (.exit 0)) bx mb most L (k+1) U' A'/\Onl (fun i=>U i\/i=w7.heap.size+1) A A'/\∀ i,U' i->U i\/A.heap.size<=i) (.exit 0) a3 (w8.setCell ⟨bx,0,none⟩ (.slice va8 (k+1:Nat) vc8))):=Za (fun a3=>by
     obtain ⟨U',u1,u2,_,u4⟩:=a8 (rd (.exit 0));exact .inr ⟨_,rfl,a7,U',⟨u1,hlast,Nat.succ_pos k⟩,u2,u4⟩)
    have ht:((k:Int)+1 == most)=true:=by simp;omega
    clear hj hx hgd ha hb hpa htm hr' hrd hrb a1 RR a4 a5 a6 a6' a7 a8 hlast hkm;gi_wp2
    rw [<- hA2];refine ⟨HLPA.out,?_⟩;clear hA2;gi_wp2
    exact HF.out _
   ·have HF:Hid (∀ a3:Act,TwoP w7.heap.size r rb rd (fun A'=>∃ U',ScJ w7.heap.size r bx mb most L (k+1) U' A'/\Onl U A A'/\∀ i,U' i->U i\/A.heap.size<=i) (fun A'=>∃ U':Nat->Prop,ScX w7.heap.size (rd (.exit 0)) bx mb most L (k+1) U' A'/\Onl (fun i=>U i\/i=w7.heap.size+1) A A'/\∀ i,U' i->U i\/A.heap.size<=i) .normal a3 (w8.setCell ⟨bx,0,none⟩ (.slice va8 (k+1:Nat) vc8))):=Za (fun a3=>by
     obtain ⟨U',u1,_,u3,u4⟩:=a8 r;exact .inl ⟨rfl,a7,U',⟨u1,by rcases hkm with q | q;exact .inl q;exact .inr (by omega)⟩,u3 rfl,u4⟩)
    have ht:((k:Int)+1 == most)=false:=by simp;omega
    clear hj hx hgd ha hb hpa htm hr' hrd hrb a1 RR a4 a5 a6 a6' a7 a8 hlast hkm;gi_wp2
    rw [<- hA2];refine ⟨HLPA.out,?_⟩;clear hA2;gi_wp2
    exact HF.out _
  have hj1:ScJ w7.heap.size r bx mb most L 0 (fun i=>i=bx) W1:=⟨⟨lp1,Nat.zero_le _,⟨.slice none 0 0,k7.old b1,by rw [List.take_zero];exact Row.nil _ _ _ _,fun i=>by simp [Value.ownBlock]⟩,fun z hz=>by rw [List.mem_singleton.1 hz];exact m7.old b1⟩,by omega⟩
  have HX1:∀ i,v.ownBlock=some i->¬ (i=bx):=fun i hi q=>by
   have:=(rowA.apartOb k7 (by decide));rw [hi,q] at this;exact this rfl
  have hbx7:=HKX.out.lt;have C:=range1_in lo hi es (by have:=HSZ.out;omega) (by rw [<- hL];exact H2) (fun i e h=>by rw [<- hL] at h;simp [List.getD_eq_getElem?_getD,h]) (1 - 1) W1 Ba Bl Bh Bs v (fun i=>i=bx) (by omega) hj1 (kBa.old b1) (kBl.old b1) (kBh.old b1) (kBs.old b1) ((rowA.mono (fun _ _=>trivial)).onl (F:=fun _=>False) (Onl.ofBelow b1) (fun _ _ q=>q)) HX1 (by omega) (by omega) (fun i q=>by omega);refine C.mono ?_;rw [<- hL];rintro e W2 ⟨hv,⟨U',⟨j2,jm⟩,o2,u2⟩ | ⟨k2,U',hk2,⟨j2,jm⟩,o2,u2⟩⟩
  ·obtain ⟨v2,q1,q2,q3⟩:=j2.got;rw [List.take_length] at q2
   have hml:mostL L most=L:=by
    unfold mostL;split
    ·rfl
    ·exact List.take_of_length_le (by omega)
   exact ⟨hv,.inl ⟨j2.lp,⟨_,j2.lp.1⟩,v2,q1,by rw [hml];exact q2,(Onl.ofBelow b1).trans o2⟩⟩
  ·obtain ⟨v2,q1,q2,q3⟩:=j2.got
   have hml:mostL L most=L.take k2:=by
    unfold mostL;rw [if_neg (by omega)];congr 1
    omega
   exact ⟨hv,.inr ⟨.exit 0,j2.lp,rfl,⟨_,j2.lp.1⟩,v2,q1,by rw [hml];exact q2,(Onl.ofBelow b1).more o2 (fun i q=>q.elim (fun z=>.inl z) (fun z=>.inr (by omega)))⟩⟩
 case done =>
  rintro W2 o ⟨⟨r2,l2⟩,v2,kx2,rowG,oG⟩ dd dl;have hsz2:=oG.size;have oa:Onl (fun i=>i=w7.heap.size+1) W2 (W2.putObj (w7.heap.size+1) o):=ZI _;obtain ⟨W8,hW8⟩:∃ W8,W8=W2.putObj (w7.heap.size+1) o:=⟨_,rfl⟩;rw [<- hW8] at oa ⊢;have ed:W8.heap[w7.heap.size]?=some (.deferred (some [])):=(oa.block _ (by omega) (by omega)).trans dd;have kx8:=kx2.onl oa (fun q=>ob_loopW kx2 l2 rfl q);have row8:=rowG.onl oa (fun g hg z=>Row.noLoop rowG l2 rfl (by rw [<- z];exact hg));have B1:=HBW.out.trans (bA.mono HBW.out.size);have hs7:=B1.size;have hbx:=HBX.out;have B2:=Below.onl B1 oG (fun i q=>by omega) (Nat.le_refl _);have B8:Below W.heap.size W W8:=Below.onl B2 oa (fun i q=>by omega) (Nat.le_refl _);have o5:Onl (fun i=>i=w7.heap.size) W8 (W8.putObj w7.heap.size (.deferred none)):=ZI _;have HF:Hid (ScP es lo hi most W (.returned (.tuple #[v2,.int .i64 0])) (W8.putObj w7.heap.size (.deferred none))):=Za (.inr ⟨by omega,v2,rfl,by rw [<- hL];exact (row8.mono (fun g q=>by omega)).onl o5 (fun g hg z=>by have:=row8.2 g hg;omega),Below.onl B8 o5 (fun i q=>by omega) (Nat.le_refl _)⟩);obtain ⟨ga,gc,hgv,_⟩:=row8.form;subst hgv;have x0:=kx8.cell 0;simp only [List.getElem?_cons_zero] at x0;have HED:=Za ed;obtain ⟨nq,hnq⟩:∃ n,n=(mostL L most).length:=⟨_,rfl⟩;rw [<- hnq] at x0 HF;clear hsz2 oa hW8 ed kx8 row8 B1 hs7 hbx B2 B8 o5 hnq kx2 rowG oG dd dl l2 r2 kBa kBl kBh kBs rowA bA k7 m7;gi_wp2
  refine fin_scan (v:=.slice ga nq gc) HED.out ?_ ?_ HF.out <;> rfl
 case stop =>
  rintro c W2 o ⟨rfl,⟨r2,l2⟩,v2,kx2,rowG,oG⟩ dd dl;have hsz2:=oG.size;have oa:Onl (fun i=>i=w7.heap.size+1) W2 (W2.putObj (w7.heap.size+1) o):=ZI _;obtain ⟨W8,hW8⟩:∃ W8,W8=W2.putObj (w7.heap.size+1) o:=⟨_,rfl⟩;rw [<- hW8] at oa ⊢;have ed:W8.heap[w7.heap.size]?=some (.deferred (some [])):=(oa.block _ (by omega) (by omega)).trans dd;have kx8:=kx2.onl oa (fun q=>ob_loopW kx2 l2 rfl q);have row8:=rowG.onl oa (fun g hg z=>Row.noLoop rowG l2 rfl (by rw [<- z];exact hg));have B1:=HBW.out.trans (bA.mono HBW.out.size);have hs7:=B1.size;have hbx:=HBX.out;have B2:=Below.onl B1 oG (fun i q=>by omega) (Nat.le_refl _);have B8:Below W.heap.size W W8:=Below.onl B2 oa (fun i q=>by omega) (Nat.le_refl _);have o5:Onl (fun i=>i=w7.heap.size) W8 (W8.putObj w7.heap.size (.deferred none)):=ZI _;have HF:Hid (ScP es lo hi most W (.returned (.tuple #[v2,.int .i64 0])) (W8.putObj w7.heap.size (.deferred none))):=Za (.inr ⟨by omega,v2,rfl,by rw [<- hL];exact (row8.mono (fun g q=>by omega)).onl o5 (fun g hg z=>by have:=row8.2 g hg;omega),Below.onl B8 o5 (fun i q=>by omega) (Nat.le_refl _)⟩);obtain ⟨ga,gc,hgv,_⟩:=row8.form;subst hgv;have x0:=kx8.cell 0;simp only [List.getElem?_cons_zero] at x0;have HED:=Za ed;obtain ⟨nq,hnq⟩:∃ n,n=(mostL L most).length:=⟨_,rfl⟩;rw [<- hnq] at x0 HF;clear hsz2 oa hW8 ed kx8 row8 B1 hs7 hbx B2 B8 o5 hnq kx2 rowG oG dd dl l2 r2 kBa kBl kBh kBs rowA bA k7 m7;gi_wp2
  refine fin_scan (v:=.slice ga nq gc) HED.out ?_ ?_ HF.out <;> rfl
end
end Go.Proofs.YtdhebpnkfookcaaGreat
