import Derived.Test.YtdhebpnkfookcaaGreatQM40
set_option maxRecDepth 100000
set_option maxHeartbeats 8000000
namespace Go.Proofs.YtdhebpnkfookcaaGreat
open Go.RowKit Apo Go.Sort
attribute [local go_sem ↓] ldE_exec stE_exec
def InI (d:List Ed) (a i j:Nat):Prop:=∀ p q,a<=p->p < q->q<=i->q≠j->leK (ZF d p) (ZF d q)
theorem InI.stop {d:List Ed} {a i j:Nat} (h:InI d a i j) (hji:j<=i) (hs:j<=a\/leK (ZF d (j - 1)) (ZF d j)):SrtIn d a (i+1):=fun p q h1 h2 h3=>by
 by_cases z:q=j
 ·subst z;rcases hs with y | y
  ·omega
  ·by_cases x:p=q - 1
   ·rw [x];exact y
   ·exact leK_trans (h p (q - 1) h1 (by omega) (by omega) (by omega)) y
 ·exact h p q h1 h2 (by omega) z
theorem InI.step {d:List Ed} {a i j:Nat} (h:InI d a i j) (haj:a < j) (hji:j<=i) (hil:i < d.length) (hlt:ZN (ZF d j) (ZF d (j - 1))=true):InI (swL d j (j - 1)) a i (j - 1):=fun p q h1 h2 h3 h4=>by
 rw [swL_key (by omega) (by omega),swL_key (by omega) (by omega)]
 rw [if_neg h4];by_cases z:q=j
 ·rw [if_pos z];by_cases x:p=j - 1
  ·rw [if_pos x];exact leK_of hlt
  ·rw [if_neg x,if_neg (by omega)]
   exact h p (j - 1) h1 (by omega) (by omega) (by omega)
 ·rw [if_neg z];by_cases x:p=j - 1
  ·rw [if_pos x];exact h j q (by omega) (by omega) h3 z
  ·rw [if_neg x];by_cases y:p=j
   ·rw [if_pos y];exact h (j - 1) q (by omega) (by omega) h3 z
   ·rw [if_neg y];exact h p q h1 h2 h3 z
structure CmpE (cf:Nat):Prop where
 en:∀ args w,(callFunc cf args).run Tryz.prog w=.ok (.enter cf args) w
 gives:∀ (x y:Ed) (W:World),Calls Tryz.prog cf #[aggE x,aggE y] W fun e w'=>e=.returned (.int .i64 (cmpS x.k y.k))/\∃ q os,w'=grow (W.drewN q) os
structure Kee (w:World) (g:Nat) (ex:List Value) (d0:List Ed) (a b:Nat) (d:List Ed) (W:World):Prop where
 ro:RoE W g d ex
 stb:Stb d0 d
 out:Out d0 d a b
 frm:Frm d0 d a b
 on:Onl (fun j=>j=g) w W
theorem Kee.len {w:World} {g:Nat} {ex:List Value} {d0:List Ed} {a b:Nat} {d:List Ed} {W:World} (h:Kee w g ex d0 a b d W):d.length=d0.length:=h.stb.1
theorem Kee.grown {w:World} {g:Nat} {ex:List Value} {d0:List Ed} {a b:Nat} {d:List Ed} {W W':World} (h:Kee w g ex d0 a b d W) (hb:Below W.heap.size W W'):Kee w g ex d0 a b d W':=⟨h.ro.old hb,h.stb,h.out,h.frm,h.on.trans (Onl.ofBelow hb)⟩
theorem Kee.swap {w:World} {g:Nat} {ex:List Value} {d0:List Ed} {a b:Nat} {d:List Ed} {W S2:World} {i:Nat} (h:Kee w g ex d0 a b d W) (hr:RoE S2 g (swL d (i+1) i) ex) (ho:Onl (fun j=>j=g) W S2) (hi:i+1 < d.length) (ha:a<=i) (hb:i+1 < b) (hk:ZF d i≠ZF d (i+1)):Kee w g ex d0 a b (swL d (i+1) i) S2 :=
 ⟨hr,h.stb.trans (by rw [swL_comm hi (by omega)];exact swL_stb hi hk),Out.trans h.out (swL_out (a:=a) (b:=b) hi (by omega) (by omega) ha hb (by omega)) (Nat.le_refl _) (Nat.le_refl _) (Nat.le_refl _) (Nat.le_refl _),h.frm.trans (swL_frm hi (by omega) (by omega) ha hb (by omega)),h.on.trans ho⟩
theorem Kee.swap' {w:World} {g:Nat} {ex:List Value} {d0:List Ed} {a b:Nat} {d:List Ed} {W S2:World} {i:Nat} (h:Kee w g ex d0 a b d W) (hr:RoE S2 g (swL d i (i+1)) ex) (ho:Onl (fun j=>j=g) W S2) (hi:i+1 < d.length) (ha:a<=i) (hb:i+1 < b) (hk:ZF d i≠ZF d (i+1)):Kee w g ex d0 a b (swL d i (i+1)) S2 :=
 ⟨hr,h.stb.trans (swL_stb hi hk),Out.trans h.out (swL_out (a:=a) (b:=b) (by omega) hi ha (by omega) (by omega) hb) (Nat.le_refl _) (Nat.le_refl _) (Nat.le_refl _) (Nat.le_refl _),h.frm.trans (swL_frm (by omega) hi ha (by omega) (by omega) hb),h.on.trans ho⟩
theorem RoE.grown {w:World} {g:Nat} {d:List Ed} {ex:List Value} (h:RoE w g d ex) {i:Nat} {x:Ed} (hx:d[i]?=some x):(∀ n os,(grow (w.drewN n) os).cell? ⟨g,i * 3,none⟩=some (.string x.k))/\(∀ n os,(grow (w.drewN n) os).cell? ⟨g,i * 3+1,none⟩=some (.string x.v))/\∀ n os,(grow (w.drewN n) os).cell? ⟨g,i * 3+2,none⟩=some (.bool x.g) :=
 ⟨fun n os=>(h.old (below_grown_sl _ w n os (Nat.le_refl _))).at hx 0 _ rfl,fun n os=>(h.old (below_grown_sl _ w n os (Nat.le_refl _))).at hx 1 _ rfl,fun n os=>(h.old (below_grown_sl _ w n os (Nat.le_refl _))).at hx 2 _ rfl⟩
def InP (w:World) (g:Nat) (ex:List Value) (d:List Ed) (a b:Nat) (e:Ending) (w':World):Prop:=SoP w g ex (fun d'=>Stb d d'/\Out d d' a b/\Frm d d' a b/\SrtIn d' a b) e w'
theorem ins_any (cf:Nat) (hcf:CmpE cf) (w:World) (g cap:Nat) (d:List Ed) (ex:List Value) (h:RoE w g d ex) (hl:d.length<=1000000) (a b:Nat) (hab:a<=b) (hb:b<=d.length) :
  Calls Tryz.prog 193 #[.slice (some ⟨g,0,none⟩) d.length cap,.int .i64 a,.int .i64 b,.func (.func cf) #[] #[]] w (InP w g ex d a b):=by
 have eg:=hcf.en;have HC:=Za hcf;obtain ⟨ln,hln⟩:∃ ln,ln=d.length:=⟨_,rfl⟩;have HLN:=Za hln;have HK0:Hid (Kee w g ex d a b d w):=Za ⟨h,Stb.refl _,Out.refl _ _ _,Frm.refl _ _ _,Onl.refl _ _⟩;rw [<- hln] at hb hl ⊢;clear h hln hcf;have mixed:Tryz.prog.follows .mixedOrders=true:=by kernel_rfl
 go_enter Tryz.func193,Tryz.ntmps193
 go_wp2;go_loopw [8] (fun v wr=>∃ (i:Nat) (d':List Ed),a < i/\(i<=b\/i=a+1)/\v=.int .i64 i/\Hid (Kee w g ex d a b d' wr/\SrtIn d' a i)) (fun v _=>b+1 - (intOf v).toNat)
 case atStart=>exact ⟨a+1,d,by omega,.inr rfl,by go_num,Za ⟨HK0.out,fun i j h1 h2 h3=>by omega⟩⟩
 case round =>
  obtain ⟨i,d1,hai,hib,rfl,HK1⟩:=hrel;by_cases hlt:i < b
  ·have hltz:decide ((i:Int) < (b:Int))=true:=decide_eq_true (by omega)
   obtain ⟨w1,rfl⟩:∃ w1,w1=wr:=⟨_,rfl⟩;go_wp2;go_loopw [9] (fun v wr=>∃ (j:Nat) (d':List Ed),a<=j/\j<=i/\v=.int .i64 j/\Hid (Kee w g ex d a b d' wr/\InI d' a i j)) (fun v _=>(intOf v).toNat)
   case atStart=>exact ⟨i,d1,by omega,Nat.le_refl _,rfl,Za ⟨HK1.out.1,fun p q h1 h2 h3 h4=>HK1.out.2 p q h1 h2 (by omega)⟩⟩
   case round =>
    clear HK1;obtain ⟨j,d2,haj,hji,rfl,HK2⟩:=hrel;have hlen2:=HK2.out.1.len;have hlen3:=HLN.out;by_cases hja:a < j
    ·obtain ⟨jp,hjp⟩:∃ jp,jp=j - 1:=⟨_,rfl⟩;have hjaz:decide ((a:Int) < (j:Int))=true:=decide_eq_true (by omega)
     have hjaz2:(a:Int) < (j:Int):=by omega
     obtain ⟨xj,hxj⟩:∃ x,d2[j]?=some x:=⟨d2[j]'(by omega),List.getElem?_eq_getElem _⟩
     obtain ⟨xp,hxp⟩:∃ x,d2[jp]?=some x:=⟨d2[jp]'(by omega),List.getElem?_eq_getElem _⟩
     obtain ⟨j1,j2,j3⟩:=HK2.out.1.ro.grown hxj;obtain ⟨p1,p2,p3⟩:=HK2.out.1.ro.grown hxp;have HX:=Za (And.intro (ZP hxj) (ZP hxp));have hcg:∀ n os,Calls Tryz.prog cf #[aggE xj,aggE xp] (grow (wr.drewN n) os) fun e w'=>e=.returned (.int .i64 (cmpS xj.k xp.k))/\∃ q os',w'=grow ((grow (wr.drewN n) os).drewN q) os':=fun n os=>HC.out.gives xj xp _
     have HLE:Hid (cmpS xj.k xp.k < 0↔ZN xj.k xp.k=true):=Za cmpS_lt;obtain ⟨z,hz⟩:∃ z,z=cmpS xj.k xp.k:=⟨_,rfl⟩;rw [<- hz] at hcg HLE;unfold aggE at hcg;have wj:IntKind.i64.wrap ((j:Int) - 1)=(jp:Int):=by rw [IntKind.wrap_i64];omega
     have wj2:(j:Int) - 1=(jp:Int):=by omega
     have wj3:IntKind.i64.wrap (jp:Int)=(jp:Int):=by rw [IntKind.wrap_i64];omega
     have g1:j < ln:=by omega
     have g2:jp < ln:=by omega
     have HG:Hid (∀ n os,Below wr.heap.size wr (grow (wr.drewN n) os)):=Za (fun n os=>below_grown_sl _ wr n os (Nat.le_refl _))
     have HJP:=Za hjp;clear hxj hxp hz hlen2 hlen3 hjp;by_cases hneg:z < 0
     ·have hd:decide (z < 0)=true:=decide_eq_true hneg;go_wp2_with fail
      go_quiet_grown (first | (go_at_fn cf;refine Calls.grown_of (hcg _ _)))
      go_wp2_with fail
      obtain ⟨W3,hW3⟩:∃ W3,W3=grow (wr.drewN nq) osq:=⟨_,rfl⟩;have b3:Below wr.heap.size wr W3:=by rw [hW3];exact HG.out nq osq
      rw [<- hW3];have K3:=HK2.out.1.grown b3;have hl3:=K3.len;obtain ⟨x,y,S1,S2,sw⟩:=(K3.ro.drew).swap (i:=j) (j:=jp) (by have:=HLN.out;omega) (by have:=HLN.out;omega)
      obtain ⟨l1,l2,l3,l4,s1,s2,s3,s4,ro,on⟩:=sw;have hjj:=HJP.out;have hslt:ZN (ZF d2 j) (ZF d2 jp)=true:=by rw [HX.out.1,HX.out.2];exact HLE.out.1 hneg
      have HF:Hid (Kee w g ex d a b (swL d2 j jp) S2/\InI (swL d2 j jp) a i jp):=by
       obtain rfl:j=jp+1:=by omega
       refine Za ⟨K3.swap ro ((Onl.refl _ W3).drew.trans on) (by have:=HLN.out;omega) (by omega) (by omega) (fun q=>neK_lt hslt q.symm),?_⟩
       have:=HK2.out.2.step (by omega) hji (by have:=HLN.out;omega) hslt
       exact this
      unfold aggE at l2 l4 s1 s2 s3 s4;clear hW3 b3 K3 hl3 ro on hjj hslt j1 j2 j3 p1 p2 p3 hcg HK2 HG;go_region
      go_wp2;go_roundw
      case rel=>exact ⟨jp,_,by have:=HJP.out;omega,by have:=HJP.out;omega,rfl,HF⟩
      case measure=>have:=HJP.out;simp [intOf];omega
     ·have hd:decide (z < 0)=false:=decide_eq_false hneg
      have HS:Hid (SrtIn d2 a (i+1)):=by
       refine Za (HK2.out.2.stop hji (.inr ?_));rw [<- HJP.out,HX.out.1,HX.out.2];cases q:ZN xj.k xp.k with
       | false=>exact q
       | true=>exact absurd (HLE.out.2 q) hneg
      go_wp2_with fail
      go_quiet_grown (first | (go_at_fn cf;refine Calls.grown_of (hcg _ _)))
      go_wp2;go_roundw
      case rel=>exact ⟨i+1,d2,by omega,.inl (by omega),by go_num,Za ⟨HK2.out.1.grown (HG.out nq osq),HS.out⟩⟩
      case measure=>simp [intOf];omega
    ·have hjaz:decide ((a:Int) < (j:Int))=false:=decide_eq_false (by omega)
     have HS:Hid (SrtIn d2 a (i+1)):=Za (HK2.out.2.stop hji (.inl (by omega)))
     clear hlen2 hlen3;go_wp2;go_quiet (fail)
     go_wp2;go_roundw
     case rel=>exact ⟨i+1,d2,by omega,.inl (by omega),by go_num,Za ⟨HK2.out.1.grown (below_drewN (Below.refl _ _) _),HS.out⟩⟩
     case measure=>simp [intOf];omega
  ·have hltz:decide ((i:Int) < (b:Int))=false:=decide_eq_false (by omega)
   have HF:Hid (InP w g ex d a b (.returned (.tuple #[])) wr):=Za ⟨rfl,d1,HK1.out.1.ro,⟨HK1.out.1.stb,HK1.out.1.out,HK1.out.1.frm,HK1.out.2.sub (Nat.le_refl _) (by omega)⟩,HK1.out.1.on⟩
   go_wp2;go_end0
   exact HF.out
theorem SoP.kee {w W:World} {g:Nat} {ex:List Value} {d d':List Ed} {a b:Nat} (h:Kee w g ex d a b d' W) (hs:SrtIn d' a b):InP w g ex d a b (.returned (.tuple #[])) W:=⟨rfl,d',h.ro,⟨h.stb,h.out,h.frm,hs⟩,h.on⟩
def MvR (d d':List Ed) (a k:Nat):Prop:=∀ t,ZF d' t=if a<=t/\t < k then ZF d (t+1) else if t=k then ZF d a else ZF d t
theorem MvR.step {d d':List Ed} {a k:Nat} (h:MvR d d' a k) (ha:a<=k) (hk:k+1 < d'.length):MvR d (swL d' k (k+1)) a (k+1):=fun t=>by
 rw [swL_key (by omega) hk,h k,h (k+1),h t]
 by_cases q1:t=k+1
 ·rw [if_pos q1,if_neg (by omega),if_pos rfl,if_neg (by omega),if_pos q1]
 ·rw [if_neg q1];by_cases q2:t=k
  ·rw [if_pos q2,if_neg (by omega),if_neg (by omega),if_pos (by omega),q2]
  ·rw [if_neg q2];by_cases q3:a<=t/\t < k
   ·rw [if_pos q3,if_pos (by omega)]
   ·rw [if_neg q3,if_neg q2,if_neg (by omega),if_neg q1]
theorem MvR.done {d d':List Ed} {a b i:Nat} (h:MvR d d' a (i - 1)) (hi:a+1<=i) (hib:i<=b) (hs:SrtIn d (a+1) b) (h1:∀ h,a+1<=h->h < i->ZN (ZF d h) (ZF d a)=true) (h2:∀ h,i<=h->h < b->leK (ZF d a) (ZF d h)):SrtIn d' a b:=fun p q q1 q2 q3=>by
 rw [h p,h q];by_cases z1:a<=p/\p < i - 1
 ·rw [if_pos z1];by_cases z2:a<=q/\q < i - 1
  ·rw [if_pos z2];exact hs (p+1) (q+1) (by omega) (by omega) (by omega)
  ·rw [if_neg z2];by_cases z3:q=i - 1
   ·rw [if_pos z3];exact leK_of (h1 (p+1) (by omega) (by omega))
   ·rw [if_neg z3];exact hs.le (by omega) (by omega) q3
 ·rw [if_neg z1,if_neg (show ¬ (a<=q/\q < i - 1) by omega)]
  rw [if_neg (show ¬ q=i - 1 by omega)]
  by_cases z3:p=i - 1
  ·rw [if_pos z3];exact h2 q (by omega) q3
  ·rw [if_neg z3];exact hs p q (by omega) q2 q3
def MvL (d d':List Ed) (m k:Nat):Prop:=∀ t,ZF d' t=if k < t/\t<=m then ZF d (t - 1) else if t=k then ZF d m else ZF d t
theorem MvL.step {d d':List Ed} {m k:Nat} (h:MvL d d' m (k+1)) (hm:k+1<=m) (hk:k+1 < d'.length):MvL d (swL d' (k+1) k) m k:=fun t=>by
 rw [swL_key hk (by omega),h k,h (k+1),h t]
 by_cases q1:t=k
 ·rw [if_pos q1,if_neg (by omega),if_pos rfl,if_neg (by omega),if_pos q1]
 ·rw [if_neg q1];by_cases q2:t=k+1
  ·rw [if_pos q2,if_neg (by omega),if_neg (by omega),if_pos (by omega),q2]
   rfl
  ·rw [if_neg q2];by_cases q3:k+1 < t/\t<=m
   ·rw [if_pos q3,if_pos (by omega)]
   ·rw [if_neg q3,if_neg q2,if_neg (by omega),if_neg q1]
theorem MvL.done {d d':List Ed} {a m i:Nat} (h:MvL d d' m i) (hai:a<=i) (hi:i<=m) (hs:SrtIn d a m) (h1:∀ h,a<=h->h < i->leK (ZF d h) (ZF d m)) (h2:∀ h,i<=h->h < m->ZN (ZF d m) (ZF d h)=true):SrtIn d' a (m+1):=fun p q q1 q2 q3=>by
 rw [h p,h q];by_cases z1:i < p/\p<=m
 ·rw [if_pos z1,if_pos (show i < q/\q<=m by omega)]
  exact hs (p - 1) (q - 1) (by omega) (by omega) (by omega)
 ·rw [if_neg z1];by_cases z2:i < q/\q<=m
  ·rw [if_pos z2];by_cases z3:p=i
   ·rw [if_pos z3];exact leK_of (h2 (q - 1) (by omega) (by omega))
   ·rw [if_neg z3];exact hs.le q1 (by omega) (by omega)
  ·rw [if_neg z2,if_neg (show ¬ p=i by omega)]
   by_cases z3:q=i
   ·rw [if_pos z3];exact h1 p q1 (by omega)
   ·rw [if_neg z3];exact hs p q q1 q2 (by omega)
theorem sym_one (cf:Nat) (hcf:CmpE cf) (w:World) (g cap:Nat) (d:List Ed) (ex:List Value) (h:RoE w g d ex) (hl:d.length<=1000000) (a m b:Nat) (hm:m=a+1) (hmb:m < b) (hb:b<=d.length) (hs:SrtIn d m b) :
  Calls Tryz.prog 194 #[.slice (some ⟨g,0,none⟩) d.length cap,.int .i64 a,.int .i64 m,.int .i64 b,.func (.func cf) #[] #[]] w (InP w g ex d a b):=by
 have eg:=hcf.en;have HC:=Za hcf;have HS:=Za hs;obtain ⟨ln,hln⟩:∃ ln,ln=d.length:=⟨_,rfl⟩;have HLN:=Za hln;have HK0:Hid (Kee w g ex d a b d w):=Za ⟨h,Stb.refl _,Out.refl _ _ _,Frm.refl _ _ _,Onl.refl _ _⟩;rw [<- hln] at hb hl ⊢;have w1:IntKind.i64.wrap ((m:Int) - (a:Int))=1:=by rw [IntKind.wrap_i64];omega
 have w1':(m:Int) - (a:Int)=1:=by omega
 have HM:=Za hm;have ham:a < m:=by omega
 have mixed:Tryz.prog.follows .mixedOrders=true:=by kernel_rfl
 clear h hln hcf hs hm;go_enter Tryz.func194,Tryz.ntmps194
 go_wp2;go_loopw [10,11] (fun u v wr=>∃ i j:Nat,m<=i/\i<=j/\j<=b/\u=.int .i64 i/\v=.int .i64 j/\Hid (∀ h,m<=h->h < i->ZN (ZF d h) (ZF d a)=true)/\Hid (∀ h,j<=h->h < b->leK (ZF d a) (ZF d h))/\Hid (Kee w g ex d a b d wr)) (fun u v _=>(intOf v).toNat - (intOf u).toNat)
 case atStart=>exact ⟨m,b,Nat.le_refl _,by omega,Nat.le_refl _,rfl,rfl,Za (fun h h1 h2=>by omega),Za (fun h h1 h2=>by omega),HK0⟩
 case round =>
  obtain ⟨i,j,hmi,hij,hjb,rfl,rfl,H1,H2,HK⟩:=hrel;have hlen:=HLN.out;by_cases hlt:i < j
  ·obtain ⟨c,hc⟩:∃ c,c=(i+j) / 2:=⟨_,rfl⟩;have hci:i<=c:=by omega
   have hcj:c < j:=by omega
   obtain ⟨xc,hxc⟩:∃ x,d[c]?=some x:=⟨d[c]'(by omega),List.getElem?_eq_getElem _⟩
   obtain ⟨xa,hxa⟩:∃ x,d[a]?=some x:=⟨d[a]'(by omega),List.getElem?_eq_getElem _⟩
   obtain ⟨j1,j2,j3⟩:=HK.out.ro.grown hxc;obtain ⟨p1,p2,p3⟩:=HK.out.ro.grown hxa;have HX:=Za (And.intro (ZP hxc) (ZP hxa));have hcg:∀ n os,Calls Tryz.prog cf #[aggE xc,aggE xa] (grow (wr.drewN n) os) fun e w'=>e=.returned (.int .i64 (cmpS xc.k xa.k))/\∃ q os',w'=grow ((grow (wr.drewN n) os).drewN q) os':=fun n os=>HC.out.gives xc xa _
   have HLE:Hid (cmpS xc.k xa.k < 0↔ZN xc.k xa.k=true):=Za cmpS_lt;obtain ⟨z,hz⟩:∃ z,z=cmpS xc.k xa.k:=⟨_,rfl⟩;rw [<- hz] at hcg HLE;unfold aggE at hcg;have g1:c < ln:=by omega
   have g2:a < ln:=by omega
   have e1:((i:Int)+(j:Int)) / 2=(c:Int):=by omega
   have HG:Hid (∀ n os,Below wr.heap.size wr (grow (wr.drewN n) os)):=Za (fun n os=>below_grown_sl _ wr n os (Nat.le_refl _))
   clear hxc hxa hz hlen hc;by_cases hneg:z < 0
   ·have hd:decide (z < 0)=true:=decide_eq_true hneg
    have HN1:Hid (∀ h,m<=h->h < c+1->ZN (ZF d h) (ZF d a)=true):=Za (fun t h1 h2=>by
     have hx:ZN (ZF d c) (ZF d a)=true:=by rw [HX.out.1,HX.out.2];exact HLE.out.1 hneg
     exact leK_lt (HS.out.le h1 (by omega) (by omega)) hx)
    go_wp2_with fail
    go_quiet_grown (first | (go_at_fn cf;refine Calls.grown_of (hcg _ _)))
    go_wp2;go_roundw
    case rel=>exact ⟨c+1,j,by omega,by omega,hjb,by simp,rfl,HN1,H2,Za (HK.out.grown (HG.out nq osq))⟩
    case measure=>simp [intOf];omega
   ·have hd:decide (z < 0)=false:=decide_eq_false hneg
    have HN2:Hid (∀ h,c<=h->h < b->leK (ZF d a) (ZF d h)):=Za (fun t h1 h2=>by
     have hx:leK (ZF d a) (ZF d c):=by
      rw [HX.out.1,HX.out.2];cases q:ZN xc.k xa.k with
      | false=>exact q
      | true=>exact absurd (HLE.out.2 q) hneg
     exact leK_trans hx (HS.out.le (by omega) h1 h2))
    go_wp2_with fail
    go_quiet_grown (first | (go_at_fn cf;refine Calls.grown_of (hcg _ _)))
    go_wp2;go_roundw
    case rel=>exact ⟨i,c,hmi,by omega,by omega,rfl,by simp,H1,HN2,Za (HK.out.grown (HG.out nq osq))⟩
    case measure=>simp [intOf];omega
  ·obtain rfl:i=j:=by omega
   obtain ⟨i1,hi1⟩:∃ i1,i1=i - 1:=⟨_,rfl⟩;have wi:IntKind.i64.wrap ((i:Int) - 1)=(i1:Int):=by rw [IntKind.wrap_i64];omega
   have wi2:(i:Int) - 1=(i1:Int):=by omega
   have wi3:IntKind.i64.wrap (i1:Int)=(i1:Int):=by rw [IntKind.wrap_i64];omega
   have hai:a<=i1:=by omega
   have HI1:=Za hi1;obtain ⟨w2,rfl⟩:∃ w2,w2=wr:=⟨_,rfl⟩;have hib:i1+1<=b:=by omega
   clear hi1 hlen;go_wp2;go_loopw [13] (fun v wr=>∃ (k:Nat) (d':List Ed),a<=k/\k<=i1/\v=.int .i64 k/\Hid (Kee w g ex d a b d' wr/\MvR d d' a k)) (fun v _=>i1 - (intOf v).toNat)
   case atStart=>exact ⟨a,d,Nat.le_refl _,hai,rfl,Za ⟨HK.out,fun t=>by rw [if_neg (by omega)];split <;> simp_all⟩⟩
   case round =>
    obtain ⟨k,d',hak,hki,rfl,HK3⟩:=hrel;have hlen:=HLN.out;have hl3:=HK3.out.1.len;by_cases hkl:k < i1
    ·obtain ⟨k1,hk1⟩:∃ k1,k1=k+1:=⟨_,rfl⟩;obtain ⟨x,y,S1,S2,sw⟩:=(HK3.out.1.ro.drew).swap (i:=k) (j:=k1) (by omega) (by omega)
     obtain ⟨l1,l2,l3,l4,s1,s2,s3,s4,ro,on⟩:=sw
     have HF:Hid (Kee w g ex d a b (swL d' k k1) S2/\MvR d (swL d' k k1) a k1):=by
      subst hk1
      have hne:ZF d' k≠ZF d' (k+1):=by
       rw [HK3.out.2 k,HK3.out.2 (k+1),if_neg (by omega),if_pos rfl,if_neg (by omega),if_neg (by omega)]
       exact fun q=>neK_lt (H1.out (k+1) (by have:=HM.out;omega) (by have:=HI1.out;omega)) q.symm
      exact Za ⟨HK3.out.1.swap' ro ((Onl.refl _ wr).drew.trans on) (by omega) hak (by omega) hne,HK3.out.2.step hak (by omega)⟩
     have wk:IntKind.i64.wrap ((k:Int)+1)=(k1:Int):=by rw [IntKind.wrap_i64];omega
     have wk2:(k:Int)+1=(k1:Int):=by omega
     have wk3:IntKind.i64.wrap (k1:Int)=(k1:Int):=by rw [IntKind.wrap_i64];omega
     have hd:decide ((k:Int) < (i1:Int))=true:=decide_eq_true (by omega)
     have g1:k < ln:=by omega
     have g2:k1 < ln:=by omega
     have HK1:=Za hk1;unfold aggE at l2 l4 s1 s2 s3 s4;clear ro on hlen hl3 hk1 HK3;go_wp2;go_region
     go_wp2;go_roundw
     case rel=>exact ⟨k1,_,by have:=HK1.out;omega,by have:=HK1.out;omega,by simp,HF⟩
     case measure=>have:=HK1.out;simp [intOf];omega
    ·obtain rfl:k=i1:=by omega
     have hd:decide ((k:Int) < (k:Int))=false:=decide_eq_false (by omega)
     have HF:Hid (InP w g ex d a b (.returned (.tuple #[])) wr):=by
      refine Za (SoP.kee HK3.out.1 ?_);have hm:=HM.out;have hi:=HI1.out;have h3:=HK3.out.2;rw [hi] at h3;subst hm;exact h3.done (by omega) (by omega) HS.out H1.out H2.out
     clear hlen hl3;go_wp2;go_end0
     exact HF.out
theorem sym_last (cf:Nat) (hcf:CmpE cf) (w:World) (g cap:Nat) (d:List Ed) (ex:List Value) (h:RoE w g d ex) (hl:d.length<=1000000) (a m b:Nat) (ham:a+1 < m) (hm:b=m+1) (hb:b<=d.length) (hs:SrtIn d a m) :
  Calls Tryz.prog 194 #[.slice (some ⟨g,0,none⟩) d.length cap,.int .i64 a,.int .i64 m,.int .i64 b,.func (.func cf) #[] #[]] w (InP w g ex d a b):=by
 have eg:=hcf.en;have HC:=Za hcf;have HS:=Za hs;obtain ⟨ln,hln⟩:∃ ln,ln=d.length:=⟨_,rfl⟩;have HLN:=Za hln;have HK0:Hid (Kee w g ex d a b d w):=Za ⟨h,Stb.refl _,Out.refl _ _ _,Frm.refl _ _ _,Onl.refl _ _⟩;rw [<- hln] at hb hl ⊢;obtain ⟨ma,hma⟩:∃ ma,ma=m - a:=⟨_,rfl⟩;have w0:IntKind.i64.wrap ((m:Int) - (a:Int))=(ma:Int):=by rw [IntKind.wrap_i64];omega
 have w0':(m:Int) - (a:Int)=(ma:Int):=by omega
 have w0'':IntKind.i64.wrap (ma:Int)=(ma:Int):=by rw [IntKind.wrap_i64];omega
 have hma1:((ma:Int) == 1)=false:=by simp;omega
 have hma2:(ma == 1)=false:=by simp;omega
 have hma3:¬ ma=1:=by omega
 have w1:IntKind.i64.wrap ((b:Int) - (m:Int))=1:=by rw [IntKind.wrap_i64];omega
 have w1':(b:Int) - (m:Int)=1:=by omega
 have HM:=Za hm;have mixed:Tryz.prog.follows .mixedOrders=true:=by kernel_rfl
 have hmb:m < b:=by omega
 clear h hln hcf hs hm hma;go_enter Tryz.func194,Tryz.ntmps194
 go_wp2;go_loopw [14,15] (fun u v wr=>∃ i j:Nat,a<=i/\i<=j/\j<=m/\u=.int .i64 i/\v=.int .i64 j/\Hid (∀ h,a<=h->h < i->leK (ZF d h) (ZF d m))/\Hid (∀ h,j<=h->h < m->ZN (ZF d m) (ZF d h)=true)/\Hid (Kee w g ex d a b d wr)) (fun u v _=>(intOf v).toNat - (intOf u).toNat)
 case atStart=>exact ⟨a,m,Nat.le_refl _,by omega,Nat.le_refl _,rfl,rfl,Za (fun h h1 h2=>by omega),Za (fun h h1 h2=>by omega),HK0⟩
 case round =>
  obtain ⟨i,j,hmi,hij,hjb,rfl,rfl,H1,H2,HK⟩:=hrel;have hlen:=HLN.out;by_cases hlt:i < j
  ·obtain ⟨c,hc⟩:∃ c,c=(i+j) / 2:=⟨_,rfl⟩;have hci:i<=c:=by omega
   have hcj:c < j:=by omega
   obtain ⟨xc,hxc⟩:∃ x,d[c]?=some x:=⟨d[c]'(by omega),List.getElem?_eq_getElem _⟩
   obtain ⟨xa,hxa⟩:∃ x,d[m]?=some x:=⟨d[m]'(by omega),List.getElem?_eq_getElem _⟩
   obtain ⟨j1,j2,j3⟩:=HK.out.ro.grown hxc;obtain ⟨p1,p2,p3⟩:=HK.out.ro.grown hxa;have HX:=Za (And.intro (ZP hxc) (ZP hxa));have hcg:∀ n os,Calls Tryz.prog cf #[aggE xa,aggE xc] (grow (wr.drewN n) os) fun e w'=>e=.returned (.int .i64 (cmpS xa.k xc.k))/\∃ q os',w'=grow ((grow (wr.drewN n) os).drewN q) os':=fun n os=>HC.out.gives xa xc _
   have HLE:Hid (cmpS xa.k xc.k < 0↔ZN xa.k xc.k=true):=Za cmpS_lt;obtain ⟨z,hz⟩:∃ z,z=cmpS xa.k xc.k:=⟨_,rfl⟩;rw [<- hz] at hcg HLE;unfold aggE at hcg;have g1:c < ln:=by omega
   have g2:m < ln:=by omega
   have e1:((i:Int)+(j:Int)) / 2=(c:Int):=by omega
   have HG:Hid (∀ n os,Below wr.heap.size wr (grow (wr.drewN n) os)):=Za (fun n os=>below_grown_sl _ wr n os (Nat.le_refl _))
   clear hxc hxa hz hlen hc;by_cases hneg:z < 0
   ·have hd:decide (z < 0)=true:=decide_eq_true hneg
    have HN1:Hid (∀ h,c<=h->h < m->ZN (ZF d m) (ZF d h)=true):=Za (fun t h1 h2=>by
     have hx:ZN (ZF d m) (ZF d c)=true:=by rw [HX.out.1,HX.out.2];exact HLE.out.1 hneg
     exact lt_leK hx (HS.out.le (by omega) h1 h2))
    go_wp2_with fail
    go_quiet_grown (first | (go_at_fn cf;refine Calls.grown_of (hcg _ _)))
    go_wp2;go_roundw
    case rel=>exact ⟨i,c,hmi,by omega,by omega,rfl,by simp,H1,HN1,Za (HK.out.grown (HG.out nq osq))⟩
    case measure=>simp [intOf];omega
   ·have hd:decide (z < 0)=false:=decide_eq_false hneg
    have HN2:Hid (∀ h,a<=h->h < c+1->leK (ZF d h) (ZF d m)):=Za (fun t h1 h2=>by
     have hx:leK (ZF d c) (ZF d m):=by
      rw [HX.out.1,HX.out.2];cases q:ZN xa.k xc.k with
      | false=>exact q
      | true=>exact absurd (HLE.out.2 q) hneg
     exact leK_trans (HS.out.le h1 (by omega) (by omega)) hx)
    go_wp2_with fail
    go_quiet_grown (first | (go_at_fn cf;refine Calls.grown_of (hcg _ _)))
    go_wp2;go_roundw
    case rel=>exact ⟨c+1,j,by omega,by omega,hjb,by simp,rfl,HN2,H2,Za (HK.out.grown (HG.out nq osq))⟩
    case measure=>simp [intOf];omega
  ·obtain rfl:i=j:=by omega
   obtain ⟨w2,rfl⟩:∃ w2,w2=wr:=⟨_,rfl⟩;clear hlen;go_wp2;go_loopw [17] (fun v wr=>∃ (k:Nat) (d':List Ed),i<=k/\k<=m/\v=.int .i64 k/\Hid (Kee w g ex d a b d' wr/\MvL d d' m k)) (fun v _=>(intOf v).toNat)
   case atStart=>exact ⟨m,d,hjb,Nat.le_refl _,rfl,Za ⟨HK.out,fun t=>by rw [if_neg (by omega)];split <;> simp_all⟩⟩
   case round =>
    obtain ⟨k,d',hak,hki,rfl,HK3⟩:=hrel;have hlen:=HLN.out;have hl3:=HK3.out.1.len;by_cases hkl:i < k
    ·obtain ⟨k1,hk1⟩:∃ k1,k1=k - 1:=⟨_,rfl⟩;obtain ⟨x,y,S1,S2,sw⟩:=(HK3.out.1.ro.drew).swap (i:=k) (j:=k1) (by omega) (by omega)
     obtain ⟨l1,l2,l3,l4,s1,s2,s3,s4,ro,on⟩:=sw
     have HF:Hid (Kee w g ex d a b (swL d' k k1) S2/\MvL d (swL d' k k1) m k1):=by
      obtain rfl:k=k1+1:=by omega
      have hne:ZF d' k1≠ZF d' (k1+1):=by
       rw [HK3.out.2 k1,HK3.out.2 (k1+1),if_neg (by omega),if_neg (by omega),if_neg (by omega),if_pos rfl]
       exact fun q=>neK_lt (H2.out k1 (by omega) (by omega)) q.symm
      exact Za ⟨HK3.out.1.swap ro ((Onl.refl _ wr).drew.trans on) (by omega) (by omega) (by omega) hne,HK3.out.2.step hki (by omega)⟩
     have wk:IntKind.i64.wrap ((k:Int) - 1)=(k1:Int):=by rw [IntKind.wrap_i64];omega
     have wk2:(k:Int) - 1=(k1:Int):=by omega
     have wk3:IntKind.i64.wrap (k1:Int)=(k1:Int):=by rw [IntKind.wrap_i64];omega
     have hd:decide ((i:Int) < (k:Int))=true:=decide_eq_true (by omega)
     have g1:k < ln:=by omega
     have g2:k1 < ln:=by omega
     have HK1:=Za hk1;unfold aggE at l2 l4 s1 s2 s3 s4;clear ro on hlen hl3 hk1 HK3;go_wp2;go_region
     go_wp2;go_roundw
     case rel=>exact ⟨k1,_,by have:=HK1.out;omega,by have:=HK1.out;omega,by simp,HF⟩
     case measure=>have:=HK1.out;simp [intOf];omega
    ·obtain rfl:k=i:=by omega
     have hd:decide ((k:Int) < (k:Int))=false:=decide_eq_false (by omega)
     have HF:Hid (InP w g ex d a b (.returned (.tuple #[])) wr):=by
      refine Za (SoP.kee HK3.out.1 ?_);have hm:=HM.out;subst hm;exact HK3.out.2.done hmi hki HS.out H1.out H2.out
     clear hlen hl3;go_wp2;go_end0
     exact HF.out
end Go.Proofs.YtdhebpnkfookcaaGreat
