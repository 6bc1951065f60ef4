import Derived.Test.YtdhebpnkfookcaaGreatSM40
set_option maxRecDepth 100000
set_option maxHeartbeats 8000000
namespace Go.Proofs.YtdhebpnkfookcaaGreat
open Go.RowKit Apo Go.Sort
attribute [local go_sem ↓] ldE_exec stE_exec
theorem SoP.kee {w W:World} {g:Nat} {ex:List Value} {d d':List Ed} {a b:Nat} (h:Kee w g ex d a b d' W) (hs:SrtIn d' a b):InP w g ex d a b (.returned (.tuple #[])) W:=⟨rfl,d',h.ro,⟨h.stb,h.out,h.frm,hs⟩,h.on⟩
def MvR (d d':List Ed) (a k:Nat):Prop:=∀ t,ZG d' t=if a<=t/\t < k then ZG d (t+1) else if t=k then ZG d a else ZG d t
theorem MvR.step {d d':List Ed} {a k:Nat} (h:MvR d d' a k) (ha:a<=k) (hk:k+1 < d'.length):MvR d (swL d' k (k+1)) a (k+1):=fun t=>by
 rw [swL_key (by omega) hk,h k,h (k+1),h t];by_cases q1:t=k+1
 ·rw [if_pos q1,if_neg (by omega),if_pos rfl,if_neg (by omega),if_pos q1]
 ·rw [if_neg q1];by_cases q2:t=k
  ·rw [if_pos q2,if_neg (by omega),if_neg (by omega),if_pos (by omega),q2]
  ·rw [if_neg q2];by_cases q3:a<=t/\t < k
   ·rw [if_pos q3,if_pos (by omega)]
   ·rw [if_neg q3,if_neg q2,if_neg (by omega),if_neg q1]
theorem MvR.done {d d':List Ed} {a b i:Nat} (h:MvR d d' a (i - 1)) (hi:a+1<=i) (hib:i<=b) (hs:SrtIn d (a+1) b) (h1:∀ h,a+1<=h->h < i->ZQ (ZG d h) (ZG d a)=true) (h2:∀ h,i<=h->h < b->leK (ZG d a) (ZG d h)):SrtIn d' a b:=fun p q q1 q2 q3=>by
 rw [h p,h q];by_cases z1:a<=p/\p < i - 1
 ·rw [if_pos z1];by_cases z2:a<=q/\q < i - 1
  ·rw [if_pos z2];exact hs (p+1) (q+1) (by omega) (by omega) (by omega)
  ·rw [if_neg z2];by_cases z3:q=i - 1
   ·rw [if_pos z3];exact leK_of (h1 (p+1) (by omega) (by omega))
   ·rw [if_neg z3];exact hs.le (by omega) (by omega) q3
 ·rw [if_neg z1,if_neg (show ¬ (a<=q/\q < i - 1) by omega)];rw [if_neg (show ¬ q=i - 1 by omega)];by_cases z3:p=i - 1
  ·rw [if_pos z3];exact h2 q (by omega) q3
  ·rw [if_neg z3];exact hs p q (by omega) q2 q3
def MvL (d d':List Ed) (m k:Nat):Prop:=∀ t,ZG d' t=if k < t/\t<=m then ZG d (t - 1) else if t=k then ZG d m else ZG d t
theorem MvL.step {d d':List Ed} {m k:Nat} (h:MvL d d' m (k+1)) (hm:k+1<=m) (hk:k+1 < d'.length):MvL d (swL d' (k+1) k) m k:=fun t=>by
 rw [swL_key hk (by omega),h k,h (k+1),h t];by_cases q1:t=k
 ·rw [if_pos q1,if_neg (by omega),if_pos rfl,if_neg (by omega),if_pos q1]
 ·rw [if_neg q1];by_cases q2:t=k+1
  ·rw [if_pos q2,if_neg (by omega),if_neg (by omega),if_pos (by omega),q2];rfl
  ·rw [if_neg q2];by_cases q3:k+1 < t/\t<=m
   ·rw [if_pos q3,if_pos (by omega)]
   ·rw [if_neg q3,if_neg q2,if_neg (by omega),if_neg q1]
theorem MvL.done {d d':List Ed} {a m i:Nat} (h:MvL d d' m i) (hai:a<=i) (hi:i<=m) (hs:SrtIn d a m) (h1:∀ h,a<=h->h < i->leK (ZG d h) (ZG d m)) (h2:∀ h,i<=h->h < m->ZQ (ZG d m) (ZG d h)=true):SrtIn d' a (m+1):=fun p q q1 q2 q3=>by
 rw [h p,h q];by_cases z1:i < p/\p<=m
 ·rw [if_pos z1,if_pos (show i < q/\q<=m by omega)];exact hs (p - 1) (q - 1) (by omega) (by omega) (by omega)
 ·rw [if_neg z1];by_cases z2:i < q/\q<=m
  ·rw [if_pos z2];by_cases z3:p=i
   ·rw [if_pos z3];exact leK_of (h2 (q - 1) (by omega) (by omega))
   ·rw [if_neg z3];exact hs.le q1 (by omega) (by omega)
  ·rw [if_neg z2,if_neg (show ¬ p=i by omega)];by_cases z3:q=i
   ·rw [if_pos z3];exact h1 p q1 (by omega)
   ·rw [if_neg z3];exact hs p q q1 q2 (by omega)
theorem sym_one (cf:Nat) (hcf:CmpE cf) (w:World) (g cap:Nat) (d:List Ed) (ex:List Value) (h:RoE w g d ex) (hl:d.length<=1000000) (a m b:Nat) (hm:m=a+1) (hmb:m < b) (hb:b<=d.length) (hs:SrtIn d m b) :
  Calls Tryz.prog 194 #[.slice (some ⟨g,0,none⟩) d.length cap,.int .i64 a,.int .i64 m,.int .i64 b,.func (.func cf) #[] #[]] w (InP w g ex d a b):=by
 have eg:=hcf.en;have HC:=Za hcf;have HS:=Za hs;obtain ⟨ln,hln⟩:∃ ln,ln=d.length:=⟨_,rfl⟩;have HLN:=Za hln;have HK0:Hid (Kee w g ex d a b d w):=Za ⟨h,Stb.refl _,Out.refl _ _ _,Frm.refl _ _ _,Onl.refl _ _⟩;rw [<- hln] at hb hl ⊢;have w1:IntKind.i64.wrap ((m:Int) - (a:Int))=1:=by rw [IntKind.wrap_i64];omega
 have w1':(m:Int) - (a:Int)=1:=by omega
 have HM:=Za hm;have ham:a < m:=by omega
 have mixed:Tryz.prog.follows .mixedOrders=true:=by kernel_rfl
 clear h hln hcf hs hm;go_enter Tryz.func194,Tryz.ntmps194
 go_wp2;go_loopw [10,11] (fun u v wr=>∃ i j:Nat,m<=i/\i<=j/\j<=b/\u=.int .i64 i/\v=.int .i64 j/\Hid (∀ h,m<=h->h < i->ZQ (ZG d h) (ZG d a)=true)/\Hid (∀ h,j<=h->h < b->leK (ZG d a) (ZG d h))/\Hid (Kee w g ex d a b d wr)) (fun u v _=>(intOf v).toNat - (intOf u).toNat)
 case atStart=>exact ⟨m,b,Nat.le_refl _,by omega,Nat.le_refl _,rfl,rfl,Za (fun h h1 h2=>by omega),Za (fun h h1 h2=>by omega),HK0⟩
 case round =>
  obtain ⟨i,j,hmi,hij,hjb,rfl,rfl,H1,H2,HK⟩:=hrel;have hlen:=HLN.out;by_cases hlt:i < j
  ·obtain ⟨c,hc⟩:∃ c,c=(i+j) / 2:=⟨_,rfl⟩;have hci:i<=c:=by omega
   have hcj:c < j:=by omega
   obtain ⟨xc,hxc⟩:∃ x,d[c]?=some x:=⟨d[c]'(by omega),List.getElem?_eq_getElem _⟩;obtain ⟨xa,hxa⟩:∃ x,d[a]?=some x:=⟨d[a]'(by omega),List.getElem?_eq_getElem _⟩;obtain ⟨j1,j2,j3⟩:=HK.out.ro.grown hxc;obtain ⟨p1,p2,p3⟩:=HK.out.ro.grown hxa;have HX:=Za (And.intro (ZS hxc) (ZS hxa));have hcg:∀ n os,Calls Tryz.prog cf #[aggE xc,aggE xa] (grow (wr.drewN n) os) fun e w'=>e=.returned (.int .i64 (cmpS xc.k xa.k))/\∃ q os',w'=grow ((grow (wr.drewN n) os).drewN q) os':=fun n os=>HC.out.gives xc xa _
   have HLE:Hid (cmpS xc.k xa.k < 0↔ZQ xc.k xa.k=true):=Za cmpS_lt;obtain ⟨z,hz⟩:∃ z,z=cmpS xc.k xa.k:=⟨_,rfl⟩;rw [<- hz] at hcg HLE;unfold aggE at hcg;have g1:c < ln:=by omega
   have g2:a < ln:=by omega
   have e1:((i:Int)+(j:Int)) / 2=(c:Int):=by omega
   have HG:Hid (∀ n os,Below wr.heap.size wr (grow (wr.drewN n) os)):=Za (fun n os=>below_grown_sl _ wr n os (Nat.le_refl _));clear hxc hxa hz hlen hc;by_cases hneg:z < 0
   ·have hd:decide (z < 0)=true:=decide_eq_true hneg
    have HN1:Hid (∀ h,m<=h->h < c+1->ZQ (ZG d h) (ZG d a)=true):=Za (fun t h1 h2=>by
     have hx:ZQ (ZG d c) (ZG d a)=true:=by rw [HX.out.1,HX.out.2];exact HLE.out.1 hneg
     exact leK_lt (HS.out.le h1 (by omega) (by omega)) hx)
    go_wp2_with fail
    go_quiet_grown (first | (go_at_fn cf;refine Calls.grown_of (hcg _ _)))
    go_wp2;go_roundw
    case rel=>exact ⟨c+1,j,by omega,by omega,hjb,by simp,rfl,HN1,H2,Za (HK.out.grown (HG.out nq osq))⟩
    case measure=>simp [intOf];omega
   ·have hd:decide (z < 0)=false:=decide_eq_false hneg
    have HN2:Hid (∀ h,c<=h->h < b->leK (ZG d a) (ZG d h)):=Za (fun t h1 h2=>by
     have hx:leK (ZG d a) (ZG d c):=by
      rw [HX.out.1,HX.out.2];cases q:ZQ xc.k xa.k with
      | false=>exact q
      | true=>exact absurd (HLE.out.2 q) hneg
     exact leK_trans hx (HS.out.le (by omega) h1 h2))
    go_wp2_with fail
    go_quiet_grown (first | (go_at_fn cf;refine Calls.grown_of (hcg _ _)))
    go_wp2;go_roundw
    case rel=>exact ⟨i,c,hmi,by omega,by omega,rfl,by simp,H1,HN2,Za (HK.out.grown (HG.out nq osq))⟩
    case measure=>simp [intOf];omega
  ·obtain rfl:i=j:=by omega
   obtain ⟨i1,hi1⟩:∃ i1,i1=i - 1:=⟨_,rfl⟩;have wi:IntKind.i64.wrap ((i:Int) - 1)=(i1:Int):=by rw [IntKind.wrap_i64];omega
   have wi2:(i:Int) - 1=(i1:Int):=by omega
   have wi3:IntKind.i64.wrap (i1:Int)=(i1:Int):=by rw [IntKind.wrap_i64];omega
   have hai:a<=i1:=by omega
   have HI1:=Za hi1;obtain ⟨w2,rfl⟩:∃ w2,w2=wr:=⟨_,rfl⟩;have hib:i1+1<=b:=by omega
   clear hi1 hlen;go_wp2;go_loopw [13] (fun v wr=>∃ (k:Nat) (d':List Ed),a<=k/\k<=i1/\v=.int .i64 k/\Hid (Kee w g ex d a b d' wr/\MvR d d' a k)) (fun v _=>i1 - (intOf v).toNat)
   case atStart=>exact ⟨a,d,Nat.le_refl _,hai,rfl,Za ⟨HK.out,fun t=>by rw [if_neg (by omega)];split <;> simp_all⟩⟩
   case round =>
    obtain ⟨k,d',hak,hki,rfl,HK3⟩:=hrel;have hlen:=HLN.out;have hl3:=HK3.out.1.len;by_cases hkl:k < i1
    ·obtain ⟨k1,hk1⟩:∃ k1,k1=k+1:=⟨_,rfl⟩;obtain ⟨x,y,S1,S2,sw⟩:=(HK3.out.1.ro.drew).swap (i:=k) (j:=k1) (by omega) (by omega);obtain ⟨l1,l2,l3,l4,s1,s2,s3,s4,ro,on⟩:=sw
     have HF:Hid (Kee w g ex d a b (swL d' k k1) S2/\MvR d (swL d' k k1) a k1):=by
      subst hk1
      have hne:ZG d' k≠ZG d' (k+1):=by
       rw [HK3.out.2 k,HK3.out.2 (k+1),if_neg (by omega),if_pos rfl,if_neg (by omega),if_neg (by omega)];exact fun q=>neK_lt (H1.out (k+1) (by have:=HM.out;omega) (by have:=HI1.out;omega)) q.symm
      exact Za ⟨HK3.out.1.swap' ro ((Onl.refl _ wr).drew.trans on) (by omega) hak (by omega) hne,HK3.out.2.step hak (by omega)⟩
     have wk:IntKind.i64.wrap ((k:Int)+1)=(k1:Int):=by rw [IntKind.wrap_i64];omega
     have wk2:(k:Int)+1=(k1:Int):=by omega
     have wk3:IntKind.i64.wrap (k1:Int)=(k1:Int):=by rw [IntKind.wrap_i64];omega
     have hd:decide ((k:Int) < (i1:Int))=true:=decide_eq_true (by omega);have g1:k < ln:=by omega
     have g2:k1 < ln:=by omega
     have HK1:=Za hk1;unfold aggE at l2 l4 s1 s2 s3 s4;clear ro on hlen hl3 hk1 HK3;go_wp2;go_region
     go_wp2;go_roundw
     case rel=>exact ⟨k1,_,by have:=HK1.out;omega,by have:=HK1.out;omega,by simp,HF⟩
     case measure=>have:=HK1.out;simp [intOf];omega
    ·obtain rfl:k=i1:=by omega
     have hd:decide ((k:Int) < (k:Int))=false:=decide_eq_false (by omega)
     have HF:Hid (InP w g ex d a b (.returned (.tuple #[])) wr):=by
      refine Za (SoP.kee HK3.out.1 ?_);have hm:=HM.out;have hi:=HI1.out;have h3:=HK3.out.2;rw [hi] at h3;subst hm;exact h3.done (by omega) (by omega) HS.out H1.out H2.out
     clear hlen hl3;go_wp2;go_end0
     exact HF.out
theorem sym_last (cf:Nat) (hcf:CmpE cf) (w:World) (g cap:Nat) (d:List Ed) (ex:List Value) (h:RoE w g d ex) (hl:d.length<=1000000) (a m b:Nat) (ham:a+1 < m) (hm:b=m+1) (hb:b<=d.length) (hs:SrtIn d a m) :
  Calls Tryz.prog 194 #[.slice (some ⟨g,0,none⟩) d.length cap,.int .i64 a,.int .i64 m,.int .i64 b,.func (.func cf) #[] #[]] w (InP w g ex d a b):=by
 have eg:=hcf.en;have HC:=Za hcf;have HS:=Za hs;obtain ⟨ln,hln⟩:∃ ln,ln=d.length:=⟨_,rfl⟩;have HLN:=Za hln;have HK0:Hid (Kee w g ex d a b d w):=Za ⟨h,Stb.refl _,Out.refl _ _ _,Frm.refl _ _ _,Onl.refl _ _⟩;rw [<- hln] at hb hl ⊢;obtain ⟨ma,hma⟩:∃ ma,ma=m - a:=⟨_,rfl⟩;have w0:IntKind.i64.wrap ((m:Int) - (a:Int))=(ma:Int):=by rw [IntKind.wrap_i64];omega
 have w0':(m:Int) - (a:Int)=(ma:Int):=by omega
 have w0'':IntKind.i64.wrap (ma:Int)=(ma:Int):=by rw [IntKind.wrap_i64];omega
 have hma1:((ma:Int) == 1)=false:=by simp;omega
 have hma2:(ma == 1)=false:=by simp;omega
 have hma3:¬ ma=1:=by omega
 have w1:IntKind.i64.wrap ((b:Int) - (m:Int))=1:=by rw [IntKind.wrap_i64];omega
 have w1':(b:Int) - (m:Int)=1:=by omega
 have HM:=Za hm;have mixed:Tryz.prog.follows .mixedOrders=true:=by kernel_rfl
 have hmb:m < b:=by omega
 clear h hln hcf hs hm hma;go_enter Tryz.func194,Tryz.ntmps194
 go_wp2;go_loopw [14,15] (fun u v wr=>∃ i j:Nat,a<=i/\i<=j/\j<=m/\u=.int .i64 i/\v=.int .i64 j/\Hid (∀ h,a<=h->h < i->leK (ZG d h) (ZG d m))/\Hid (∀ h,j<=h->h < m->ZQ (ZG d m) (ZG d h)=true)/\Hid (Kee w g ex d a b d wr)) (fun u v _=>(intOf v).toNat - (intOf u).toNat)
 case atStart=>exact ⟨a,m,Nat.le_refl _,by omega,Nat.le_refl _,rfl,rfl,Za (fun h h1 h2=>by omega),Za (fun h h1 h2=>by omega),HK0⟩
 case round =>
  obtain ⟨i,j,hmi,hij,hjb,rfl,rfl,H1,H2,HK⟩:=hrel;have hlen:=HLN.out;by_cases hlt:i < j
  ·obtain ⟨c,hc⟩:∃ c,c=(i+j) / 2:=⟨_,rfl⟩;have hci:i<=c:=by omega
   have hcj:c < j:=by omega
   obtain ⟨xc,hxc⟩:∃ x,d[c]?=some x:=⟨d[c]'(by omega),List.getElem?_eq_getElem _⟩;obtain ⟨xa,hxa⟩:∃ x,d[m]?=some x:=⟨d[m]'(by omega),List.getElem?_eq_getElem _⟩;obtain ⟨j1,j2,j3⟩:=HK.out.ro.grown hxc;obtain ⟨p1,p2,p3⟩:=HK.out.ro.grown hxa;have HX:=Za (And.intro (ZS hxc) (ZS hxa));have hcg:∀ n os,Calls Tryz.prog cf #[aggE xa,aggE xc] (grow (wr.drewN n) os) fun e w'=>e=.returned (.int .i64 (cmpS xa.k xc.k))/\∃ q os',w'=grow ((grow (wr.drewN n) os).drewN q) os':=fun n os=>HC.out.gives xa xc _
   have HLE:Hid (cmpS xa.k xc.k < 0↔ZQ xa.k xc.k=true):=Za cmpS_lt;obtain ⟨z,hz⟩:∃ z,z=cmpS xa.k xc.k:=⟨_,rfl⟩;rw [<- hz] at hcg HLE;unfold aggE at hcg;have g1:c < ln:=by omega
   have g2:m < ln:=by omega
   have e1:((i:Int)+(j:Int)) / 2=(c:Int):=by omega
   have HG:Hid (∀ n os,Below wr.heap.size wr (grow (wr.drewN n) os)):=Za (fun n os=>below_grown_sl _ wr n os (Nat.le_refl _));clear hxc hxa hz hlen hc;by_cases hneg:z < 0
   ·have hd:decide (z < 0)=true:=decide_eq_true hneg
    have HN1:Hid (∀ h,c<=h->h < m->ZQ (ZG d m) (ZG d h)=true):=Za (fun t h1 h2=>by
     have hx:ZQ (ZG d m) (ZG d c)=true:=by rw [HX.out.1,HX.out.2];exact HLE.out.1 hneg
     exact lt_leK hx (HS.out.le (by omega) h1 h2))
    go_wp2_with fail
    go_quiet_grown (first | (go_at_fn cf;refine Calls.grown_of (hcg _ _)))
    go_wp2;go_roundw
    case rel=>exact ⟨i,c,hmi,by omega,by omega,rfl,by simp,H1,HN1,Za (HK.out.grown (HG.out nq osq))⟩
    case measure=>simp [intOf];omega
   ·have hd:decide (z < 0)=false:=decide_eq_false hneg
    have HN2:Hid (∀ h,a<=h->h < c+1->leK (ZG d h) (ZG d m)):=Za (fun t h1 h2=>by
     have hx:leK (ZG d c) (ZG d m):=by
      rw [HX.out.1,HX.out.2];cases q:ZQ xa.k xc.k with
      | false=>exact q
      | true=>exact absurd (HLE.out.2 q) hneg
     exact leK_trans (HS.out.le h1 (by omega) (by omega)) hx)
    go_wp2_with fail
    go_quiet_grown (first | (go_at_fn cf;refine Calls.grown_of (hcg _ _)))
    go_wp2;go_roundw
    case rel=>exact ⟨c+1,j,by omega,by omega,hjb,by simp,rfl,HN2,H2,Za (HK.out.grown (HG.out nq osq))⟩
    case measure=>simp [intOf];omega
  ·obtain rfl:i=j:=by omega
   obtain ⟨w2,rfl⟩:∃ w2,w2=wr:=⟨_,rfl⟩;clear hlen;go_wp2;go_loopw [17] (fun v wr=>∃ (k:Nat) (d':List Ed),i<=k/\k<=m/\v=.int .i64 k/\Hid (Kee w g ex d a b d' wr/\MvL d d' m k)) (fun v _=>(intOf v).toNat)
   case atStart=>exact ⟨m,d,hjb,Nat.le_refl _,rfl,Za ⟨HK.out,fun t=>by rw [if_neg (by omega)];split <;> simp_all⟩⟩
   case round =>
    obtain ⟨k,d',hak,hki,rfl,HK3⟩:=hrel;have hlen:=HLN.out;have hl3:=HK3.out.1.len;by_cases hkl:i < k
    ·obtain ⟨k1,hk1⟩:∃ k1,k1=k - 1:=⟨_,rfl⟩;obtain ⟨x,y,S1,S2,sw⟩:=(HK3.out.1.ro.drew).swap (i:=k) (j:=k1) (by omega) (by omega);obtain ⟨l1,l2,l3,l4,s1,s2,s3,s4,ro,on⟩:=sw
     have HF:Hid (Kee w g ex d a b (swL d' k k1) S2/\MvL d (swL d' k k1) m k1):=by
      obtain rfl:k=k1+1:=by omega
      have hne:ZG d' k1≠ZG d' (k1+1):=by
       rw [HK3.out.2 k1,HK3.out.2 (k1+1),if_neg (by omega),if_neg (by omega),if_neg (by omega),if_pos rfl];exact fun q=>neK_lt (H2.out k1 (by omega) (by omega)) q.symm
      exact Za ⟨HK3.out.1.swap ro ((Onl.refl _ wr).drew.trans on) (by omega) (by omega) (by omega) hne,HK3.out.2.step hki (by omega)⟩
     have wk:IntKind.i64.wrap ((k:Int) - 1)=(k1:Int):=by rw [IntKind.wrap_i64];omega
     have wk2:(k:Int) - 1=(k1:Int):=by omega
     have wk3:IntKind.i64.wrap (k1:Int)=(k1:Int):=by rw [IntKind.wrap_i64];omega
     have hd:decide ((i:Int) < (k:Int))=true:=decide_eq_true (by omega);have g1:k < ln:=by omega
     have g2:k1 < ln:=by omega
     have HK1:=Za hk1;unfold aggE at l2 l4 s1 s2 s3 s4;clear ro on hlen hl3 hk1 HK3;go_wp2;go_region
     go_wp2;go_roundw
     case rel=>exact ⟨k1,_,by have:=HK1.out;omega,by have:=HK1.out;omega,by simp,HF⟩
     case measure=>have:=HK1.out;simp [intOf];omega
    ·obtain rfl:k=i:=by omega
     have hd:decide ((k:Int) < (k:Int))=false:=decide_eq_false (by omega)
     have HF:Hid (InP w g ex d a b (.returned (.tuple #[])) wr):=by
      refine Za (SoP.kee HK3.out.1 ?_);have hm:=HM.out;subst hm;exact HK3.out.2.done hmi hki HS.out H1.out H2.out
     clear hlen hl3;go_wp2;go_end0
     exact HF.out
end Go.Proofs.YtdhebpnkfookcaaGreat
