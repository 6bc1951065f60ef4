import Derived.Test.YtdhebpnkfookcaaGreatSM41
set_option maxRecDepth 100000
set_option maxHeartbeats 16000000
namespace Go.Proofs.YtdhebpnkfookcaaGreat
open Go.RowKit Apo Go.Sort
attribute [local go_sem ↓] ldE_exec stE_exec
theorem kAt_ex {d:List Ed} {s m e:Nat} (h1:s<=m) (h2:m<=e) (h3:e<=d.length) (t:Nat):ZG (exL d s m e) t=if t < s then ZG d t else if t < s+(e - m) then ZG d (t - s+m) else if t < e then ZG d (t - (e - m)) else ZG d t:=by
 unfold ZG;rw [exL_get h1 h2 h3];split
 ·rfl
 ·split
  ·rfl
  ·split <;> rfl
theorem exL_id {d:List Ed} {s m e:Nat} (h1:s<=m) (h2:m<=e) (h3:e<=d.length) (h:¬ (s < m/\m < e)):exL d s m e=d:=by
 refine List.ext_getElem? (fun t=>?_);rw [exL_get h1 h2 h3];by_cases q:s=m
 ·repeat' split
  all_goals first | rfl | (exfalso;omega) | (congr 1;omega)
 ·have:m=e:=by omega
  repeat' split
  all_goals first | rfl | (exfalso;omega) | (congr 1;omega)
structure SyF (d:List Ed) (a m b mid s en:Nat):Prop where
 h1:a<=s
 h2:s<=m
 h3:m<=en
 h4:en<=b
 h5:s<=mid
 h6:mid<=en
 h7:s+(en - m)=mid
 big:∀ i j,s<=i->i < m->m<=j->j < en->ZQ (ZG d j) (ZG d i)=true
 low:∀ i j,a<=i->i < s->en<=j->j < b->leK (ZG d i) (ZG d j)
section
variable {d:List Ed} {a m b mid s en:Nat}
theorem SyF.stb (f:SyF d a m b mid s en) (hb:b<=d.length):Stb d (exL d s m en):=by
 obtain ⟨h1,h2,h3,h4,h5,h6,h7,big,low⟩:=f
 have hd:d=d.take s++((d.take m).drop s++((d.take en).drop m++d.drop en)):=by
  have e1:d.take m=d.take s++(d.take m).drop s:=by
   have:=List.take_append_drop s (d.take m);rw [List.take_take,Nat.min_eq_left h2] at this;exact this.symm
  have e2:d.take en=d.take m++(d.take en).drop m:=by
   have:=List.take_append_drop m (d.take en);rw [List.take_take,Nat.min_eq_left h3] at this;exact this.symm
  conv=>lhs;rw [<- List.take_append_drop en d,e2,e1]
  simp only [List.append_assoc]
 conv=>arg 1;rw [hd]
 unfold exL;refine Stb.swap (fun x hx y hy q=>?_);obtain ⟨i,hi,rfl⟩:=List.mem_iff_getElem.1 hx;obtain ⟨j,hj,rfl⟩:=List.mem_iff_getElem.1 hy;simp only [List.length_drop,List.length_take] at hi hj
 have k1:d[s+i]?=some (((d.take m).drop s)[i]'(by simp;omega)):=by
  rw [List.getElem_drop,List.getElem_take];exact List.getElem?_eq_getElem _
 have k2:d[m+j]?=some (((d.take en).drop m)[j]'(by simp;omega)):=by
  rw [List.getElem_drop,List.getElem_take];exact List.getElem?_eq_getElem _
 have:=big (s+i) (m+j) (by omega) (by omega) (by omega) (by omega);rw [ZS k1,ZS k2,q,ZM] at this;cases this
theorem SyF.out (f:SyF d a m b mid s en) (hb:b<=d.length):Out d (exL d s m en) a b:=fun t ht=>by
 obtain ⟨h1,h2,h3,h4,h5,h6,h7,big,low⟩:=f;rw [exL_get h2 h3 (by omega)];repeat' split
 all_goals first | rfl | (exfalso;omega)
theorem SyF.frm (f:SyF d a m b mid s en) (hb:b<=d.length):Frm d (exL d s m en) a b:=fun t q1 q2=>by
 obtain ⟨h1,h2,h3,h4,h5,h6,h7,big,low⟩:=f;rw [kAt_ex h2 h3 (by omega)];split
 ·exact ⟨t,q1,q2,rfl⟩
 ·split
  ·exact ⟨_,by omega,by omega,rfl⟩
  ·split
   ·exact ⟨_,by omega,by omega,rfl⟩
   ·exact ⟨t,q1,q2,rfl⟩
theorem SyF.s1 (f:SyF d a m b mid s en) (hb:b<=d.length) (hs:SrtIn d a m):SrtIn (exL d s m en) a s:=fun i j q1 q2 q3=>by
 obtain ⟨h1,h2,h3,h4,h5,h6,h7,big,low⟩:=f;rw [kAt_ex h2 h3 (by omega),kAt_ex h2 h3 (by omega),if_pos (by omega),if_pos q3];exact hs i j q1 q2 (by omega)
theorem SyF.s2 (f:SyF d a m b mid s en) (hb:b<=d.length) (hs:SrtIn d m b):SrtIn (exL d s m en) s mid:=fun i j q1 q2 q3=>by
 obtain ⟨h1,h2,h3,h4,h5,h6,h7,big,low⟩:=f;rw [kAt_ex h2 h3 (by omega),kAt_ex h2 h3 (by omega),if_neg (by omega),if_pos (by omega),if_neg (by omega),if_pos (by omega)];exact hs _ _ (by omega) (by omega) (by omega)
theorem SyF.s3 (f:SyF d a m b mid s en) (hb:b<=d.length) (hs:SrtIn d a m):SrtIn (exL d s m en) mid en:=fun i j q1 q2 q3=>by
 obtain ⟨h1,h2,h3,h4,h5,h6,h7,big,low⟩:=f;rw [kAt_ex h2 h3 (by omega),kAt_ex h2 h3 (by omega),if_neg (by omega),if_neg (by omega),if_pos (by omega),if_neg (by omega),if_neg (by omega),if_pos (by omega)];exact hs _ _ (by omega) (by omega) (by omega)
theorem SyF.s4 (f:SyF d a m b mid s en) (hb:b<=d.length) (hs:SrtIn d m b):SrtIn (exL d s m en) en b:=fun i j q1 q2 q3=>by
 obtain ⟨h1,h2,h3,h4,h5,h6,h7,big,low⟩:=f;rw [kAt_ex h2 h3 (by omega),kAt_ex h2 h3 (by omega),if_neg (by omega),if_neg (by omega),if_neg (by omega),if_neg (by omega),if_neg (by omega),if_neg (by omega)];exact hs _ _ (by omega) (by omega) (by omega)
theorem SyF.cross (f:SyF d a m b mid s en) (hb:b<=d.length) (hs:SrtIn d a m) (hs':SrtIn d m b):∀ i j,a<=i->i < mid->mid<=j->j < b->leK (ZG (exL d s m en) i) (ZG (exL d s m en) j):=fun i j q1 q2 q3 q4=>by
 obtain ⟨h1,h2,h3,h4,h5,h6,h7,big,low⟩:=f;rw [kAt_ex h2 h3 (by omega),kAt_ex h2 h3 (by omega)];rw [if_neg (show ¬ j < s by omega),if_neg (show ¬ j < s+(en - m) by omega)];by_cases z1:i < s
 ·rw [if_pos z1];by_cases z2:j < en
  ·rw [if_pos z2];exact hs _ _ q1 (by omega) (by omega)
  ·rw [if_neg z2];exact low i j q1 z1 (by omega) q4
 ·rw [if_neg z1,if_pos (by omega)];by_cases z2:j < en
  ·rw [if_pos z2];exact leK_of (big _ _ (by omega) (by omega) (by omega) (by omega))
  ·rw [if_neg z2];exact hs' _ _ (by omega) (by omega) q4
end
theorem sy_fin {d2 d3 d4:List Ed} {a b mid:Nat} (hc:∀ i j,a<=i->i < mid->mid<=j->j < b->leK (ZG d2 i) (ZG d2 j)) (o3:Out d2 d3 a mid) (f3:Frm d2 d3 a mid) (s3:SrtIn d3 a mid) (o4:Out d3 d4 mid b) (f4:Frm d3 d4 mid b) (s4:SrtIn d4 mid b):SrtIn d4 a b:=fun i j q1 q2 q3=>by
 by_cases z1:j < mid
 ·rw [o4.key (.inl (by omega)),o4.key (.inl z1)];exact s3 i j q1 q2 z1
 ·by_cases z2:mid<=i
  ·exact s4 i j z2 q2 q3
  ·obtain ⟨i',y1,y2,y3⟩:=f3 i q1 (by omega);obtain ⟨j',x1,x2,x3⟩:=f4 j (by omega) q3;rw [o4.key (.inl (by omega)),y3,x3,o3.key (.inr x1)];exact hc i' j' y1 y2 x1 x2
theorem sy_found {d:List Ed} {a m b mid n s lo r0 en:Nat} (ham:a < m) (hmb:m < b) (hmid:mid=(a+b) / 2) (hn:n=mid+m) (hcase:(mid < m/\lo=n - b/\r0=mid)\/(m<=mid/\lo=a/\r0=m)) (h1:lo<=s) (h2:s<=r0) (hen:en=n - s) (hs:SrtIn d a m) (hs':SrtIn d m b)
  (l:∀ c,lo<=c->c < s->leK (ZG d c) (ZG d (n - 1 - c))) (r:∀ c,s<=c->c < r0->ZQ (ZG d (n - 1 - c)) (ZG d c)=true):SyF d a m b mid s en:=by
 refine ⟨by omega,by omega,by omega,by omega,by omega,by omega,by omega,fun i j q1 q2 q3 q4=>?_,fun i j q1 q2 q3 q4=>?_⟩
 ·by_cases z:s < r0
  ·have x:=r s (Nat.le_refl _) z;have y1:leK (ZG d s) (ZG d i):=hs.le (by omega) q1 q2;have y2:leK (ZG d j) (ZG d (n - 1 - s)):=hs'.le q3 (by omega) (by omega);exact lt_leK (leK_lt y2 x) y1
  ·omega
 ·by_cases z:lo < s
  ·have x:=l (s - 1) (by omega) (by omega);have y1:leK (ZG d i) (ZG d (s - 1)):=hs.le q1 (by omega) (by omega);have y2:leK (ZG d (n - 1 - (s - 1))) (ZG d j):=hs'.le (by omega) (by omega) q4;exact leK_trans y1 (leK_trans x y2)
  ·omega
theorem sy_left {d:List Ed} {a m b mid n lo r0 c:Nat} (ham:a < m) (hmb:m < b) (hmid:mid=(a+b) / 2) (hn:n=mid+m) (hcase:(mid < m/\lo=n - b/\r0=mid)\/(m<=mid/\lo=a/\r0=m)) (_:lo<=c) (hc2:c < r0) (hs:SrtIn d a m) (hs':SrtIn d m b) (x:leK (ZG d c) (ZG d (n - 1 - c))):∀ t,lo<=t->t < c+1->leK (ZG d t) (ZG d (n - 1 - t)):=fun t q1 q2 =>
 leK_trans (hs.le (i:=t) (j:=c) (by omega) (by omega) (by omega)) (leK_trans x (hs'.le (i:=n - 1 - c) (j:=n - 1 - t) (by omega) (by omega) (by omega)))
theorem sy_right {d:List Ed} {a m b mid n lo r0 c:Nat} (ham:a < m) (hmb:m < b) (hmid:mid=(a+b) / 2) (hn:n=mid+m) (hcase:(mid < m/\lo=n - b/\r0=mid)\/(m<=mid/\lo=a/\r0=m)) (hc1:lo<=c) (_:c < r0) (hs:SrtIn d a m) (hs':SrtIn d m b) (x:ZQ (ZG d (n - 1 - c)) (ZG d c)=true):∀ t,c<=t->t < r0->ZQ (ZG d (n - 1 - t)) (ZG d t)=true:=fun t q1 q2 =>
 lt_leK (leK_lt (hs'.le (i:=n - 1 - t) (j:=n - 1 - c) (by omega) (by omega) (by omega)) x) (hs.le (i:=c) (j:=t) (by omega) q1 (by omega))
theorem sym_midA (cf:Nat) (hcf:CmpE cf) (w:World) (g cap:Nat) (d:List Ed) (ex:List Value) (h:RoE w g d ex) (hl:d.length<=1000000) (a m b mid:Nat) (ham:a+1 < m) (hmb:m+1 < b) (hb:b<=d.length) (hmid:mid=(a+b) / 2) (hc:mid < m) (hs:SrtIn d a m) (hs':SrtIn d m b)
  (IH:∀ (w':World) (d':List Ed) (a' m' b':Nat),RoE w' g d' ex->d'.length=d.length->b' - a' < b - a->a' < m'->m' < b'->b'<=d.length->SrtIn d' a' m'->SrtIn d' m' b'->Calls Tryz.prog 194 #[.slice (some ⟨g,0,none⟩) d.length cap,.int .i64 ((a':Nat):Int),.int .i64 ((m':Nat):Int),.int .i64 ((b':Nat):Int),.func (.func cf) #[] #[]] w' (InP w' g ex d' a' b')) :
  Calls Tryz.prog 194 #[.slice (some ⟨g,0,none⟩) d.length cap,.int .i64 a,.int .i64 m,.int .i64 b,.func (.func cf) #[] #[]] w (InP w g ex d a b):=by
 have eg:=hcf.en;have HC:=Za hcf;have HS:=Za (And.intro hs hs');obtain ⟨ln,hln⟩:∃ ln,ln=d.length:=⟨_,rfl⟩;have HLN:=Za hln;have HK0:Hid (Kee w g ex d a b d w):=Za ⟨h,Stb.refl _,Out.refl _ _ _,Frm.refl _ _ _,Onl.refl _ _⟩;have RT:∀ W,RoE W g d ex->∀ s e:Nat,s < m->m < e->e<=d.length->Calls Tryz.prog 212 #[.slice (some ⟨g,0,none⟩) d.length cap,.int .i64 (s:Int),.int .i64 m,.int .i64 (e:Int),.func (.func cf) #[] #[]] W (SoP W g ex (fun d'=>d'=exL d s m e)):=fun W hr s e h1 h2 h3=>rot_any W g cap d ex _ hr hl s m e h1 h2 h3
 have HRT:=Za RT;have HIH:=Za IH;rw [<- hln] at hb hl HRT HIH ⊢;obtain ⟨ma,hma⟩:∃ ma,ma=m - a:=⟨_,rfl⟩;obtain ⟨bm,hbm⟩:∃ bm,bm=b - m:=⟨_,rfl⟩;obtain ⟨n,hn⟩:∃ n,n=mid+m:=⟨_,rfl⟩;obtain ⟨p,hp⟩:∃ p,p=n - 1:=⟨_,rfl⟩;obtain ⟨lo,hlo⟩:∃ lo,lo=n - b:=⟨_,rfl⟩;obtain ⟨r0,hr0⟩:∃ r0,r0=mid:=⟨_,rfl⟩;have w0:IntKind.i64.wrap ((m:Int) - (a:Int))=(ma:Int):=by rw [IntKind.wrap_i64];omega
 have w0':(m:Int) - (a:Int)=(ma:Int):=by omega
 have w0'':IntKind.i64.wrap (ma:Int)=(ma:Int):=by rw [IntKind.wrap_i64];omega
 have x0:((ma:Int) == 1)=false:=by simp;omega
 have x0':(ma == 1)=false:=by simp;omega
 have x0'':¬ ma=1:=by omega
 have w1:IntKind.i64.wrap ((b:Int) - (m:Int))=(bm:Int):=by rw [IntKind.wrap_i64];omega
 have w1':(b:Int) - (m:Int)=(bm:Int):=by omega
 have w1'':IntKind.i64.wrap (bm:Int)=(bm:Int):=by rw [IntKind.wrap_i64];omega
 have x1:((bm:Int) == 1)=false:=by simp;omega
 have x1':(bm == 1)=false:=by simp;omega
 have x1'':¬ bm=1:=by omega
 have w2:((a:Int)+(b:Int)) / 2=(mid:Int):=by omega
 have w3:IntKind.i64.wrap ((mid:Int)+(m:Int))=(n:Int):=by rw [IntKind.wrap_i64];omega
 have w3':(mid:Int)+(m:Int)=(n:Int):=by omega
 have w3'':IntKind.i64.wrap (n:Int)=(n:Int):=by rw [IntKind.wrap_i64];omega
 have w4:IntKind.i64.wrap ((n:Int) - 1)=(p:Int):=by rw [IntKind.wrap_i64];omega
 have w4':(n:Int) - 1=(p:Int):=by omega
 have w4'':IntKind.i64.wrap (p:Int)=(p:Int):=by rw [IntKind.wrap_i64];omega
 have w5:IntKind.i64.wrap ((n:Int) - (b:Int))=(lo:Int):=by rw [IntKind.wrap_i64];omega
 have w5':(n:Int) - (b:Int)=(lo:Int):=by omega
 have w5'':IntKind.i64.wrap (lo:Int)=(lo:Int):=by rw [IntKind.wrap_i64];omega
 have xc:decide ((mid:Int) < (m:Int))=true:=decide_eq_true (by omega);have HNU:=Za (And.intro hmid (And.intro hn (And.intro hp (And.intro hlo (And.intro hr0 (And.intro ham (And.intro hmb hc)))))));have hlr:lo<=r0:=by omega
 have hrl:r0<=ln:=by omega
 have mixed:Tryz.prog.follows .mixedOrders=true:=by kernel_rfl
 clear h hln hcf hs hs' hma hbm hn hp hlo hr0 hmid RT IH;go_enter Tryz.func194,Tryz.ntmps194
 go_wp2;go_loopw [20,21] (fun u v wr=>∃ s r:Nat,lo<=s/\s<=r/\r<=r0/\u=.int .i64 s/\v=.int .i64 r/\Hid (∀ c,lo<=c->c < s->leK (ZG d c) (ZG d (n - 1 - c)))/\Hid (∀ c,r<=c->c < r0->ZQ (ZG d (n - 1 - c)) (ZG d c)=true)/\Hid (Kee w g ex d a b d wr)) (fun u v _=>(intOf v).toNat - (intOf u).toNat)
 case atStart=>exact ⟨lo,r0,Nat.le_refl _,hlr,Nat.le_refl _,by first | rfl | (rw [HNU.out.2.2.2.1]),by first | rfl | (rw [HNU.out.2.2.2.2.1]),Za (fun c h1 h2=>by omega),Za (fun c h1 h2=>by omega),HK0⟩
 case round =>
  obtain ⟨s,r,hls,hsr,hrr,rfl,rfl,H1,H2,HK⟩:=hrel;have hcase:(mid < m/\lo=n - b/\r0=mid)\/(m<=mid/\lo=a/\r0=m):=by have:=HNU.out;omega
  have HCA:=Za hcase;clear hcase;by_cases hlt:s < r
  ·have hlen:=HLN.out;have hnu:=HNU.out;obtain ⟨c,hc'⟩:∃ c,c=(s+r) / 2:=⟨_,rfl⟩;obtain ⟨pc,hpc⟩:∃ pc,pc=p - c:=⟨_,rfl⟩;have hci:s<=c:=by omega
   have hcj:c < r:=by omega
   obtain ⟨xc1,hxc⟩:∃ x,d[c]?=some x:=⟨d[c]'(by omega),List.getElem?_eq_getElem _⟩;obtain ⟨xa,hxa⟩:∃ x,d[pc]?=some x:=⟨d[pc]'(by omega),List.getElem?_eq_getElem _⟩;obtain ⟨j1,j2,j3⟩:=HK.out.ro.grown hxc;obtain ⟨p1,p2,p3⟩:=HK.out.ro.grown hxa;have HX:=Za (And.intro (ZS hxc) (ZS hxa));have hcg:∀ n os,Calls Tryz.prog cf #[aggE xa,aggE xc1] (grow (wr.drewN n) os) fun e w'=>e=.returned (.int .i64 (cmpS xa.k xc1.k))/\∃ q os',w'=grow ((grow (wr.drewN n) os).drewN q) os':=fun n os=>HC.out.gives xa xc1 _
   have HLE:Hid (cmpS xa.k xc1.k < 0↔ZQ xa.k xc1.k=true):=Za cmpS_lt;obtain ⟨z,hz⟩:∃ z,z=cmpS xa.k xc1.k:=⟨_,rfl⟩;rw [<- hz] at hcg HLE;unfold aggE at hcg;have g1:c < ln:=by omega
   have g2:pc < ln:=by omega
   have e1:((s:Int)+(r:Int)) / 2=(c:Int):=by omega
   have e2:IntKind.i64.wrap ((p:Int) - (c:Int))=(pc:Int):=by rw [IntKind.wrap_i64];omega
   have e2':(p:Int) - (c:Int)=(pc:Int):=by omega
   have e2'':IntKind.i64.wrap (pc:Int)=(pc:Int):=by rw [IntKind.wrap_i64];omega
   have HG:Hid (∀ n os,Below wr.heap.size wr (grow (wr.drewN n) os)):=Za (fun n os=>below_grown_sl _ wr n os (Nat.le_refl _));have HPC:Hid (pc=n - 1 - c):=Za (by omega);clear hxc hxa hz hlen hc' hnu hpc;by_cases hneg:z < 0
   ·have hd:decide (z < 0)=true:=decide_eq_true hneg
    have HN1:Hid (∀ t,c<=t->t < r0->ZQ (ZG d (n - 1 - t)) (ZG d t)=true):=by
     have hx:ZQ (ZG d (n - 1 - c)) (ZG d c)=true:=by rw [<- HPC.out,HX.out.1,HX.out.2];exact HLE.out.1 hneg
     have hu:=HNU.out;exact Za (sy_right (by omega) (by omega) hu.1 hu.2.1 HCA.out (by omega) (by omega) HS.out.1 HS.out.2 hx)
    go_wp2_with fail
    go_quiet_grown (first | (go_at_fn cf;refine Calls.grown_of (hcg _ _)))
    go_wp2;go_roundw
    case rel=>exact ⟨s,c,hls,by omega,by omega,rfl,by simp,H1,HN1,Za (HK.out.grown (HG.out nq osq))⟩
    case measure=>simp [intOf];omega
   ·have hd:decide (z < 0)=false:=decide_eq_false hneg
    have HN2:Hid (∀ t,lo<=t->t < c+1->leK (ZG d t) (ZG d (n - 1 - t))):=by
     have hx:leK (ZG d c) (ZG d (n - 1 - c)):=by
      rw [<- HPC.out,HX.out.1,HX.out.2];cases q:ZQ xa.k xc1.k with
      | false=>exact q
      | true=>exact absurd (HLE.out.2 q) hneg
     have hu:=HNU.out;exact Za (sy_left (by omega) (by omega) hu.1 hu.2.1 HCA.out (by omega) (by omega) HS.out.1 HS.out.2 hx)
    go_wp2_with fail
    go_quiet_grown (first | (go_at_fn cf;refine Calls.grown_of (hcg _ _)))
    go_wp2;go_roundw
    case rel=>exact ⟨c+1,r,by omega,by omega,hrr,by simp,rfl,HN2,H2,Za (HK.out.grown (HG.out nq osq))⟩
    case measure=>simp [intOf];omega
  ·obtain rfl:s=r:=by omega
   obtain ⟨en,hen⟩:∃ en,en=n - s:=⟨_,rfl⟩;have e1:IntKind.i64.wrap ((n:Int) - (s:Int))=(en:Int):=by have:=HNU.out;rw [IntKind.wrap_i64];omega
   have e1':(n:Int) - (s:Int)=(en:Int):=by have:=HNU.out;omega
   have e1'':IntKind.i64.wrap (en:Int)=(en:Int):=by have:=HNU.out;rw [IntKind.wrap_i64];omega
   have HSY:Hid (SyF d a m b mid s en):=by
    have hu:=HNU.out;exact Za (sy_found (by omega) (by omega) hu.1 hu.2.1 HCA.out hls hrr hen HS.out.1 HS.out.2 H1.out H2.out)
   have HEN:=Za hen;have hes:=HSY.out.h4;clear hen;by_cases hR:s < mid
   ·have r1n:s < m:=by first | omega | (have:=HNU.out;omega) | (have:=HNU.out;have:=HEN.out;omega)
    have r1:decide ((s:Int) < (m:Int))=true:=decide_eq_true (by have:=HNU.out;omega);have r2n:m < en:=by first | omega | (have:=HNU.out;omega) | (have:=HNU.out;have:=HEN.out;omega)
    have r2:decide ((m:Int) < (en:Int))=true:=decide_eq_true (by have:=HNU.out;have:=HEN.out;omega);have C3:=HRT.out wr HK.out.ro s en (by have:=HNU.out;omega) (by have:=HNU.out;have:=HEN.out;omega) (by have:=HNU.out;have:=HEN.out;have:=HLN.out;omega);have HC3:=Za C3;clear C3;go_wp2_with fail
    refine HC3.out.mono ?_;rintro e' w2 ⟨rfl,d2,r2',hd2,o2⟩
    have HD2:Hid (True/\SrtIn d2 a s/\SrtIn d2 s mid/\SrtIn d2 mid en/\SrtIn d2 en b/\∀ i j,a<=i->i < mid->mid<=j->j < b->leK (ZG d2 i) (ZG d2 j)):=by
     have hbd:b<=d.length:=by have:=HLN.out;omega
     rw [hd2];exact Za ⟨trivial,HSY.out.s1 hbd HS.out.1,HSY.out.s2 hbd HS.out.2,HSY.out.s3 hbd HS.out.1,HSY.out.s4 hbd HS.out.2,HSY.out.cross hbd HS.out.1 HS.out.2⟩
    have HK2:Hid (Kee w g ex d a b d2 w2):=by
     have hbd:b<=d.length:=by have:=HLN.out;omega
     have hk:=HK.out;refine Za ⟨r2',?_,?_,?_,hk.on.trans o2⟩
     ·rw [hd2];exact HSY.out.stb hbd
     ·rw [hd2];exact HSY.out.out hbd
     ·rw [hd2];exact HSY.out.frm hbd
    clear r2' hd2 o2;by_cases hA:a < s
    ·have a1n:a < s:=by first | omega | (have:=HNU.out;omega) | (have:=HNU.out;have:=HEN.out;omega)
     have a1:decide ((a:Int) < (s:Int))=true:=decide_eq_true (by omega);have a2n:s < mid:=by first | omega | (have:=HNU.out;omega) | (have:=HNU.out;have:=HEN.out;omega)
     have a2:decide ((s:Int) < (mid:Int))=true:=decide_eq_true (by omega);have C4:=HIH.out w2 d2 a s mid HK2.out.ro (by rw [HK2.out.len];exact HLN.out.symm) (by have:=HNU.out;omega) (by omega) (by omega) (by have:=HNU.out;omega) HD2.out.2.1 HD2.out.2.2.1;have HC4:=Za C4;clear C4;go_wp2_with fail
     refine HC4.out.mono ?_;rintro e' w3 ⟨rfl,d3,r3,⟨t1,t2,t3,t4⟩,t5⟩
     have HK3:Hid (Kee w g ex d a b d3 w3/\Out d2 d3 a mid/\Frm d2 d3 a mid/\SrtIn d3 a mid):=by
      have hk:=HK2.out;have hm:=HNU.out;exact Za ⟨⟨r3,hk.stb.trans t1,Out.trans hk.out t2 (Nat.le_refl _) (Nat.le_refl _) (Nat.le_refl _) (by omega),hk.frm.trans (t3.wide t2 (Nat.le_refl _) (by omega)),hk.on.trans t5⟩,t2,t3,t4⟩
     clear r3 t1 t2 t3 t4 t5;by_cases hB:en < b
     ·have f1n:mid < en:=by first | omega | (have:=HNU.out;omega) | (have:=HNU.out;have:=HEN.out;omega)
      have f1:decide ((mid:Int) < (en:Int))=true:=decide_eq_true (by have:=HNU.out;have:=HEN.out;omega);have f2n:en < b:=by first | omega | (have:=HNU.out;omega) | (have:=HNU.out;have:=HEN.out;omega)
      have f2:decide ((en:Int) < (b:Int))=true:=decide_eq_true (by omega);have C5:=HIH.out w3 d3 mid en b HK3.out.1.ro (by rw [HK3.out.1.len];exact HLN.out.symm) (by have:=HNU.out;omega) (by have:=HNU.out;have:=HEN.out;omega) (by omega) (by omega) (HK3.out.2.1.srt HD2.out.2.2.2.1 (.inr (Nat.le_refl _))) (HK3.out.2.1.srt HD2.out.2.2.2.2.1 (.inr (by have:=HNU.out;have:=HEN.out;omega)));have HC5:=Za C5;clear C5;go_wp2_with fail
      refine HC5.out.mono ?_;rintro e' w4 ⟨rfl,d4,r4,⟨t1,t2,t3,t4⟩,t5⟩
      have HF:Hid (InP w g ex d a b (.returned (.tuple #[])) w4):=by
       have hk:=HK3.out.1;have hm:=HNU.out;refine Za ⟨rfl,d4,r4,⟨hk.stb.trans t1,Out.trans hk.out t2 (Nat.le_refl _) (Nat.le_refl _) (by omega) (Nat.le_refl _),hk.frm.trans (t3.wide t2 (by omega) (Nat.le_refl _)),?_⟩,hk.on.trans t5⟩;exact sy_fin HD2.out.2.2.2.2.2 HK3.out.2.1 HK3.out.2.2.1 HK3.out.2.2.2 t2 t3 t4
      clear r4 t1 t2 t3 t4 t5;go_wp2;go_end0
      exact HF.out
     ·have f1n:mid < en:=by first | omega | (have:=HNU.out;omega) | (have:=HNU.out;have:=HEN.out;omega)
      have f1:decide ((mid:Int) < (en:Int))=true:=decide_eq_true (by have:=HNU.out;have:=HEN.out;omega);have f2n:¬ en < b:=by first | omega | (have:=HNU.out;omega) | (have:=HNU.out;have:=HEN.out;omega)
      have f2:decide ((en:Int) < (b:Int))=false:=decide_eq_false (by omega)
      have HF:Hid (InP w g ex d a b (.returned (.tuple #[])) w3):=by
       have hk:=HK3.out.1;have hm:=HNU.out;have he:=HEN.out
       have hs4:SrtIn d3 mid b:=by
        refine HK3.out.2.1.srt ?_ (.inr (Nat.le_refl _));have hq:en=b:=by omega
        rw [<- hq];exact HD2.out.2.2.2.1
       refine Za ⟨rfl,d3,hk.ro,⟨hk.stb,hk.out,hk.frm,?_⟩,hk.on⟩;exact sy_fin HD2.out.2.2.2.2.2 HK3.out.2.1 HK3.out.2.2.1 HK3.out.2.2.2 (Out.refl _ _ _) (Frm.refl _ _ _) hs4
      go_wp2;go_end0
      exact HF.out
    ·have a1n:¬ a < s:=by first | omega | (have:=HNU.out;omega) | (have:=HNU.out;have:=HEN.out;omega)
     have a1:decide ((a:Int) < (s:Int))=false:=decide_eq_false (by omega);obtain ⟨w3,hw3⟩:∃ w3,w3=w2:=⟨_,rfl⟩;obtain ⟨d3,hd3⟩:∃ d3,d3=d2:=⟨_,rfl⟩
     have HK3:Hid (Kee w g ex d a b d3 w3/\Out d2 d3 a mid/\Frm d2 d3 a mid/\SrtIn d3 a mid):=by
      rw [hw3,hd3];refine Za ⟨HK2.out,Out.refl _ _ _,Frm.refl _ _ _,?_⟩;have hm:=HNU.out;have he:=HEN.out;have hq:s=a:=by omega
      rw [<- hq];exact HD2.out.2.2.1
     subst hw3;clear hd3;by_cases hB:en < b
     ·have f1n:mid < en:=by first | omega | (have:=HNU.out;omega) | (have:=HNU.out;have:=HEN.out;omega)
      have f1:decide ((mid:Int) < (en:Int))=true:=decide_eq_true (by have:=HNU.out;have:=HEN.out;omega);have f2n:en < b:=by first | omega | (have:=HNU.out;omega) | (have:=HNU.out;have:=HEN.out;omega)
      have f2:decide ((en:Int) < (b:Int))=true:=decide_eq_true (by omega);have C5:=HIH.out w3 d3 mid en b HK3.out.1.ro (by rw [HK3.out.1.len];exact HLN.out.symm) (by have:=HNU.out;omega) (by have:=HNU.out;have:=HEN.out;omega) (by omega) (by omega) (HK3.out.2.1.srt HD2.out.2.2.2.1 (.inr (Nat.le_refl _))) (HK3.out.2.1.srt HD2.out.2.2.2.2.1 (.inr (by have:=HNU.out;have:=HEN.out;omega)));have HC5:=Za C5;clear C5;go_wp2_with fail
      refine HC5.out.mono ?_;rintro e' w4 ⟨rfl,d4,r4,⟨t1,t2,t3,t4⟩,t5⟩
      have HF:Hid (InP w g ex d a b (.returned (.tuple #[])) w4):=by
       have hk:=HK3.out.1;have hm:=HNU.out;refine Za ⟨rfl,d4,r4,⟨hk.stb.trans t1,Out.trans hk.out t2 (Nat.le_refl _) (Nat.le_refl _) (by omega) (Nat.le_refl _),hk.frm.trans (t3.wide t2 (by omega) (Nat.le_refl _)),?_⟩,hk.on.trans t5⟩;exact sy_fin HD2.out.2.2.2.2.2 HK3.out.2.1 HK3.out.2.2.1 HK3.out.2.2.2 t2 t3 t4
      clear r4 t1 t2 t3 t4 t5;go_wp2;go_end0
      exact HF.out
     ·have f1n:mid < en:=by first | omega | (have:=HNU.out;omega) | (have:=HNU.out;have:=HEN.out;omega)
      have f1:decide ((mid:Int) < (en:Int))=true:=decide_eq_true (by have:=HNU.out;have:=HEN.out;omega);have f2n:¬ en < b:=by first | omega | (have:=HNU.out;omega) | (have:=HNU.out;have:=HEN.out;omega)
      have f2:decide ((en:Int) < (b:Int))=false:=decide_eq_false (by omega)
      have HF:Hid (InP w g ex d a b (.returned (.tuple #[])) w3):=by
       have hk:=HK3.out.1;have hm:=HNU.out;have he:=HEN.out
       have hs4:SrtIn d3 mid b:=by
        refine HK3.out.2.1.srt ?_ (.inr (Nat.le_refl _));have hq:en=b:=by omega
        rw [<- hq];exact HD2.out.2.2.2.1
       refine Za ⟨rfl,d3,hk.ro,⟨hk.stb,hk.out,hk.frm,?_⟩,hk.on⟩;exact sy_fin HD2.out.2.2.2.2.2 HK3.out.2.1 HK3.out.2.2.1 HK3.out.2.2.2 (Out.refl _ _ _) (Frm.refl _ _ _) hs4
      go_wp2;go_end0
      exact HF.out
   ·have r1n:s < m:=by first | omega | (have:=HNU.out;omega) | (have:=HNU.out;have:=HEN.out;omega)
    have r1:decide ((s:Int) < (m:Int))=true:=decide_eq_true (by have:=HNU.out;omega);have r2n:¬ m < en:=by first | omega | (have:=HNU.out;omega) | (have:=HNU.out;have:=HEN.out;omega)
    have r2:decide ((m:Int) < (en:Int))=false:=decide_eq_false (by have:=HNU.out;have:=HEN.out;omega);obtain ⟨d2,hd2⟩:∃ d2,d2=exL d s m en:=⟨_,rfl⟩;obtain ⟨w2,hw2⟩:∃ w2,w2=wr:=⟨_,rfl⟩
    have HD2:Hid (True/\SrtIn d2 a s/\SrtIn d2 s mid/\SrtIn d2 mid en/\SrtIn d2 en b/\∀ i j,a<=i->i < mid->mid<=j->j < b->leK (ZG d2 i) (ZG d2 j)):=by
     have hbd:b<=d.length:=by have:=HLN.out;omega
     rw [hd2];exact Za ⟨trivial,HSY.out.s1 hbd HS.out.1,HSY.out.s2 hbd HS.out.2,HSY.out.s3 hbd HS.out.1,HSY.out.s4 hbd HS.out.2,HSY.out.cross hbd HS.out.1 HS.out.2⟩
    have HK2:Hid (Kee w g ex d a b d2 w2):=by
     rw [hd2,exL_id HSY.out.h2 HSY.out.h3 (by have:=HLN.out;have:=HSY.out.h4;omega) (by have:=HNU.out;have:=HEN.out;omega),hw2];exact HK
    subst hw2;clear hd2;have a1n:a < s:=by first | omega | (have:=HNU.out;omega) | (have:=HNU.out;have:=HEN.out;omega)
    have a1:decide ((a:Int) < (s:Int))=true:=decide_eq_true (by have:=HNU.out;omega);have a2n:¬ s < mid:=by first | omega | (have:=HNU.out;omega) | (have:=HNU.out;have:=HEN.out;omega)
    have a2:decide ((s:Int) < (mid:Int))=false:=decide_eq_false (by omega);obtain ⟨w3,hw3⟩:∃ w3,w3=w2:=⟨_,rfl⟩;obtain ⟨d3,hd3⟩:∃ d3,d3=d2:=⟨_,rfl⟩
    have HK3:Hid (Kee w g ex d a b d3 w3/\Out d2 d3 a mid/\Frm d2 d3 a mid/\SrtIn d3 a mid):=by
     rw [hw3,hd3];refine Za ⟨HK2.out,Out.refl _ _ _,Frm.refl _ _ _,?_⟩;have hm:=HNU.out;have he:=HEN.out;have hq:s=mid:=by omega
     rw [<- hq];exact HD2.out.2.1
    subst hw3;clear hd3;by_cases hB:en < b
    ·have f1n:mid < en:=by first | omega | (have:=HNU.out;omega) | (have:=HNU.out;have:=HEN.out;omega)
     have f1:decide ((mid:Int) < (en:Int))=true:=decide_eq_true (by have:=HNU.out;have:=HEN.out;omega);have f2n:en < b:=by first | omega | (have:=HNU.out;omega) | (have:=HNU.out;have:=HEN.out;omega)
     have f2:decide ((en:Int) < (b:Int))=true:=decide_eq_true (by omega);have C5:=HIH.out w3 d3 mid en b HK3.out.1.ro (by rw [HK3.out.1.len];exact HLN.out.symm) (by have:=HNU.out;omega) (by have:=HNU.out;have:=HEN.out;omega) (by omega) (by omega) (HK3.out.2.1.srt HD2.out.2.2.2.1 (.inr (Nat.le_refl _))) (HK3.out.2.1.srt HD2.out.2.2.2.2.1 (.inr (by have:=HNU.out;have:=HEN.out;omega)));have HC5:=Za C5;clear C5;go_wp2_with fail
     refine HC5.out.mono ?_;rintro e' w4 ⟨rfl,d4,r4,⟨t1,t2,t3,t4⟩,t5⟩
     have HF:Hid (InP w g ex d a b (.returned (.tuple #[])) w4):=by
      have hk:=HK3.out.1;have hm:=HNU.out;refine Za ⟨rfl,d4,r4,⟨hk.stb.trans t1,Out.trans hk.out t2 (Nat.le_refl _) (Nat.le_refl _) (by omega) (Nat.le_refl _),hk.frm.trans (t3.wide t2 (by omega) (Nat.le_refl _)),?_⟩,hk.on.trans t5⟩;exact sy_fin HD2.out.2.2.2.2.2 HK3.out.2.1 HK3.out.2.2.1 HK3.out.2.2.2 t2 t3 t4
     clear r4 t1 t2 t3 t4 t5;go_wp2;go_end0
     exact HF.out
    ·have f1n:mid < en:=by first | omega | (have:=HNU.out;omega) | (have:=HNU.out;have:=HEN.out;omega)
     have f1:decide ((mid:Int) < (en:Int))=true:=decide_eq_true (by have:=HNU.out;have:=HEN.out;omega);have f2n:¬ en < b:=by first | omega | (have:=HNU.out;omega) | (have:=HNU.out;have:=HEN.out;omega)
     have f2:decide ((en:Int) < (b:Int))=false:=decide_eq_false (by omega)
     have HF:Hid (InP w g ex d a b (.returned (.tuple #[])) w3):=by
      have hk:=HK3.out.1;have hm:=HNU.out;have he:=HEN.out
      have hs4:SrtIn d3 mid b:=by
       refine HK3.out.2.1.srt ?_ (.inr (Nat.le_refl _));have hq:en=b:=by omega
       rw [<- hq];exact HD2.out.2.2.2.1
      refine Za ⟨rfl,d3,hk.ro,⟨hk.stb,hk.out,hk.frm,?_⟩,hk.on⟩;exact sy_fin HD2.out.2.2.2.2.2 HK3.out.2.1 HK3.out.2.2.1 HK3.out.2.2.2 (Out.refl _ _ _) (Frm.refl _ _ _) hs4
     go_wp2;go_end0
     exact HF.out
end Go.Proofs.YtdhebpnkfookcaaGreat
