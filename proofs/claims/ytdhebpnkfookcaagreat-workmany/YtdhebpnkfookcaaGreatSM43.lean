import Derived.Test.YtdhebpnkfookcaaGreatSM42
set_option maxRecDepth 100000
set_option maxHeartbeats 16000000
namespace Go.Proofs.YtdhebpnkfookcaaGreat
section
open Go.RowKit Apo Go.Sort
attribute [local go_sem ↓] ldE_exec stE_exec
theorem sym_midB (cf:Nat) (hcf:CmpE cf) (w:World) (g cap:Nat) (d:List Ed) (ex:List Value) (h:RoE w g d ex) (hl:d.length<=1000000) (a m b mid:Nat) (ham:a+1 < m) (hmb:m+1 < b) (hb:b<=d.length) (hmid:mid=(a+b) / 2) (hc:¬ mid < m) (hs:SrtIn d a m) (hs':SrtIn d m b)
  (IH:∀ (w':World) (d':List Ed) (a' m' b':Nat),RoE w' g d' ex->d'.length=d.length->b' - a' < b - a->a' < m'->m' < b'->b'<=d.length->SrtIn d' a' m'->SrtIn d' m' b'->Calls Tryz.prog 194 #[.slice (some ⟨g,0,none⟩) d.length cap,.int .i64 ((a':Nat):Int),.int .i64 ((m':Nat):Int),.int .i64 ((b':Nat):Int),.func (.func cf) #[] #[]] w' (InP w' g ex d' a' b')) :
  Calls Tryz.prog 194 #[.slice (some ⟨g,0,none⟩) d.length cap,.int .i64 a,.int .i64 m,.int .i64 b,.func (.func cf) #[] #[]] w (InP w g ex d a b):=by
 have eg:=hcf.en;have HC:=Za hcf;have HS:=Za (And.intro hs hs');obtain ⟨ln,hln⟩:∃ ln,ln=d.length:=⟨_,rfl⟩;have HLN:=Za hln;have HK0:Hid (Kee w g ex d a b d w):=Za ⟨h,Stb.refl _,Out.refl _ _ _,Frm.refl _ _ _,Onl.refl _ _⟩;have RT:∀ W,RoE W g d ex->∀ s e:Nat,s < m->m < e->e<=d.length->Calls Tryz.prog 212 #[.slice (some ⟨g,0,none⟩) d.length cap,.int .i64 (s:Int),.int .i64 m,.int .i64 (e:Int),.func (.func cf) #[] #[]] W (SoP W g ex (fun d'=>d'=exL d s m e)):=fun W hr s e h1 h2 h3=>rot_any W g cap d ex _ hr hl s m e h1 h2 h3
 have HRT:=Za RT;have HIH:=Za IH;rw [<- hln] at hb hl HRT HIH ⊢;obtain ⟨ma,hma⟩:∃ ma,ma=m - a:=⟨_,rfl⟩;obtain ⟨bm,hbm⟩:∃ bm,bm=b - m:=⟨_,rfl⟩;obtain ⟨n,hn⟩:∃ n,n=mid+m:=⟨_,rfl⟩;obtain ⟨p,hp⟩:∃ p,p=n - 1:=⟨_,rfl⟩;obtain ⟨lo,hlo⟩:∃ lo,lo=a:=⟨_,rfl⟩;obtain ⟨r0,hr0⟩:∃ r0,r0=m:=⟨_,rfl⟩;have w0:IntKind.i64.wrap ((m:Int) - (a:Int))=(ma:Int):=by rw [IntKind.wrap_i64];omega
 have w0':(m:Int) - (a:Int)=(ma:Int):=by omega
 have w0'':IntKind.i64.wrap (ma:Int)=(ma:Int):=by rw [IntKind.wrap_i64];omega
 have x0:((ma:Int) == 1)=false:=by simp;omega
 have x0':(ma == 1)=false:=by simp;omega
 have x0'':¬ ma=1:=by omega
 have w1:IntKind.i64.wrap ((b:Int) - (m:Int))=(bm:Int):=by rw [IntKind.wrap_i64];omega
 have w1':(b:Int) - (m:Int)=(bm:Int):=by omega
 have w1'':IntKind.i64.wrap (bm:Int)=(bm:Int):=by rw [IntKind.wrap_i64];omega
 have x1:((bm:Int) == 1)=false:=by simp;omega
 have x1':(bm == 1)=false:=by simp;omega
 have x1'':¬ bm=1:=by omega
 have w2:((a:Int)+(b:Int)) / 2=(mid:Int):=by omega
 have w3:IntKind.i64.wrap ((mid:Int)+(m:Int))=(n:Int):=by rw [IntKind.wrap_i64];omega
 have w3':(mid:Int)+(m:Int)=(n:Int):=by omega
 have w3'':IntKind.i64.wrap (n:Int)=(n:Int):=by rw [IntKind.wrap_i64];omega
 have w4:IntKind.i64.wrap ((n:Int) - 1)=(p:Int):=by rw [IntKind.wrap_i64];omega
 have w4':(n:Int) - 1=(p:Int):=by omega
 have w4'':IntKind.i64.wrap (p:Int)=(p:Int):=by rw [IntKind.wrap_i64];omega
 have xc:decide ((mid:Int) < (m:Int))=false:=decide_eq_false (by omega);have HNU:=Za (And.intro hmid (And.intro hn (And.intro hp (And.intro hlo (And.intro hr0 (And.intro ham (And.intro hmb hc)))))));have hlr:lo<=r0:=by omega
 have hrl:r0<=ln:=by omega
 have mixed:Tryz.prog.follows .mixedOrders=true:=by kernel_rfl
 clear h hln hcf hs hs' hma hbm hn hp hlo hr0 hmid RT IH;go_enter Tryz.func194,Tryz.ntmps194
 go_wp2;go_loopw [20,21] (fun u v wr=>∃ s r:Nat,lo<=s/\s<=r/\r<=r0/\u=.int .i64 s/\v=.int .i64 r/\Hid (∀ c,lo<=c->c < s->leK (ZG d c) (ZG d (n - 1 - c)))/\Hid (∀ c,r<=c->c < r0->ZQ (ZG d (n - 1 - c)) (ZG d c)=true)/\Hid (Kee w g ex d a b d wr)) (fun u v _=>(intOf v).toNat - (intOf u).toNat)
 case atStart=>exact ⟨lo,r0,Nat.le_refl _,hlr,Nat.le_refl _,by first | rfl | (rw [HNU.out.2.2.2.1]),by first | rfl | (rw [HNU.out.2.2.2.2.1]),Za (fun c h1 h2=>by omega),Za (fun c h1 h2=>by omega),HK0⟩
 case round =>
  obtain ⟨s,r,hls,hsr,hrr,rfl,rfl,H1,H2,HK⟩:=hrel;have hcase:(mid < m/\lo=n - b/\r0=mid)\/(m<=mid/\lo=a/\r0=m):=by have:=HNU.out;omega
  have HCA:=Za hcase;clear hcase;by_cases hlt:s < r
  ·have hlen:=HLN.out;have hnu:=HNU.out;obtain ⟨c,hc'⟩:∃ c,c=(s+r) / 2:=⟨_,rfl⟩;obtain ⟨pc,hpc⟩:∃ pc,pc=p - c:=⟨_,rfl⟩;have hci:s<=c:=by omega
   have hcj:c < r:=by omega
   obtain ⟨xc1,hxc⟩:∃ x,d[c]?=some x:=⟨d[c]'(by omega),List.getElem?_eq_getElem _⟩;obtain ⟨xa,hxa⟩:∃ x,d[pc]?=some x:=⟨d[pc]'(by omega),List.getElem?_eq_getElem _⟩;obtain ⟨j1,j2,j3⟩:=HK.out.ro.grown hxc;obtain ⟨p1,p2,p3⟩:=HK.out.ro.grown hxa;have HX:=Za (And.intro (ZS hxc) (ZS hxa));have hcg:∀ n os,Calls Tryz.prog cf #[aggE xa,aggE xc1] (grow (wr.drewN n) os) fun e w'=>e=.returned (.int .i64 (cmpS xa.k xc1.k))/\∃ q os',w'=grow ((grow (wr.drewN n) os).drewN q) os':=fun n os=>HC.out.gives xa xc1 _
   have HLE:Hid (cmpS xa.k xc1.k < 0↔ZQ xa.k xc1.k=true):=Za cmpS_lt;obtain ⟨z,hz⟩:∃ z,z=cmpS xa.k xc1.k:=⟨_,rfl⟩;rw [<- hz] at hcg HLE;unfold aggE at hcg;have g1:c < ln:=by omega
   have g2:pc < ln:=by omega
   have e1:((s:Int)+(r:Int)) / 2=(c:Int):=by omega
   have e2:IntKind.i64.wrap ((p:Int) - (c:Int))=(pc:Int):=by rw [IntKind.wrap_i64];omega
   have e2':(p:Int) - (c:Int)=(pc:Int):=by omega
   have e2'':IntKind.i64.wrap (pc:Int)=(pc:Int):=by rw [IntKind.wrap_i64];omega
   have HG:Hid (∀ n os,Below wr.heap.size wr (grow (wr.drewN n) os)):=Za (fun n os=>below_grown_sl _ wr n os (Nat.le_refl _));have HPC:Hid (pc=n - 1 - c):=Za (by omega);clear hxc hxa hz hlen hc' hnu hpc;by_cases hneg:z < 0
   ·have hd:decide (z < 0)=true:=decide_eq_true hneg
    have HN1:Hid (∀ t,c<=t->t < r0->ZQ (ZG d (n - 1 - t)) (ZG d t)=true):=by
     have hx:ZQ (ZG d (n - 1 - c)) (ZG d c)=true:=by rw [<- HPC.out,HX.out.1,HX.out.2];exact HLE.out.1 hneg
     have hu:=HNU.out;exact Za (sy_right (by omega) (by omega) hu.1 hu.2.1 HCA.out (by omega) (by omega) HS.out.1 HS.out.2 hx)
    go_wp2_with fail
    go_quiet_grown (first | (go_at_fn cf;refine Calls.grown_of (hcg _ _)))
    go_wp2;go_roundw
    case rel=>exact ⟨s,c,hls,by omega,by omega,rfl,by simp,H1,HN1,Za (HK.out.grown (HG.out nq osq))⟩
    case measure=>simp [intOf];omega
   ·have hd:decide (z < 0)=false:=decide_eq_false hneg
    have HN2:Hid (∀ t,lo<=t->t < c+1->leK (ZG d t) (ZG d (n - 1 - t))):=by
     have hx:leK (ZG d c) (ZG d (n - 1 - c)):=by
      rw [<- HPC.out,HX.out.1,HX.out.2];cases q:ZQ xa.k xc1.k with
      | false=>exact q
      | true=>exact absurd (HLE.out.2 q) hneg
     have hu:=HNU.out;exact Za (sy_left (by omega) (by omega) hu.1 hu.2.1 HCA.out (by omega) (by omega) HS.out.1 HS.out.2 hx)
    go_wp2_with fail
    go_quiet_grown (first | (go_at_fn cf;refine Calls.grown_of (hcg _ _)))
    go_wp2;go_roundw
    case rel=>exact ⟨c+1,r,by omega,by omega,hrr,by simp,rfl,HN2,H2,Za (HK.out.grown (HG.out nq osq))⟩
    case measure=>simp [intOf];omega
  ·obtain rfl:s=r:=by omega
   obtain ⟨en,hen⟩:∃ en,en=n - s:=⟨_,rfl⟩;have e1:IntKind.i64.wrap ((n:Int) - (s:Int))=(en:Int):=by have:=HNU.out;rw [IntKind.wrap_i64];omega
   have e1':(n:Int) - (s:Int)=(en:Int):=by have:=HNU.out;omega
   have e1'':IntKind.i64.wrap (en:Int)=(en:Int):=by have:=HNU.out;rw [IntKind.wrap_i64];omega
   have HSY:Hid (SyF d a m b mid s en):=by
    have hu:=HNU.out;exact Za (sy_found (by omega) (by omega) hu.1 hu.2.1 HCA.out hls hrr hen HS.out.1 HS.out.2 H1.out H2.out)
   have HEN:=Za hen;have hes:=HSY.out.h4;clear hen;by_cases hR:s < m
   ·have hsm:s < mid:=by have:=HNU.out;omega
    have r1n:s < m:=by first | omega | (have:=HNU.out;omega) | (have:=HNU.out;have:=HEN.out;omega)
    have r1:decide ((s:Int) < (m:Int))=true:=decide_eq_true (by have:=HNU.out;omega);have r2n:m < en:=by first | omega | (have:=HNU.out;omega) | (have:=HNU.out;have:=HEN.out;omega)
    have r2:decide ((m:Int) < (en:Int))=true:=decide_eq_true (by have:=HNU.out;have:=HEN.out;omega);have C3:=HRT.out wr HK.out.ro s en (by have:=HNU.out;omega) (by have:=HNU.out;have:=HEN.out;omega) (by have:=HNU.out;have:=HEN.out;have:=HLN.out;omega);have HC3:=Za C3;clear C3;go_wp2_with fail
    refine HC3.out.mono ?_;rintro e' w2 ⟨rfl,d2,r2',hd2,o2⟩
    have HD2:Hid (True/\SrtIn d2 a s/\SrtIn d2 s mid/\SrtIn d2 mid en/\SrtIn d2 en b/\∀ i j,a<=i->i < mid->mid<=j->j < b->leK (ZG d2 i) (ZG d2 j)):=by
     have hbd:b<=d.length:=by have:=HLN.out;omega
     rw [hd2];exact Za ⟨trivial,HSY.out.s1 hbd HS.out.1,HSY.out.s2 hbd HS.out.2,HSY.out.s3 hbd HS.out.1,HSY.out.s4 hbd HS.out.2,HSY.out.cross hbd HS.out.1 HS.out.2⟩
    have HK2:Hid (Kee w g ex d a b d2 w2):=by
     have hbd:b<=d.length:=by have:=HLN.out;omega
     have hk:=HK.out;refine Za ⟨r2',?_,?_,?_,hk.on.trans o2⟩
     ·rw [hd2];exact HSY.out.stb hbd
     ·rw [hd2];exact HSY.out.out hbd
     ·rw [hd2];exact HSY.out.frm hbd
    clear r2' hd2 o2;by_cases hA:a < s
    ·have a1n:a < s:=by first | omega | (have:=HNU.out;omega) | (have:=HNU.out;have:=HEN.out;omega)
     have a1:decide ((a:Int) < (s:Int))=true:=decide_eq_true (by omega);have a2n:s < mid:=by first | omega | (have:=HNU.out;omega) | (have:=HNU.out;have:=HEN.out;omega)
     have a2:decide ((s:Int) < (mid:Int))=true:=decide_eq_true (by omega);have C4:=HIH.out w2 d2 a s mid HK2.out.ro (by rw [HK2.out.len];exact HLN.out.symm) (by have:=HNU.out;omega) (by omega) (by omega) (by have:=HNU.out;omega) HD2.out.2.1 HD2.out.2.2.1;have HC4:=Za C4;clear C4;go_wp2_with fail
     refine HC4.out.mono ?_;rintro e' w3 ⟨rfl,d3,r3,⟨t1,t2,t3,t4⟩,t5⟩
     have HK3:Hid (Kee w g ex d a b d3 w3/\Out d2 d3 a mid/\Frm d2 d3 a mid/\SrtIn d3 a mid):=by
      have hk:=HK2.out;have hm:=HNU.out;exact Za ⟨⟨r3,hk.stb.trans t1,Out.trans hk.out t2 (Nat.le_refl _) (Nat.le_refl _) (Nat.le_refl _) (by omega),hk.frm.trans (t3.wide t2 (Nat.le_refl _) (by omega)),hk.on.trans t5⟩,t2,t3,t4⟩
     clear r3 t1 t2 t3 t4 t5;by_cases hB:en < b
     ·have f1n:mid < en:=by first | omega | (have:=HNU.out;omega) | (have:=HNU.out;have:=HEN.out;omega)
      have f1:decide ((mid:Int) < (en:Int))=true:=decide_eq_true (by have:=HNU.out;have:=HEN.out;omega);have f2n:en < b:=by first | omega | (have:=HNU.out;omega) | (have:=HNU.out;have:=HEN.out;omega)
      have f2:decide ((en:Int) < (b:Int))=true:=decide_eq_true (by omega);have C5:=HIH.out w3 d3 mid en b HK3.out.1.ro (by rw [HK3.out.1.len];exact HLN.out.symm) (by have:=HNU.out;omega) (by have:=HNU.out;have:=HEN.out;omega) (by omega) (by omega) (HK3.out.2.1.srt HD2.out.2.2.2.1 (.inr (Nat.le_refl _))) (HK3.out.2.1.srt HD2.out.2.2.2.2.1 (.inr (by have:=HNU.out;have:=HEN.out;omega)));have HC5:=Za C5;clear C5;go_wp2_with fail
      refine HC5.out.mono ?_;rintro e' w4 ⟨rfl,d4,r4,⟨t1,t2,t3,t4⟩,t5⟩
      have HF:Hid (InP w g ex d a b (.returned (.tuple #[])) w4):=by
       have hk:=HK3.out.1;have hm:=HNU.out;refine Za ⟨rfl,d4,r4,⟨hk.stb.trans t1,Out.trans hk.out t2 (Nat.le_refl _) (Nat.le_refl _) (by omega) (Nat.le_refl _),hk.frm.trans (t3.wide t2 (by omega) (Nat.le_refl _)),?_⟩,hk.on.trans t5⟩;exact sy_fin HD2.out.2.2.2.2.2 HK3.out.2.1 HK3.out.2.2.1 HK3.out.2.2.2 t2 t3 t4
      clear r4 t1 t2 t3 t4 t5;go_wp2;go_end0
      exact HF.out
     ·have f1n:mid < en:=by first | omega | (have:=HNU.out;omega) | (have:=HNU.out;have:=HEN.out;omega)
      have f1:decide ((mid:Int) < (en:Int))=true:=decide_eq_true (by have:=HNU.out;have:=HEN.out;omega);have f2n:¬ en < b:=by first | omega | (have:=HNU.out;omega) | (have:=HNU.out;have:=HEN.out;omega)
      have f2:decide ((en:Int) < (b:Int))=false:=decide_eq_false (by omega)
      have HF:Hid (InP w g ex d a b (.returned (.tuple #[])) w3):=by
       have hk:=HK3.out.1;have hm:=HNU.out;have he:=HEN.out
       have hs4:SrtIn d3 mid b:=by
        refine HK3.out.2.1.srt ?_ (.inr (Nat.le_refl _));have hq:en=b:=by omega
        rw [<- hq];exact HD2.out.2.2.2.1
       refine Za ⟨rfl,d3,hk.ro,⟨hk.stb,hk.out,hk.frm,?_⟩,hk.on⟩;exact sy_fin HD2.out.2.2.2.2.2 HK3.out.2.1 HK3.out.2.2.1 HK3.out.2.2.2 (Out.refl _ _ _) (Frm.refl _ _ _) hs4
      go_wp2;go_end0
      exact HF.out
    ·have a1n:¬ a < s:=by first | omega | (have:=HNU.out;omega) | (have:=HNU.out;have:=HEN.out;omega)
     have a1:decide ((a:Int) < (s:Int))=false:=decide_eq_false (by omega);obtain ⟨w3,hw3⟩:∃ w3,w3=w2:=⟨_,rfl⟩;obtain ⟨d3,hd3⟩:∃ d3,d3=d2:=⟨_,rfl⟩
     have HK3:Hid (Kee w g ex d a b d3 w3/\Out d2 d3 a mid/\Frm d2 d3 a mid/\SrtIn d3 a mid):=by
      rw [hw3,hd3];refine Za ⟨HK2.out,Out.refl _ _ _,Frm.refl _ _ _,?_⟩;have hm:=HNU.out;have he:=HEN.out;have hq:s=a:=by omega
      rw [<- hq];exact HD2.out.2.2.1
     subst hw3;clear hd3;by_cases hB:en < b
     ·have f1n:mid < en:=by first | omega | (have:=HNU.out;omega) | (have:=HNU.out;have:=HEN.out;omega)
      have f1:decide ((mid:Int) < (en:Int))=true:=decide_eq_true (by have:=HNU.out;have:=HEN.out;omega);have f2n:en < b:=by first | omega | (have:=HNU.out;omega) | (have:=HNU.out;have:=HEN.out;omega)
      have f2:decide ((en:Int) < (b:Int))=true:=decide_eq_true (by omega);have C5:=HIH.out w3 d3 mid en b HK3.out.1.ro (by rw [HK3.out.1.len];exact HLN.out.symm) (by have:=HNU.out;omega) (by have:=HNU.out;have:=HEN.out;omega) (by omega) (by omega) (HK3.out.2.1.srt HD2.out.2.2.2.1 (.inr (Nat.le_refl _))) (HK3.out.2.1.srt HD2.out.2.2.2.2.1 (.inr (by have:=HNU.out;have:=HEN.out;omega)));have HC5:=Za C5;clear C5;go_wp2_with fail
      refine HC5.out.mono ?_;rintro e' w4 ⟨rfl,d4,r4,⟨t1,t2,t3,t4⟩,t5⟩
      have HF:Hid (InP w g ex d a b (.returned (.tuple #[])) w4):=by
       have hk:=HK3.out.1;have hm:=HNU.out;refine Za ⟨rfl,d4,r4,⟨hk.stb.trans t1,Out.trans hk.out t2 (Nat.le_refl _) (Nat.le_refl _) (by omega) (Nat.le_refl _),hk.frm.trans (t3.wide t2 (by omega) (Nat.le_refl _)),?_⟩,hk.on.trans t5⟩;exact sy_fin HD2.out.2.2.2.2.2 HK3.out.2.1 HK3.out.2.2.1 HK3.out.2.2.2 t2 t3 t4
      clear r4 t1 t2 t3 t4 t5;go_wp2;go_end0
      exact HF.out
     ·have f1n:mid < en:=by first | omega | (have:=HNU.out;omega) | (have:=HNU.out;have:=HEN.out;omega)
      have f1:decide ((mid:Int) < (en:Int))=true:=decide_eq_true (by have:=HNU.out;have:=HEN.out;omega);have f2n:¬ en < b:=by first | omega | (have:=HNU.out;omega) | (have:=HNU.out;have:=HEN.out;omega)
      have f2:decide ((en:Int) < (b:Int))=false:=decide_eq_false (by omega)
      have HF:Hid (InP w g ex d a b (.returned (.tuple #[])) w3):=by
       have hk:=HK3.out.1;have hm:=HNU.out;have he:=HEN.out
       have hs4:SrtIn d3 mid b:=by
        refine HK3.out.2.1.srt ?_ (.inr (Nat.le_refl _));have hq:en=b:=by omega
        rw [<- hq];exact HD2.out.2.2.2.1
       refine Za ⟨rfl,d3,hk.ro,⟨hk.stb,hk.out,hk.frm,?_⟩,hk.on⟩;exact sy_fin HD2.out.2.2.2.2.2 HK3.out.2.1 HK3.out.2.2.1 HK3.out.2.2.2 (Out.refl _ _ _) (Frm.refl _ _ _) hs4
      go_wp2;go_end0
      exact HF.out
   ·have r1n:¬ s < m:=by first | omega | (have:=HNU.out;omega) | (have:=HNU.out;have:=HEN.out;omega)
    have r1:decide ((s:Int) < (m:Int))=false:=decide_eq_false (by omega);obtain ⟨d2,hd2⟩:∃ d2,d2=exL d s m en:=⟨_,rfl⟩;obtain ⟨w2,hw2⟩:∃ w2,w2=wr:=⟨_,rfl⟩
    have HD2:Hid (True/\SrtIn d2 a s/\SrtIn d2 s mid/\SrtIn d2 mid en/\SrtIn d2 en b/\∀ i j,a<=i->i < mid->mid<=j->j < b->leK (ZG d2 i) (ZG d2 j)):=by
     have hbd:b<=d.length:=by have:=HLN.out;omega
     rw [hd2];exact Za ⟨trivial,HSY.out.s1 hbd HS.out.1,HSY.out.s2 hbd HS.out.2,HSY.out.s3 hbd HS.out.1,HSY.out.s4 hbd HS.out.2,HSY.out.cross hbd HS.out.1 HS.out.2⟩
    have HK2:Hid (Kee w g ex d a b d2 w2):=by
     rw [hd2,exL_id HSY.out.h2 HSY.out.h3 (by have:=HLN.out;have:=HSY.out.h4;omega) (by have:=HNU.out;have:=HEN.out;omega),hw2];exact HK
    subst hw2;clear hd2;by_cases hA:s < mid
    ·have a1n:a < s:=by first | omega | (have:=HNU.out;omega) | (have:=HNU.out;have:=HEN.out;omega)
     have a1:decide ((a:Int) < (s:Int))=true:=decide_eq_true (by omega);have a2n:s < mid:=by first | omega | (have:=HNU.out;omega) | (have:=HNU.out;have:=HEN.out;omega)
     have a2:decide ((s:Int) < (mid:Int))=true:=decide_eq_true (by omega);have C4:=HIH.out w2 d2 a s mid HK2.out.ro (by rw [HK2.out.len];exact HLN.out.symm) (by have:=HNU.out;omega) (by omega) (by omega) (by have:=HNU.out;omega) HD2.out.2.1 HD2.out.2.2.1;have HC4:=Za C4;clear C4;go_wp2_with fail
     refine HC4.out.mono ?_;rintro e' w3 ⟨rfl,d3,r3,⟨t1,t2,t3,t4⟩,t5⟩
     have HK3:Hid (Kee w g ex d a b d3 w3/\Out d2 d3 a mid/\Frm d2 d3 a mid/\SrtIn d3 a mid):=by
      have hk:=HK2.out;have hm:=HNU.out;exact Za ⟨⟨r3,hk.stb.trans t1,Out.trans hk.out t2 (Nat.le_refl _) (Nat.le_refl _) (Nat.le_refl _) (by omega),hk.frm.trans (t3.wide t2 (Nat.le_refl _) (by omega)),hk.on.trans t5⟩,t2,t3,t4⟩
     clear r3 t1 t2 t3 t4 t5;have f1n:¬ mid < en:=by first | omega | (have:=HNU.out;omega) | (have:=HNU.out;have:=HEN.out;omega)
     have f1:decide ((mid:Int) < (en:Int))=false:=decide_eq_false (by have:=HNU.out;have:=HEN.out;omega)
     have HF:Hid (InP w g ex d a b (.returned (.tuple #[])) w3):=by
      have hk:=HK3.out.1;have hm:=HNU.out;have he:=HEN.out
      have hs4:SrtIn d3 mid b:=by
       refine HK3.out.2.1.srt ?_ (.inr (Nat.le_refl _));have hq:mid=en:=by omega
       rw [hq];exact HD2.out.2.2.2.2.1
      refine Za ⟨rfl,d3,hk.ro,⟨hk.stb,hk.out,hk.frm,?_⟩,hk.on⟩;exact sy_fin HD2.out.2.2.2.2.2 HK3.out.2.1 HK3.out.2.2.1 HK3.out.2.2.2 (Out.refl _ _ _) (Frm.refl _ _ _) hs4
     go_wp2;go_end0
     exact HF.out
    ·have a1n:a < s:=by first | omega | (have:=HNU.out;omega) | (have:=HNU.out;have:=HEN.out;omega)
     have a1:decide ((a:Int) < (s:Int))=true:=decide_eq_true (by have:=HNU.out;omega);have a2n:¬ s < mid:=by first | omega | (have:=HNU.out;omega) | (have:=HNU.out;have:=HEN.out;omega)
     have a2:decide ((s:Int) < (mid:Int))=false:=decide_eq_false (by omega);obtain ⟨w3,hw3⟩:∃ w3,w3=w2:=⟨_,rfl⟩;obtain ⟨d3,hd3⟩:∃ d3,d3=d2:=⟨_,rfl⟩
     have HK3:Hid (Kee w g ex d a b d3 w3/\Out d2 d3 a mid/\Frm d2 d3 a mid/\SrtIn d3 a mid):=by
      rw [hw3,hd3];refine Za ⟨HK2.out,Out.refl _ _ _,Frm.refl _ _ _,?_⟩;have hm:=HNU.out;have he:=HEN.out;have hq:s=mid:=by omega
      rw [<- hq];exact HD2.out.2.1
     subst hw3;clear hd3;have f1n:¬ mid < en:=by first | omega | (have:=HNU.out;omega) | (have:=HNU.out;have:=HEN.out;omega)
     have f1:decide ((mid:Int) < (en:Int))=false:=decide_eq_false (by have:=HNU.out;have:=HEN.out;omega)
     have HF:Hid (InP w g ex d a b (.returned (.tuple #[])) w3):=by
      have hk:=HK3.out.1;have hm:=HNU.out;have he:=HEN.out
      have hs4:SrtIn d3 mid b:=by
       refine HK3.out.2.1.srt ?_ (.inr (Nat.le_refl _));have hq:mid=en:=by omega
       rw [hq];exact HD2.out.2.2.2.2.1
      refine Za ⟨rfl,d3,hk.ro,⟨hk.stb,hk.out,hk.frm,?_⟩,hk.on⟩;exact sy_fin HD2.out.2.2.2.2.2 HK3.out.2.1 HK3.out.2.2.1 HK3.out.2.2.2 (Out.refl _ _ _) (Frm.refl _ _ _) hs4
     go_wp2;go_end0
     exact HF.out
end
section
open Go.RowKit Apo Go.Sort
theorem sym_any (cf:Nat) (hcf:CmpE cf) (g cap:Nat) (ex:List Value):∀ (N:Nat) (w:World) (d:List Ed),RoE w g d ex->d.length<=1000000->∀ a m b:Nat,b - a<=N->a < m->m < b->b<=d.length->SrtIn d a m->SrtIn d m b ->
  Calls Tryz.prog 194 #[.slice (some ⟨g,0,none⟩) d.length cap,.int .i64 (a:Int),.int .i64 (m:Int),.int .i64 (b:Int),.func (.func cf) #[] #[]] w (InP w g ex d a b)
 | 0,w,d,_,_,a,m,b,h1,h2,h3,_,_,_=>by omega
 | N+1,w,d,hr,hl,a,m,b,h1,h2,h3,h4,hs,hs'=>by
  by_cases z1:m=a+1
  ·exact sym_one cf hcf w g cap d ex hr hl a m b z1 h3 h4 hs'
  ·by_cases z2:b=m+1
   ·exact sym_last cf hcf w g cap d ex hr hl a m b (by omega) z2 h4 hs
   ·have IH:∀ (w':World) (d':List Ed) (a' m' b':Nat),RoE w' g d' ex->d'.length=d.length->b' - a' < b - a->a' < m'->m' < b'->b'<=d.length->SrtIn d' a' m'->SrtIn d' m' b'->Calls Tryz.prog 194 #[.slice (some ⟨g,0,none⟩) d.length cap,.int .i64 ((a':Nat):Int),.int .i64 ((m':Nat):Int),.int .i64 ((b':Nat):Int),.func (.func cf) #[] #[]] w' (InP w' g ex d' a' b'):=fun w' d' a' m' b' q1 q2 q3 q4 q5 q6 q7 q8=>by
     have:=sym_any cf hcf g cap ex N w' d' q1 (by omega) a' m' b' (by omega) q4 q5 (by omega) q7 q8;rwa [q2] at this
    by_cases z3:(a+b) / 2 < m
    ·exact sym_midA cf hcf w g cap d ex hr hl a m b _ (by omega) (by omega) h4 rfl z3 hs hs' IH
    ·exact sym_midB cf hcf w g cap d ex hr hl a m b _ (by omega) (by omega) h4 rfl z3 hs hs' IH
def Blk (d:List Ed) (n bs:Nat):Prop:=∀ k,SrtIn d (k * bs) (min (k * bs+bs) n)
def Rst (d:List Ed) (n bs a:Nat):Prop:=∀ k,SrtIn d (a+k * bs) (min (a+k * bs+bs) n)
def Don (d:List Ed) (bs c:Nat):Prop:=∀ k,k < c->SrtIn d (k * bs) (k * bs+bs)
theorem don_step {d d':List Ed} {bs c:Nat} (h:Don d bs c) (o:Out d d' (c * bs) (c * bs+bs)) (s:SrtIn d' (c * bs) (c * bs+bs)):Don d' bs (c+1):=fun k hk=>by
 by_cases q:k=c
 ·rw [q];exact s
 ·have:(k+1) * bs<=c * bs:=Nat.mul_le_mul_right bs (by omega);rw [Nat.succ_mul] at this;exact o.srt (h k (by omega)) (.inl this)
theorem don_last {d d':List Ed} {bs c n:Nat} (h:Don d bs c) (h1:n < c * bs+bs) (h2:c * bs<=n) (o:Out d d' (c * bs) n) (s:SrtIn d' (c * bs) n):Blk d' n bs:=fun k=>by
 by_cases q:k < c
 ·have:(k+1) * bs<=c * bs:=Nat.mul_le_mul_right bs (by omega);rw [Nat.succ_mul] at this;rw [Nat.min_eq_left (by omega)];exact o.srt (h k q) (.inl this)
 ·by_cases z:k=c
  ·rw [z,Nat.min_eq_right (by omega)];exact s
  ·have:(c+1) * bs<=k * bs:=Nat.mul_le_mul_right bs (by omega);rw [Nat.succ_mul] at this;intro i j q1 q2 q3;omega
theorem blk_rst {d:List Ed} {n bs:Nat} (h:Blk d n bs):Rst d n bs 0:=fun k=>by rw [Nat.zero_add];exact h k
theorem rst_two {d:List Ed} {n bs a:Nat} (h:Rst d n bs a):SrtIn d a (min (a+bs) n)/\SrtIn d (a+bs) (min (a+bs+bs) n)/\Rst d n bs (a+2 * bs):=by
 refine ⟨by simpa using h 0,by simpa using h 1,fun k=>?_⟩;have:=h (k+2);rwa [show a+(k+2) * bs=a+2 * bs+k * bs by rw [Nat.add_mul];omega] at this
theorem rst_out {d d':List Ed} {n bs a b:Nat} (h:Rst d n bs b) (o:Out d d' a b):Rst d' n bs b:=fun k=>o.srt (h k) (.inr (by omega))
theorem blk_all {d:List Ed} {n bs:Nat} (h:Blk d n bs) (hn:n<=bs):SrtIn d 0 n:=by
 have:=h 0;rwa [Nat.zero_mul,Nat.zero_add,Nat.min_eq_right hn] at this
theorem Kee.more {w:World} {g:Nat} {ex:List Value} {d0:List Ed} {n:Nat} {d d':List Ed} {W W':World} {a b:Nat} (h:Kee w g ex d0 0 n d W) (hb:b<=n) (hr:RoE W' g d' ex) (hs:Stb d d') (ho:Out d d' a b) (hf:Frm d d' a b) (hon:Onl (fun j=>j=g) W W'):Kee w g ex d0 0 n d' W' :=
 ⟨hr,h.stb.trans hs,Out.trans h.out ho (Nat.le_refl _) (Nat.le_refl _) (Nat.zero_le _) hb,h.frm.trans (hf.wide ho (Nat.zero_le _) hb),h.on.trans hon⟩
theorem stable_any (cf:Nat) (hcf:CmpE cf) (w:World) (g cap:Nat) (d:List Ed) (ex:List Value) (h:RoE w g d ex) (hl:d.length<=1000000) :
  Calls Tryz.prog 158 #[.slice (some ⟨g,0,none⟩) d.length cap,.int .i64 d.length,.func (.func cf) #[] #[]] w (InP w g ex d 0 d.length):=by
 obtain ⟨n,hn⟩:∃ n,n=d.length:=⟨_,rfl⟩;have HN:=Za hn;have HK0:Hid (Kee w g ex d 0 n d w):=Za ⟨h,Stb.refl _,Out.refl _ _ _,Frm.refl _ _ _,Onl.refl _ _⟩
 have CI:∀ W (d':List Ed) (a b:Nat),RoE W g d' ex->d'.length=n->a<=b->b<=n->Calls Tryz.prog 193 #[.slice (some ⟨g,0,none⟩) n cap,.int .i64 (a:Int),.int .i64 (b:Int),.func (.func cf) #[] #[]] W (InP W g ex d' a b):=fun W d' a b hr he h1 h2=>by
  have:=ins_any cf hcf W g cap d' ex hr (by omega) a b h1 (by omega);rwa [he] at this
 have CM:∀ W (d':List Ed) (a m b:Nat),RoE W g d' ex->d'.length=n->a < m->m < b->b<=n->SrtIn d' a m->SrtIn d' m b->Calls Tryz.prog 194 #[.slice (some ⟨g,0,none⟩) n cap,.int .i64 (a:Int),.int .i64 (m:Int),.int .i64 (b:Int),.func (.func cf) #[] #[]] W (InP W g ex d' a b):=fun W d' a m b hr he h1 h2 h3 h4 h5=>by
  have:=sym_any cf hcf g cap ex (b - a) W d' hr (by omega) a m b (Nat.le_refl _) h1 h2 (by omega) h4 h5;rwa [he] at this
 have HCI:=Za CI;have HCM:=Za CM;rw [<- hn] at hl ⊢;clear h hn CI CM hcf;go_enter Tryz.func158,Tryz.ntmps158
 go_wp2;go_loopw [7,8] (fun u v wr=>∃ (c A Bv:Nat) (d':List Ed),A<=n/\Bv=A+20/\u=.int .i64 A/\v=.int .i64 Bv/\Hid (A=c * 20)/\Hid (Kee w g ex d 0 n d' wr/\Don d' 20 c)) (fun u _ _=>n - (intOf u).toNat)
 case atStart=>exact ⟨0,0,20,d,Nat.zero_le _,rfl,rfl,rfl,Za rfl,Za ⟨HK0.out,fun k hk=>by omega⟩⟩
 case round =>
  obtain ⟨c,A,Bv,d1,hA,hBA,rfl,rfl,HA,HK⟩:=hrel;have HBA:=Za hBA;by_cases hlt:Bv<=n
  ·have hd:decide ((Bv:Int)<=(n:Int))=true:=decide_eq_true (by omega);have C1:=HCI.out wr d1 A Bv HK.out.1.ro (by rw [HK.out.1.len];exact HN.out.symm) (by omega) hlt;obtain ⟨B2,hB2⟩:∃ B2,B2=Bv+20:=⟨_,rfl⟩;have w1:IntKind.i64.wrap ((Bv:Int)+20)=(B2:Int):=by rw [IntKind.wrap_i64];omega
   have w1':(Bv:Int)+20=(B2:Int):=by omega
   have w1'':IntKind.i64.wrap (B2:Int)=(B2:Int):=by rw [IntKind.wrap_i64];omega
   have HB2:=Za hB2;have HC1:=Za C1;clear C1 hB2 hBA;go_wp2_with fail
   refine HC1.out.mono ?_;rintro e' w2 ⟨rfl,d2,r2,⟨t1,t2,t3,t4⟩,t5⟩
   have HF:Hid (Kee w g ex d 0 n d2 w2/\Don d2 20 (c+1)):=by
    have ha:=HA.out;have hb:=HBA.out;refine Za ⟨HK.out.1.more hlt r2 t1 t2 t3 t5,?_⟩;rw [hb,ha] at t2 t4;exact don_step HK.out.2 t2 t4
   clear r2 t1 t2 t3 t4 t5;go_wp2;go_roundw
   case rel=>exact ⟨c+1,Bv,B2,d2,hlt,HB2.out,rfl,rfl,Za (by have:=HA.out;have:=HBA.out;omega),HF⟩
   case measure=>have:=HBA.out;simp [intOf];omega
  ·have hd:decide ((Bv:Int)<=(n:Int))=false:=decide_eq_false (by omega);have C1:=HCI.out wr d1 A n HK.out.1.ro (by rw [HK.out.1.len];exact HN.out.symm) hA (Nat.le_refl _);have HC1:=Za C1;clear C1 hBA;go_wp2_with fail
   refine HC1.out.mono ?_;rintro e' w2 ⟨rfl,d2,r2,⟨t1,t2,t3,t4⟩,t5⟩
   have HK2:Hid (Kee w g ex d 0 n d2 w2/\Blk d2 n 20):=by
    have ha:=HA.out;have hb:=HBA.out;refine Za ⟨HK.out.1.more (Nat.le_refl _) r2 t1 t2 t3 t5,?_⟩;rw [ha] at t2 t4;exact don_last HK.out.2 (by omega) (by omega) t2 t4
   clear r2 t1 t2 t3 t4 t5 HK HC1;go_wp2;go_loopw [6] (fun u wr=>∃ (bs:Nat) (d':List Ed),20<=bs/\bs<=2 * n+20/\u=.int .i64 bs/\Hid (Kee w g ex d 0 n d' wr/\Blk d' n bs)) (fun u _=>2 * n+20 - (intOf u).toNat)
   case atStart=>exact ⟨20,d2,Nat.le_refl _,by omega,rfl,HK2⟩
   case round =>
    clear HK2;obtain ⟨bs,d3,hb20,hbn,rfl,HK3⟩:=hrel;by_cases hbs:bs < n
    ·have hd2:decide ((bs:Int) < (n:Int))=true:=decide_eq_true (by omega);obtain ⟨bs2,hbs2⟩:∃ bs2,bs2=2 * bs:=⟨_,rfl⟩;have w2a:IntKind.i64.wrap (2 * (bs:Int))=(bs2:Int):=by rw [IntKind.wrap_i64];omega
     have w2b:2 * (bs:Int)=(bs2:Int):=by omega
     have w2c:IntKind.i64.wrap (bs2:Int)=(bs2:Int):=by rw [IntKind.wrap_i64];omega
     have w2d:(bs:Int) * 2=(bs2:Int):=by omega
     have w2e:IntKind.i64.wrap ((bs:Int) * 2)=(bs2:Int):=by rw [IntKind.wrap_i64];omega
     have HB2:=Za hbs2;obtain ⟨w4,rfl⟩:∃ w4,w4=wr:=⟨_,rfl⟩;clear hbs2;go_wp2;go_loopw [7,8] (fun u v wr=>∃ (c A Bv:Nat) (d':List Ed),A<=n/\Bv=A+bs2/\u=.int .i64 A/\v=.int .i64 Bv/\Hid (A=c * bs2)/\Hid (Kee w g ex d 0 n d' wr/\Don d' bs2 c/\Rst d' n bs A)) (fun u _ _=>n - (intOf u).toNat)
     case atStart=>exact ⟨0,0,bs2,d3,Nat.zero_le _,by omega,rfl,rfl,Za (by rw [Nat.zero_mul]),Za ⟨HK3.out.1,fun k hk=>by omega,blk_rst HK3.out.2⟩⟩
     case round =>
      clear HK3;obtain ⟨c,A,Bv,d5,hA,hBA,rfl,rfl,HA,HK⟩:=hrel;obtain ⟨mm,hmm⟩:∃ mm,mm=A+bs:=⟨_,rfl⟩;have w3:IntKind.i64.wrap ((A:Int)+(bs:Int))=(mm:Int):=by rw [IntKind.wrap_i64];omega
      have w3':(A:Int)+(bs:Int)=(mm:Int):=by omega
      have w3'':IntKind.i64.wrap (mm:Int)=(mm:Int):=by rw [IntKind.wrap_i64];omega
      obtain ⟨q1,q2,q3⟩:=rst_two HK.out.2.2;have HQ:=Za (And.intro q1 (And.intro q2 q3));have HNU:=Za (And.intro hBA (And.intro hmm HB2.out));by_cases hlt2:Bv<=n
      ·have hd3:decide ((Bv:Int)<=(n:Int))=true:=decide_eq_true (by omega);have C1:=HCM.out wr d5 A mm Bv HK.out.1.ro (by rw [HK.out.1.len];exact HN.out.symm) (by omega) (by have:=HB2.out;omega) hlt2 (by rw [Nat.min_eq_left (by have:=HB2.out;omega),<- hmm] at q1;exact q1) (by rw [Nat.min_eq_left (by have:=HB2.out;omega),<- hmm,show mm+bs=Bv by have:=HB2.out;omega] at q2;exact q2);obtain ⟨B3,hB3⟩:∃ B3,B3=Bv+bs2:=⟨_,rfl⟩;have w4a:IntKind.i64.wrap ((Bv:Int)+(bs2:Int))=(B3:Int):=by have:=HB2.out;rw [IntKind.wrap_i64];omega
       have w4b:(Bv:Int)+(bs2:Int)=(B3:Int):=by omega
       have w4c:IntKind.i64.wrap (B3:Int)=(B3:Int):=by have:=HB2.out;rw [IntKind.wrap_i64];omega
       have HB3:=Za hB3;have HC1:=Za C1;clear C1 hB3 hBA hmm q1 q2 q3;go_wp2_with fail
       refine HC1.out.mono ?_;rintro e' w6 ⟨rfl,d6,r6,⟨t1,t2,t3,t4⟩,t5⟩
       have HF:Hid (Kee w g ex d 0 n d6 w6/\Don d6 bs2 (c+1)/\Rst d6 n bs Bv):=by
        have ha:=HA.out;have hu:=HNU.out;refine Za ⟨HK.out.1.more hlt2 r6 t1 t2 t3 t5,?_,?_⟩
        ·rw [hu.1,ha] at t2 t4;exact don_step HK.out.2.1 t2 t4
        ·have h3:=HQ.out.2.2;rw [show A+2 * bs=Bv by omega] at h3;exact rst_out h3 t2
       clear r6 t1 t2 t3 t4 t5;go_wp2;go_roundw
       case rel=>exact ⟨c+1,Bv,B3,d6,hlt2,HB3.out,rfl,rfl,Za (by have:=HA.out;have:=HNU.out;rw [Nat.succ_mul];omega),HF⟩
       case measure=>have:=HNU.out;simp [intOf];omega
      ·have hd3:decide ((Bv:Int)<=(n:Int))=false:=decide_eq_false (by omega);by_cases hmn:mm < n
       ·have hd4:decide ((mm:Int) < (n:Int))=true:=decide_eq_true (by omega);have C1:=HCM.out wr d5 A mm n HK.out.1.ro (by rw [HK.out.1.len];exact HN.out.symm) (by omega) hmn (Nat.le_refl _) (by rw [Nat.min_eq_left (by omega),<- hmm] at q1;exact q1) (by rw [Nat.min_eq_right (by have:=HB2.out;omega),<- hmm] at q2;exact q2);have HC1:=Za C1;clear C1 hBA hmm q1 q2 q3;go_wp2_with fail
        refine HC1.out.mono ?_;rintro e' w6 ⟨rfl,d6,r6,⟨t1,t2,t3,t4⟩,t5⟩
        have HF:Hid (Kee w g ex d 0 n d6 w6/\Blk d6 n bs2):=by
         have ha:=HA.out;have hu:=HNU.out;refine Za ⟨HK.out.1.more (Nat.le_refl _) r6 t1 t2 t3 t5,?_⟩;rw [ha] at t2 t4;exact don_last HK.out.2.1 (by omega) (by omega) t2 t4
        clear r6 t1 t2 t3 t4 t5;go_wp2;go_roundw
        case rel=>exact ⟨bs2,d6,by have:=HB2.out;omega,by have:=HB2.out;omega,rfl,HF⟩
        case measure=>have:=HB2.out;simp [intOf];omega
       ·have hd4:decide ((mm:Int) < (n:Int))=false:=decide_eq_false (by omega)
        have HF:Hid (Kee w g ex d 0 n d5 wr/\Blk d5 n bs2):=by
         have ha:=HA.out;have hu:=HNU.out;have q1:=HQ.out.1;rw [Nat.min_eq_right (by omega),ha] at q1;exact Za ⟨HK.out.1,don_last HK.out.2.1 (by omega) (by omega) (Out.refl _ _ _) q1⟩
        clear hBA hmm q1 q2 q3;go_wp2;go_roundw
        case rel=>exact ⟨bs2,d5,by have:=HB2.out;omega,by have:=HB2.out;omega,rfl,HF⟩
        case measure=>have:=HB2.out;simp [intOf];omega
    ·have hd2:decide ((bs:Int) < (n:Int))=false:=decide_eq_false (by omega);have HF:Hid (InP w g ex d 0 n (.returned (.tuple #[])) wr):=Za (SoP.kee HK3.out.1 (blk_all HK3.out.2 (by omega)));go_wp2;go_end0
     exact HF.out
theorem sortst_any (cf:Nat) (hcf:CmpE cf) (w:World) (g cap:Nat) (d:List Ed) (ex:List Value) (h:RoE w g d ex) (hl:d.length<=1000000) :
  Calls Tryz.prog 106 #[.slice (some ⟨g,0,none⟩) d.length cap,.func (.func cf) #[] #[]] w (InP w g ex d 0 d.length):=by
 have C:=stable_any cf hcf w g cap d ex h hl;have HC:=Za C;obtain ⟨n,hn⟩:∃ n,n=d.length:=⟨_,rfl⟩;rw [<- hn] at HC ⊢;clear C h hn hcf hl;go_enter Tryz.func106,Tryz.ntmps106
 go_wp2_with fail
 refine HC.out.mono ?_;rintro e' w2 ⟨rfl,hz⟩;go_wp2;go_end0
 exact ⟨rfl,hz⟩
end
section
open Go.RowKit Apo
end
section
open Go.RowKit Apo
attribute [local go_sem ↓] app_exec
def EnP (R:List En->Prop) (w:World) (e:Ending) (w':World):Prop:=∃ (es:List En) (va:Option Addr) (vc:Nat),e=.returned (.slice va es.length vc)/\R es/\Row (fun g=>w.heap.size<=g) w' 43 2 (.slice va es.length vc) es.length (Zk cEn es)/\Below w.heap.size w w'
end
end Go.Proofs.YtdhebpnkfookcaaGreat
namespace Apo
open Go Go.RowKit
theorem app_zero {P:Program} {W:World} {t e:TypeId} {i:TypeInfo} (hu:P.underlying t=some (.slice e)) (hi:P.info? e=some i) {b x:Option Addr} {n c cx:Nat} (h:n<=c) :
  (Builtin.append_ #[t,t] t #[.slice b n c,.slice x 0 cx]).run P W=.ok (.slice b n c) W:=by
 cases x <;> cases b <;> simp [Builtin.append_,run_underlying hu,Go.sizeOf,typeInfo,hi,Builtin.lenOf,Builtin.firstCells,loadCells,loadCellsFrom,storeCells,h]
end Apo
namespace Go.Proofs.YtdhebpnkfookcaaGreat
open Go.RowKit Apo
end Go.Proofs.YtdhebpnkfookcaaGreat
namespace Apo
open Go Go.RowKit
section
variable {α:Type} {c:α->List Value} {k:Nat}
end
end Apo
namespace Go.Proofs.YtdhebpnkfookcaaGreat
open Go.RowKit Apo
section
attribute [local go_sem ↓] app_exec
end
end Go.Proofs.YtdhebpnkfookcaaGreat
