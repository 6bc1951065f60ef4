import Derived.Test.YtdhebpnkfookcaaGreatSM31
set_option maxRecDepth 100000
set_option maxHeartbeats 16000000
namespace Go.Proofs.YtdhebpnkfookcaaGreat
open Go.RowKit Apo
open Classical in
theorem slEq_any (a:Option Addr) (acap:Nat) (l:List En) (b:Option Addr) (bcap:Nat) (m:List En) (w:World) (ha:RdEn w a l) (hb:RdEn w b m) (hl:l.length<=9223372036854775807) :
  Calls Tryz.prog 152 #[.slice a l.length acap,.slice b m.length bcap] w fun e w'=>e=.returned (.bool (decide (l=m)))/\Below w.heap.size w w':=by
 have hA:=Za ha;have hB:=Za hb;clear ha hb;by_cases hlen:l.length=m.length
 ·rw [<- hlen];have HL:=Za hlen;clear hlen;go_enter Tryz.func152,Tryz.ntmps152
  go_wp2;go_loopw [13] (fun i wr=>∃ k:Nat,k<=l.length/\i=.int .i64 k/\Hid (l.take k=m.take k)/\Below w.heap.size w wr) (fun i _=>l.length - (intOf i).toNat)
  case atStart=>exact ⟨0,Nat.zero_le _,rfl,rfl,Below.refl _ _⟩
  case round =>
   obtain ⟨k,hk,rfl,hE,hbr⟩:=hrel;by_cases hlt:k < l.length
   ·have hz:l[k]?=some l[k]:=List.getElem?_eq_getElem hlt
    have hlt2:k < m.length:=by rw [<- HL.out];exact hlt
    have hy:m[k]?=some m[k]:=List.getElem?_eq_getElem hlt2
    generalize l[k]=f at hz;generalize m[k]=g at hy;obtain ⟨p,off,rfl,c0,c1⟩:=(hA.out.below hbr) k f hz;obtain ⟨p',off',rfl,d0,d1⟩:=(hB.out.below hbr) k g hy;have HZ:=Za hz;have HY:=Za hy;clear hz hy;have hm:Tryz.prog.eqGuardType Tryz.prog.depth 43=false:=by kernel_rfl
    have hcmp:=neqEn f g;by_cases hfg:f=g
    ·subst hfg;simp only [decide_true,Bool.not_true] at hcmp
     have hE':Hid (l.take (k+1)=m.take (k+1)):=by
      show _=_
      rw [List.take_add_one,List.take_add_one,HZ.out,HY.out,hE.out]
     go_wp2;go_quiet (fail)
     go_wp2;go_roundw
     case rel=>exact ⟨k+1,by omega,by go_num,hE',below_drewN hbr _⟩
     case measure=>simp [intOf];omega
    ·have hd:decide (f=g)=false:=by simp [hfg]
     simp only [hd,Bool.not_false] at hcmp
     have hE':Hid (l≠m):=by
      intro e;have h1:=HZ.out;rw [e,HY.out] at h1;exact hfg (by cases h1;rfl)
     go_wp2;go_quiet (fail)
     go_wp2;go_ret
     exact ⟨by simp [hE'.out],below_drewN hbr _⟩
   ·have hE':Hid (l=m):=by
     have h1:=hE.out;rw [List.take_of_length_le (by omega),List.take_of_length_le (by rw [<- HL.out];omega)] at h1;exact h1
    go_wp2;go_ret
    exact ⟨by simp [hE'.out],hbr⟩
 ·have hne:l≠m:=fun e=>hlen (by rw [e])
  have hN:=Za hne;have hlb:((l.length:Int) == (m.length:Int))=false:=by simp;omega
  clear hne;go_enter Tryz.func152,Tryz.ntmps152
  go_wp2;go_ret
  exact ⟨by simp [hN.out],Below.refl _ _⟩
theorem TSw.room {w W:World} {s m m':Nat} {O:Nat->Prop} {T:List (List Int)} (h:TSw w W s O T m) (_:m<=m'):TSw w W s O T m':=h
theorem tlast_any (W:World) (id:Nat) (xa:Option Addr) (xc:Nat) (xs:List En) (hx:OkN W (lfN xa xc xs)) (hl:xs.length<=1000000) :
  Calls Tryz.prog 63 #[.agg #[.int .u64 (id:Int),.slice xa xs.length xc]] W fun e w'=>e=.returned (.string (Zz ⟨0,xs,[]⟩))/\Below W.heap.size W w':=by
 obtain ⟨xn,hxn⟩:∃ xn,xn=xs.length:=⟨_,rfl⟩;obtain ⟨W1,hW1⟩:∃ W1,W1=W.alloc (.cells #[.int .u64 (id:Int),.slice xa xn xc] 133):=⟨_,rfl⟩;have b1:Below W.heap.size W W1:=by rw [hW1];exact (Below.refl _ W).alloc (Nat.le_refl _) _
 have k1:Ob W1 W.heap.size 133 [.int .u64 (id:Int),.slice xa xn xc]:=by rw [hW1];exact Ob.new W [.int .u64 (id:Int),.slice xa xn xc] 133
 have C:=last_any W1 (lfN xa xc xs) (hx.below b1) hl (by simp [lfN]);have hcs:(lfN xa xc xs).cells.toArray=#[.int .i64 0,.slice xa xn xc,.slice none 0 0]:=by rw [hxn];rfl
 rw [hcs] at C;have HC:=Za C;have HB:=Za b1;have y1:=k1.cell 1;simp only [List.getElem?_cons_zero,List.getElem?_cons_succ] at y1;rw [<- hxn];rw [hW1] at y1;clear C b1 k1 hx hcs hxn;go_enter Tryz.func63,Tryz.ntmps63
 go_wp2_with fail
 rw [<- hW1];clear hW1;refine HC.out.mono ?_;rintro e w2 ⟨rfl,b2⟩;have HB2:=Za (HB.out.trans (b2.mono HB.out.size));go_wp2;go_ret
 exact ⟨rfl,HB2.out⟩
open Classical in
theorem tleafm_any {w W:World} {s m:Nat} {O:Nat->Prop} {T:List (List Int)} (h:TSw w W s O T m) (hT:T.length<=16000) (ea:Option Addr) (ec:Nat) (es:List En) (hx:OkN W (lfN ea ec es)) (hoff:OffN O (lfN ea ec es)) (he:es.length<=1000000) (hp:nodeE ⟨0,es,[]⟩=0) (hln:(ZW ⟨0,es,[]⟩).length<=131072) (hm:pgT (Z3 T (ZW ⟨0,es,[]⟩))<=4096) (hby:InB (ZW ⟨0,es,[]⟩)) (hmp:Option Nat) (xid:Nat) (xa:Option Addr) (xs:List En) (xc:Nat) (is:Bool)
  (hlook:∀ W',Below W.heap.size W W'->(Instr.lookup 68 (.map hmp) (.string (Zz ⟨0,es,[]⟩)) true).run Tryz.prog W'=.ok (.tuple #[.agg #[.int .u64 (xid:Int),.slice xa xs.length xc],.bool is]) W')
  (hyes:is=true->OkN W (lfN xa xc xs)/\xs.length<=1000000/\T[xid - 1]?=some (ZW ⟨0,xs,[]⟩)/\1<=xid/\xid<=T.length) :
  Calls Tryz.prog 100 #[.agg (bldV s (.map hmp)),.slice ea es.length ec] W (TNode w W s O T m ⟨0,es,[]⟩):=by
 obtain ⟨x,hxd⟩:∃ x:NdA,x=lfN ea ec es:=⟨_,rfl⟩;have hxn:x.n=⟨0,es,[]⟩:=by rw [hxd];rfl
 obtain ⟨ne,hne⟩:∃ ne,ne=es.length:=⟨_,rfl⟩;have hcs:x.cells.toArray=#[.int .i64 0,.slice ea ne ec,.slice none 0 0]:=by rw [hxd,hne];rfl
 rw [<- hxd] at hx hoff;rw [<- hne];simp only [bldV];obtain ⟨W1,hW1⟩:∃ W1,W1=W.alloc (.cells #[.func (.func 33) #[.pointer (some ⟨s,0,none⟩)] #[],.map hmp] 70):=⟨_,rfl⟩;obtain ⟨W2,hW2⟩:∃ W2,W2=W1.alloc (.cells #[.string ⟨#[]⟩,.int .u64 0] 128):=⟨_,rfl⟩;obtain ⟨W3,hW3⟩:∃ W3,W3=W2.alloc (.cells #[.int .i64 0,.slice ea ne ec,.slice none 0 0] 90):=⟨_,rfl⟩;have s1:W1.heap.size=W.heap.size+1:=by rw [hW1];simp
 have s2:W2.heap.size=W.heap.size+2:=by rw [hW2];simp [s1]
 have s3:W3.heap.size=W.heap.size+3:=by rw [hW3];simp [s2]
 have kb1:Ob W1 W.heap.size 70 [.func (.func 33) #[.pointer (some ⟨s,0,none⟩)] #[],.map hmp]:=by rw [hW1];exact Ob.new W [.func (.func 33) #[.pointer (some ⟨s,0,none⟩)] #[],.map hmp] 70
 have kk2:Ob W2 (W.heap.size+1) 128 [.string ⟨#[]⟩,.int .u64 0]:=by rw [hW2,<- s1];exact Ob.new W1 [.string ⟨#[]⟩,.int .u64 0] 128
 have kn3:Ob W3 (W.heap.size+2) 90 [.int .i64 0,.slice ea ne ec,.slice none 0 0]:=by rw [hW3,<- s2];exact Ob.new W2 [.int .i64 0,.slice ea ne ec,.slice none 0 0] 90
 have b1:Below W.heap.size W W1:=by rw [hW1];exact (Below.refl _ W).alloc (Nat.le_refl _) _
 have b2:Below W.heap.size W W2:=by rw [hW2];exact b1.alloc (by omega) _
 have b3:Below W.heap.size W W3:=by rw [hW3];exact b2.alloc (by omega) _
 have b23:Below W2.heap.size W2 W3:=by rw [hW3];exact (Below.refl _ W2).alloc (Nat.le_refl _) _
 have b12:Below W1.heap.size W1 W2:=by rw [hW2];exact (Below.refl _ W1).alloc (Nat.le_refl _) _
 have kk3:=kk2.old b23;have kb3:=(kb1.old b12).old b23;have hlo:=h.lo;have hhi:=h.hi;have hbw:=h.bel.size
 have C1:∀ W',Below W3.heap.size W3 W'->Calls Tryz.prog 105 #[.agg #[.int .i64 0,.slice ea ne ec,.slice none 0 0]] W' fun e w'=>e=.returned (.string (Zz x.n))/\Below W'.heap.size W' w':=fun W' b=>by
  have:=last_any W' x (hx.below (b3.trans (b.mono (by omega)))) (by rw [hxn];exact he) (by rw [hxn];simp);rw [hcs] at this;exact this
 have y0:=kn3.cell 0;have y1:=kn3.cell 1;have y2:=kn3.cell 2;have z0:=kb3.cell 0;have z1:=kb3.cell 1;simp only [List.getElem?_cons_zero,List.getElem?_cons_succ] at y0 y1 y2 z0 z1;have HC1:=Za C1;have HX:=Za hx;have HOFF:=Za hoff;have HH:=Za h;have HB3:=Za b3;have HKB:=Za kb3;have HKN:=Za kn3;have HKK:=Za kk3;have HXN:=Za hxn;have HXD:=Za hxd;have HNE:=Za hne;have HCS:=Za hcs;have HLO:=Za hlo;have HHI:=Za hhi;have HPP:=Za (And.intro hp (And.intro hln (And.intro hm hby)));have HE:=Za he;clear C1 hx hoff h b1 b2 b3 b23 b12 kb1 kk2 kk3 kn3 kb3 hxn hcs hlo hhi hxd hne hp he hln hm hby;obtain ⟨xn,hxn'⟩:∃ xn,xn=xs.length:=⟨_,rfl⟩;rw [<- hxn'] at hlook;have HXN':=Za hxn';have HYES:=Za hyes;have hlk:∀ W',Below W3.heap.size W3 W'->(Instr.lookup 68 (.map hmp) (.string (Zz x.n)) true).run Tryz.prog W'=.ok (.tuple #[.agg #[.int .u64 (xid:Int),.slice xa xn xc],.bool is]) W':=fun W' b=>by rw [HXN.out];exact hlook W' (HB3.out.trans (b.mono (by omega)))
 clear hlook hyes hxn';have ba:Below W3.heap.size W3 W3.drew:=(Below.refl _ W3).drew;have bb:Below W3.heap.size W3 (W3.alloc (.cells #[.int .u64 (0:Int),.slice none 0 0] 133)).drew:=((Below.refl _ W3).alloc (Nat.le_refl _) _).drew;have kl:Ob (W3.alloc (.cells #[.int .u64 (0:Int),.slice none 0 0] 133)).drew (W.heap.size+3) 133 [.int .u64 0,.slice none 0 0]:=by rw [<- s3];exact Ob.new W3 [.int .u64 0,.slice none 0 0] 133
 have HBA:=Za ba;have HBB:=Za bb;have HKL:=Za kl;clear ba bb kl;go_enter Tryz.func100,Tryz.ntmps100
 go_wp2_with fail
 rw [<- hW1,<- hW2,<- hW3];clear hW1 hW2 hW3
 go_region_held3 (fun W'=>W'.cell? ⟨W.heap.size,1,none⟩=some (.map hmp)/\W'.cell? ⟨W.heap.size+2,0,none⟩=some (.int .i64 0)/\W'.cell? ⟨W.heap.size+2,1,none⟩=some (.slice ea ne ec)/\W'.cell? ⟨W.heap.size+2,2,none⟩=some (.slice none 0 0)) (go_keep) (first
  | (go_at_call 105;(with_reducible refine (HC1.out _ HBA.out).mono ?_);rintro e w4 ⟨rfl,b4⟩;have v1:=(b4.cell (p:=⟨W.heap.size,1,none⟩) HKB.out.lt).trans z1;have v2:=(b4.cell (p:=⟨W.heap.size+2,0,none⟩) HKN.out.lt).trans y0;have v3:=(b4.cell (p:=⟨W.heap.size+2,1,none⟩) HKN.out.lt).trans y1;have v4:=(b4.cell (p:=⟨W.heap.size+2,2,none⟩) HKN.out.lt).trans y2;have hq:=hlk w4 (HBA.out.trans b4);have hq2:=hlk (w4.alloc (.cells #[.int .u64 0,.slice none 0 0] 133)) ((HBA.out.trans b4).alloc (HBA.out.trans b4).size _);have HB4:=Za (HBA.out.trans b4);clear b4)
  | (go_at_call 105;(with_reducible refine (HC1.out _ HBB.out).mono ?_);rintro e w4 ⟨rfl,b4⟩;have k4:=HKL.out.old b4;have l0:=k4.cell 0;have l1:=k4.cell 1;have g0:=k4.frozen 0;have g1:=k4.frozen 1;simp only [List.getElem?_cons_zero,List.getElem?_cons_succ] at l0 l1;have hB5:=HBB.out.trans (b4.mono (by have:=HBB.out.size;omega));have v1:=(hB5.cell (p:=⟨W.heap.size,1,none⟩) HKB.out.lt).trans z1;have v2:=(hB5.cell (p:=⟨W.heap.size+2,0,none⟩) HKN.out.lt).trans y0;have v3:=(hB5.cell (p:=⟨W.heap.size+2,1,none⟩) HKN.out.lt).trans y1;have v4:=(hB5.cell (p:=⟨W.heap.size+2,2,none⟩) HKN.out.lt).trans y2;have hq:=hlk w4 hB5;have HB4:=Za hB5;have HK4:=Za k4;clear b4 hB5 k4))
 all_goals
  first
   | (obtain ⟨WE,hWE⟩:∃ WE,WE=(w4.setCell ⟨W.heap.size+3,0,none⟩ (.int .u64 (xid:Int))).setCell ⟨W.heap.size+3,1,none⟩ (.slice xa xn xc):=⟨_,rfl⟩
      have hE:Below W3.heap.size W3 WE:=by rw [hWE];exact (HB4.out.setCell (p:=⟨W.heap.size+3,0,none⟩) (by have:=HK4.out;show W3.heap.size<=W.heap.size+3;omega) _).setCell (p:=⟨W.heap.size+3,1,none⟩) (by show W3.heap.size<=W.heap.size+3;omega) _
      have klE:Ob WE (W.heap.size+3) 133 [.int .u64 (xid:Int),.slice xa xn xc]:=by rw [hWE];exact (HK4.out.set 0 _).set 1 _
      rw [<- hWE];obtain ⟨lb,hlb⟩:∃ lb,lb=W.heap.size+3:=⟨_,rfl⟩;rw [<- hlb] at klE ⊢;clear l0 l1 g0 g1 HK4 hWE hlb)
   | (obtain ⟨WE,hWE⟩:∃ WE,WE=w4.alloc (.cells #[.int .u64 (xid:Int),.slice xa xn xc] 133):=⟨_,rfl⟩
      have hE:Below W3.heap.size W3 WE:=by rw [hWE];exact HB4.out.alloc HB4.out.size _
      have klE:Ob WE w4.heap.size 133 [.int .u64 (xid:Int),.slice xa xn xc]:=by rw [hWE];exact Ob.new w4 [.int .u64 (xid:Int),.slice xa xn xc] 133
      rw [<- hWE];obtain ⟨lb,hlb⟩:∃ lb,lb=w4.heap.size:=⟨_,rfl⟩;rw [<- hlb] at klE ⊢;clear hWE hlb)
  have sE:=hE.size;have kbE:=HKB.out.old hE;have knE:=HKN.out.old hE;have kkE:=HKK.out.old hE;have bE:Below W.heap.size W WE:=HB3.out.trans (hE.mono (by omega));have e0:=kbE.cell 0;have e1:=kbE.cell 1;have e2:=knE.cell 0;have e3:=knE.cell 1;have e4:=knE.cell 2;have e5:=klE.cell 0;have e6:=klE.cell 1;simp only [List.getElem?_cons_zero,List.getElem?_cons_succ] at e0 e1 e2 e3 e4 e5 e6;try clear hq2
  clear HB4 v1 v2 v3 v4 hq y0 y1 y2 z0 z1 HC1;cases is with
  | false =>
   have C5:=tnode_any (HH.out.below bE) hT hmp x (HX.out.below bE) HOFF.out (by rw [HXN.out];exact HE.out) (by rw [HXN.out];simp) (by rw [HXN.out];exact HPP.out.1) (by rw [HXN.out];exact HPP.out.2.1) (by rw [HXN.out];exact HPP.out.2.2.1) (by rw [HXN.out];exact HPP.out.2.2.2);rw [HCS.out,HXN.out] at C5;simp only [bldV] at C5;have HC5:=Za C5;have HKE:=Za kkE;have HBE:=Za bE;clear C5 kkE knE kbE bE hE klE;go_wp2_with fail
   refine HC5.out.mono ?_;rintro e w6 ⟨id,rfl,p1,p2,p3,t6,o6⟩;have s6:=o6.size;have kk6:=HKE.out.onl o6 (fun q=>by have:=HHI.out _ q;omega);have u0:=kk6.cell 0;have u1:=kk6.cell 1;have f0:=kk6.frozen 0;have f1:=kk6.frozen 1;simp only [List.getElem?_cons_zero,List.getElem?_cons_succ] at u0 u1;obtain ⟨LK,hLK⟩:∃ LK,LK=Zz ⟨0,es,[]⟩:=⟨_,rfl⟩;rw [<- hLK]
   have HF:Hid (TNode w W s O T m ⟨0,es,[]⟩ (.returned (.tuple #[.agg #[.string LK,.int .u64 id],.int .i64 0])) ((w6.setCell ⟨W.heap.size+1,0,none⟩ (.string LK)).setCell ⟨W.heap.size+1,1,none⟩ (.int .u64 id))):=by
    refine Za ?_;have o7:Onl (fun i=>i=W.heap.size+1) w6 ((w6.setCell ⟨W.heap.size+1,0,none⟩ (.string LK)).setCell ⟨W.heap.size+1,1,none⟩ (.int .u64 id)):=((Onl.refl (fun i=>i=W.heap.size+1) w6).set (p:=W.heap.size+1) (.inl rfl) _).set (p:=W.heap.size+1) (.inl rfl) _;have s7:((w6.setCell ⟨W.heap.size+1,0,none⟩ (.string LK)).setCell ⟨W.heap.size+1,1,none⟩ (.int .u64 id)).heap.size=w6.heap.size:=by simp [World.setCell]
    have g1:=t6.onl o7 (fun i q z=>by subst z;rcases q with q | q;(· have:=HHI.out _ q;omega);(· have:=q.1;omega)) (fun i z=>by omega);refine ⟨id,by rw [hLK],p1,p2,p3,g1.grow (A:=W) (by omega) HLO.out HHI.out hbw (by omega),?_⟩;exact ((Onl.ofBelow HBE.out).trans o6).more o7 (fun i z=>.inr (by omega))
   have kk7:Ob ((w6.setCell ⟨W.heap.size+1,0,none⟩ (.string LK)).setCell ⟨W.heap.size+1,1,none⟩ (.int .u64 id)) (W.heap.size+1) 128 [.string LK,.int .u64 id]:=(kk6.set 0 _).set 1 _;have HK7:=Za kk7;clear kk6 kk7 p1 p2 p3 t6 o6 hLK;go_wp2;exact fin_lea HK7.out rfl rfl HF.out
  | true =>
   obtain ⟨hxo,hxl,hxT,hx1,hx2⟩:=HYES.out rfl;have CE:=slEq_any xa xc xs ea ec es WE (hxo.below bE).es (by have:=(HX.out.below bE).es;rw [HXD.out] at this;exact this) (by omega);rw [<- HXN'.out,<- HNE.out] at CE;by_cases hee:xs=es
   ·rw [decide_eq_true hee] at CE;have HCE:=Za CE;clear CE;go_wp2_with fail
    refine HCE.out.mono ?_;rintro e wq ⟨rfl,bq⟩;have bQ:=bE.trans (bq.mono bE.size);have klq:=klE.old bq;have kkq:=kkE.old bq
    have CLq:∀ W',Below wq.heap.size wq W'->Calls Tryz.prog 63 #[.agg #[.int .u64 (xid:Int),.slice xa xn xc]] W' fun e w'=>e=.returned (.string (Zz ⟨0,es,[]⟩))/\Below W'.heap.size W' w':=fun W' b=>by
     have:=tlast_any W' xid xa xc xs (hxo.below (bQ.trans (b.mono bQ.size))) hxl;rw [<- HXN'.out,hee] at this;exact this
    obtain ⟨LK,hLK⟩:∃ LK,LK=Zz ⟨0,es,[]⟩:=⟨_,rfl⟩;rw [<- hLK] at CLq;have q0:=klq.cell 0;have q1:=klq.cell 1;simp only [List.getElem?_cons_zero,List.getElem?_cons_succ] at q0 q1
    have hput:Z3 T (ZW ⟨0,es,[]⟩)=T:=by
     unfold Z3;rw [if_pos (by rw [hee] at hxT;exact List.mem_of_getElem? hxT)]
    have HFN:Hid (∀ w8,Below wq.heap.size wq w8->TNode w W s O T m ⟨0,es,[]⟩ (.returned (.tuple #[.agg #[.string LK,.int .u64 xid],.int .i64 0])) ((w8.setCell ⟨W.heap.size+1,0,none⟩ (.string LK)).setCell ⟨W.heap.size+1,1,none⟩ (.int .u64 xid))):=by
     refine Za (fun w8 b8=>?_);have b88:=bQ.trans (b8.mono bQ.size);have o7:Onl (fun i=>i=W.heap.size+1) w8 ((w8.setCell ⟨W.heap.size+1,0,none⟩ (.string LK)).setCell ⟨W.heap.size+1,1,none⟩ (.int .u64 xid)):=((Onl.refl (fun i=>i=W.heap.size+1) w8).set (p:=W.heap.size+1) (.inl rfl) _).set (p:=W.heap.size+1) (.inl rfl) _;have s7:((w8.setCell ⟨W.heap.size+1,0,none⟩ (.string LK)).setCell ⟨W.heap.size+1,1,none⟩ (.int .u64 xid)).heap.size=w8.heap.size:=by simp [World.setCell]
     have t8:=HH.out.below b88;have g1:=t8.onl o7 (fun i q z=>by subst z;have:=HHI.out _ q;omega) (fun i z=>by omega);have hsz8:=b88.size;refine ⟨xid,by rw [hLK],by rw [hput];rw [hee] at hxT;exact hxT,hx1,by omega,?_,(Onl.ofBelow b88).more o7 (fun i z=>.inr (by omega))⟩;rw [hput];exact TSw.room (g1.mono (fun i _ q=>Or.inl q) (Gro.base HLO.out hbw) (Gro.lt HHI.out (by omega))) (by omega)
    have HK7:Hid (∀ w8,Below wq.heap.size wq w8->Ob ((w8.setCell ⟨W.heap.size+1,0,none⟩ (.string LK)).setCell ⟨W.heap.size+1,1,none⟩ (.int .u64 xid)) (W.heap.size+1) 128 [.string LK,.int .u64 xid]):=Za (fun w8 b8=>((kkq.old b8).set 0 _).set 1 _)
    have hlbn:lb≠W.heap.size+1:=fun q=>by
     have h1:WE.heap[lb]?=_:=klE;have h2:WE.heap[W.heap.size+1]?=_:=kkE;rw [q,h2] at h1;cases h1
    have HCLq:=Za CLq;have HKQ:=Za klq;have HKKQ:=Za kkq;have bdq:Below wq.heap.size wq wq.drew:=(Below.refl _ _).drew;have HBD:=Za bdq;clear CLq klq kkq hput bdq bq bQ hxo hxT hee klE kkE knE kbE hE e0 e1 e2 e3 e4 e5 e6 hLK HCE;go_wp2_with fail
    go_region_held3 (fun W'=>W'.cell? ⟨lb,0,none⟩=some (.int .u64 (xid:Int))/\W'.cell? ⟨lb,1,none⟩=some (.slice xa xn xc)) (go_keep) (first
     | (go_at_call 63;(with_reducible refine (HCLq.out _ HBD.out).mono ?_);rintro e w8 ⟨rfl,b8⟩;have hb8:=HBD.out.trans b8;have v1:=(HKQ.out.old hb8).cell 0;have v2:=(HKQ.out.old hb8).cell 1;have v3:=(HKKQ.out.old hb8).cell 0;have v4:=(HKKQ.out.old hb8).cell 1;have v5:=(HKKQ.out.old hb8).frozen 0;have v6:=(HKKQ.out.old hb8).frozen 1;simp only [List.getElem?_cons_zero,List.getElem?_cons_succ] at v1 v2 v3 v4;have k9:=((HKQ.out.old hb8).set_other (i:=0) hlbn (.string LK)).set_other (i:=1) hlbn (.int .u64 (xid:Int));have x1:=k9.cell 0;have x2:=k9.cell 1;simp only [List.getElem?_cons_zero,List.getElem?_cons_succ] at x1 x2;have HF:=Za (HFN.out w8 hb8);have HK:=Za (HK7.out w8 hb8);clear b8 hb8 k9))
    all_goals
     go_wp2;exact fin_lea HK.out rfl rfl HF.out
   ·rw [decide_eq_false hee] at CE;have HCE:=Za CE;clear CE;go_wp2_with fail
    refine HCE.out.mono ?_;rintro e wq ⟨rfl,bq⟩;have bQ:=bE.trans (bq.mono bE.size);have kbQ:=kbE.old bq;have knQ:=knE.old bq;have kkQ:=kkE.old bq;have d0:=kbQ.cell 0;have d1:=kbQ.cell 1;have d2:=knQ.cell 0;have d3:=knQ.cell 1;have d4:=knQ.cell 2;simp only [List.getElem?_cons_zero,List.getElem?_cons_succ] at d0 d1 d2 d3 d4;have sQ:=bQ.size;have sQ2:=bq.size;clear hxo hxl hxT hx1 hx2 hee e0 e1 e2 e3 e4 e5 e6 kbE knE kkE klE hE HCE bq;have C5:=tnode_any (HH.out.below bQ) hT hmp x (HX.out.below bQ) HOFF.out (by rw [HXN.out];exact HE.out) (by rw [HXN.out];simp) (by rw [HXN.out];exact HPP.out.1) (by rw [HXN.out];exact HPP.out.2.1) (by rw [HXN.out];exact HPP.out.2.2.1) (by rw [HXN.out];exact HPP.out.2.2.2);rw [HCS.out,HXN.out] at C5;simp only [bldV] at C5;have HC5:=Za C5;have HKE:=Za kkQ;have HBE:=Za bQ;clear C5 kkQ knQ kbQ bQ;go_wp2_with fail
    refine HC5.out.mono ?_;rintro e w6 ⟨id,rfl,p1,p2,p3,t6,o6⟩;have s6:=o6.size;have kk6:=HKE.out.onl o6 (fun q=>by have:=HHI.out _ q;omega);have u0:=kk6.cell 0;have u1:=kk6.cell 1;have f0:=kk6.frozen 0;have f1:=kk6.frozen 1;simp only [List.getElem?_cons_zero,List.getElem?_cons_succ] at u0 u1;obtain ⟨LK,hLK⟩:∃ LK,LK=Zz ⟨0,es,[]⟩:=⟨_,rfl⟩;rw [<- hLK]
    have HF:Hid (TNode w W s O T m ⟨0,es,[]⟩ (.returned (.tuple #[.agg #[.string LK,.int .u64 id],.int .i64 0])) ((w6.setCell ⟨W.heap.size+1,0,none⟩ (.string LK)).setCell ⟨W.heap.size+1,1,none⟩ (.int .u64 id))):=by
     refine Za ?_;have o7:Onl (fun i=>i=W.heap.size+1) w6 ((w6.setCell ⟨W.heap.size+1,0,none⟩ (.string LK)).setCell ⟨W.heap.size+1,1,none⟩ (.int .u64 id)):=((Onl.refl (fun i=>i=W.heap.size+1) w6).set (p:=W.heap.size+1) (.inl rfl) _).set (p:=W.heap.size+1) (.inl rfl) _;have s7:((w6.setCell ⟨W.heap.size+1,0,none⟩ (.string LK)).setCell ⟨W.heap.size+1,1,none⟩ (.int .u64 id)).heap.size=w6.heap.size:=by simp [World.setCell]
     have g1:=t6.onl o7 (fun i q z=>by subst z;rcases q with q | q;(· have:=HHI.out _ q;omega);(· have:=q.1;omega)) (fun i z=>by omega);refine ⟨id,by rw [hLK],p1,p2,p3,g1.grow (A:=W) (by omega) HLO.out HHI.out hbw (by omega),?_⟩;exact ((Onl.ofBelow HBE.out).trans o6).more o7 (fun i z=>.inr (by omega))
    have kk7:Ob ((w6.setCell ⟨W.heap.size+1,0,none⟩ (.string LK)).setCell ⟨W.heap.size+1,1,none⟩ (.int .u64 id)) (W.heap.size+1) 128 [.string LK,.int .u64 id]:=(kk6.set 0 _).set 1 _;have HK7:=Za kk7;clear kk6 kk7 p1 p2 p3 t6 o6 hLK;go_wp2;exact fin_lea HK7.out rfl rfl HF.out
end Go.Proofs.YtdhebpnkfookcaaGreat
namespace Apo
open Go Go.RowKit
open Go.MapKept
open Go.Maps (Keyed)
def kS (s:ByteArray):Lit:=.string s.data.toList
theorem kS_inj {s t:ByteArray} (h:kS s=kS t):s=t:=by
 simp only [kS,Lit.string.injEq] at h;exact ByteArray.ext (Array.ext' h)
theorem kS_key (s:ByteArray):WideAt.IsKeyLit (kS s):=trivial
structure MsD (D:DataW Value) (M:ByteArray->Option Value):Prop where
 has:∀ s,s.size<=maxLen->Maps.has D (kS s)=(M s).isSome
 get:∀ s v,M s=some v->∀ z,D.atKey (kS s) z=.held v
def Ms (P:Program) (k:TypeId) (w:World) (b c:Nat) (M:ByteArray->Option Value):Prop:=∃ D:DataW Value,w.ownsMap P k heldR b (Maps.size D) D/\MsD D M/\Maps.size D<=c
open Classical in
noncomputable def updS (M:ByteArray->Option Value) (s:ByteArray) (v:Option Value):ByteArray->Option Value:=fun t=>if t=s then v else M t
theorem updS_same (M:ByteArray->Option Value) (s:ByteArray) (v:Option Value):updS M s v s=v:=if_pos rfl
theorem updS_other (M:ByteArray->Option Value) {s t:ByteArray} (v:Option Value) (h:t≠s):updS M s v t=M t:=if_neg h
section
variable {P:Program} {k t e:TypeId} {w w':World} {b c:Nat} {M:ByteArray->Option Value}
theorem Ms.lt (h:Ms P k w b c M):b < w.heap.size:=by obtain ⟨D,h,_⟩:=h;exact h.lt
theorem Ms.onl {F:Nat->Prop} (h:Ms P k w b c M) (o:Onl F w w') (hb:¬ F b):Ms P k w' b c M:=by
 have hl:=h.lt;obtain ⟨D,⟨es,c,h1,h2⟩,m⟩:=h;exact ⟨D,⟨es,c,(o.block b hl hb).trans h1,h2⟩,m⟩
theorem Ms.below (h:Ms P k w b c M) (o:Below w.heap.size w w'):Ms P k w' b c M:=h.onl (F:=fun _=>False) (Onl.ofBelow o) id
theorem Ms.made (w:World) (P:Program) (k:TypeId):Ms P k (w.alloc (.map #[] 0)) w.heap.size 0 (fun _=>none) :=
 ⟨.map [],World.ownsMap_made w P k heldR,⟨fun _ _=>rfl,fun _ _ h=>by simp at h⟩,by simp [Maps.size_eq]⟩
theorem Ms.look2 (h:Ms P k w b c M) (hk:P.underlying k=some .string) (ht:P.underlying t=some (.map k e)) {z:Value} (hz:∀ W,(zeroValue e).run P W=.ok z W) {s:ByteArray} (hs:s.size<=maxLen) :
  (Instr.lookup t (.map (some b)) (.string s) true).run P w=.ok (.tuple #[(M s).getD z,.bool (M s).isSome]) w:=by
 obtain ⟨D,h,m,_⟩:=h;obtain ⟨v,ps,h1,h2⟩:=h.look_ok (Maps.string_keyed hk) ht (hz w) (zd:=.held z) (zp:=[]) rfl (Go.WideMaps.keyOf_string_mk hk hs);have h3:DataW.held v=D.atKey (kS s) (.held z):=by simp [heldR] at h2;exact h2.1
 have hh:Maps.has D (kS s)=(M s).isSome:=m.has s hs;rw [show (Lit.string s.data.toList)=kS s from rfl] at h1;rw [h1,hh];cases hM:M s with
 | none =>
  have:=m.has s hs;rw [hM] at this;rw [Maps.atKey_of_not_has (by simpa using this)] at h3;cases h3
  rfl
 | some u =>
  rw [m.get s u hM] at h3;cases h3
  rfl
theorem MsD.put {D:DataW Value} (m:MsD D M) (hD:Maps.IsMap D) (s:ByteArray) (v:Value):MsD (D.put (kS s) (.held v)) (updS M s (some v)):=by
 refine ⟨fun j hj=>?_,fun j u hu z=>?_⟩
 ·by_cases q:j=s
  ·subst q;rw [updS_same,Maps.has_put_same hD (kS_key _)];rfl
  ·rw [updS_other _ _ q,Maps.has_put_other (fun e=>q (kS_inj e)),m.has j hj]
 ·by_cases q:j=s
  ·subst q;rw [updS_same] at hu;cases hu
   exact Maps.atKey_put_same hD (kS_key _) _ _
  ·rw [updS_other _ _ q] at hu;rw [Maps.atKey_put_other (fun e=>q (kS_inj e)),m.get j u hu]
theorem Ms.store (h:Ms P k w b c M) (hk:P.underlying k=some .string) (ht:P.underlying t=some (.map k e)) (hc:c < 1000000) {s:ByteArray} (hs:s.size<=maxLen) (v:Value) :
  ∃ w',(Instr.mapUpdate t (.map (some b)) (.string s) v).run P w=.ok () w'/\Ms P k w' b (c+1) (updS M s (some v))/\w.mapTurned w' b:=by
 obtain ⟨D,h,m,hl⟩:=h;have hK:=Maps.string_keyed hk;obtain ⟨w',h1,h2,h3⟩:=h.store hK ht (show Maps.size D < maxLen by unfold maxLen;omega) (Go.WideMaps.keyOf_string_mk hk hs) (val:=v) (d:=.held v) (ps:=[]) rfl;have hput:MsD (D.put (.string s.data.toList) (.held v)) (updS M s (some v)):=m.put h.isMap s v;refine ⟨w',h1,⟨_,?_,hput,?_⟩,h3⟩
 ·obtain ⟨es,c,q1,q2,q3,q4⟩:=h2;refine ⟨es,c,q1,q2,?_,q4⟩;rw [q4];simp [Maps.size,length_sorted]
 ·have ht:=h.tidy hK;rw [Maps.size_put ht];split <;> omega
end
end Apo
