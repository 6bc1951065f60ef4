import Derived.Test.YtdhebpnkfookcaaGreatSM17
set_option maxRecDepth 100000
set_option maxHeartbeats 4000000
namespace Apo
open Go Go.RowKit
def Cg.get (c:Cg) (st:Sd) (s:Spn) (size:Int):List Int × Int:=if c.ended then ([],40) else if s.k=Zc size then st.rdText2 (Zw s.a) size else ([],1)
end Apo
namespace Go.Proofs.YtdhebpnkfookcaaGreat
open Go.RowKit Apo
theorem cget_gen {U:Nat->Prop} {w:World} {p d:Nat} {c:Cg} {st:Sd} (h:CPx U w p d c st) (hc:st.C.length<=1073741824) (s:Spn) (size:Int) :
  Calls Tryz.prog 72 #[.pointer (some ⟨p,0,none⟩),.agg #[.int .i64 s.a,.int .i64 s.k],.int .i64 size] w fun e w'=>∃ v,e=.returned (.tuple #[v,.int .i64 (c.get st s size).2])/\TldR w' w.heap.size v (c.get st s size).1/\Below w.heap.size w w':=by
 obtain ⟨_,_,_,_,_,_,_,h,_⟩:=h;obtain ⟨N,hN⟩:∃ N,N=Zc size:=⟨_,rfl⟩;have b0:=(Below.refl _ w).alloc (Nat.le_refl _) (.cells #[.int .i64 s.a,.int .i64 s.k] 108);have k0:=Ob.new w [.int .i64 s.a,.int .i64 s.k] 108;have T0:=h.below b0;have C1:=cgoes_ob T0.b.ob rfl rfl;have C2:=fun W=>cneed_any size W
 rw [<- hN] at C2;have C3:=fun W (hb:Below (w.alloc (.cells #[.int .i64 s.a,.int .i64 s.k] 108)).heap.size (w.alloc (.cells #[.int .i64 s.a,.int .i64 s.k] 108)) W)=>crtext_any (T0.below hb).b.dv hc s.a size
 have x0:=T0.b.ob.cell 0;have y0:=k0.cell 0;have y1:=k0.cell 1;simp only [List.getElem?_cons_zero,List.getElem?_cons_succ] at x0 y0 y1;have HB0:=Za b0;have HC3:=Za C3;clear h b0 k0 T0 C3;cases hen:c.ended with
 | true =>
  have e:c.get st s size=([],40):=by unfold Cg.get;rw [if_pos hen]
  rw [e];rw [hen] at C1;clear e hen;go_enter Tryz.func72,Tryz.ntmps72
  go_wp2_with fail
  refine C1.mono ?_;rintro e wx ⟨rfl,rfl⟩;go_wp2;refine bodyPost_ret (by simp [results,Tryz.results72,go_sem];rfl) rfl ?_;exact ⟨_,rfl,TldR.nil _ _,HB0.out⟩
 | false =>
  rw [hen] at C1;by_cases hq:s.k=(N:Int)
  ·have e:c.get st s size=st.rdText2 (Zw s.a) size:=by unfold Cg.get;rw [if_neg (by rw [hen];simp),if_pos (by rw [<- hN];exact hq)]
   rw [e];have hPn:(s.k != (N:Int))=false:=by simpa using hq
   have hPe:(s.k == (N:Int))=true:=by simpa using hq
   clear e hen hq hN;go_enter Tryz.func72,Tryz.ntmps72
   go_wp2_with fail
   refine C1.mono ?_;rintro e wx ⟨rfl,rfl⟩;go_wp2;generalize w.alloc (.cells #[.int .i64 s.a,.int .i64 s.k] 108)=W0 at HB0 HC3 x0 y0 y1 ⊢
   go_region_held3 (fun W'=>W'.cell? ⟨p,0,none⟩=some (.pointer (some ⟨d,0,none⟩))/\W'.cell? ⟨w.heap.size,0,none⟩=some (.int .i64 s.a)/\W'.cell? ⟨w.heap.size,1,none⟩=some (.int .i64 s.k)) (go_keep) (first
    | (go_at_call 91;refine (C2 _).mono ?_;rintro en wx ⟨rfl,rfl⟩))
   have C4:=HC3.out W0.drew.drew ((Below.refl _ W0).drew.drew);have HC4:=Za C4;clear C4 HC3;rename_i hHeld
   obtain ⟨x0,y0,y1⟩:=hHeld;go_wp2
   go_region_held3 (fun W'=>W'.cell? ⟨p,0,none⟩=some (.pointer (some ⟨d,0,none⟩))/\W'.cell? ⟨w.heap.size,0,none⟩=some (.int .i64 s.a)/\W'.cell? ⟨w.heap.size,1,none⟩=some (.int .i64 s.k)) (go_keep) (first
    | (go_at_call 115;refine HC4.out.mono ?_;rintro en w1 ⟨v1,rfl,t1,b1⟩;have u0:=(b1.cell (p:=⟨p,0,none⟩) (World.block_lt_of_cell? _ _ x0)).trans x0;have u1:=(b1.cell (p:=⟨w.heap.size,0,none⟩) (World.block_lt_of_cell? _ _ y0)).trans y0;have u2:=(b1.cell (p:=⟨w.heap.size,1,none⟩) (World.block_lt_of_cell? _ _ y1)).trans y1;have HTL:=Za t1;have HB1:=Za b1;clear t1 b1))
   obtain ⟨RS,hRS⟩:∃ RS,RS=st.rdText2 (Zw s.a) size:=⟨_,rfl⟩;rw [<- hRS] at HTL ⊢;obtain ⟨a1,c1,hv1,rd1,n1,l1,bc1⟩:=HTL.out;subst hv1;have hsz:=HB0.out.size;have hTT:TldR w1 w.heap.size (.slice a1 RS.1.length c1) RS.1:=⟨a1,c1,rfl,rd1,n1,fun x hx=>⟨by have z:W0.heap.size<=x.block:=(l1 x hx).1;omega,(l1 x hx).2⟩,bc1⟩;have HT:=Za hTT;have HBB:=Za (HB0.out.trans (((Below.refl _ W0).drew.drew.trans HB1.out).mono hsz));have HRS:=Za hRS;clear hTT rd1 n1 l1 bc1 HTL hRS;go_wp2;refine bodyPost_ret (by simp [results,Tryz.results72,go_sem];rfl) rfl ?_;have q:=HRS.out;rw [<- q];exact ⟨_,rfl,HT.out,HBB.out⟩
  ·have e:c.get st s size=([],1):=by unfold Cg.get;rw [if_neg (by rw [hen];simp),if_neg (by rw [<- hN];exact hq)]
   rw [e];have hPn:(s.k != (N:Int))=true:=by simpa using hq
   have hPe:(s.k == (N:Int))=false:=by simpa using hq
   clear e hen hq hN;go_enter Tryz.func72,Tryz.ntmps72
   go_wp2_with fail
   refine C1.mono ?_;rintro e wx ⟨rfl,rfl⟩;go_wp2;generalize w.alloc (.cells #[.int .i64 s.a,.int .i64 s.k] 108)=W0 at HB0 HC3 x0 y0 y1 ⊢
   go_region_held3 (fun W'=>W'.cell? ⟨p,0,none⟩=some (.pointer (some ⟨d,0,none⟩))/\W'.cell? ⟨w.heap.size,0,none⟩=some (.int .i64 s.a)/\W'.cell? ⟨w.heap.size,1,none⟩=some (.int .i64 s.k)) (go_keep) (first
    | (go_at_call 91;refine (C2 _).mono ?_;rintro en wx ⟨rfl,rfl⟩))
   have HBB:=Za HB0.out.drew;go_wp2;refine bodyPost_ret (by simp [results,Tryz.results72,go_sem];rfl) rfl ?_;exact ⟨_,rfl,TldR.nil _ _,HBB.out⟩
def best (st:Sd):Nat->Sup
 | 0=>Sup.none
 | k+1=>if ZX (st.told k).1=true/\(best st k).e < (ZA (st.told k).1).e then ZA (st.told k).1 else best st k
theorem load_best {st:Sd} (h0:(st.told 0).2=0) (h1:(st.told 1).2=0):st.load=if (best st 2).e=0 then (Sup.none,50) else (best st 2,0):=by
 unfold Sd.load pickSup;rw [if_pos h0,if_pos h1];have p0:ZX (st.told 0).1=true->(ZA (st.told 0).1).e≠0:=fun h=>(isSup_bytes h).2
 have p1:ZX (st.told 1).1=true->(ZA (st.told 1).1).e≠0:=fun h=>(isSup_bytes h).2
 have e2:best st 2=if ZX (st.told 1).1=true/\(best st 1).e < (ZA (st.told 1).1).e then ZA (st.told 1).1 else best st 1:=rfl
 have e1:best st 1=if ZX (st.told 0).1=true/\0 < (ZA (st.told 0).1).e then ZA (st.told 0).1 else Sup.none:=rfl
 rw [e2,e1];generalize (st.told 0).1=la at *;generalize (st.told 1).1=lb at *;have z:Sup.none.e=0:=rfl;cases ha:ZX la
 ·cases hb:ZX lb
  ·simp [z]
  ·have:=p1 hb;have h9:0 < (ZA lb).e:=by omega
   simp [z,h9,this]
 ·have:=p0 ha;have h9:0 < (ZA la).e:=by omega
  cases hb:ZX lb
  ·simp [h9,this]
  ·have:=p1 hb;by_cases hlt:(ZA la).e < (ZA lb).e
   ·simp [h9,hlt,this]
   ·simp [h9,hlt];omega
theorem load_err {st:Sd} {k:Nat} (hk:k < 2) (ht:∀ j:Nat,j < k->(st.told j).2=0) (he:(st.told k).2≠0):st.load=(Sup.none,(st.told k).2):=by
 unfold Sd.load;have:k=0\/k=1:=by omega
 rcases this with rfl | rfl
 ·exact if_neg he
 ·have h0:(st.told 0).2=0:=ht 0 (by omega);rw [if_pos h0];exact if_neg he
theorem fin_cload {W:World} {g:Nat} {s:Sup} {z:Int} {tmps:Array Value} {Q:Ending->World->Prop} (k:Ob W g 154 s.cells) (h2:tmps.getD 2 undef=.pointer (some ⟨g,0,none⟩)) (h3:tmps.getD 3 undef=.int .i64 z) (hq:Q (.returned (.tuple #[s.val,.int .i64 z])) W) :
  bodyPost Tryz.prog Tryz.f79 Q Exit.ret { tmps:=tmps,defers:=[] } W:=by
 have hl:=run_loadVar_row (P:=Tryz.prog) W g 154 154 s.cells.toArray (0,0) _ k Tryz.underlying154 rfl (by rw [size_sup];rfl);have h2':tmps[2]?.getD undef=.pointer (some ⟨g,0,none⟩):=by simpa using h2
 have h3':tmps[3]?.getD undef=.int .i64 z:=by simpa using h3
 refine bodyPost_ret (v:=.tuple #[s.val,.int .i64 z]) ?_ rfl hq;simp [results,Tryz.results79,asAddr,h2',h3',hl,Sup.val]
theorem cload_any {O:Nat->Prop} {w:World} {p:Nat} {st:Sd} (h:CDev O w p st) (hO:∀ i,O i->i < w.heap.size) (hc:st.C.length<=1099511627776) :
  Calls Tryz.prog 79 #[.pointer (some ⟨p,0,none⟩)] w fun e w'=>e=.returned (.tuple #[st.load.1.val,.int .i64 st.load.2])/\Below w.heap.size w w':=by
 have k0:Ob ((w.alloc (.cells #[.int .u64 0,.int .u32 0,.int .u32 0,.int .u32 0] 154)).alloc (.cells #[.int .u64 0,.int .u32 0,.int .u32 0,.int .u32 0] 154)) w.heap.size 154 Sup.none.cells:=(Ob.new w Sup.none.cells 154).alloc _
 have k1:Ob ((w.alloc (.cells #[.int .u64 0,.int .u32 0,.int .u32 0,.int .u32 0] 154)).alloc (.cells #[.int .u64 0,.int .u32 0,.int .u32 0,.int .u32 0] 154)) (w.heap.size+1) 154 (best st 0).cells:=by
  have:=Ob.new (w.alloc (.cells #[.int .u64 0,.int .u32 0,.int .u32 0,.int .u32 0] 154)) Sup.none.cells 154;rw [World.size_alloc] at this;exact this
 have b0:Below w.heap.size w ((w.alloc (.cells #[.int .u64 0,.int .u32 0,.int .u32 0,.int .u32 0] 154)).alloc (.cells #[.int .u64 0,.int .u32 0,.int .u32 0,.int .u32 0] 154)):=((Below.refl _ w).alloc (Nat.le_refl _) _).alloc (by simp) _;have d0:CDev O ((w.alloc (.cells #[.int .u64 0,.int .u32 0,.int .u32 0,.int .u32 0] 154)).alloc (.cells #[.int .u64 0,.int .u32 0,.int .u32 0,.int .u32 0] 154)) p st:=h.onl (F:=fun _=>False) (((Onl.refl _ w).alloc _).alloc _) (fun _ _ q=>q);have hba:=fun k:Int=>told_byt h.ok k
 have HK0:=Za k0;have HK1:=Za k1;have HB0:=Za b0;have HD0:=Za d0;have HBA:=Za hba;have HO:=Za hO;clear k0 k1 b0 d0 h hba hO;go_enter Tryz.func79,Tryz.ntmps79
 go_wp2;go_loopw [10] (fun i wr=>∃ k:Nat,k<=2/\i=.int .i64 k/\Hid (∀ j:Nat,j < k->(st.told j).2=0)/\Hid (Ob wr w.heap.size 154 Sup.none.cells)/\Hid (Ob wr (w.heap.size+1) 154 (best st k).cells)/\Hid (CDev O wr p st)/\Hid (Below w.heap.size w wr)) (fun i _=>(2 - intOf i).toNat)
 case atStart=>exact ⟨0,by omega,rfl,(fun j hj=>by omega),HK0,HK1,HD0,HB0⟩
 case round =>
  obtain ⟨k,hk,rfl,hT,hK0,hK1,hD,hB⟩:=hrel;by_cases hlt:k < 2
  ·have HC:=Za (cread_any hD.out hc k);go_wp2_with fail
   refine HC.out.mono ?_;rintro e w1 ⟨v1,rfl,t1,b1⟩;have k0:=hK0.out.old b1;have k1:=hK1.out.old b1;have B1:=hB.out.trans (b1.mono hB.out.size);have d1:=hD.out.onl (F:=fun _=>False) (Onl.ofBelow b1) (fun _ _ q=>q)
   obtain ⟨a1,c1,hv1⟩:∃ a' c',v1=.slice a' (st.told k).1.length c'/\(st.told k).1.length<=c':=by
    rcases t1.2 with ⟨h,hz⟩ | ⟨g,c,cur,h,_,_,hn,_⟩
    ·exact ⟨none,0,by rw [hz];exact h,by omega⟩
    ·exact ⟨_,c,h,hn⟩
   obtain ⟨rfl,hc1⟩:=hv1;obtain ⟨r1,_,_⟩:=Rd.own t1;have HK01:=Za k0;have HK11:=Za k1;have HB1:=Za B1;have HD1:=Za d1;have HR1:=Za r1;have x0:=k0.cell 0;have x1:=k0.cell 1;have x2:=k0.cell 2;have x3:=k0.cell 3;have f0:=k0.frozen 0;have f1:=k0.frozen 1;have f2:=k0.frozen 2;have f3:=k0.frozen 3;unfold Sup.cells at x0 x1 x2 x3;simp only [List.getElem?_cons_zero,List.getElem?_cons_succ] at x0 x1 x2 x3;clear k0 k1 B1 d1 r1 t1 b1 hK0 hK1 hB hD HC;by_cases hea:(st.told k).2=0
   ·rw [hea]
    have HEA:Hid (∀ j:Nat,j < k+1->(st.told j).2=0):=fun j hj=>by
     rcases Nat.lt_or_ge j k with h | h
     ·exact hT.out j h
     ·rw [show j=k by omega];exact hea
    have HE:Hid (best st (k+1)=if ZX (st.told k).1=true/\(best st k).e < (ZA (st.told k).1).e then ZA (st.told k).1 else best st k):=rfl;have HBA1:=Za (HBA.out k);clear hea;generalize (st.told k).1=la at *;go_wp2_with fail
    refine (sup_any a1 c1 la HR1.out HBA1.out hc1).mono ?_;rintro e w3 ⟨rfl,b3⟩;have hv:(ZA la).val=.agg #[.int .u64 (ZA la).e,.int .u32 (ZA la).st,.int .u32 (ZA la).pg,.int .u32 (ZA la).sz]:=rfl;rw [hv];clear hv;generalize hia:ZX la=ia at *;generalize hsa:ZA la=sa at *;have BA:=(Below.refl w3.heap.size w3).alloc (Nat.le_refl _) (.cells #[.int .u64 sa.e,.int .u32 sa.st,.int .u32 sa.pg,.int .u32 sa.sz] 154);have ka:Ob (w3.alloc (.cells #[.int .u64 sa.e,.int .u32 sa.st,.int .u32 sa.pg,.int .u32 sa.sz] 154)) w3.heap.size 154 sa.cells:=Ob.new w3 sa.cells 154;have k0:=(HK01.out.old b3).old BA;have k1:=(HK11.out.old b3).old BA;have B1:=(HB1.out.trans (b3.mono HB1.out.size));have B2:Below w.heap.size w (w3.alloc (.cells #[.int .u64 sa.e,.int .u32 sa.st,.int .u32 sa.pg,.int .u32 sa.sz] 154)):=B1.alloc B1.size _;have d1:=(HD1.out.onl (F:=fun _=>False) (Onl.ofBelow b3) (fun _ _ q=>q)).onl (F:=fun _=>False) (Onl.ofBelow BA) (fun _ _ q=>q);clear b3 BA B1 hia hsa;generalize hW4:w3.alloc (.cells #[.int .u64 sa.e,.int .u32 sa.st,.int .u32 sa.pg,.int .u32 sa.sz] 154)=W4 at ka k0 k1 B2 d1;have a0:=ka.cell 0;have a1:=ka.cell 1;have a2:=ka.cell 2;have a3:=ka.cell 3;have y0:=k1.cell 0;have y1:=k1.cell 1;have y2:=k1.cell 2;have y3:=k1.cell 3;have g0:=k1.frozen 0;have g1:=k1.frozen 1;have g2:=k1.frozen 2;have g3:=k1.frozen 3;have HK0:=Za k0;have HK1:=Za k1;have HB2:=Za B2;have HD2:=Za d1;unfold Sup.cells at a0 a1 a2 a3 y0 y1 y2 y3;simp only [List.getElem?_cons_zero,List.getElem?_cons_succ] at a0 a1 a2 a3 y0 y1 y2 y3;clear ka k0 k1 B2 d1;generalize best st k=sk at *;by_cases hb:ia=true/\sk.e < sa.e
    ·obtain ⟨rfl,hlt2⟩:=hb;have hd:decide ((sa.e:Int) > (sk.e:Int))=true:=by simpa using hlt2
     have HE2:Hid (best st (k+1)=sa):=by
      show _=_
      rw [HE.out,if_pos ⟨rfl,hlt2⟩]
     go_wp2;go_roundw
     case rel =>
      refine ⟨k+1,hlt,by simp,HEA,?_,?_,?_,?_⟩
      ·exact (((HK0.out.set_other (by omega) _).set_other (by omega) _).set_other (by omega) _).set_other (by omega) _
      ·rw [HE2.out];exact ob_four HK1.out rfl sa
      ·have hn:∀ i,O i->¬ i=w.heap.size+1:=fun i hi=>by have:=HO.out i hi;omega
       exact HD2.out.onl (F:=fun i=>i=w.heap.size+1) (((((Onl.refl (fun i=>i=w.heap.size+1) W4).set (p:=w.heap.size+1) (.inl rfl) _).set (p:=w.heap.size+1) (.inl rfl) _).set (p:=w.heap.size+1) (.inl rfl) _).set (p:=w.heap.size+1) (.inl rfl) _) hn
      ·exact (((HB2.out.setCell (p:=⟨w.heap.size+1,0,none⟩) (by simp) _).setCell (p:=⟨w.heap.size+1,1,none⟩) (by simp) _).setCell (p:=⟨w.heap.size+1,2,none⟩) (by simp) _).setCell (p:=⟨w.heap.size+1,3,none⟩) (by simp) _
     case measure=>simp [intOf];omega
    ·have HE2:Hid (best st (k+1)=sk):=by
      show _=_
      rw [HE.out,if_neg hb]
     have hd:ia=false\/ia=true:=by cases ia <;> simp
     rcases hd with rfl | rfl
     ·clear hb;go_wp2;go_roundw
      case rel=>exact ⟨k+1,hlt,by simp,HEA,HK0,by rw [HE2.out];exact HK1,HD2,HB2⟩
      case measure=>simp [intOf];omega
     ·have hlt2:¬ sk.e < sa.e:=fun h=>hb ⟨rfl,h⟩
      have hd:decide ((sa.e:Int) > (sk.e:Int))=false:=by simpa using hlt2
      clear hb;go_wp2;go_roundw
      case rel=>exact ⟨k+1,hlt,by simp,HEA,HK0,by rw [HE2.out];exact HK1,HD2,HB2⟩
      case measure=>simp [intOf];omega
   ·have hna:((st.told k).2 != 0)=true:=by simpa using hea
    have HLD:=Za (load_err hlt hT.out hea);clear hea;generalize (st.told k).2=e1 at *;go_wp2;exact fin_cload (s:=Sup.none) (ob_four HK01.out rfl Sup.none) rfl rfl ⟨by rw [HLD.out],below_four HB1.out Sup.none⟩
  ·have ek:k=2:=by omega
   subst ek;have x0:=hK0.out.cell 0;have x1:=hK0.out.cell 1;have x2:=hK0.out.cell 2;have x3:=hK0.out.cell 3;have y0:=hK1.out.cell 0;have y1:=hK1.out.cell 1;have y2:=hK1.out.cell 2;have y3:=hK1.out.cell 3;have f0:=hK0.out.frozen 0;have f1:=hK0.out.frozen 1;have f2:=hK0.out.frozen 2;have f3:=hK0.out.frozen 3;unfold Sup.cells at x0 x1 x2 x3 y0 y1 y2 y3;simp only [List.getElem?_cons_zero,List.getElem?_cons_succ] at x0 x1 x2 x3 y0 y1 y2 y3;have HL:=Za (load_best (hT.out 0 (by omega)) (hT.out 1 (by omega)));generalize best st 2=s at *;by_cases hz:s.e=0
   ·have hzb:((s.e:Int) == 0)=true:=by simp [hz]
    have HZ:=Za hz;clear hz;go_wp2;exact fin_cload (s:=Sup.none) (ob_four hK0.out rfl Sup.none) rfl rfl ⟨by rw [HL.out,if_pos HZ.out],below_four hB.out Sup.none⟩
   ·have hzb:((s.e:Int) == 0)=false:=by simp;omega
    have HZ:=Za hz;clear hz;go_wp2;exact fin_cload (s:=s) (ob_four hK0.out rfl s) rfl rfl ⟨by rw [HL.out,if_neg HZ.out],below_four hB.out s⟩
theorem cpload_none (w:World) (p E:Nat) :
  Calls Tryz.prog 82 #[.pointer (some ⟨p,0,none⟩),.agg #[.int .u64 E,.int .u32 0,.int .u32 0,.int .u32 0]] w fun e w'=>e=.returned (.tuple #[.slice none 0 0,.int .i64 0])/\Below w.heap.size w w':=by
 have q1:=fun W=>eqS ⟨E,0,0,0⟩ ⟨E,0,0,0⟩ W
 simp only [decide_true] at q1;have HB:=Za ((Below.refl _ w).alloc (Nat.le_refl _) (.cells #[.int .u64 E,.int .u32 0,.int .u32 0,.int .u32 0] 154));go_enter Tryz.func82,Tryz.ntmps82
 go_wp2;refine bodyPost_ret (by simp [results,Tryz.results82,go_sem];rfl) rfl ?_;exact ⟨rfl,HB.out⟩
theorem copen_pre {O:Nat->Prop} {w:World} {d:Nat} {st:Sd} (h:CDev O w d st) (hO:∀ i,O i->i < w.heap.size) (hc:st.C.length<=536870912) (E S0 P0 Z0:Nat) (hld:st.load=(⟨E,S0,P0,Z0⟩,0)) (Q:Ending->World->Prop)
  (hk:∀ (W:World) (p pf:Nat) (Of:Nat->Prop),CPb O Of W p d pf none none E ⟨0,0⟩ (newFr 1 ((st.S.length / 4:Nat):Int)) false st->(∀ i,Of i->w.heap.size<=i)->w.heap.size<=p->Below w.heap.size w W ->
    Calls Tryz.prog 82 #[.pointer (some ⟨p,0,none⟩),.agg #[.int .u64 E,.int .u32 S0,.int .u32 P0,.int .u32 Z0]] W fun en W1=>∃ a l c,en=.returned (.tuple #[.slice a l c,.int .i64 0]) /\
     Calls Tryz.prog 83 #[.pointer (some ⟨p,0,none⟩)] W1 fun en W2=>en=.returned (.tuple #[])/\Q (.returned (.tuple #[.pointer (some ⟨p,0,none⟩),.slice a l c,.int .i64 0])) W2) :
  Calls Tryz.prog 47 #[.pointer (some ⟨d,0,none⟩)] w fun en w'=>∃ u,en=.returned u/\Q (.returned u) w':=by
 have C0:=cload_any h hO (by omega);rw [hld] at C0;unfold Sup.val Sup.cells at C0;have H:=Za h;have HO:=Za hO;have HK:=Za hk;have HC0:=Za C0;clear C0 h hO hk hld;go_enter Tryz.func47,Tryz.ntmps47
 go_wp2_with fail
 refine HC0.out.mono ?_;rintro en w1 ⟨rfl,b1⟩;have k1:=Ob.new w1 [.int .u64 E,.int .u32 S0,.int .u32 P0,.int .u32 Z0] 154;have B1:Below w.heap.size w (w1.alloc (.cells #[.int .u64 E,.int .u32 S0,.int .u32 P0,.int .u32 Z0] 154)):=b1.alloc b1.size _;have hw1:=b1.size;have x0:=k1.cell 0;have x1:=k1.cell 1;have x2:=k1.cell 2;have x3:=k1.cell 3;simp only [List.getElem?_cons_zero,List.getElem?_cons_succ] at x0 x1 x2 x3;have hsz:(w1.alloc (.cells #[.int .u64 E,.int .u32 S0,.int .u32 P0,.int .u32 Z0] 154)).heap.size=w1.heap.size+1:=by simp
 have HK1:=Za k1;have HB1:=Za B1;clear b1 k1 B1 HC0;go_wp2;generalize w1.alloc (.cells #[.int .u64 E,.int .u32 S0,.int .u32 P0,.int .u32 Z0] 154)=W1 at HK1 HB1 x0 x1 x2 x3 hsz ⊢;have C2:=cpages_any (H.out.onl (F:=fun _=>False) (Onl.ofBelow HB1.out.drew) (fun _ _ q=>q));have C3:=xnew_any 1 ((st.S.length / 4:Nat):Int) W1.drew (by decide);generalize hNN:st.S.length / 4=NN at *;have HC3:=Za C3;clear C3
 go_region_held3 (fun W'=>W'.cell? ⟨w1.heap.size,0,none⟩=some (.int .u64 E)) (go_keep) (first
  | (go_at_call 81;refine C2.mono ?_;rintro en wx ⟨rfl,rfl⟩)
  | (go_at_call 80;refine HC3.out.mono ?_;rintro en w3 ⟨pf,rfl,k3,b3⟩;have m3:=Ob.old (w:=W1.drew) HK1.out b3;have x0:=m3.cell 0;simp only [List.getElem?_cons_zero] at x0;have HK3:=Za k3;have HM3:=Za m3;have HB3:=Za b3;clear k3 m3 b3))
 rename_i hHeld
 clear hHeld;have hs1:w1.heap.size+1<=w3.heap.size:=by have:W1.heap.size<=w3.heap.size:=HB3.out.size;omega
 have B4:Below w.heap.size w (w3.alloc (.cells #[.pointer (some ⟨d,0,none⟩),.int .u64 E,.int .i64 0,.int .i64 0,.pointer (some ⟨pf,0,none⟩),.pointer none,.pointer none,.bool false] 161)):=(HB1.out.drew.trans (HB3.out.mono HB1.out.size)).alloc (by omega) _;have m4:=HM3.out.alloc (.cells #[.pointer (some ⟨d,0,none⟩),.int .u64 E,.int .i64 0,.int .i64 0,.pointer (some ⟨pf,0,none⟩),.pointer none,.pointer none,.bool false] 161)
 have T4:CPb O (fun i=>W1.drew.heap.size<=i/\i < w3.heap.size) (w3.alloc (.cells #[.pointer (some ⟨d,0,none⟩),.int .u64 E,.int .i64 0,.int .i64 0,.pointer (some ⟨pf,0,none⟩),.pointer none,.pointer none,.bool false] 161)) w3.heap.size d pf none none E ⟨0,0⟩ (newFr 1 ((NN:Nat):Int)) false st :=
  ⟨Ob.new w3 [.pointer (some ⟨d,0,none⟩),.int .u64 E,.int .i64 0,.int .i64 0,.pointer (some ⟨pf,0,none⟩),.pointer none,.pointer none,.bool false] 161,H.out.onl (F:=fun _=>False) (Onl.ofBelow B4) (fun _ _ q=>q),HK3.out.below ((Below.refl _ w3).alloc (Nat.le_refl _) _),fun i q=>⟨fun z=>by have:=HO.out i q;have z1:W1.heap.size<=i:=z.1;omega,by have:=HO.out i q;omega⟩,fun i q=>by have:=q.2;omega,fun i q=>by have:=HO.out i q;simp;omega,fun i q=>by have:=q.2;simp;omega,⟨by decide,by decide,by decide,by decide⟩⟩
 have y0:=m4.cell 0;have y1:=m4.cell 1;have y2:=m4.cell 2;have y3:=m4.cell 3;simp only [List.getElem?_cons_zero,List.getElem?_cons_succ] at y0 y1 y2 y3;have C5:=HK.out _ w3.heap.size pf _ T4 (fun i q=>by have q1:W1.heap.size<=i:=q.1;omega) (by omega) B4;have HC5:=Za C5;clear T4 C5 B4 m4 x0 x1 x2 x3 HK HC3 C2 HK3 HM3 hNN;generalize w3.alloc (.cells #[.pointer (some ⟨d,0,none⟩),.int .u64 E,.int .i64 0,.int .i64 0,.pointer (some ⟨pf,0,none⟩),.pointer none,.pointer none,.bool false] 161)=W4 at HC5 y0 y1 y2 y3 ⊢;go_wp2_with fail
 refine HC5.out.mono ?_;rintro en W5 ⟨a,l,c,rfl,C6⟩;have HC6:=Za C6;clear C6 y0 y1 y2 y3;go_wp2_with fail
 refine HC6.out.mono ?_;rintro en W6 ⟨rfl,hQ⟩;have HQ:=Za hQ;clear hQ;go_wp2;refine bodyPost_ret (by simp [results,Tryz.results47,go_sem];rfl) rfl ?_;exact ⟨_,rfl,HQ.out⟩
theorem copen_none {O:Nat->Prop} {w:World} {d:Nat} {st:Sd} (h:CDev O w d st) (hO:∀ i,O i->i < w.heap.size) (hc:st.C.length<=536870912) (E:Nat) (hld:st.load=(⟨E,0,0,0⟩,0)) :
  Calls Tryz.prog 47 #[.pointer (some ⟨d,0,none⟩)] w fun en w'=>∃ p v,en=.returned (.tuple #[.pointer (some ⟨p,0,none⟩),v,.int .i64 0])/\TldR w' w.heap.size v []/\CPx (Gro O w w') w' p d ⟨E,⟨0,0⟩,Zu st,Zu st,((Zu st).give ⟨0,0⟩).2,false⟩ st/\Below w.heap.size w w':=by
 refine (copen_pre h hO hc E 0 0 0 hld (fun en w'=>∃ p v,en=.returned (.tuple #[.pointer (some ⟨p,0,none⟩),v,.int .i64 0])/\TldR w' w.heap.size v []/\CPx (Gro O w w') w' p d ⟨E,⟨0,0⟩,Zu st,Zu st,((Zu st).give ⟨0,0⟩).2,false⟩ st/\Below w.heap.size w w') ?_).mono (fun en w' ⟨u,e1,h1⟩=>by rw [e1];exact h1);intro W p pf Of T hf hp B;refine (cpload_none W p E).mono ?_;rintro en W1 ⟨rfl,b1⟩;refine ⟨none,0,0,rfl,(cbegin_zero (T.below b1) rfl).mono ?_⟩;rintro en W2 ⟨rfl,⟨Ow,On,pw,pn,x,l⟩,o⟩;have hs:=B.size;have hs1:=b1.size;refine ⟨rfl,p,_,rfl,TldR.nil _ _,x.x (fun i q=>?_),Below.onl (B.trans (b1.mono B.size)) o (fun i q=>by omega) (Nat.le_refl _)⟩;have hlt:=x.lt i q;rcases q with q | q | q | q | q
 ·exact .inl q
 ·exact .inr ⟨hf i q,hlt⟩
 ·exact .inr ⟨by have:=l i (.inl q);omega,hlt⟩
 ·exact .inr ⟨by have:=l i (.inr q);omega,hlt⟩
 ·exact .inr ⟨by omega,hlt⟩
theorem copen_lerr {O:Nat->Prop} {w:World} {d:Nat} {st:Sd} (h:CDev O w d st) (hO:∀ i,O i->i < w.heap.size) (hc:st.C.length<=536870912) (her:¬ st.load.2=0) :
  Calls Tryz.prog 47 #[.pointer (some ⟨d,0,none⟩)] w fun en w'=>en=.returned (.tuple #[.pointer none,.slice none 0 0,.int .i64 st.load.2])/\Below w.heap.size w w':=by
 have C0:=cload_any h hO (by omega);obtain ⟨er,he⟩:∃ er,er=st.load.2:=⟨_,rfl⟩;obtain ⟨⟨E,S0,P0,Z0⟩,hsp⟩:∃ s,s=st.load.1:=⟨_,rfl⟩;rw [<- he] at C0 her ⊢;rw [<- hsp] at C0;unfold Sup.val Sup.cells at C0;have her1:(er != 0)=true:=by simpa using her
 have her2:(er == 0)=false:=by simpa using her
 have HC0:=Za C0;clear C0 h hO he hsp her;go_enter Tryz.func47,Tryz.ntmps47
 go_wp2_with fail
 refine HC0.out.mono ?_;rintro en w1 ⟨rfl,b1⟩;have B1:Below w.heap.size w (w1.alloc (.cells #[.int .u64 E,.int .u32 S0,.int .u32 P0,.int .u32 Z0] 154)):=b1.alloc b1.size _;have HB1:=Za B1;clear b1 B1 HC0;go_wp2;refine bodyPost_ret (by simp [results,Tryz.results47,go_sem];rfl) rfl ?_;exact ⟨rfl,HB1.out⟩
end Go.Proofs.YtdhebpnkfookcaaGreat
namespace Apo
open Go Go.RowKit
def Sd.openC (st:Sd):(Cg × List Int) × Int :=
 if st.load.2=0 then
  if st.load.1.st=0/\st.load.1.pg=0/\st.load.1.sz=0 then ((⟨st.load.1.e,⟨0,0⟩,Zu st,Zu st,((Zu st).give ⟨0,0⟩).2,false⟩,[]),0)
  else if (st.rdText2 (Zw st.load.1.st) st.load.1.sz).2=0 then
   if st.load.1.pg=Zc (st.rdText2 (Zw st.load.1.st) st.load.1.sz).1.length/\((Zu st).claim ⟨st.load.1.st,st.load.1.pg⟩).1=true then
    ((⟨st.load.1.e,⟨st.load.1.st,st.load.1.pg⟩,((Zu st).claim ⟨st.load.1.st,st.load.1.pg⟩).2,((Zu st).claim ⟨st.load.1.st,st.load.1.pg⟩).2,(((Zu st).claim ⟨st.load.1.st,st.load.1.pg⟩).2.give ⟨st.load.1.st,st.load.1.pg⟩).2,false⟩,(st.rdText2 (Zw st.load.1.st) st.load.1.sz).1),0)
   else ((⟨0,⟨0,0⟩,Zu st,Zu st,Zu st,true⟩,[]),50)
  else ((⟨0,⟨0,0⟩,Zu st,Zu st,Zu st,true⟩,[]),(st.rdText2 (Zw st.load.1.st) st.load.1.sz).2)
 else ((⟨0,⟨0,0⟩,Zu st,Zu st,Zu st,true⟩,[]),st.load.2)
end Apo
namespace Go.Proofs.YtdhebpnkfookcaaGreat
open Go.RowKit Apo
def zrow:Array Value:=madeCells #[.int .u8 0] 32
theorem zrow_list:zrow.toList=zeros.map (Value.int .u8):=by
 unfold zrow zeros;rw [toList_madeCells_one,List.map_replicate]
theorem mk32 (wx:World):(Instr.makeSlice 41 (.int .i64 32) (.int .i64 32)).run Tryz.prog wx=.ok (.slice (some ⟨wx.heap.size,0,none⟩) 32 32) (wx.alloc (.cells zrow 5)):=by
 obtain ⟨i1,hi,hz0,hz1,hz2⟩:=info_parts info_u8;have:=run_makeSlice (P:=Tryz.prog) wx 41 5 i1 (.int .u8 0) Tryz.underlying41 hi hz0 .i64 .i64 32 32 (by decide) (by decide) (by rw [hz1];decide) (by rw [hz2];decide) (by decide);rw [hz1] at this;exact this
attribute [local go_sem] mk32
def fmtTo (st:Sd):Nat->Sd
 | 0=>st
 | I+1=>((fmtTo st I).wrote I zeros).2
theorem fmtTo_C (st:Sd):∀ I,(fmtTo st I).C.length<=st.C.length+I
 | 0=>Nat.le_refl _
 | I+1=>by have:=wrote_C (fmtTo st I) I zeros;have:=fmtTo_C st I;simp only [fmtTo];omega
theorem zeros_byt:∀ z ∈ zeros,0<=z/\z<=255:=by simp [zeros]
theorem rd_zeros (w:World):Rd .u8 (w.alloc (.cells zrow 5)) (some ⟨w.heap.size,0,none⟩) zeros:=by
 have r:(w.alloc (.cells zrow 5)).ownsRow 0 5 1 (.slice (some ⟨w.heap.size,0,none⟩) 32 32) 32 (zeros.map (Value.int .u8)):=by
  refine ⟨by simp [zeros],.inr ⟨w.heap.size,32,zrow,rfl,Nat.zero_le _,heap_alloc_new w _,Nat.le_refl _,by unfold maxLen;decide,by rw [<- Array.length_toList,zrow_list];simp [zeros],?_⟩⟩;rw [zrow_list];simp [zeros]
 exact (Rd.own r).1
theorem cformat_any {O:Nat->Prop} {w:World} {p:Nat} {st:Sd} (h:CDev O w p st) (hlt:∀ i,O i->i < w.heap.size) (hc:st.C.length<=1073741824) :
  Calls Tryz.prog 48 #[.pointer (some ⟨p,0,none⟩)] w fun e w'=>e=.returned (.int .i64 st.format.1)/\CDev (Gro O w w') w' p st.format.2/\Onl O w w':=by
 have CP:=cpages_any h;have hlt':=hlt p h.own;have H:=Za h;have HL:=Za hlt;clear h hlt;by_cases h8:st.S.length < 8
 ·have e:st.format=(70,st):=by unfold Sd.format;rw [if_pos h8]
  rw [e];obtain ⟨q,hq⟩:∃ q,q=st.S.length / 4:=⟨_,rfl⟩;rw [<- hq] at CP;have h2:q < 2:=by omega
  clear e hq;go_enter Tryz.func48,Tryz.ntmps48
  go_wp2_with fail
  refine CP.mono ?_;rintro e wx ⟨rfl,rfl⟩;go_wp2;go_ret
  exact ⟨rfl,H.out.mono Gro.of,Onl.refl _ _⟩
 ·have ef:st.format=if (st.wrote 0 zeros).1=0 then (if ((fmtTo st 1).wrote 1 zeros).1=0 then (fmtTo st 2).save ⟨1,0,0,0⟩ else (fmtTo st 1).wrote 1 zeros) else st.wrote 0 zeros:=by
   unfold Sd.format;rw [if_neg h8];rfl
  have HEF:=Za ef;obtain ⟨q,hq⟩:∃ q,q=st.S.length / 4:=⟨_,rfl⟩;rw [<- hq] at CP;have h2:2<=q:=by omega
  clear ef h8 hq;go_enter Tryz.func48,Tryz.ntmps48
  go_wp2_with fail
  refine CP.mono ?_;rintro e wx ⟨rfl,rfl⟩;go_wp2;go_loopw [8] (fun i wr=>∃ I:Nat,I<=2/\i=.int .i64 I/\Hid (∀ j:Nat,j < I->((fmtTo st j).wrote j zeros).1=0)/\Hid (CDev (Gro O w wr) wr p (fmtTo st I))/\Hid (Onl O w wr)) (fun i _=>2 - (intOf i).toNat)
  case atStart=>exact ⟨0,by omega,rfl,fun j q=>absurd q (Nat.not_lt_zero _),H.out.mono Gro.of,Onl.refl _ _⟩
  case round =>
   obtain ⟨I,hI,rfl,hno,hR,hO⟩:=hrel;have hCC:=fmtTo_C st I;have GL:=Gro.lt HL.out hO.out.size;by_cases hl:I < 2
   ·have ow:Onl (fun _=>False) wr (wr.alloc (.cells zrow 5)):=(Onl.refl _ wr).alloc _;have C:=cwrite_any (hR.out.onl ow (fun _ _ q=>q)) (by omega) (I:Int) (some ⟨wr.heap.size,0,none⟩) 32 zeros (rd_zeros wr) (fun x hx _ q=>by cases hx;have:=GL _ q;simp at this) zeros_byt;have HC:=Za C;have hz:zeros.length=32:=by simp [zeros]
    rw [hz] at HC;have HOW:=Za (hO.out.alloc (.cells zrow 5));clear C ow;go_wp2_with fail
    refine HC.out.mono ?_;rintro e w1 ⟨rfl,r1,o1⟩;have hsz:wr.heap.size<=(wr.alloc (.cells zrow 5)).heap.size:=by simp
    have r1':=r1.mono (O':=Gro O w w1) (fun i q=>q.elim (fun q=>q.elim .inl (fun q=>.inr ⟨q.1,Nat.lt_of_lt_of_le q.2 (Nat.le_trans hsz o1.size)⟩)) (fun q=>.inr ⟨Nat.le_trans hO.out.size (Nat.le_trans hsz q.1),q.2⟩));have o1':=HOW.out.more o1 (fun i q=>q.elim .inl (fun q=>.inr q.1));have HR1:=Za r1';have HO1:=Za o1';clear r1 o1 r1' o1';by_cases hq:((fmtTo st I).wrote I zeros).1=0
    ·have hno2:∀ j:Nat,j < I+1->((fmtTo st j).wrote j zeros).1=0:=fun j hj=>by
      rcases Nat.lt_or_ge j I with q | q
      ·exact hno.out j q
      ·rw [show j=I by omega];exact hq
     have HN2:=Za hno2;clear hno2;have hqb:(((fmtTo st I).wrote I zeros).1 != 0)=false:=by simpa using hq
     go_wp2;go_roundw
     case rel=>exact ⟨I+1,hl,by simp,HN2,HR1,HO1⟩
     case measure=>simp [intOf];omega
    ·have hqb:(((fmtTo st I).wrote I zeros).1 != 0)=true:=by simpa using hq
     have e:st.format=(fmtTo st I).wrote I zeros:=by
      rw [HEF.out];have:I=0\/I=1:=by omega
      rcases this with r | r
      ·subst r;have q:¬ (st.wrote 0 zeros).1=0:=hq;rw [if_neg q];rfl
      ·subst r;have q0:(st.wrote 0 zeros).1=0:=hno.out 0 (by omega);have q1:¬ ((fmtTo st 1).wrote 1 zeros).1=0:=hq;rw [if_pos q0,if_neg q1];rfl
     have HE:=Za e;clear e;go_wp2;go_ret
     rw [HE.out];exact ⟨rfl,HR1.out,HO1.out⟩
   ·have hI2:I=2:=by omega
    subst hI2
    have e:st.format=(fmtTo st 2).save ⟨1,0,0,0⟩:=by
     have q0:(st.wrote 0 zeros).1=0:=hno.out 0 (by omega);have q1:((fmtTo st 1).wrote 1 zeros).1=0:=hno.out 1 (by omega);rw [HEF.out,if_pos q0,if_pos q1]
    have C:=csave_any hR.out GL (by omega) ⟨1,0,0,0⟩ ⟨by decide,by decide,by decide,by decide⟩;have HC:=Za C;have HE:=Za e;clear C e;go_wp2_with fail
    refine HC.out.mono ?_;rintro e w1 ⟨rfl,r1,o1⟩;have r1':=r1.mono (O':=Gro O w w1) (fun i q=>q.elim (fun q=>q.elim .inl (fun q=>.inr ⟨q.1,Nat.lt_of_lt_of_le q.2 o1.size⟩)) (fun q=>.inr ⟨Nat.le_trans hO.out.size q.1,q.2⟩));have o1':=hO.out.more o1 (fun i q=>q.elim .inl (fun q=>.inr q.1));have HR1:=Za r1';have HO1:=Za o1';clear r1 o1 r1' o1';go_wp2;go_ret
    rw [HE.out];exact ⟨rfl,HR1.out,HO1.out⟩
end Go.Proofs.YtdhebpnkfookcaaGreat
