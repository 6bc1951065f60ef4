import Derived.Test.YtdhebpnkfookcaaGreatRM49
set_option maxRecDepth 100000
set_option maxHeartbeats 16000000
namespace Go.Proofs.YtdhebpnkfookcaaGreat
open Go.RowKit Apo Go.Sort
attribute [local go_sem ↓] app_exec
theorem teapply_few (w:World) (a b:Option Addr) (ca cb:Nat) (es:List En) (l:List Ed) (ha:RdEn w a es) (hb:RdG cEd 3 w b l) (hla:es.length<=400000) (hlb:l.length<=400000) (hfw:es.length+l.length<=20) :
  Calls Tryz.prog 64 #[.slice a es.length ca,.slice b l.length cb] w (EnP (ApR es l) w):=by
 have HFW:=Za hfw;clear hfw;obtain ⟨n,hn⟩:∃ n,n=es.length:=⟨_,rfl⟩;obtain ⟨m,hm⟩:∃ m,m=l.length:=⟨_,rfl⟩;obtain ⟨W0,RM,OM,GM⟩:=temk (n+m) w (by omega);have b0:Below w.heap.size w W0:=(Below.refl _ _).grown GM (Nat.le_refl _) (by simp)
 have rowM:Row (fun g=>w.heap.size<=g) W0 46 3 (.slice (some ⟨w.heap.size,0,none⟩) 0 (n+m)) 0 []:=by
  refine ⟨⟨OM.1,?_⟩,fun g hg=>by cases hg;exact Nat.le_refl _⟩;rcases OM.2 with q | ⟨g,cap,cur,q1,q2,q3⟩
  ·exact .inl q
  ·exact .inr ⟨g,cap,cur,q1,Nat.zero_le _,q3⟩
 have HLD:=Za (And.intro (fun W (h:Below w.heap.size w W)=>ha.below h) (fun W (h:Below w.heap.size w W)=>hb.below h));have HA:=Za (ha.below b0);have HBL:=Za (hb.below b0);have HN:=Za hn;have HM:=Za hm;have HB0:=Za b0;have HRM:=Za rowM
 have RM':(Instr.makeSlice 44 (.int .i64 0) (.int .i64 ((n:Int)+(m:Int)))).run Tryz.prog w=.ok (.slice (some ⟨w.heap.size,0,none⟩) 0 (n+m)) W0:=by
  rw [show (n:Int)+(m:Int)=((n+m:Nat):Int) by omega];exact RM
 obtain ⟨i0,hi0,_⟩:=info_parts info_ed;rw [<- hn,<- hm];rw [<- hn] at hla;rw [<- hm] at hlb;clear ha hb hn hm b0 rowM RM OM GM;go_enter Tryz.func64,Tryz.ntmps64
 go_wp2;go_loopw [5,19] (fun v i wr=>∃ (k g cp:Nat),k<=n/\i=.int .i64 k/\v=.slice (some ⟨g,0,none⟩) k cp/\Hid (k=((es.take k).map Zp).length)/\Hid (Row (fun g=>w.heap.size<=g) wr 46 3 (.slice (some ⟨g,0,none⟩) k cp) ((es.take k).map Zp).length (Zf cEd ((es.take k).map Zp)))/\Hid (Below w.heap.size w wr)/\Hid (RdEn wr a es)/\Hid (RdG cEd 3 wr b l)) (fun _ i _=>n - (intOf i).toNat)
 case atStart=>exact ⟨0,w.heap.size,n+m,Nat.zero_le _,rfl,rfl,Za rfl,Za HRM.out,HB0,HA,HBL⟩
 case round =>
  obtain ⟨k,g,cp,hk,rfl,rfl,HNK,HRW,HBr,HRA,HRB⟩:=hrel;by_cases hkn:k < n
  ·obtain ⟨⟨ek,ev⟩,hx⟩:∃ x,es[k]?=some x:=⟨es[k]'(by have:=HN.out;omega),List.getElem?_eq_getElem _⟩;obtain ⟨gm,om,rfl,p1,p2⟩:=HRA.out k _ hx;simp only at p1 p2;obtain ⟨W1,hW1⟩:∃ W1,W1=wr.alloc (.cells #[.string ek,.string ev] 43):=⟨_,rfl⟩;have b1:Below wr.heap.size wr W1:=by rw [hW1];exact (Below.refl _ wr).alloc (Nat.le_refl _) _
   have kb:Ob W1 wr.heap.size 43 [.string ek,.string ev]:=by rw [hW1];exact Ob.new wr [.string ek,.string ev] 43
   have y0:=kb.cell 0;have y1:=kb.cell 1;simp only [List.getElem?_cons_zero,List.getElem?_cons_succ] at y0 y1;obtain ⟨x,hx2⟩:∃ x:Ed,x=⟨ek,ev,false⟩:=⟨_,rfl⟩;obtain ⟨w6,hw6⟩:∃ w6,w6=W1.alloc (.cells (cEd x).toArray 46):=⟨_,rfl⟩;have bb6:Below W1.heap.size W1 w6:=by rw [hw6];exact (Below.refl _ W1).alloc (Nat.le_refl _) _
   have row6:=(HRW.out.onl (F:=fun _=>False) (Onl.ofBelow b1) (fun _ _ q=>q)).onl (F:=fun _=>False) (Onl.ofBelow bb6) (fun _ _ q=>q);have rd6:RdG cEd 3 w6 (some ⟨W1.heap.size,0,none⟩) [x]:=by rw [hw6];exact rd_lit _ _ x
   obtain ⟨v8,w8,RR,r8,o8,ow8⟩:=app_ed (cp:=1) row6 (by simp;omega) rd6;have htk:(es.take (k+1)).map Zp=(es.take k).map Zp++[x]:=by rw [List.take_add_one,hx,hx2];simp [Zp]
   rw [<- htk] at r8;have hk1:((es.take (k+1)).map Zp).length=k+1:=by have:=HN.out;simp;omega
   obtain ⟨g8,c8,hv8,_,_,_,_,_,_⟩:=r8.shape (by omega);rw [hk1] at hv8;rw [hv8] at r8 RR;rw [show [x].length=1 from rfl] at RR;have hs1:W1.heap.size=wr.heap.size+1:=by rw [hW1];simp
   have hs6:w6.heap.size=W1.heap.size+1:=by rw [hw6,World.size_alloc]
   have hbr:=HBr.out.size;have hb8:Below w.heap.size w w8:=Below.onl ((HBr.out.trans (b1.mono HBr.out.size)).trans (bb6.mono (by omega))) o8 (fun i q=>HRW.out.2 i q) (Nat.le_refl _);have far:Onl (fun j=>w.heap.size<=j) wr w8:=((Onl.ofBelow b1).trans (Onl.ofBelow bb6)).trans (o8.mono (fun i q=>HRW.out.2 i q));have ra8:RdEn w8 (some ⟨gm,om,none⟩) es:=HLD.out.1 w8 hb8;have rb8:RdG cEd 3 w8 b l:=HLD.out.2 w8 hb8;have HF:Hid (Row (fun g=>w.heap.size<=g) w8 46 3 (.slice (some ⟨g8,0,none⟩) (k+1) c8) ((es.take (k+1)).map Zp).length (Zf cEd ((es.take (k+1)).map Zp))):=Za ⟨r8.1,fun g hg=>(r8.2 g hg).elim (fun z=>z) (fun z=>by omega)⟩;have HB8:=Za hb8;have HA8:=Za ra8;have HB28:=Za rb8;have HK1:Hid (k+1=((es.take (k+1)).map Zp).length):=Za hk1.symm;rw [hw6,hx2] at RR;simp only [cEd] at RR;rw [hW1] at RR y0 y1;simp only [World.size_alloc] at RR;obtain ⟨z1,z2,z3⟩:=Ze RR;clear hW1 b1 kb hw6 bb6 row6 rd6 r8 o8 ow8 hv8 RR htk hk1 hs1 hs6 hbr hb8 HRW hx2 far ra8 rb8 hx;go_wp2;go_roundw
   case rel=>exact ⟨k+1,g8,c8,by omega,by simp,rfl,HK1,HF,HB8,HA8,HB28⟩
   case measure=>simp [intOf];omega
  ·obtain rfl:k=n:=by omega
   have hrow:=HRW.out;rw [show es.take k=es from List.take_of_length_le (by have:=HN.out;omega)] at hrow
   have sorting:∀ (wS:World) (gS cS:Nat),Row (fun g=>w.heap.size<=g) wS 46 3 (.slice (some ⟨gS,0,none⟩) (es.map Zp++l).length cS) (es.map Zp++l).length (Zf cEd (es.map Zp++l))->∃ ex,Calls Tryz.prog 106 #[.slice (some ⟨gS,0,none⟩) (es.map Zp++l).length cS,.func (.func 107) #[] #[]] wS (InP wS gS ex (es.map Zp++l) 0 (es.map Zp++l).length):=fun wS gS cS rowS=>by
    obtain ⟨ex,hro⟩:=teroe rowS;exact ⟨ex,sortst_few 107 tecmp wS gS cS (es.map Zp++l) ex hro (by have:=HFW.out;simp;omega)⟩
   have HSO:=Za sorting;obtain ⟨ln,hln⟩:∃ ln,ln=(es.map Zp++l).length:=⟨_,rfl⟩;have hln2:ln=k+m:=by rw [hln];have:=HN.out;have:=HM.out;simp;omega
   have HL0:=Za hln
   have appd:∃ gS cS wS,(Builtin.append_ #[44,44] 44 #[.slice (some ⟨g,0,none⟩) k cp,.slice b m cb]).run Tryz.prog wr=.ok (.slice (some ⟨gS,0,none⟩) ln cS) wS/\Row (fun g=>w.heap.size<=g) wS 46 3 (.slice (some ⟨gS,0,none⟩) ln cS) (es.map Zp++l).length (Zf cEd (es.map Zp++l))/\Below w.heap.size w wS:=by
    by_cases hm0:m=0
    ·have hle:l=[]:=List.eq_nil_of_length_eq_zero (by rw [<- HM.out];exact hm0);subst hm0
     have hkc:k<=cp:=by
      obtain ⟨_,cap,hv,h1,_⟩:=hrow.form;injection hv with _ _ h3
      subst h3;have:=HN.out;simp at h1
      omega
     have hlk:ln=k:=by omega
     refine ⟨g,cp,wr,?_,?_,HBr.out⟩
     ·rw [hlk];exact app_zero Tryz.underlying44 hi0 hkc
     ·rw [hlk,hle,List.append_nil];exact hrow
    ·cases b with
     | none =>
      exfalso
      obtain ⟨x,hx⟩:∃ x,l[0]?=some x:=⟨l[0]'(by have:=HM.out;omega),List.getElem?_eq_getElem _⟩;obtain ⟨_,_,hn,_⟩:=HRB.out 0 x hx;cases hn
     | some y =>
      have hkl:k=(es.map Zp).length:=by have:=HN.out;simp;omega
      obtain ⟨v8,w8,RR,r8,o8,ow8⟩:=app_ed (cp:=cb) hrow (by have:=HN.out;have:=HM.out;simp;omega) HRB.out;obtain ⟨g8,c8,hv8,_,_,_,_,_,_⟩:=r8.shape (by have:=HM.out;simp;omega);rw [hv8,<- HM.out,<- hln] at RR;rw [hv8,<- hln] at r8;refine ⟨g8,c8,w8,RR,⟨by rw [<- hln];exact r8.1,fun g hg=>(r8.2 g hg).elim (fun z=>z) (fun z=>by have:=HBr.out.size;omega)⟩,Below.onl HBr.out o8 (fun i q=>HRW.out.2 i q) (Nat.le_refl _)⟩
   obtain ⟨gS,cS,wS,RR,rowS,bS⟩:=appd;rw [<- hln] at HSO;obtain ⟨ex,CS⟩:=HSO.out wS gS cS (by rw [<- hln] at rowS;exact rowS);have hgS:w.heap.size<=gS:=rowS.2 gS rfl;have HCS:=Za CS;have HBS:=Za bS;have HGS:=Za hgS;obtain ⟨z1,z2,z3⟩:=Ze RR;have HL2:=Za hln2;clear sorting hrow rowS bS RR CS hgS hln hln2;go_wp2_with fail
   refine HCS.out.mono ?_;rintro e' W3 ⟨rfl,d2,ro2,⟨t1,t2,t3,t4⟩,o3⟩;have HLN:Hid (d2.length=ln):=Za (by rw [t1.1,<- HL0.out])
   have HAP:Hid (ApR es l (Zg d2 ln)):=by
    have h4:=t4;rw [<- HLN.out] at h4 ⊢;exact Za (kept_apr t1 h4)
   have HRO:=Za ro2;have HB3:Hid (Below w.heap.size w W3):=Za (Below.onl HBS.out o3 (fun i q=>by rw [q];exact HGS.out) (Nat.le_refl _));have hlb2:ln<=1000000:=by have:=HL2.out;omega
   clear ro2 t1 t2 t3 t4 o3 HCS HSO HRW HRA HRB;go_wp2;go_loopw [8,39] (fun v i wr=>∃ (k:Nat) (va:Option Addr) (vc nk:Nat),k<=ln/\i=.int .i64 k/\v=.slice va nk vc/\Hid (nk=(Zg d2 k).length)/\Hid (Row (fun g=>W3.heap.size<=g) wr 43 2 (.slice va (Zg d2 k).length vc) (Zg d2 k).length (Zf cEn (Zg d2 k)))/\Hid (Below W3.heap.size W3 wr)) (fun _ i _=>ln - (intOf i).toNat)
   case atStart=>exact ⟨0,none,0,0,Nat.zero_le _,rfl,rfl,Za rfl,Za (Row.nil _ _ _ _),Za (Below.refl _ _)⟩
   case round =>
    clear z1 z2 z3;obtain ⟨k,va,vc,nk,hkk,rfl,rfl,HNK,HRW,HBr⟩:=hrel;by_cases hkl:k < ln
    ·obtain ⟨⟨xk,xv,xg⟩,hx⟩:∃ x,d2[k]?=some x:=⟨d2[k]'(by have:=HLN.out;omega),List.getElem?_eq_getElem _⟩;have ror:=HRO.out.old HBr.out;obtain ⟨c0,c1,c2⟩:=ror.cells hx;simp only at c0 c1 c2;obtain ⟨W1,hW1⟩:∃ W1,W1=wr.alloc (.cells #[.string xk,.string xv,.bool xg] 46):=⟨_,rfl⟩;have b1:Below wr.heap.size wr W1:=by rw [hW1];exact (Below.refl _ wr).alloc (Nat.le_refl _) _
     have kb:Ob W1 wr.heap.size 46 [.string xk,.string xv,.bool xg]:=by rw [hW1];exact Ob.new wr [.string xk,.string xv,.bool xg] 46
     have HB1:=Za b1;have HKB:=Za kb;have q0:=kb.cell 0;have q1:=kb.cell 1;have q2:=kb.cell 2;simp only [List.getElem?_cons_zero,List.getElem?_cons_succ] at q0 q1 q2;have HX:=Za hx;obtain ⟨k1,hkk1⟩:∃ k1,k1=k+1:=⟨_,rfl⟩;have wk:IntKind.i64.wrap ((k:Int)+1)=(k1:Int):=by rw [IntKind.wrap_i64];omega
     have wk2:(k:Int)+1=(k1:Int):=by omega
     have wk3:IntKind.i64.wrap (k1:Int)=(k1:Int):=by rw [IntKind.wrap_i64];omega
     have HKK:=Za hkk1;by_cases hk1:k1 < ln
     ·obtain ⟨⟨yk,yv,yg⟩,hy⟩:∃ x,d2[k1]?=some x:=⟨d2[k1]'(by have:=HLN.out;omega),List.getElem?_eq_getElem _⟩;obtain ⟨p0,_,_⟩:=(ror.old b1).cells hy;simp only at p0;have HY:=Za hy;have hd1:decide ((k1:Int) < (ln:Int))=true:=decide_eq_true (by omega);clear hx hy b1 kb ror hkk1;by_cases hyk:yk=xk
      ·have ht:(yk.toList == xk.toList)=true:=by rw [hyk];simp
       have HKE:Hid (Zg d2 k1=Zg d2 k):=by
        refine Za ?_;rw [HKK.out];show Zg d2 k++keepO d2 k=_
        rw [keep_no (fun z hz=>?_),List.append_nil];have h1:=hz.1;rw [HX.out] at h1;cases h1
        exact hz.2.2 _ (by rw [<- HKK.out];exact HY.out) hyk
       clear hyk;go_wp2;rw [<- hW1];clear hW1;go_quiet (fail)
       go_wp2;go_roundw
       case rel=>exact ⟨k1,va,vc,nk,by have:=HKK.out;omega,by simp,rfl,Za (by rw [HKE.out];exact HNK.out),Za (by rw [HKE.out];exact (HRW.out.onl (F:=fun _=>False) (Onl.ofBelow HB1.out) (fun _ _ q=>q)).onl (F:=fun _=>False) (Onl.ofBelow (below_drewN (Below.refl _ _) _)) (fun _ _ q=>q)),Za (below_drewN (HBr.out.trans (HB1.out.mono HBr.out.size)) _)⟩
       case measure=>have:=HKK.out;simp [intOf];omega
      ·have ht:(yk.toList == xk.toList)=false:=by
        cases q:(yk.toList == xk.toList) with
        | false=>rfl
        | true=>exact absurd (ZA (by simpa using q)) hyk
       cases xg with
       | true =>
        have HKE:Hid (Zg d2 k1=Zg d2 k):=by
         refine Za ?_;rw [HKK.out];show Zg d2 k++keepO d2 k=_
         rw [keep_no (fun z hz=>?_),List.append_nil];have h1:=hz.1;rw [HX.out] at h1;cases h1
         cases hz.2.1
        clear hyk;go_wp2;rw [<- hW1];clear hW1;go_quiet (fail)
        go_wp2;go_roundw
        case rel=>exact ⟨k1,va,vc,nk,by have:=HKK.out;omega,by simp,rfl,Za (by rw [HKE.out];exact HNK.out),Za (by rw [HKE.out];exact (HRW.out.onl (F:=fun _=>False) (Onl.ofBelow HB1.out) (fun _ _ q=>q)).onl (F:=fun _=>False) (Onl.ofBelow (below_drewN (Below.refl _ _) _)) (fun _ _ q=>q)),Za (below_drewN (HBr.out.trans (HB1.out.mono HBr.out.size)) _)⟩
        case measure=>have:=HKK.out;simp [intOf];omega
       | false =>
        have HKE:Hid (Zg d2 k1=Zg d2 k++[⟨xk,xv⟩]):=by
         refine Za ?_;rw [HKK.out];show Zg d2 k++keepO d2 k=_
         rw [keep_yes (x:=⟨xk,xv,false⟩) ⟨HX.out,rfl,fun z hz=>by rw [<- HKK.out,HY.out] at hz;cases hz;exact hyk⟩]
        clear hyk;go_wp2;rw [<- hW1];clear hW1;go_quiet (fail)
        obtain ⟨w5,hw5⟩:∃ w5,w5=W1.drewN nq:=⟨_,rfl⟩;have b5:Below W1.heap.size W1 w5:=by rw [hw5];exact below_drewN (Below.refl _ _) _
        have k5:=HKB.out.old b5;rw [<- hw5];obtain ⟨e,he⟩:∃ e:En,e=⟨xk,xv⟩:=⟨_,rfl⟩;obtain ⟨w6,hw6⟩:∃ w6,w6=w5.alloc (.cells (cEn e).toArray 43):=⟨_,rfl⟩;have bb6:Below w5.heap.size w5 w6:=by rw [hw6];exact (Below.refl _ w5).alloc (Nat.le_refl _) _
        have row6:=((HRW.out.onl (F:=fun _=>False) (Onl.ofBelow HB1.out) (fun _ _ q=>q)).onl (F:=fun _=>False) (Onl.ofBelow b5) (fun _ _ q=>q)).onl (F:=fun _=>False) (Onl.ofBelow bb6) (fun _ _ q=>q);have rd6:RdG cEn 2 w6 (some ⟨w5.heap.size,0,none⟩) [e]:=by rw [hw6];exact rd_lit _ _ e
        obtain ⟨v8,w8,RR,r8,o8,ow8⟩:=app_en (cp:=1) row6 (by have:=keptTo_len d2 k;simp;omega) rd6;obtain ⟨va8,vc8,hva8,_⟩:=r8.form;obtain ⟨n8,hn8⟩:∃ n8,n8=(Zg d2 k++[e]).length:=⟨_,rfl⟩;rw [hva8] at r8 RR;rw [show [e].length=1 from rfl,<- hn8,<- HNK.out] at RR;have htk:Zg d2 k1=Zg d2 k++[e]:=by rw [he];exact HKE.out
        have hs1:=HB1.out.size;have hs5:=b5.size;have hs6:w6.heap.size=w5.heap.size+1:=by rw [hw6,World.size_alloc]
        have hbr:=HBr.out.size;have hb8:Below W3.heap.size W3 w8:=Below.onl (((HBr.out.trans (HB1.out.mono HBr.out.size)).trans (b5.mono (by omega))).trans (bb6.mono (by omega))) o8 (fun i q=>HRW.out.2 i q) (Nat.le_refl _);have HB8:=Za hb8
        have HRF:Hid (Row (fun g=>W3.heap.size<=g) w8 43 2 (.slice va8 (Zg d2 k1).length vc8) (Zg d2 k1).length (Zf cEn (Zg d2 k1))):=by
         rw [htk];exact Za ⟨r8.1,fun g hg=>(r8.2 g hg).elim (fun z=>z) (fun z=>by omega)⟩
        have HN8:Hid (n8=(Zg d2 k1).length):=by rw [htk];exact Za hn8
        rw [hw6,he] at RR;simp only [cEn] at RR;have y0:=k5.cell 0;have y1:=k5.cell 1;simp only [List.getElem?_cons_zero,List.getElem?_cons_succ] at y0 y1;obtain ⟨z1,z2,z3⟩:=Ze RR;clear hw5 b5 k5 hw6 bb6 row6 rd6 r8 o8 ow8 hva8 hn8 RR htk hs1 hs5 hs6 hbr hb8 he q0 q1 q2;go_wp2;go_roundw
        case rel=>exact ⟨k1,va8,vc8,n8,by have:=HKK.out;omega,by simp,rfl,HN8,HRF,HB8⟩
        case measure=>have:=HKK.out;simp [intOf];omega
     ·have hd1:decide ((k1:Int) < (ln:Int))=false:=decide_eq_false (by omega);clear hx b1 kb ror hkk1;cases xg with
      | true =>
       have HKE:Hid (Zg d2 k1=Zg d2 k):=by
        refine Za ?_;rw [HKK.out];show Zg d2 k++keepO d2 k=_
        rw [keep_no (fun z hz=>?_),List.append_nil];have h1:=hz.1;rw [HX.out] at h1;cases h1
        cases hz.2.1
       go_wp2;rw [<- hW1];clear hW1;go_quiet (fail)
       go_wp2;go_roundw
       case rel=>exact ⟨k1,va,vc,nk,by have:=HKK.out;omega,by simp,rfl,Za (by rw [HKE.out];exact HNK.out),Za (by rw [HKE.out];exact (HRW.out.onl (F:=fun _=>False) (Onl.ofBelow HB1.out) (fun _ _ q=>q)).onl (F:=fun _=>False) (Onl.ofBelow (below_drewN (Below.refl _ _) _)) (fun _ _ q=>q)),Za (below_drewN (HBr.out.trans (HB1.out.mono HBr.out.size)) _)⟩
       case measure=>have:=HKK.out;simp [intOf];omega
      | false =>
       have HKE:Hid (Zg d2 k1=Zg d2 k++[⟨xk,xv⟩]):=by
        refine Za ?_;rw [HKK.out];show Zg d2 k++keepO d2 k=_
        rw [keep_yes (x:=⟨xk,xv,false⟩) ⟨HX.out,rfl,fun z hz=>by have:=(List.getElem?_eq_some_iff.1 hz).1;have:=HLN.out;have:=HKK.out;omega⟩]
       go_wp2;rw [<- hW1];clear hW1;go_quiet (fail)
       obtain ⟨w5,hw5⟩:∃ w5,w5=W1.drewN nq:=⟨_,rfl⟩;have b5:Below W1.heap.size W1 w5:=by rw [hw5];exact below_drewN (Below.refl _ _) _
       have k5:=HKB.out.old b5;rw [<- hw5];obtain ⟨e,he⟩:∃ e:En,e=⟨xk,xv⟩:=⟨_,rfl⟩;obtain ⟨w6,hw6⟩:∃ w6,w6=w5.alloc (.cells (cEn e).toArray 43):=⟨_,rfl⟩;have bb6:Below w5.heap.size w5 w6:=by rw [hw6];exact (Below.refl _ w5).alloc (Nat.le_refl _) _
       have row6:=((HRW.out.onl (F:=fun _=>False) (Onl.ofBelow HB1.out) (fun _ _ q=>q)).onl (F:=fun _=>False) (Onl.ofBelow b5) (fun _ _ q=>q)).onl (F:=fun _=>False) (Onl.ofBelow bb6) (fun _ _ q=>q);have rd6:RdG cEn 2 w6 (some ⟨w5.heap.size,0,none⟩) [e]:=by rw [hw6];exact rd_lit _ _ e
       obtain ⟨v8,w8,RR,r8,o8,ow8⟩:=app_en (cp:=1) row6 (by have:=keptTo_len d2 k;simp;omega) rd6;obtain ⟨va8,vc8,hva8,_⟩:=r8.form;obtain ⟨n8,hn8⟩:∃ n8,n8=(Zg d2 k++[e]).length:=⟨_,rfl⟩;rw [hva8] at r8 RR;rw [show [e].length=1 from rfl,<- hn8,<- HNK.out] at RR;have htk:Zg d2 k1=Zg d2 k++[e]:=by rw [he];exact HKE.out
       have hs1:=HB1.out.size;have hs5:=b5.size;have hs6:w6.heap.size=w5.heap.size+1:=by rw [hw6,World.size_alloc]
       have hbr:=HBr.out.size;have hb8:Below W3.heap.size W3 w8:=Below.onl (((HBr.out.trans (HB1.out.mono HBr.out.size)).trans (b5.mono (by omega))).trans (bb6.mono (by omega))) o8 (fun i q=>HRW.out.2 i q) (Nat.le_refl _);have HB8:=Za hb8
       have HRF:Hid (Row (fun g=>W3.heap.size<=g) w8 43 2 (.slice va8 (Zg d2 k1).length vc8) (Zg d2 k1).length (Zf cEn (Zg d2 k1))):=by
        rw [htk];exact Za ⟨r8.1,fun g hg=>(r8.2 g hg).elim (fun z=>z) (fun z=>by omega)⟩
       have HN8:Hid (n8=(Zg d2 k1).length):=by rw [htk];exact Za hn8
       rw [hw6,he] at RR;simp only [cEn] at RR;have y0:=k5.cell 0;have y1:=k5.cell 1;simp only [List.getElem?_cons_zero,List.getElem?_cons_succ] at y0 y1;obtain ⟨z1,z2,z3⟩:=Ze RR;clear hw5 b5 k5 hw6 bb6 row6 rd6 r8 o8 ow8 hva8 hn8 RR htk hs1 hs5 hs6 hbr hb8 he q0 q1 q2;go_wp2;go_roundw
       case rel=>exact ⟨k1,va8,vc8,n8,by have:=HKK.out;omega,by simp,rfl,HN8,HRF,HB8⟩
       case measure=>have:=HKK.out;simp [intOf];omega
    ·obtain rfl:k=ln:=by omega
     have HF:Hid (EnP (ApR es l) w (.returned (.slice va nk vc)) wr):=Za ⟨_,va,vc,by rw [HNK.out],HAP.out,HRW.out.mono (fun i hi=>by have:=HB3.out.size;omega),HB3.out.trans (HBr.out.mono HB3.out.size)⟩;clear HRW;go_wp2;go_ret
     exact HF.out
end Go.Proofs.YtdhebpnkfookcaaGreat
