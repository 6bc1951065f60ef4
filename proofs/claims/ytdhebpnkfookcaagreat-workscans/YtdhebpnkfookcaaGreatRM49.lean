import Derived.Test.YtdhebpnkfookcaaGreatRM46
set_option maxRecDepth 100000
set_option maxHeartbeats 16000000
namespace Go.Proofs.YtdhebpnkfookcaaGreat
section
open Go.RowKit Apo Go.Sort
theorem stable_few (cf:Nat) (hcf:CmpE cf) (w:World) (g cap:Nat) (d:List Ed) (ex:List Value) (h:RoE w g d ex) (hl:d.length<=20) :
  Calls Tryz.prog 158 #[.slice (some ⟨g,0,none⟩) d.length cap,.int .i64 d.length,.func (.func cf) #[] #[]] w (InP w g ex d 0 d.length):=by
 obtain ⟨n,hn⟩:∃ n,n=d.length:=⟨_,rfl⟩;have HN:=Za hn;have HK0:Hid (Kee w g ex d 0 n d w):=Za ⟨h,Stb.refl _,Out.refl _ _ _,Frm.refl _ _ _,Onl.refl _ _⟩
 have CI:∀ W (d':List Ed) (a b:Nat),RoE W g d' ex->d'.length=n->a<=b->b<=n->Calls Tryz.prog 193 #[.slice (some ⟨g,0,none⟩) n cap,.int .i64 (a:Int),.int .i64 (b:Int),.func (.func cf) #[] #[]] W (InP W g ex d' a b):=fun W d' a b hr he h1 h2=>by
  have:=ins_any cf hcf W g cap d' ex hr (by omega) a b h1 (by omega);rwa [he] at this
 have HCI:=Za CI;rw [<- hn] at hl ⊢;clear h hn CI hcf;go_enter Tryz.func158,Tryz.ntmps158
 go_wp2;go_loopw [7,8] (fun u v wr=>∃ (c A Bv:Nat) (d':List Ed),A<=n/\Bv=A+20/\u=.int .i64 A/\v=.int .i64 Bv/\Hid (A=c * 20)/\Hid (Kee w g ex d 0 n d' wr/\Don d' 20 c)) (fun u _ _=>n - (intOf u).toNat)
 case atStart=>exact ⟨0,0,20,d,Nat.zero_le _,rfl,rfl,rfl,Za rfl,Za ⟨HK0.out,fun k hk=>by omega⟩⟩
 case round =>
  obtain ⟨c,A,Bv,d1,hA,hBA,rfl,rfl,HA,HK⟩:=hrel;have HBA:=Za hBA;by_cases hlt:Bv<=n
  ·have hd:decide ((Bv:Int)<=(n:Int))=true:=decide_eq_true (by omega);have C1:=HCI.out wr d1 A Bv HK.out.1.ro (by rw [HK.out.1.len];exact HN.out.symm) (by omega) hlt;obtain ⟨B2,hB2⟩:∃ B2,B2=Bv+20:=⟨_,rfl⟩;have w1:IntKind.i64.wrap ((Bv:Int)+20)=(B2:Int):=by rw [IntKind.wrap_i64];omega
   have w1':(Bv:Int)+20=(B2:Int):=by omega
   have w1'':IntKind.i64.wrap (B2:Int)=(B2:Int):=by rw [IntKind.wrap_i64];omega
   have HB2:=Za hB2;have HC1:=Za C1;clear C1 hB2 hBA;go_wp2_with fail
   refine HC1.out.mono ?_;rintro e' w2 ⟨rfl,d2,r2,⟨t1,t2,t3,t4⟩,t5⟩
   have HF:Hid (Kee w g ex d 0 n d2 w2/\Don d2 20 (c+1)):=by
    have ha:=HA.out;have hb:=HBA.out;refine Za ⟨HK.out.1.more hlt r2 t1 t2 t3 t5,?_⟩;rw [hb,ha] at t2 t4;exact don_step HK.out.2 t2 t4
   clear r2 t1 t2 t3 t4 t5;go_wp2;go_roundw
   case rel=>exact ⟨c+1,Bv,B2,d2,hlt,HB2.out,rfl,rfl,Za (by have:=HA.out;have:=HBA.out;omega),HF⟩
   case measure=>have:=HBA.out;simp [intOf];omega
  ·have hd:decide ((Bv:Int)<=(n:Int))=false:=decide_eq_false (by omega);have C1:=HCI.out wr d1 A n HK.out.1.ro (by rw [HK.out.1.len];exact HN.out.symm) hA (Nat.le_refl _);have HC1:=Za C1;clear C1 hBA;go_wp2_with fail
   refine HC1.out.mono ?_;rintro e' w2 ⟨rfl,d2,r2,⟨t1,t2,t3,t4⟩,t5⟩
   have HK2:Hid (Kee w g ex d 0 n d2 w2/\Blk d2 n 20):=by
    have ha:=HA.out;have hb:=HBA.out;refine Za ⟨HK.out.1.more (Nat.le_refl _) r2 t1 t2 t3 t5,?_⟩;rw [ha] at t2 t4;exact don_last HK.out.2 (by omega) (by omega) t2 t4
   clear r2 t1 t2 t3 t4 t5 HK HC1;go_wp2;go_loopw [6] (fun u wr=>∃ (bs:Nat) (d':List Ed),20<=bs/\bs<=2 * n+20/\u=.int .i64 bs/\Hid (Kee w g ex d 0 n d' wr/\Blk d' n bs)) (fun u _=>2 * n+20 - (intOf u).toNat)
   case atStart=>exact ⟨20,d2,Nat.le_refl _,by omega,rfl,HK2⟩
   case round =>
    clear HK2;obtain ⟨bs,d3,hb20,hbn,rfl,HK3⟩:=hrel;have hbs:¬ bs < n:=by omega
    have hd2:decide ((bs:Int) < (n:Int))=false:=decide_eq_false (by omega);have HF:Hid (InP w g ex d 0 n (.returned (.tuple #[])) wr):=Za (SoP.kee HK3.out.1 (blk_all HK3.out.2 (by omega)));go_wp2;go_end0
    exact HF.out
theorem sortst_few (cf:Nat) (hcf:CmpE cf) (w:World) (g cap:Nat) (d:List Ed) (ex:List Value) (h:RoE w g d ex) (hl:d.length<=20) :
  Calls Tryz.prog 106 #[.slice (some ⟨g,0,none⟩) d.length cap,.func (.func cf) #[] #[]] w (InP w g ex d 0 d.length):=by
 have C:=stable_few cf hcf w g cap d ex h hl;have HC:=Za C;obtain ⟨n,hn⟩:∃ n,n=d.length:=⟨_,rfl⟩;rw [<- hn] at HC ⊢;clear C h hn hcf hl;go_enter Tryz.func106,Tryz.ntmps106
 go_wp2_with fail
 refine HC.out.mono ?_;rintro e' w2 ⟨rfl,hz⟩;go_wp2;go_end0
 exact ⟨rfl,hz⟩
end
section
open Go.RowKit Apo Go.Sort
attribute [local go_sem ↓] app_exec
theorem daapply_few (w:World) (a b:Option Addr) (ca cb:Nat) (es:List En) (l:List Ed) (ha:RdEn w a es) (hb:RdG cEd 3 w b l) (hla:es.length<=400000) (hlb:l.length<=400000) (hfw:es.length+l.length<=20) :
  Calls Tryz.prog 66 #[.slice a es.length ca,.slice b l.length cb] w (EnP (ApR es l) w):=by
 have HFW:=Za hfw;clear hfw;obtain ⟨n,hn⟩:∃ n,n=es.length:=⟨_,rfl⟩;obtain ⟨m,hm⟩:∃ m,m=l.length:=⟨_,rfl⟩;obtain ⟨W0,RM,OM,GM⟩:=damk (n+m) w (by omega);have b0:Below w.heap.size w W0:=(Below.refl _ _).grown GM (Nat.le_refl _) (by simp)
 have rowM:Row (fun g=>w.heap.size<=g) W0 46 3 (.slice (some ⟨w.heap.size,0,none⟩) 0 (n+m)) 0 []:=by
  refine ⟨⟨OM.1,?_⟩,fun g hg=>by cases hg;exact Nat.le_refl _⟩;rcases OM.2 with q | ⟨g,cap,cur,q1,q2,q3⟩
  ·exact .inl q
  ·exact .inr ⟨g,cap,cur,q1,Nat.zero_le _,q3⟩
 have HLD:=Za (And.intro (fun W (h:Below w.heap.size w W)=>ha.below h) (fun W (h:Below w.heap.size w W)=>hb.below h));have HA:=Za (ha.below b0);have HBL:=Za (hb.below b0);have HN:=Za hn;have HM:=Za hm;have HB0:=Za b0;have HRM:=Za rowM
 have RM':(Instr.makeSlice 44 (.int .i64 0) (.int .i64 ((n:Int)+(m:Int)))).run Tryz.prog w=.ok (.slice (some ⟨w.heap.size,0,none⟩) 0 (n+m)) W0:=by
  rw [show (n:Int)+(m:Int)=((n+m:Nat):Int) by omega];exact RM
 obtain ⟨i0,hi0,_⟩:=info_parts info_ed;rw [<- hn,<- hm];rw [<- hn] at hla;rw [<- hm] at hlb;clear ha hb hn hm b0 rowM RM OM GM;go_enter Tryz.func66,Tryz.ntmps66
 go_wp2;go_loopw [5,19] (fun v i wr=>∃ (k g cp:Nat),k<=n/\i=.int .i64 k/\v=.slice (some ⟨g,0,none⟩) k cp/\Hid (k=((es.take k).map Zp).length)/\Hid (Row (fun g=>w.heap.size<=g) wr 46 3 (.slice (some ⟨g,0,none⟩) k cp) ((es.take k).map Zp).length (Zf cEd ((es.take k).map Zp)))/\Hid (Below w.heap.size w wr)/\Hid (RdEn wr a es)/\Hid (RdG cEd 3 wr b l)) (fun _ i _=>n - (intOf i).toNat)
 case atStart=>exact ⟨0,w.heap.size,n+m,Nat.zero_le _,rfl,rfl,Za rfl,Za HRM.out,HB0,HA,HBL⟩
 case round =>
  obtain ⟨k,g,cp,hk,rfl,rfl,HNK,HRW,HBr,HRA,HRB⟩:=hrel;by_cases hkn:k < n
  ·obtain ⟨⟨ek,ev⟩,hx⟩:∃ x,es[k]?=some x:=⟨es[k]'(by have:=HN.out;omega),List.getElem?_eq_getElem _⟩;obtain ⟨gm,om,rfl,p1,p2⟩:=HRA.out k _ hx;simp only at p1 p2;obtain ⟨W1,hW1⟩:∃ W1,W1=wr.alloc (.cells #[.string ek,.string ev] 43):=⟨_,rfl⟩;have b1:Below wr.heap.size wr W1:=by rw [hW1];exact (Below.refl _ wr).alloc (Nat.le_refl _) _
   have kb:Ob W1 wr.heap.size 43 [.string ek,.string ev]:=by rw [hW1];exact Ob.new wr [.string ek,.string ev] 43
   have y0:=kb.cell 0;have y1:=kb.cell 1;simp only [List.getElem?_cons_zero,List.getElem?_cons_succ] at y0 y1;obtain ⟨x,hx2⟩:∃ x:Ed,x=⟨ek,ev,false⟩:=⟨_,rfl⟩;obtain ⟨w6,hw6⟩:∃ w6,w6=W1.alloc (.cells (cEd x).toArray 46):=⟨_,rfl⟩;have bb6:Below W1.heap.size W1 w6:=by rw [hw6];exact (Below.refl _ W1).alloc (Nat.le_refl _) _
   have row6:=(HRW.out.onl (F:=fun _=>False) (Onl.ofBelow b1) (fun _ _ q=>q)).onl (F:=fun _=>False) (Onl.ofBelow bb6) (fun _ _ q=>q);have rd6:RdG cEd 3 w6 (some ⟨W1.heap.size,0,none⟩) [x]:=by rw [hw6];exact rd_lit _ _ x
   obtain ⟨v8,w8,RR,r8,o8,ow8⟩:=app_ed (cp:=1) row6 (by simp;omega) rd6;have htk:(es.take (k+1)).map Zp=(es.take k).map Zp++[x]:=by rw [List.take_add_one,hx,hx2];simp [Zp]
   rw [<- htk] at r8;have hk1:((es.take (k+1)).map Zp).length=k+1:=by have:=HN.out;simp;omega
   obtain ⟨g8,c8,hv8,_,_,_,_,_,_⟩:=r8.shape (by omega);rw [hk1] at hv8;rw [hv8] at r8 RR;rw [show [x].length=1 from rfl] at RR;have hs1:W1.heap.size=wr.heap.size+1:=by rw [hW1];simp
   have hs6:w6.heap.size=W1.heap.size+1:=by rw [hw6,World.size_alloc]
   have hbr:=HBr.out.size;have hb8:Below w.heap.size w w8:=Below.onl ((HBr.out.trans (b1.mono HBr.out.size)).trans (bb6.mono (by omega))) o8 (fun i q=>HRW.out.2 i q) (Nat.le_refl _);have far:Onl (fun j=>w.heap.size<=j) wr w8:=((Onl.ofBelow b1).trans (Onl.ofBelow bb6)).trans (o8.mono (fun i q=>HRW.out.2 i q));have ra8:RdEn w8 (some ⟨gm,om,none⟩) es:=HLD.out.1 w8 hb8;have rb8:RdG cEd 3 w8 b l:=HLD.out.2 w8 hb8;have HF:Hid (Row (fun g=>w.heap.size<=g) w8 46 3 (.slice (some ⟨g8,0,none⟩) (k+1) c8) ((es.take (k+1)).map Zp).length (Zf cEd ((es.take (k+1)).map Zp))):=Za ⟨r8.1,fun g hg=>(r8.2 g hg).elim (fun z=>z) (fun z=>by omega)⟩;have HB8:=Za hb8;have HA8:=Za ra8;have HB28:=Za rb8;have HK1:Hid (k+1=((es.take (k+1)).map Zp).length):=Za hk1.symm;rw [hw6,hx2] at RR;simp only [cEd] at RR;rw [hW1] at RR y0 y1;simp only [World.size_alloc] at RR;obtain ⟨z1,z2,z3⟩:=Ze RR;clear hW1 b1 kb hw6 bb6 row6 rd6 r8 o8 ow8 hv8 RR htk hk1 hs1 hs6 hbr hb8 HRW hx2 far ra8 rb8 hx;go_wp2;go_roundw
   case rel=>exact ⟨k+1,g8,c8,by omega,by simp,rfl,HK1,HF,HB8,HA8,HB28⟩
   case measure=>simp [intOf];omega
  ·obtain rfl:k=n:=by omega
   have hrow:=HRW.out;rw [show es.take k=es from List.take_of_length_le (by have:=HN.out;omega)] at hrow
   have sorting:∀ (wS:World) (gS cS:Nat),Row (fun g=>w.heap.size<=g) wS 46 3 (.slice (some ⟨gS,0,none⟩) (es.map Zp++l).length cS) (es.map Zp++l).length (Zf cEd (es.map Zp++l))->∃ ex,Calls Tryz.prog 106 #[.slice (some ⟨gS,0,none⟩) (es.map Zp++l).length cS,.func (.func 109) #[] #[]] wS (InP wS gS ex (es.map Zp++l) 0 (es.map Zp++l).length):=fun wS gS cS rowS=>by
    obtain ⟨ex,hro⟩:=daroe rowS;exact ⟨ex,sortst_few 109 dacmp wS gS cS (es.map Zp++l) ex hro (by have:=HFW.out;simp;omega)⟩
   have HSO:=Za sorting;obtain ⟨ln,hln⟩:∃ ln,ln=(es.map Zp++l).length:=⟨_,rfl⟩;have hln2:ln=k+m:=by rw [hln];have:=HN.out;have:=HM.out;simp;omega
   have HL0:=Za hln
   have appd:∃ gS cS wS,(Builtin.append_ #[44,44] 44 #[.slice (some ⟨g,0,none⟩) k cp,.slice b m cb]).run Tryz.prog wr=.ok (.slice (some ⟨gS,0,none⟩) ln cS) wS/\Row (fun g=>w.heap.size<=g) wS 46 3 (.slice (some ⟨gS,0,none⟩) ln cS) (es.map Zp++l).length (Zf cEd (es.map Zp++l))/\Below w.heap.size w wS:=by
    by_cases hm0:m=0
    ·have hle:l=[]:=List.eq_nil_of_length_eq_zero (by rw [<- HM.out];exact hm0);subst hm0
     have hkc:k<=cp:=by
      obtain ⟨_,cap,hv,h1,_⟩:=hrow.form;injection hv with _ _ h3
      subst h3;have:=HN.out;simp at h1
      omega
     have hlk:ln=k:=by omega
     refine ⟨g,cp,wr,?_,?_,HBr.out⟩
     ·rw [hlk];exact app_zero Tryz.underlying44 hi0 hkc
     ·rw [hlk,hle,List.append_nil];exact hrow
    ·cases b with
     | none =>
      exfalso
      obtain ⟨x,hx⟩:∃ x,l[0]?=some x:=⟨l[0]'(by have:=HM.out;omega),List.getElem?_eq_getElem _⟩;obtain ⟨_,_,hn,_⟩:=HRB.out 0 x hx;cases hn
     | some y =>
      have hkl:k=(es.map Zp).length:=by have:=HN.out;simp;omega
      obtain ⟨v8,w8,RR,r8,o8,ow8⟩:=app_ed (cp:=cb) hrow (by have:=HN.out;have:=HM.out;simp;omega) HRB.out;obtain ⟨g8,c8,hv8,_,_,_,_,_,_⟩:=r8.shape (by have:=HM.out;simp;omega);rw [hv8,<- HM.out,<- hln] at RR;rw [hv8,<- hln] at r8;refine ⟨g8,c8,w8,RR,⟨by rw [<- hln];exact r8.1,fun g hg=>(r8.2 g hg).elim (fun z=>z) (fun z=>by have:=HBr.out.size;omega)⟩,Below.onl HBr.out o8 (fun i q=>HRW.out.2 i q) (Nat.le_refl _)⟩
   obtain ⟨gS,cS,wS,RR,rowS,bS⟩:=appd;rw [<- hln] at HSO;obtain ⟨ex,CS⟩:=HSO.out wS gS cS (by rw [<- hln] at rowS;exact rowS);have hgS:w.heap.size<=gS:=rowS.2 gS rfl;have HCS:=Za CS;have HBS:=Za bS;have HGS:=Za hgS;obtain ⟨z1,z2,z3⟩:=Ze RR;have HL2:=Za hln2;clear sorting hrow rowS bS RR CS hgS hln hln2;go_wp2_with fail
   refine HCS.out.mono ?_;rintro e' W3 ⟨rfl,d2,ro2,⟨t1,t2,t3,t4⟩,o3⟩;have HLN:Hid (d2.length=ln):=Za (by rw [t1.1,<- HL0.out])
   have HAP:Hid (ApR es l (Zg d2 ln)):=by
    have h4:=t4;rw [<- HLN.out] at h4 ⊢;exact Za (kept_apr t1 h4)
   have HRO:=Za ro2;have HB3:Hid (Below w.heap.size w W3):=Za (Below.onl HBS.out o3 (fun i q=>by rw [q];exact HGS.out) (Nat.le_refl _));have hlb2:ln<=1000000:=by have:=HL2.out;omega
   clear ro2 t1 t2 t3 t4 o3 HCS HSO HRW HRA HRB;go_wp2;go_loopw [8,39] (fun v i wr=>∃ (k:Nat) (va:Option Addr) (vc nk:Nat),k<=ln/\i=.int .i64 k/\v=.slice va nk vc/\Hid (nk=(Zg d2 k).length)/\Hid (Row (fun g=>W3.heap.size<=g) wr 43 2 (.slice va (Zg d2 k).length vc) (Zg d2 k).length (Zf cEn (Zg d2 k)))/\Hid (Below W3.heap.size W3 wr)) (fun _ i _=>ln - (intOf i).toNat)
   case atStart=>exact ⟨0,none,0,0,Nat.zero_le _,rfl,rfl,Za rfl,Za (Row.nil _ _ _ _),Za (Below.refl _ _)⟩
   case round =>
    clear z1 z2 z3;obtain ⟨k,va,vc,nk,hkk,rfl,rfl,HNK,HRW,HBr⟩:=hrel;by_cases hkl:k < ln
    ·obtain ⟨⟨xk,xv,xg⟩,hx⟩:∃ x,d2[k]?=some x:=⟨d2[k]'(by have:=HLN.out;omega),List.getElem?_eq_getElem _⟩;have ror:=HRO.out.old HBr.out;obtain ⟨c0,c1,c2⟩:=ror.cells hx;simp only at c0 c1 c2;obtain ⟨W1,hW1⟩:∃ W1,W1=wr.alloc (.cells #[.string xk,.string xv,.bool xg] 46):=⟨_,rfl⟩;have b1:Below wr.heap.size wr W1:=by rw [hW1];exact (Below.refl _ wr).alloc (Nat.le_refl _) _
     have kb:Ob W1 wr.heap.size 46 [.string xk,.string xv,.bool xg]:=by rw [hW1];exact Ob.new wr [.string xk,.string xv,.bool xg] 46
     have HB1:=Za b1;have HKB:=Za kb;have q0:=kb.cell 0;have q1:=kb.cell 1;have q2:=kb.cell 2;simp only [List.getElem?_cons_zero,List.getElem?_cons_succ] at q0 q1 q2;have HX:=Za hx;obtain ⟨k1,hkk1⟩:∃ k1,k1=k+1:=⟨_,rfl⟩;have wk:IntKind.i64.wrap ((k:Int)+1)=(k1:Int):=by rw [IntKind.wrap_i64];omega
     have wk2:(k:Int)+1=(k1:Int):=by omega
     have wk3:IntKind.i64.wrap (k1:Int)=(k1:Int):=by rw [IntKind.wrap_i64];omega
     have HKK:=Za hkk1;by_cases hk1:k1 < ln
     ·obtain ⟨⟨yk,yv,yg⟩,hy⟩:∃ x,d2[k1]?=some x:=⟨d2[k1]'(by have:=HLN.out;omega),List.getElem?_eq_getElem _⟩;obtain ⟨p0,_,_⟩:=(ror.old b1).cells hy;simp only at p0;have HY:=Za hy;have hd1:decide ((k1:Int) < (ln:Int))=true:=decide_eq_true (by omega);clear hx hy b1 kb ror hkk1;by_cases hyk:yk=xk
      ·have ht:(yk.toList == xk.toList)=true:=by rw [hyk];simp
       have HKE:Hid (Zg d2 k1=Zg d2 k):=by
        refine Za ?_;rw [HKK.out];show Zg d2 k++keepO d2 k=_
        rw [keep_no (fun z hz=>?_),List.append_nil];have h1:=hz.1;rw [HX.out] at h1;cases h1
        exact hz.2.2 _ (by rw [<- HKK.out];exact HY.out) hyk
       clear hyk;go_wp2;rw [<- hW1];clear hW1;go_quiet (fail)
       go_wp2;go_roundw
       case rel=>exact ⟨k1,va,vc,nk,by have:=HKK.out;omega,by simp,rfl,Za (by rw [HKE.out];exact HNK.out),Za (by rw [HKE.out];exact (HRW.out.onl (F:=fun _=>False) (Onl.ofBelow HB1.out) (fun _ _ q=>q)).onl (F:=fun _=>False) (Onl.ofBelow (below_drewN (Below.refl _ _) _)) (fun _ _ q=>q)),Za (below_drewN (HBr.out.trans (HB1.out.mono HBr.out.size)) _)⟩
       case measure=>have:=HKK.out;simp [intOf];omega
      ·have ht:(yk.toList == xk.toList)=false:=by
        cases q:(yk.toList == xk.toList) with
        | false=>rfl
        | true=>exact absurd (ZA (by simpa using q)) hyk
       cases xg with
       | true =>
        have HKE:Hid (Zg d2 k1=Zg d2 k):=by
         refine Za ?_;rw [HKK.out];show Zg d2 k++keepO d2 k=_
         rw [keep_no (fun z hz=>?_),List.append_nil];have h1:=hz.1;rw [HX.out] at h1;cases h1
         cases hz.2.1
        clear hyk;go_wp2;rw [<- hW1];clear hW1;go_quiet (fail)
        go_wp2;go_roundw
        case rel=>exact ⟨k1,va,vc,nk,by have:=HKK.out;omega,by simp,rfl,Za (by rw [HKE.out];exact HNK.out),Za (by rw [HKE.out];exact (HRW.out.onl (F:=fun _=>False) (Onl.ofBelow HB1.out) (fun _ _ q=>q)).onl (F:=fun _=>False) (Onl.ofBelow (below_drewN (Below.refl _ _) _)) (fun _ _ q=>q)),Za (below_drewN (HBr.out.trans (HB1.out.mono HBr.out.size)) _)⟩
        case measure=>have:=HKK.out;simp [intOf];omega
       | false =>
        have HKE:Hid (Zg d2 k1=Zg d2 k++[⟨xk,xv⟩]):=by
         refine Za ?_;rw [HKK.out];show Zg d2 k++keepO d2 k=_
         rw [keep_yes (x:=⟨xk,xv,false⟩) ⟨HX.out,rfl,fun z hz=>by rw [<- HKK.out,HY.out] at hz;cases hz;exact hyk⟩]
        clear hyk;go_wp2;rw [<- hW1];clear hW1;go_quiet (fail)
        obtain ⟨w5,hw5⟩:∃ w5,w5=W1.drewN nq:=⟨_,rfl⟩;have b5:Below W1.heap.size W1 w5:=by rw [hw5];exact below_drewN (Below.refl _ _) _
        have k5:=HKB.out.old b5;rw [<- hw5];obtain ⟨e,he⟩:∃ e:En,e=⟨xk,xv⟩:=⟨_,rfl⟩;obtain ⟨w6,hw6⟩:∃ w6,w6=w5.alloc (.cells (cEn e).toArray 43):=⟨_,rfl⟩;have bb6:Below w5.heap.size w5 w6:=by rw [hw6];exact (Below.refl _ w5).alloc (Nat.le_refl _) _
        have row6:=((HRW.out.onl (F:=fun _=>False) (Onl.ofBelow HB1.out) (fun _ _ q=>q)).onl (F:=fun _=>False) (Onl.ofBelow b5) (fun _ _ q=>q)).onl (F:=fun _=>False) (Onl.ofBelow bb6) (fun _ _ q=>q);have rd6:RdG cEn 2 w6 (some ⟨w5.heap.size,0,none⟩) [e]:=by rw [hw6];exact rd_lit _ _ e
        obtain ⟨v8,w8,RR,r8,o8,ow8⟩:=app_en (cp:=1) row6 (by have:=keptTo_len d2 k;simp;omega) rd6;obtain ⟨va8,vc8,hva8,_⟩:=r8.form;obtain ⟨n8,hn8⟩:∃ n8,n8=(Zg d2 k++[e]).length:=⟨_,rfl⟩;rw [hva8] at r8 RR;rw [show [e].length=1 from rfl,<- hn8,<- HNK.out] at RR;have htk:Zg d2 k1=Zg d2 k++[e]:=by rw [he];exact HKE.out
        have hs1:=HB1.out.size;have hs5:=b5.size;have hs6:w6.heap.size=w5.heap.size+1:=by rw [hw6,World.size_alloc]
        have hbr:=HBr.out.size;have hb8:Below W3.heap.size W3 w8:=Below.onl (((HBr.out.trans (HB1.out.mono HBr.out.size)).trans (b5.mono (by omega))).trans (bb6.mono (by omega))) o8 (fun i q=>HRW.out.2 i q) (Nat.le_refl _);have HB8:=Za hb8
        have HRF:Hid (Row (fun g=>W3.heap.size<=g) w8 43 2 (.slice va8 (Zg d2 k1).length vc8) (Zg d2 k1).length (Zf cEn (Zg d2 k1))):=by
         rw [htk];exact Za ⟨r8.1,fun g hg=>(r8.2 g hg).elim (fun z=>z) (fun z=>by omega)⟩
        have HN8:Hid (n8=(Zg d2 k1).length):=by rw [htk];exact Za hn8
        rw [hw6,he] at RR;simp only [cEn] at RR;have y0:=k5.cell 0;have y1:=k5.cell 1;simp only [List.getElem?_cons_zero,List.getElem?_cons_succ] at y0 y1;obtain ⟨z1,z2,z3⟩:=Ze RR;clear hw5 b5 k5 hw6 bb6 row6 rd6 r8 o8 ow8 hva8 hn8 RR htk hs1 hs5 hs6 hbr hb8 he q0 q1 q2;go_wp2;go_roundw
        case rel=>exact ⟨k1,va8,vc8,n8,by have:=HKK.out;omega,by simp,rfl,HN8,HRF,HB8⟩
        case measure=>have:=HKK.out;simp [intOf];omega
     ·have hd1:decide ((k1:Int) < (ln:Int))=false:=decide_eq_false (by omega);clear hx b1 kb ror hkk1;cases xg with
      | true =>
       have HKE:Hid (Zg d2 k1=Zg d2 k):=by
        refine Za ?_;rw [HKK.out];show Zg d2 k++keepO d2 k=_
        rw [keep_no (fun z hz=>?_),List.append_nil];have h1:=hz.1;rw [HX.out] at h1;cases h1
        cases hz.2.1
       go_wp2;rw [<- hW1];clear hW1;go_quiet (fail)
       go_wp2;go_roundw
       case rel=>exact ⟨k1,va,vc,nk,by have:=HKK.out;omega,by simp,rfl,Za (by rw [HKE.out];exact HNK.out),Za (by rw [HKE.out];exact (HRW.out.onl (F:=fun _=>False) (Onl.ofBelow HB1.out) (fun _ _ q=>q)).onl (F:=fun _=>False) (Onl.ofBelow (below_drewN (Below.refl _ _) _)) (fun _ _ q=>q)),Za (below_drewN (HBr.out.trans (HB1.out.mono HBr.out.size)) _)⟩
       case measure=>have:=HKK.out;simp [intOf];omega
      | false =>
       have HKE:Hid (Zg d2 k1=Zg d2 k++[⟨xk,xv⟩]):=by
        refine Za ?_;rw [HKK.out];show Zg d2 k++keepO d2 k=_
        rw [keep_yes (x:=⟨xk,xv,false⟩) ⟨HX.out,rfl,fun z hz=>by have:=(List.getElem?_eq_some_iff.1 hz).1;have:=HLN.out;have:=HKK.out;omega⟩]
       go_wp2;rw [<- hW1];clear hW1;go_quiet (fail)
       obtain ⟨w5,hw5⟩:∃ w5,w5=W1.drewN nq:=⟨_,rfl⟩;have b5:Below W1.heap.size W1 w5:=by rw [hw5];exact below_drewN (Below.refl _ _) _
       have k5:=HKB.out.old b5;rw [<- hw5];obtain ⟨e,he⟩:∃ e:En,e=⟨xk,xv⟩:=⟨_,rfl⟩;obtain ⟨w6,hw6⟩:∃ w6,w6=w5.alloc (.cells (cEn e).toArray 43):=⟨_,rfl⟩;have bb6:Below w5.heap.size w5 w6:=by rw [hw6];exact (Below.refl _ w5).alloc (Nat.le_refl _) _
       have row6:=((HRW.out.onl (F:=fun _=>False) (Onl.ofBelow HB1.out) (fun _ _ q=>q)).onl (F:=fun _=>False) (Onl.ofBelow b5) (fun _ _ q=>q)).onl (F:=fun _=>False) (Onl.ofBelow bb6) (fun _ _ q=>q);have rd6:RdG cEn 2 w6 (some ⟨w5.heap.size,0,none⟩) [e]:=by rw [hw6];exact rd_lit _ _ e
       obtain ⟨v8,w8,RR,r8,o8,ow8⟩:=app_en (cp:=1) row6 (by have:=keptTo_len d2 k;simp;omega) rd6;obtain ⟨va8,vc8,hva8,_⟩:=r8.form;obtain ⟨n8,hn8⟩:∃ n8,n8=(Zg d2 k++[e]).length:=⟨_,rfl⟩;rw [hva8] at r8 RR;rw [show [e].length=1 from rfl,<- hn8,<- HNK.out] at RR;have htk:Zg d2 k1=Zg d2 k++[e]:=by rw [he];exact HKE.out
       have hs1:=HB1.out.size;have hs5:=b5.size;have hs6:w6.heap.size=w5.heap.size+1:=by rw [hw6,World.size_alloc]
       have hbr:=HBr.out.size;have hb8:Below W3.heap.size W3 w8:=Below.onl (((HBr.out.trans (HB1.out.mono HBr.out.size)).trans (b5.mono (by omega))).trans (bb6.mono (by omega))) o8 (fun i q=>HRW.out.2 i q) (Nat.le_refl _);have HB8:=Za hb8
       have HRF:Hid (Row (fun g=>W3.heap.size<=g) w8 43 2 (.slice va8 (Zg d2 k1).length vc8) (Zg d2 k1).length (Zf cEn (Zg d2 k1))):=by
        rw [htk];exact Za ⟨r8.1,fun g hg=>(r8.2 g hg).elim (fun z=>z) (fun z=>by omega)⟩
       have HN8:Hid (n8=(Zg d2 k1).length):=by rw [htk];exact Za hn8
       rw [hw6,he] at RR;simp only [cEn] at RR;have y0:=k5.cell 0;have y1:=k5.cell 1;simp only [List.getElem?_cons_zero,List.getElem?_cons_succ] at y0 y1;obtain ⟨z1,z2,z3⟩:=Ze RR;clear hw5 b5 k5 hw6 bb6 row6 rd6 r8 o8 ow8 hva8 hn8 RR htk hs1 hs5 hs6 hbr hb8 he q0 q1 q2;go_wp2;go_roundw
       case rel=>exact ⟨k1,va8,vc8,n8,by have:=HKK.out;omega,by simp,rfl,HN8,HRF,HB8⟩
       case measure=>have:=HKK.out;simp [intOf];omega
    ·obtain rfl:k=ln:=by omega
     have HF:Hid (EnP (ApR es l) w (.returned (.slice va nk vc)) wr):=Za ⟨_,va,vc,by rw [HNK.out],HAP.out,HRW.out.mono (fun i hi=>by have:=HB3.out.size;omega),HB3.out.trans (HBr.out.mono HB3.out.size)⟩;clear HRW;go_wp2;go_ret
     exact HF.out
end
section
open Go.RowKit Go.Shelf Apo
attribute [local go_sem] Oper.semAt_some
attribute [local go_sem ↓] app_sem
theorem wkeys_few {w W:World} {s m:Nat} {O:Nat->Prop} {T:List (List Int)} (h:TSw w W s O T m) (hT:T.length<=16000) (hx:TxOk T) (root:Nat) (ls:List (Nat × List En)) (ht:RootT T root ls) (hpos:∀ p ∈ ls,0 < p.2.length) (hsz:(ls.flatMap (fun p=>p.2)).length<=1000) (ea:Option Addr) (ec:Nat) (l:List Ed) (hl:RdG cEd 3 W ea l) (hlb:∀ x,ea=some x->x.block < W.heap.size) (hll:l.length<=1000) (hfw:(ls.flatMap (fun p=>p.2)).length+l.length<=20) :
  Calls Tryz.prog 37 #[.pointer (some ⟨s,0,none⟩),.int .u64 root,.slice ea l.length ec] W (KyP (ls.flatMap (fun p=>p.2)) l W):=by
 refine (callsIn_wide (n:=1)).1 ?_;obtain ⟨W0,hW0⟩:∃ W0,W0=W.alloc (.cells #[.slice none 0 0] 22):=⟨_,rfl⟩;have b0:Below W.heap.size W W0:=by rw [hW0];exact (Below.refl _ W).alloc (Nat.le_refl _) _
 have k0:Ob W0 W.heap.size 22 [.slice none 0 0]:=by rw [hW0];exact Ob.new W [.slice none 0 0] 22
 have C:=tall_any (h.below b0) hT hx root ls ht hpos hsz;obtain ⟨es,hes⟩:∃ es,es=ls.flatMap (fun p=>p.2):=⟨_,rfl⟩;rw [<- hes] at C hsz hfw ⊢;have HFW:=Za hfw;clear hfw;obtain ⟨nl,hnl⟩:∃ n,n=l.length:=⟨_,rfl⟩;have HNL:=Za hnl;have HC:=Za C;have HL:=Za (hl.below b0);have HB0:=Za b0;have HK0:=Za k0;have HSZ:=Za hsz;have HLB:=Za hlb;rw [<- hnl] at hll ⊢;clear C h hT hx ht hpos hes hl hnl b0 k0 hsz hlb;refine callsIn_of_wp_marks Tryz.func37 rfl trivial ?_ rfl;simp only [Tryz.ntmps37,List.size_toArray,List.length_cons,List.length_nil,Nat.reduceAdd,Nat.reduceSub,Array.replicate_succ,Array.replicate_zero,List.push_toArray,List.append_toArray,List.nil_append,List.cons_append];gi_wp2_with fail
 rw [<- hW0];clear hW0;refine ⟨trivial,(callsIn_wide.2 HC.out).mono ?_⟩;rintro e w1 ⟨Bs,v,hBs,rfl,kB,rowA,bA⟩;obtain ⟨bx,hbx⟩:∃ bx,bx=W.heap.size:=⟨_,rfl⟩;have k1:=HK0.out.old bA;rw [<- hbx] at k1 ⊢;have HBX:=Za hbx;have hsz0:=HB0.out.size;have hs1:=bA.size;have hlt0:=HK0.out.lt;clear hbx;gi_wp2
 refine range_two (gf:=108) (lb:=#[.pointer (some ⟨Bs,0,none⟩)]) rfl enter_all1 (fun W2=>(∃ r2,W2.heap[w1.heap.size+1]?=some (.loop r2))/\∃ v2,Ob W2 bx 22 [v2]/\Row (fun g=>w1.heap.size+2<=g) W2 43 2 v2 es.length (Zm es)/\Onl (fun i=>i=bx) w1 W2) (fun _ _=>False) ?call ?done ?stop
 case call =>
  intro fn r rd W1 hr' hrd lp1 b1 s1;have ha:=congrArg Loop.assign hr';have hb:=congrArg Loop.body hr';have hpa:=congrArg Loop.params hr';have htm:=congrArg Loop.tmps hr'
  have H2:TellsE es.length (fun k=>es.getD k ⟨ByteArray.empty,ByteArray.empty⟩) (w1.heap.size+1) (w1.heap.size+2) (fun _=>False) (BxJ w1.heap.size r bx [] es) (fun _ _ _=>False):=by
   refine ⟨fun k U A B hj hb=>hj.below hb,fun k U A hj=>hj.lt,fun k U A l o o' hj hl hA hc=>hj.put hl hA hc,fun k U A l o o' hj hl hA hc=>hj.elim,fun k U A hj hk nn=>?_⟩;obtain ⟨x,hx⟩:∃ x,es[k]?=some x:=⟨es[k],List.getElem?_eq_getElem hk⟩;have hgd:es.getD k ⟨ByteArray.empty,ByteArray.empty⟩=x:=by simp [List.getD_eq_getElem?_getD,hx]
   simp only [hgd];obtain ⟨rb,hrb⟩:∃ rb,rb={ r with state:=.busy }:=⟨_,rfl⟩;obtain ⟨A2,hA2⟩:∃ A2,A2=A.putObj (w1.heap.size+1) (.loop rb):=⟨_,rfl⟩;obtain ⟨va,vc,va8,vc8,w8,a1,_,RR,a4,a5,_,a7,a8⟩:=bx_app hj hx (by simp) (by have:=HSZ.out;omega) rb A2 hA2;show YieldAt Fence.wide nn Tryz.prog (w1.heap.size+1) _ A (fun e A'=>(e=.returned (.bool true)/\∃ U':Nat->Prop,BxJ w1.heap.size r bx [] es (k+1) U' A'/\Onl U A A'/\∀ i,U' i->U i\/A.heap.size<=i)\/(e=.returned (.bool false)/\∃ U':Nat->Prop,False/\Onl (fun i=>U i\/False) A A'/\∀ i,U' i->U i\/A.heap.size<=i))
   refine yield_two hrb hrd (by rw [hr'];rfl) (by rw [hr'];rfl) ha hb hpa htm hj.lp rfl ?_;simp only [recL]
   have HF:Hid (∀ a3:Act,TwoP w1.heap.size r rb rd (fun A'=>∃ U',BxJ w1.heap.size r bx [] es (k+1) U' A'/\Onl U A A'/\∀ i,U' i->U i\/A.heap.size<=i) (fun A'=>∃ U':Nat->Prop,False/\Onl (fun i=>U i\/False) A A'/\∀ i,U' i->U i\/A.heap.size<=i) .normal a3 (w8.setCell ⟨bx,0,none⟩ (.slice va8 (k+1:Nat) vc8))):=Za (fun a3=>by
    obtain ⟨U',u1,_,u3,u4⟩:=a8 r;exact .inl ⟨rfl,a7,U',u1,u3 rfl,u4⟩)
   have z1:=a1.cell 0;have z1f:=a1.frozen 0;have y8:=a4.cell 0;have y8f:=a4.frozen 0;simp only [List.getElem?_cons_zero] at z1 y8;obtain ⟨x1,x2,x3⟩:=Ze RR;have HLPA:=Za hj.lp;clear hj hx hgd ha hb hpa htm hr' hrd hrb a1 RR a4 a5 a7 a8;gi_wp2
   rw [<- hA2];refine ⟨HLPA.out,?_⟩;clear hA2;gi_wp2
   exact HF.out _
  have hj1:BxJ w1.heap.size r bx [] es 0 (fun i=>i=bx) W1:=⟨lp1,Nat.zero_le _,⟨.slice none 0 0,k1.old b1,by rw [List.take_zero];exact Row.nil _ _ _ _,fun i=>by simp [Value.ownBlock]⟩,by simp⟩
  have HX1:∀ i,v.ownBlock=some i->¬ (i=bx):=fun i hi q=>by
   have:=(rowA.apartOb k1 (by decide));rw [hi,q] at this;exact this rfl
  have C:=all1_in es (by have:=HSZ.out;omega) H2 (fun i e h=>by simp [List.getD_eq_getElem?_getD,h]) (1 - 1) W1 Bs v (fun i=>i=bx) hj1 (kB.old b1) ((rowA.mono (fun _ _=>trivial)).onl (F:=fun _=>False) (Onl.ofBelow b1) (fun _ _ q=>q)) HX1;refine C.mono ?_;rintro e W2 ⟨hv,⟨U',j2,o2,u2⟩ | ⟨k2,U',hk2,j2,o2,u2⟩⟩
  ·obtain ⟨v2,q1,q2,q3⟩:=j2.got;rw [List.take_length] at q2;exact ⟨hv,.inl ⟨j2.lp,⟨_,j2.lp.1⟩,v2,q1,q2,(Onl.ofBelow b1).trans o2⟩⟩
  ·exact j2.elim
 case stop =>
  rintro c W2 o q;exact q.elim
 case done =>
  rintro W2 o ⟨⟨r2,l2⟩,v2,kx2,rowG,oG⟩ dd dl;have hsz2:=oG.size;have oa:Onl (fun i=>i=w1.heap.size+1) W2 (W2.putObj (w1.heap.size+1) o):=ZI _;obtain ⟨W8,hW8⟩:∃ W8,W8=W2.putObj (w1.heap.size+1) o:=⟨_,rfl⟩;rw [<- hW8] at oa ⊢;have ed:W8.heap[w1.heap.size]?=some (.deferred (some [])):=(oa.block _ (by omega) (by omega)).trans dd;have kx8:=kx2.onl oa (fun q=>ob_loopW kx2 l2 rfl q);have row8:=rowG.onl oa (fun g hg z=>Row.noLoop rowG l2 rfl (by rw [<- z];exact hg));have B1:=HB0.out.trans (bA.mono HB0.out.size);have B2:=Below.onl B1 oG (fun i q=>by have:=HBX.out;omega) (Nat.le_refl _);have B8:Below W.heap.size W W8:=Below.onl B2 oa (fun i q=>by omega) (Nat.le_refl _);obtain ⟨ga,gc,hgv,rdG,_⟩:=rd_ecells row8;subst hgv;have hbxl:=k1.lt;have rdl:RdG cEd 3 W8 ea l:=((HL.out.below bA).onl oG (fun x hx q=>by have:=HLB.out x hx;have:=HBX.out;omega)).onl oa (fun x hx q=>by have:=HLB.out x hx;omega);have CA:=daapply_few W8 ga ea gc ec es l rdG rdl (by have:=HSZ.out;omega) (by have:=HNL.out;omega) HFW.out;obtain ⟨n,hn⟩:∃ n,n=es.length:=⟨_,rfl⟩;have x0:=kx8.cell 0;simp only [List.getElem?_cons_zero] at x0;rw [<- hn] at x0;rw [<- hn,<- HNL.out] at CA;have HCA:=Za CA;have HED:=Za ed;have HB8:=Za B8;have hdw:W.heap.size<=w1.heap.size:=by omega
  clear hsz2 oa hW8 ed kx8 row8 B1 B2 B8 rdG rdl CA hn kx2 rowG oG dd dl l2 kB rowA bA k1 HK0 HC HL;gi_wp2_with fail
  refine ⟨trivial,(callsIn_wide.2 HCA.out).mono ?_⟩;rintro e w9 ⟨fs,fa,fc,rfl,hap,_,b9⟩;have ed9:w9.heap[w1.heap.size]?=some (.deferred (some [])):=(b9.block _ (Array.getElem?_eq_some_iff.1 HED.out).1).trans HED.out;have B9:=HB8.out.trans (b9.mono HB8.out.size);have o5:Onl (fun i=>i=w1.heap.size) w9 (w9.putObj w1.heap.size (.deferred none)):=ZI _;have HF:Hid (KyP es l W (.returned (.int .i64 (fs.length:Int))) (w9.putObj w1.heap.size (.deferred none))):=Za ⟨fs,hap,rfl,Below.onl B9 o5 (fun i q=>by omega) (Nat.le_refl _)⟩;have HED:=Za ed9;obtain ⟨nf,hnf⟩:∃ n,n=fs.length:=⟨_,rfl⟩;rw [<- hnf] at HF ⊢;clear ed9 B9 o5 hap b9 hnf;gi_wp2
  refine fin_keys HED.out ?_ HF.out;rfl
end
end Go.Proofs.YtdhebpnkfookcaaGreat
