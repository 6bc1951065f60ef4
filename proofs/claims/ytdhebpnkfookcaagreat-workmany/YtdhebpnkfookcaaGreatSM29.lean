import Derived.Test.YtdhebpnkfookcaaGreatSM28
set_option maxRecDepth 100000
set_option maxHeartbeats 2000000
namespace Go.Proofs.YtdhebpnkfookcaaGreat
open Go.RowKit Apo
section
attribute [local go_sem ↓] Apo.app_exec
theorem each_En (p g:Nat) (st:St) (w:World) (h:Rr w p 224 g st) (hg:g < w.heap.size) (hl:(st.getD []).length<=1000000) :
  Calls Tryz.prog 162 #[.agg #[.pointer (some ⟨p,0,none⟩)],.func (.func 163) #[] #[]] w fun e w'=>∃ v,e=.returned v/\Row (fun i=>w.heap.size<=i) w' 43 2 v (Zx enS st).1.length (Zo (Zx enS st).1)/\Rr w' p 224 g (Zx enS st).2/\w.grownBy w' (some p):=by
 have hp:=h.lt;obtain ⟨W0,hW0⟩:∃ W0,W0=w.alloc (.cells #[.pointer (some ⟨p,0,none⟩)] 201):=⟨_,rfl⟩;have kb:Ob W0 w.heap.size 201 [.pointer (some ⟨p,0,none⟩)]:=by rw [hW0];exact Ob.new w [.pointer (some ⟨p,0,none⟩)] 201
 have b0:Below w.heap.size w W0:=by rw [hW0];exact (Below.refl _ w).alloc (Nat.le_refl _) _
 have s0:W0.heap.size=w.heap.size+1:=by rw [hW0];simp
 have r0:=h.old b0;obtain ⟨L,hL⟩:∃ L,L=(st.getD []).length:=⟨_,rfl⟩;have HCL:=Za (rdleft_any p g st W0.drew (r0.old (Below.refl _ _).drew));have HCN:=Za (rdnum_any p g st (mostOf st) W0.drew (r0.old (Below.refl _ _).drew));have hmo:mostOf st=((L / 3:Nat):Int):=by unfold mostOf;rw [<- hL]
 have hbd:=rnum_bd st (most:=mostOf st) (by rw [hmo];omega);rw [<- hL] at HCL hl;unfold Zx;obtain ⟨M,hM⟩:∃ M,M=mostOf st:=⟨_,rfl⟩;rw [<- hM] at HCN hbd hmo ⊢;obtain ⟨CT,hCT⟩:∃ CT:Nat,(CT:Int)=(Zr st M).1:=⟨(Zr st M).1.toNat,by omega⟩;have hCT2:(Zr st M).1.toNat=CT:=by omega
 obtain ⟨st2,hst2⟩:∃ st2,st2=(Zr st M).2:=⟨_,rfl⟩;rw [hCT2,<- hst2];rw [<- hCT] at HCN hbd;rw [<- hst2] at HCN;have hc0:=kb.cell 0;simp only [List.getElem?_cons_zero] at hc0;have HKB:=Za kb;have HB0:=Za b0;have hm1:IntKind.u64.wrap ((L:Int) / 3)=M:=by rw [IntKind.wrap_u64,hmo];omega
 have hm2:IntKind.i64.wrap ((L:Int) / 3)=M:=by rw [IntKind.wrap_i64,hmo];omega
 have hm3:IntKind.u64.wrap M=M:=by rw [IntKind.wrap_u64,hmo];omega
 have hm6:IntKind.i64.wrap M=M:=by rw [IntKind.wrap_i64,hmo];omega
 have hm4:((L:Int) / 3)=M:=by rw [hmo];omega
 have hm5:Int.tdiv (L:Int) 3=M:=by rw [Int.tdiv_eq_ediv_of_nonneg (by omega),hmo];omega
 have HW0:=Za hW0;have hcw:=hc0;rw [hW0] at hcw HCL HCN;clear h kb b0 r0 hL hM hCT hCT2 hst2 hmo;go_enter Tryz.func162,Tryz.ntmps162
 go_wp2
 go_region_held3 (fun W'=>W'.cell? ⟨w.heap.size,0,none⟩=some (.pointer (some ⟨p,0,none⟩))) (go_keep) (first
  | (go_at_call 197;(with_reducible refine HCL.out.mono ?_);rintro en w1 ⟨rfl,rfl⟩)
  | (go_at_call 131;(with_reducible refine HCN.out.mono ?_);rintro en w2 ⟨rfl,r2,g2⟩;rw [<- hW0] at g2;have kb2:=(HKB.out.old (Below.refl _ _).drew).kept g2 (by intro e;have e2:=Option.some.inj e;omega);have k0:=kb2.cell 0;simp only [List.getElem?_cons_zero] at k0;have HR2:=Za r2;have HG2:=Za (Ze (Zm (some p) (HB0.out.drew)) g2);have HK2:=Za kb2;clear r2 g2 kb2))
 go_wp2;go_loopw [5,14] (fun v i wr=>∃ (k:Nat) (va:Option Addr) (n vc:Nat),k<=CT/\i=.int .u64 k/\v=.slice va n vc/\Hid (Rr wr p 224 g (ZO enS st2 k).2)/\Hid (Row (fun i=>w.heap.size<=i) wr 43 2 (.slice va n vc) (ZO enS st2 k).1.length (Zo (ZO enS st2 k).1))/\Hid (Ob wr w.heap.size 201 [.pointer (some ⟨p,0,none⟩)])/\Hid (w.grownBy wr (some p))) (fun _ i _=>CT - (intOf i).toNat)
 case atStart=>exact ⟨0,none,0,0,Nat.zero_le _,rfl,rfl,HR2,Za (Row.nil _ _ _ _),HK2,HG2⟩
 case round =>
  obtain ⟨k,va,n,vc,hk,rfl,rfl,HR,HO,HK,HG⟩:=hrel;have hkl:=eachK_len enS st2 k;obtain ⟨⟨es,sk⟩,hq⟩:∃ q,ZO enS st2 k=q:=⟨_,rfl⟩;have hq1:ZO enS st2 (k+1)=(es++[(enS sk).1],(enS sk).2):=by simp only [ZO,hq]
  rw [hq] at HR HO hkl;simp only at HR HO hkl;have HQ:=Za hq;have HQ1:=Za hq1;have hx0:=HK.out.cell 0;simp only [List.getElem?_cons_zero] at hx0;clear hq hq1;by_cases hkc:k < CT
  ·have t1:decide ((k:Int) < (CT:Int))=true:=by simp;omega
   have t2:decide (k < CT)=true:=by simp;omega
   have HC:=Za (part_En p g sk wr HR.out (Nat.lt_of_lt_of_le hg HG.out.size));obtain ⟨x,hx⟩:∃ x,x=(enS sk).1:=⟨_,rfl⟩;rw [<- hx] at HC HQ1;obtain ⟨sk2,hsk2⟩:∃ x,x=(enS sk).2:=⟨_,rfl⟩;rw [<- hsk2] at HC HQ1;obtain ⟨ek,ev⟩:=x;simp only [enV] at HC;clear hx hsk2;go_wp2_with fail
   refine HC.out.mono ?_;rintro e w1 ⟨rfl,r1,g1⟩;have o1:Onl (fun i=>i=p) wr w1:=(Onl.refl _ wr).grown g1 (fun j hj=>.inl (by cases hj;rfl));obtain ⟨c0,c1,hrc⟩:=HR.out.ob;have ap:(Value.slice va n vc).ownBlock≠some p:=Row.apartOb HO.out hrc (by decide);have row1:=HO.out.onl o1 (fun g hg q=>ap (by rw [hg,q]));have k1:=HK.out.onl o1 (by omega);have row1':Row (fun g=>w.heap.size<=g/\(Value.slice va n vc).ownBlock=some g) w1 43 2 (.slice va n vc) es.length (Zo es):=⟨row1.1,fun g hg=>⟨row1.2 g hg,hg⟩⟩;obtain ⟨v7,w7,RA,r7,o7⟩:=app_En row1' (by omega) ⟨ek,ev⟩;obtain ⟨va7,c7,hv7,_⟩:=r7.form;subst hv7;have k7:=k1.onl o7 (fun q=>Row.apartOb row1 k1 (by decide) q.2);have rr7:=r1.onl o7 (fun q=>by omega) (fun q=>by omega);have g7:=grew_onl (Ze HG.out g1) o7 (fun i q=>q.1);have hs1:=(Ze HG.out g1).size;obtain ⟨p1,p2,p3⟩:=Zi RA;have f1:Hid (Rr w7 p 224 g (ZO enS st2 (k+1)).2):=Za (by rw [HQ1.out];exact rr7)
   have f2:Hid (Row (fun i=>w.heap.size<=i) w7 43 2 (.slice va7 (es++[(⟨ek,ev⟩:En)]).length c7) (ZO enS st2 (k+1)).1.length (Zo (ZO enS st2 (k+1)).1)):=Za (by
    rw [HQ1.out]
    exact r7.mono (fun i q=>by
     rcases q with q | q
     ·exact q.1
     ·omega))
   have f3:=Za k7;have f4:=Za g7;obtain ⟨n7,hn7⟩:∃ n7,n7=(es++[(⟨ek,ev⟩:En)]).length:=⟨_,rfl⟩;rw [<- hn7] at p2 f2;clear HC r1 g1 o1 row1 row1' k1 RA r7 o7 k7 rr7 g7 hrc ap hn7 HR HO HK HG hx0;go_wp2;go_roundw
   case rel=>exact ⟨k+1,va7,n7,c7,by omega,by simp,rfl,f1,f2,f3,f4⟩
   case measure=>simp [intOf];omega
  ·obtain rfl:k=CT:=by omega
   go_wp2;go_ret
   exact ⟨_,rfl,by rw [HQ.out];exact HO.out,by rw [HQ.out];exact HR.out,HG.out⟩
theorem each_Ki (p g:Nat) (st:St) (w:World) (h:Rr w p 224 g st) (hg:g < w.heap.size) (hl:(st.getD []).length<=1000000) :
  Calls Tryz.prog 164 #[.agg #[.pointer (some ⟨p,0,none⟩)],.func (.func 165) #[] #[]] w fun e w'=>∃ v,e=.returned v/\Row (fun i=>w.heap.size<=i) w' 128 2 v (Zx kiS st).1.length (ZH (Zx kiS st).1)/\Rr w' p 224 g (Zx kiS st).2/\w.grownBy w' (some p):=by
 have hp:=h.lt;obtain ⟨W0,hW0⟩:∃ W0,W0=w.alloc (.cells #[.pointer (some ⟨p,0,none⟩)] 201):=⟨_,rfl⟩;have kb:Ob W0 w.heap.size 201 [.pointer (some ⟨p,0,none⟩)]:=by rw [hW0];exact Ob.new w [.pointer (some ⟨p,0,none⟩)] 201
 have b0:Below w.heap.size w W0:=by rw [hW0];exact (Below.refl _ w).alloc (Nat.le_refl _) _
 have s0:W0.heap.size=w.heap.size+1:=by rw [hW0];simp
 have r0:=h.old b0;obtain ⟨L,hL⟩:∃ L,L=(st.getD []).length:=⟨_,rfl⟩;have HCL:=Za (rdleft_any p g st W0.drew (r0.old (Below.refl _ _).drew));have HCN:=Za (rdnum_any p g st (mostOf st) W0.drew (r0.old (Below.refl _ _).drew));have hmo:mostOf st=((L / 3:Nat):Int):=by unfold mostOf;rw [<- hL]
 have hbd:=rnum_bd st (most:=mostOf st) (by rw [hmo];omega);rw [<- hL] at HCL hl;unfold Zx;obtain ⟨M,hM⟩:∃ M,M=mostOf st:=⟨_,rfl⟩;rw [<- hM] at HCN hbd hmo ⊢;obtain ⟨CT,hCT⟩:∃ CT:Nat,(CT:Int)=(Zr st M).1:=⟨(Zr st M).1.toNat,by omega⟩;have hCT2:(Zr st M).1.toNat=CT:=by omega
 obtain ⟨st2,hst2⟩:∃ st2,st2=(Zr st M).2:=⟨_,rfl⟩;rw [hCT2,<- hst2];rw [<- hCT] at HCN hbd;rw [<- hst2] at HCN;have hc0:=kb.cell 0;simp only [List.getElem?_cons_zero] at hc0;have HKB:=Za kb;have HB0:=Za b0;have hm1:IntKind.u64.wrap ((L:Int) / 3)=M:=by rw [IntKind.wrap_u64,hmo];omega
 have hm2:IntKind.i64.wrap ((L:Int) / 3)=M:=by rw [IntKind.wrap_i64,hmo];omega
 have hm3:IntKind.u64.wrap M=M:=by rw [IntKind.wrap_u64,hmo];omega
 have hm6:IntKind.i64.wrap M=M:=by rw [IntKind.wrap_i64,hmo];omega
 have hm4:((L:Int) / 3)=M:=by rw [hmo];omega
 have hm5:Int.tdiv (L:Int) 3=M:=by rw [Int.tdiv_eq_ediv_of_nonneg (by omega),hmo];omega
 have HW0:=Za hW0;have hcw:=hc0;rw [hW0] at hcw HCL HCN;clear h kb b0 r0 hL hM hCT hCT2 hst2 hmo;go_enter Tryz.func164,Tryz.ntmps164
 go_wp2
 go_region_held3 (fun W'=>W'.cell? ⟨w.heap.size,0,none⟩=some (.pointer (some ⟨p,0,none⟩))) (go_keep) (first
  | (go_at_call 197;(with_reducible refine HCL.out.mono ?_);rintro en w1 ⟨rfl,rfl⟩)
  | (go_at_call 131;(with_reducible refine HCN.out.mono ?_);rintro en w2 ⟨rfl,r2,g2⟩;rw [<- hW0] at g2;have kb2:=(HKB.out.old (Below.refl _ _).drew).kept g2 (by intro e;have e2:=Option.some.inj e;omega);have k0:=kb2.cell 0;simp only [List.getElem?_cons_zero] at k0;have HR2:=Za r2;have HG2:=Za (Ze (Zm (some p) (HB0.out.drew)) g2);have HK2:=Za kb2;clear r2 g2 kb2))
 go_wp2;go_loopw [5,14] (fun v i wr=>∃ (k:Nat) (va:Option Addr) (n vc:Nat),k<=CT/\i=.int .u64 k/\v=.slice va n vc/\Hid (Rr wr p 224 g (ZO kiS st2 k).2)/\Hid (Row (fun i=>w.heap.size<=i) wr 128 2 (.slice va n vc) (ZO kiS st2 k).1.length (ZH (ZO kiS st2 k).1))/\Hid (Ob wr w.heap.size 201 [.pointer (some ⟨p,0,none⟩)])/\Hid (w.grownBy wr (some p))) (fun _ i _=>CT - (intOf i).toNat)
 case atStart=>exact ⟨0,none,0,0,Nat.zero_le _,rfl,rfl,HR2,Za (Row.nil _ _ _ _),HK2,HG2⟩
 case round =>
  obtain ⟨k,va,n,vc,hk,rfl,rfl,HR,HO,HK,HG⟩:=hrel;have hkl:=eachK_len kiS st2 k;obtain ⟨⟨es,sk⟩,hq⟩:∃ q,ZO kiS st2 k=q:=⟨_,rfl⟩;have hq1:ZO kiS st2 (k+1)=(es++[(kiS sk).1],(kiS sk).2):=by simp only [ZO,hq]
  rw [hq] at HR HO hkl;simp only at HR HO hkl;have HQ:=Za hq;have HQ1:=Za hq1;have hx0:=HK.out.cell 0;simp only [List.getElem?_cons_zero] at hx0;clear hq hq1;by_cases hkc:k < CT
  ·have t1:decide ((k:Int) < (CT:Int))=true:=by simp;omega
   have t2:decide (k < CT)=true:=by simp;omega
   have HC:=Za (part_Ki p g sk wr HR.out (Nat.lt_of_lt_of_le hg HG.out.size));obtain ⟨x,hx⟩:∃ x,x=(kiS sk).1:=⟨_,rfl⟩;rw [<- hx] at HC HQ1;obtain ⟨sk2,hsk2⟩:∃ x,x=(kiS sk).2:=⟨_,rfl⟩;rw [<- hsk2] at HC HQ1;obtain ⟨ek,ev⟩:=x;simp only [kiV] at HC;clear hx hsk2;go_wp2_with fail
   refine HC.out.mono ?_;rintro e w1 ⟨rfl,r1,g1⟩;have o1:Onl (fun i=>i=p) wr w1:=(Onl.refl _ wr).grown g1 (fun j hj=>.inl (by cases hj;rfl));obtain ⟨c0,c1,hrc⟩:=HR.out.ob;have ap:(Value.slice va n vc).ownBlock≠some p:=Row.apartOb HO.out hrc (by decide);have row1:=HO.out.onl o1 (fun g hg q=>ap (by rw [hg,q]));have k1:=HK.out.onl o1 (by omega);have row1':Row (fun g=>w.heap.size<=g/\(Value.slice va n vc).ownBlock=some g) w1 128 2 (.slice va n vc) es.length (ZH es):=⟨row1.1,fun g hg=>⟨row1.2 g hg,hg⟩⟩;obtain ⟨v7,w7,RA,r7,o7⟩:=app_Ki row1' (by omega) ⟨ek,ev⟩;obtain ⟨va7,c7,hv7,_⟩:=r7.form;subst hv7;have k7:=k1.onl o7 (fun q=>Row.apartOb row1 k1 (by decide) q.2);have rr7:=r1.onl o7 (fun q=>by omega) (fun q=>by omega);have g7:=grew_onl (Ze HG.out g1) o7 (fun i q=>q.1);have hs1:=(Ze HG.out g1).size;obtain ⟨p1,p2,p3⟩:=Zi RA;have f1:Hid (Rr w7 p 224 g (ZO kiS st2 (k+1)).2):=Za (by rw [HQ1.out];exact rr7)
   have f2:Hid (Row (fun i=>w.heap.size<=i) w7 128 2 (.slice va7 (es++[(⟨ek,ev⟩:Ki)]).length c7) (ZO kiS st2 (k+1)).1.length (ZH (ZO kiS st2 (k+1)).1)):=Za (by
    rw [HQ1.out]
    exact r7.mono (fun i q=>by
     rcases q with q | q
     ·exact q.1
     ·omega))
   have f3:=Za k7;have f4:=Za g7;obtain ⟨n7,hn7⟩:∃ n7,n7=(es++[(⟨ek,ev⟩:Ki)]).length:=⟨_,rfl⟩;rw [<- hn7] at p2 f2;clear HC r1 g1 o1 row1 row1' k1 RA r7 o7 k7 rr7 g7 hrc ap hn7 HR HO HK HG hx0;go_wp2;go_roundw
   case rel=>exact ⟨k+1,va7,n7,c7,by omega,by simp,rfl,f1,f2,f3,f4⟩
   case measure=>simp [intOf];omega
  ·obtain rfl:k=CT:=by omega
   go_wp2;go_ret
   exact ⟨_,rfl,by rw [HQ.out];exact HO.out,by rw [HQ.out];exact HR.out,HG.out⟩
end
theorem rnum_enc {n:Nat} {r:List Int} {most:Int} (h:n < top) (hm:(n:Int)<=most):Zr (some (enc n++r)) most=((n:Int),some r):=by
 unfold Zr;simp only;rw [num1_yes h rfl];simp only;rw [if_pos hm]
theorem rtext_enc {s:ByteArray} {r:List Int} {most:Int} (h:s.size < top) (hm:(s.size:Int)<=most):ZF (some (enc s.size++nums s++r)) most=(nums s,some r):=by
 unfold ZF;rw [if_neg (by omega),List.append_assoc,rnum_enc h hm];simp only;rw [if_pos (by rw [List.length_append,ZU];omega),Int.toNat_natCast];have hl:=ZU s;rw [List.take_append_of_le_length (by omega),List.take_of_length_le (by omega),List.drop_append_of_le_length (by omega),List.drop_of_length_le (by omega),List.nil_append]
theorem rnum_some {l r:List Int} {most n:Int} (h:Zr (some l) most=(n,some r)):l=enc n.toNat++r/\0<=n/\n<=most:=by
 unfold Zr at h;simp only at h;rcases num1_cases l with ⟨m,q,h1,h2,h3⟩ | ⟨_,h3⟩
 ·rw [h3] at h;simp only at h;split at h
  ·injection h with e1 e2
   injection e2 with e2
   subst e1 e2;exact ⟨by rw [Int.toNat_natCast];exact h2,by omega,by assumption⟩
  ·injection h with e1 e2
   cases e2
 ·rw [h3] at h;simp only at h;injection h with e1 e2
  cases e2
theorem rtext_some {l r t:List Int} {most:Int} (h:ZF (some l) most=(t,some r)):l=enc t.length++t++r/\(t.length:Int)<=most:=by
 unfold ZF at h;split at h
 ·injection h with e1 e2
  cases e2
 ·cases hq:Zr (some l) most with
  | mk n st =>
   rw [hq] at h;cases st with
   | none =>
    simp only at h;injection h with e1 e2
    cases e2
   | some q =>
    simp only at h;obtain ⟨h1,h2,h3⟩:=rnum_some hq;split at h
    ·injection h with e1 e2
     injection e2 with e2
     subst e1 e2;have hl:(q.take n.toNat).length=n.toNat:=by rw [List.length_take];omega
     rw [hl,List.append_assoc,List.take_append_drop];exact ⟨h1,by omega⟩
    ·injection h with e1 e2
     cases e2
theorem rtext_none (most:Int):ZF none most=([],none):=by
 unfold ZF Zr;split <;> rfl
theorem InB.right {a b:List Int} (h:InB (a++b)):InB b:=fun z hz=>h z (by simp [hz])
theorem InB.left {a b:List Int} (h:InB (a++b)):InB a:=fun z hz=>h z (by simp [hz])
theorem text_back {t:List Int} (h:InB t):enc (strOfNums t).size++nums (strOfNums t)=enc t.length++t:=by
 rw [strOfNums_size,nums_strOfNums h]
theorem ofK_back {lv:Int} {r:List Int} (hb:InB r):∀ (k:Nat) {x:List Int},(ofK lv (some r) k).1=some x->r=(ofK lv (some r) k).2.1.flatMap enB++(ofK lv (some r) k).2.2.flatMap kiB++x/\(lv=0->(ofK lv (some r) k).2.2=[])/\(lv≠0->(ofK lv (some r) k).2.1=[])/\(ofK lv (some r) k).2.1.length+(ofK lv (some r) k).2.2.length=k
 | 0,x,h=>by
  simp only [ofK] at h ⊢;injection h with h
  subst h;simp
 | k+1,x,h=>by
  rw [ofK_succ] at h ⊢;cases hk:(ofK lv (some r) k).1 with
  | none =>
   rw [if_pos hk,hk] at h;cases h
  | some y =>
   rw [if_neg (by first | (rw [hk];simp) | simp)] at h ⊢;obtain ⟨i1,i2,i3,i4⟩:=ofK_back hb k hk;generalize ofK lv (some r) k=q at *;obtain ⟨s,es,ks⟩:=q;simp only at hk i1 i2 i3 i4;subst hk;by_cases h0:lv=0
   ·have e2:=i2 h0;subst e2;unfold ofStep at h ⊢;rw [if_pos h0] at h ⊢;simp only at h ⊢;cases hq:ZF (some y) 40 with
    | mk t st =>
     cases st with
     | none =>
      rw [hq] at h;simp only [rtext_none] at h;cases h
     | some z =>
      rw [hq] at h;simp only at h ⊢;cases hq2:ZF (some z) 200 with
      | mk t2 st2 =>
       rw [hq2] at h;simp only at h ⊢;subst h;obtain ⟨a1,a2⟩:=rtext_some hq;obtain ⟨b1,b2⟩:=rtext_some hq2;have by0:InB y:=by rw [i1] at hb;exact hb.right
       have bt:InB t:=by rw [a1] at by0;exact by0.left.right
       have bz:InB z:=by rw [a1] at by0;exact by0.right
       have bt2:InB t2:=by rw [b1] at bz;exact bz.left.right
       refine ⟨?_,fun _=>by trivial,fun q=>absurd h0 q,by simp at i4 ⊢;omega⟩;rw [i1,a1,b1];simp only [List.flatMap_append,List.flatMap_cons,List.flatMap_nil,List.append_nil,enB];rw [text_back bt,text_back bt2];simp [List.append_assoc]
   ·have e2:=i3 h0;subst e2;unfold ofStep at h ⊢;rw [if_neg h0] at h ⊢;simp only at h ⊢;cases hq:ZF (some y) 40 with
    | mk t st =>
     cases st with
     | none =>
      rw [hq] at h;simp only [Zr] at h;cases h
     | some z =>
      rw [hq] at h;simp only at h ⊢;cases hq2:Zr (some z) 18446744073709551615 with
      | mk m st2 =>
       rw [hq2] at h;simp only at h ⊢;subst h;obtain ⟨a1,a2⟩:=rtext_some hq;obtain ⟨b1,b2,b3⟩:=rnum_some hq2;have by0:InB y:=by rw [i1] at hb;exact hb.right
       have bt:InB t:=by rw [a1] at by0;exact by0.left.right
       refine ⟨?_,fun q=>absurd q h0,fun _=>by trivial,by simp at i4 ⊢;omega⟩;rw [i1,a1,b1];simp only [List.flatMap_append,List.flatMap_cons,List.flatMap_nil,List.append_nil,kiB];rw [text_back bt];simp [List.append_assoc]
theorem top_big {n:Nat} (h:n<=1000):n < top:=by unfold top;omega
theorem ofK_es {x:List Int}:∀ (k:Nat) {es:List En},(∀ e ∈ es,e.k.size<=40/\e.v.size<=200)->k<=es.length->ofK 0 (some (es.flatMap enB++x)) k=(some ((es.drop k).flatMap enB++x),es.take k,[])
 | 0,es,_,_=>by simp [ofK]
 | k+1,es,h,hk=>by
  rw [ofK_succ,ofK_es k h (by omega)];simp only;rw [if_neg (by simp)];obtain ⟨e,he⟩:∃ e,es[k]?=some e:=⟨es[k]'(by omega),List.getElem?_eq_getElem _⟩;have hz:=h e (List.mem_of_getElem? he)
  have hd:es.drop k=e :: es.drop (k+1):=by
   rw [List.drop_eq_getElem_cons (by omega)];rw [List.getElem?_eq_getElem (by omega)] at he;injection he with he
   rw [he]
  have ht:es.take (k+1)=es.take k++[e]:=by rw [List.take_add_one,he];rfl
  unfold ofStep;rw [if_pos rfl,ht,hd];simp only [List.flatMap_cons,enB]
  have r1:ZF (some (enc e.k.size++nums e.k++(enc e.v.size++nums e.v)++(es.drop (k+1)).flatMap enB++x)) 40=(nums e.k,some (enc e.v.size++nums e.v++((es.drop (k+1)).flatMap enB++x))):=by
   have:=rtext_enc (s:=e.k) (r:=enc e.v.size++nums e.v++((es.drop (k+1)).flatMap enB++x)) (most:=40) (top_big (by omega)) (by omega);simpa [List.append_assoc] using this
  rw [r1];simp only;rw [rtext_enc (top_big (by omega)) (by omega)];simp only [strOfNums_nums]
theorem ofK_ks {lv:Int} (h0:lv≠0) {x:List Int}:∀ (k:Nat) {ks:List Ki},(∀ e ∈ ks,e.k.size<=40/\e.i < 18446744073709551616)->k<=ks.length->ofK lv (some (ks.flatMap kiB++x)) k=(some ((ks.drop k).flatMap kiB++x),[],ks.take k)
 | 0,ks,_,_=>by simp [ofK]
 | k+1,ks,h,hk=>by
  rw [ofK_succ,ofK_ks h0 k h (by omega)];simp only;rw [if_neg (by simp)];obtain ⟨e,he⟩:∃ e,ks[k]?=some e:=⟨ks[k]'(by omega),List.getElem?_eq_getElem _⟩;have hz:=h e (List.mem_of_getElem? he)
  have hd:ks.drop k=e :: ks.drop (k+1):=by
   rw [List.drop_eq_getElem_cons (by omega)];rw [List.getElem?_eq_getElem (by omega)] at he;injection he with he
   rw [he]
  have ht:ks.take (k+1)=ks.take k++[e]:=by rw [List.take_add_one,he];rfl
  unfold ofStep;rw [if_neg h0,ht,hd];simp only [List.flatMap_cons,kiB]
  have r1:ZF (some (enc e.k.size++nums e.k++enc e.i++(ks.drop (k+1)).flatMap kiB++x)) 40=(nums e.k,some (enc e.i++((ks.drop (k+1)).flatMap kiB++x))):=by
   have:=rtext_enc (s:=e.k) (r:=enc e.i++((ks.drop (k+1)).flatMap kiB++x)) (most:=40) (top_big (by omega)) (by omega);simpa [List.append_assoc] using this
  rw [r1];simp only;rw [rnum_enc (by unfold top;omega) (by omega)];simp only [strOfNums_nums,Int.toNat_natCast]
theorem nodeOf_ndB {n:Nd} (h:nodeE n=0) (hz:∀ k ∈ n.ks,k.i < 18446744073709551616) (hl:(ZW n).length<=131072) (hc:n.es.length+n.ks.length<=16384):nodeOf (ZW n)=(n,0):=by
 obtain ⟨h1,h2,h3,h4,h5,_⟩:=nodeE_ok h;obtain ⟨lv,es,ks⟩:=n;simp only at h1 h2 h3 h4 h5 hc hz;have hlv:((lv.toNat:Nat):Int)=lv:=by omega
 have hraw:ofRaw (ZW ⟨lv,es,ks⟩)=(some [],⟨lv,es,ks⟩):=by
  unfold ofRaw ZW;simp only
  have r1:Zr (some (enc lv.toNat++enc (es.length+ks.length)++es.flatMap enB++ks.flatMap kiB)) 20=(lv,some (enc (es.length+ks.length)++(es.flatMap enB++ks.flatMap kiB))):=by
   have:=rnum_enc (n:=lv.toNat) (r:=enc (es.length+ks.length)++(es.flatMap enB++ks.flatMap kiB)) (most:=20) (top_big (by omega)) (by omega);rw [hlv] at this;simpa [List.append_assoc] using this
  rw [r1];simp only;rw [rnum_enc (by unfold top;omega) (by omega)];simp only [Int.toNat_natCast];rw [Bool.or_eq_true] at h5;rcases h5 with h5 | h5
  ·unfold Nd.leaf at h5;simp at h5
   obtain ⟨⟨e1,e2⟩,e3⟩:=h5;subst e1;subst e3;have:=ofK_es (x:=[]) es.length (es:=es) (fun e he=>⟨(h1 e he).1.2,(h1 e he).2⟩) (Nat.le_refl _);simp at this
   simp [this]
  ·unfold Nd.inner at h5;simp at h5
   obtain ⟨⟨⟨e1,e2⟩,e3⟩,e4⟩:=h5;subst e4;have:=ofK_ks (lv:=lv) (by omega) (x:=[]) ks.length (ks:=ks) (fun e he=>⟨(h2 e he).1.2,hz e he⟩) (Nat.le_refl _);simp at this
   simp [this]
 unfold nodeOf;rw [hraw];simp only;rw [if_pos ⟨by trivial,hl,h⟩]
theorem enS_none:(enS none).2=none:=by unfold enS;simp only [rtext_none]
theorem kiS_none:(kiS none).2=none:=by unfold kiS;simp only [rtext_none,Zr]
theorem each_es (st:St):∀ k,(ofK 0 st k).1=(ZO enS st k).2/\((ofK 0 st k).1≠none->(ofK 0 st k).2.1=(ZO enS st k).1/\(ofK 0 st k).2.2=[])
 | 0=>by simp [ofK,ZO]
 | k+1=>by
  obtain ⟨i1,i2⟩:=each_es st k;rw [ofK_succ];simp only [ZO];by_cases h:(ofK 0 st k).1=none
  ·rw [if_pos h,h,<- i1,h,enS_none];exact ⟨rfl,fun q=>absurd rfl q⟩
  ·rw [if_neg h];obtain ⟨j1,j2⟩:=i2 h;unfold ofStep;rw [if_pos rfl,<- i1,j1,j2];exact ⟨rfl,fun _=>⟨rfl,rfl⟩⟩
theorem each_ks {lv:Int} (h0:lv≠0) (st:St):∀ k,(ofK lv st k).1=(ZO kiS st k).2/\((ofK lv st k).1≠none->(ofK lv st k).2.2=(ZO kiS st k).1/\(ofK lv st k).2.1=[])
 | 0=>by simp [ofK,ZO]
 | k+1=>by
  obtain ⟨i1,i2⟩:=each_ks h0 st k;rw [ofK_succ];simp only [ZO];by_cases h:(ofK lv st k).1=none
  ·rw [if_pos h,h,<- i1,h,kiS_none];exact ⟨rfl,fun q=>absurd rfl q⟩
  ·rw [if_neg h];obtain ⟨j1,j2⟩:=i2 h;unfold ofStep;rw [if_neg h0,<- i1,j1,j2];exact ⟨rfl,fun _=>⟨rfl,rfl⟩⟩
noncomputable def pRaw (b:List Int):St × Nd :=
 if (Zr (some b) 20).1=0 then ((Zx enS (Zr (some b) 20).2).2,⟨0,(Zx enS (Zr (some b) 20).2).1,[]⟩)
 else ((Zx kiS (Zr (some b) 20).2).2,⟨(Zr (some b) 20).1,[],(Zx kiS (Zr (some b) 20).2).1⟩)
theorem flat_ge {α:Type} {f:α->List Int} {c:Nat}:∀ {l:List α},(∀ x ∈ l,c<=(f x).length)->c * l.length<=(l.flatMap f).length
 | [],_=>by simp
 | x :: l,h=>by
  have h1:=flat_ge (l:=l) (fun y hy=>h y (by simp [hy]));have h2:=h x (by simp);simp only [List.flatMap_cons,List.length_append,List.length_cons,Nat.mul_add];omega
theorem enB_ge {e:En} (h:1<=e.k.size):3<=(enB e).length:=by
 have h1:=(enc_len e.k.size).1;have h2:=(enc_len e.v.size).1;simp only [enB,List.length_append,ZU];omega
theorem kiB_ge {e:Ki} (h:1<=e.k.size):3<=(kiB e).length:=by
 have h1:=(enc_len e.k.size).1;have h2:=(enc_len e.i).1;simp only [kiB,List.length_append,ZU];omega
theorem pRaw_eq {b:List Int} (hb:InB b) (hl:b.length<=49152) :
  ((pRaw b).1=some []/\nodeE (pRaw b).2=0↔(ofRaw b).1=some []/\nodeE (ofRaw b).2=0)/\((pRaw b).1=some []/\nodeE (pRaw b).2=0->(pRaw b).2=(ofRaw b).2):=by
 unfold pRaw ofRaw;simp only;cases hr:Zr (some b) 20 with
 | mk lv s1 =>
  simp only
  -- both counts
  have key:((Zr s1 (mostOf s1))=Zr s1 16384)\/((Zr s1 (mostOf s1)).2=none/\∃ r c:_,Zr s1 16384=(c,some r)/\InB r/\r.length < 3 * c.toNat)\/((Zr s1 (mostOf s1)).2=none/\(Zr s1 16384).2=none):=by
   cases s1 with
   | none=>left;rfl
   | some l =>
    obtain ⟨a1,_,_⟩:=rnum_some hr;have bl:InB l:=by rw [a1] at hb;exact hb.right
    have hll:l.length<=49152:=by
     have:=congrArg List.length a1;rw [List.length_append] at this;omega
    have hm:mostOf (some l)=((l.length / 3:Nat):Int):=rfl;rw [hm];unfold Zr;simp only;rcases num1_cases l with ⟨n,r,h1,h2,h3⟩ | ⟨_,h3⟩
    ·rw [h3];simp only;have hlr:=congrArg List.length h2;rw [List.length_append] at hlr;have hen:=(enc_len n).1;by_cases q:(n:Int)<=((l.length / 3:Nat):Int)
     ·left
      rw [if_pos q,if_pos (by omega)]
     ·rw [if_neg q];by_cases q2:(n:Int)<=16384
      ·right;left
       rw [if_pos q2];refine ⟨rfl,r,n,rfl,?_,?_⟩
       ·rw [h2] at bl;exact bl.right
       ·rw [Int.toNat_natCast];omega
      ·right;right
       rw [if_neg q2];exact ⟨rfl,rfl⟩
    ·rw [h3];left;rfl
  have stuck:∀ (f:Int) k,(ofK f none k).1=none:=by
   intro f k;have:=ofK_stuck (lv:=f) (st:=none) (k:=0) rfl k;simp only [Nat.zero_add] at this;rw [this];rfl
  have pstuck:∀ k,(ZO enS none k).2=none/\(ZO kiS none k).2=none:=by
   intro k;refine ⟨?_,?_⟩
   ·rw [<- (each_es none k).1];exact stuck 0 k
   ·rw [<- (each_ks (lv:=1) (by omega) none k).1];exact stuck 1 k
  rcases key with h | ⟨h,r,c,h2,h3,h4⟩ | ⟨h,h2⟩
  ·by_cases h0:lv=0
   ·subst h0;rw [if_pos rfl];unfold Zx;simp only;rw [h];obtain ⟨i1,i2⟩:=each_es (Zr s1 16384).2 (Zr s1 16384).1.toNat;generalize Zr s1 16384=q at *;by_cases hn:(ofK 0 q.2 q.1.toNat).1=none
    ·rw [<- i1,hn];simp
    ·obtain ⟨j1,j2⟩:=i2 hn;rw [<- i1,<- j1,j2];exact ⟨Iff.rfl,fun _=>rfl⟩
   ·rw [if_neg h0];unfold Zx;simp only;rw [h];obtain ⟨i1,i2⟩:=each_ks h0 (Zr s1 16384).2 (Zr s1 16384).1.toNat;generalize Zr s1 16384=q at *;by_cases hn:(ofK lv q.2 q.1.toNat).1=none
    ·rw [<- i1,hn];simp
    ·obtain ⟨j1,j2⟩:=i2 hn;rw [<- i1,<- j1,j2];exact ⟨Iff.rfl,fun _=>rfl⟩
  ·-- too many are told: both fail
   have hno:¬ ((ofK lv (some r) c.toNat).1=some []/\nodeE ⟨lv,(ofK lv (some r) c.toNat).2.1,(ofK lv (some r) c.toNat).2.2⟩=0):=by
    rintro ⟨q1,q2⟩;obtain ⟨g1,g2,_⟩:=nodeE_ok q2;simp only at g1 g2;obtain ⟨k1,k2,k3,k4⟩:=ofK_back h3 c.toNat q1;have l1:=flat_ge (f:=enB) (c:=3) (fun e he=>enB_ge (g1 e he).1.1);have l2:=flat_ge (f:=kiB) (c:=3) (fun e he=>kiB_ge (g2 e he).1.1);have l3:=congrArg List.length k1;simp only [List.length_append,List.length_nil] at l3;omega
   have hpn:∀ lvv:Int,(if lvv=0 then ((Zx enS s1).2,(⟨0,(Zx enS s1).1,[]⟩:Nd)) else ((Zx kiS s1).2,⟨lvv,[],(Zx kiS s1).1⟩)).1=none:=by
    intro lvv;unfold Zx;rw [h];split
    ·exact (pstuck _).1
    ·exact (pstuck _).2
   rw [h2];simp only;have hp1:=hpn lv;generalize (if lv=0 then ((Zx enS s1).2,(⟨0,(Zx enS s1).1,[]⟩:Nd)) else ((Zx kiS s1).2,⟨lv,[],(Zx kiS s1).1⟩))=z at *;rw [hp1];exact ⟨⟨fun q=>absurd q.1 (by simp),fun q=>absurd q hno⟩,fun q=>absurd q.1 (by simp)⟩
  ·have hpn:∀ lvv:Int,(if lvv=0 then ((Zx enS s1).2,(⟨0,(Zx enS s1).1,[]⟩:Nd)) else ((Zx kiS s1).2,⟨lvv,[],(Zx kiS s1).1⟩)).1=none:=by
    intro lvv;unfold Zx;rw [h];split
    ·exact (pstuck _).1
    ·exact (pstuck _).2
   rw [h2,stuck];have hp1:=hpn lv;generalize (if lv=0 then ((Zx enS s1).2,(⟨0,(Zx enS s1).1,[]⟩:Nd)) else ((Zx kiS s1).2,⟨lv,[],(Zx kiS s1).1⟩))=z at *;rw [hp1];exact ⟨⟨fun q=>absurd q.1 (by simp),fun q=>absurd q.1 (by simp)⟩,fun q=>absurd q.1 (by simp)⟩
theorem nodeOf_yes {b:List Int} (hb:InB b) (hl:b.length<=49152) (h:(pRaw b).1=some []/\nodeE (pRaw b).2=0):nodeOf b=((pRaw b).2,0):=by
 obtain ⟨e1,e2⟩:=pRaw_eq hb hl;have h2:=e1.1 h;unfold nodeOf;rw [if_pos ⟨h2.1,by omega,h2.2⟩,e2 h]
theorem nodeOf_no {b:List Int} (hb:InB b) (hl:b.length<=49152) (h:¬ ((pRaw b).1=some []/\nodeE (pRaw b).2=0)):nodeOf b=(⟨0,[],[]⟩,90):=by
 obtain ⟨e1,e2⟩:=pRaw_eq hb hl;unfold nodeOf;rw [if_neg (fun q=>h (e1.2 ⟨q.1,q.2.2⟩))]
end Go.Proofs.YtdhebpnkfookcaaGreat
