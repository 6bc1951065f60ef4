import Derived.Test.YtdhebpnkfookcaaGreatSM29
import Derived.Test.YtdhebpnkfookcaaGreatSM23
set_option maxRecDepth 100000
set_option maxHeartbeats 2000000
namespace Go.Proofs.YtdhebpnkfookcaaGreat
open Go.RowKit Apo
theorem eachK_en (st:St):∀ k,∀ e ∈ (ZO enS st k).1,e.k.size<=40/\e.v.size<=200
 | 0=>by simp [ZO]
 | k+1=>by
  intro e he;simp only [ZO] at he;rcases List.mem_append.1 he with q | q
  ·exact eachK_en st k e q
  ·simp at q
   subst q;generalize (ZO enS st k).2=s;have h1:=rtext_len s (most:=40) (by omega);have h2:=rtext_len (ZF s 40).2 (most:=200) (by omega);unfold enS;simp only [strOfNums_size];omega
theorem eachK_ki (st:St):∀ k,∀ e ∈ (ZO kiS st k).1,e.k.size<=40/\e.i < 18446744073709551616
 | 0=>by simp [ZO]
 | k+1=>by
  intro e he;simp only [ZO] at he;rcases List.mem_append.1 he with q | q
  ·exact eachK_ki st k e q
  ·simp at q
   subst q;generalize (ZO kiS st k).2=s;have h1:=rtext_len s (most:=40) (by omega);have h3:=rnum_bd (ZF s 40).2 (most:=18446744073709551615) (by omega);unfold kiS;simp only [strOfNums_size];omega
theorem eachOf_len {α:Type} (f:St->α × St) (st:St) {l:Nat} (h:(st.getD []).length<=l):(Zx f st).1.length<=l:=by
 unfold Zx;rw [eachK_len];have:=rnum_bd st (most:=mostOf st) (by unfold mostOf;omega);unfold mostOf at this ⊢;omega
theorem rnum_left (b:List Int) (most:Int):((Zr (some b) most).2.getD []).length<=b.length:=by
 cases h:Zr (some b) most with
 | mk n st =>
  cases st with
  | none=>simp
  | some r =>
   have:=congrArg List.length (rnum_some h).1;rw [List.length_append] at this;simp only [Option.getD_some];omega
theorem fin_rn {W:World} {g:Nat} {c0 c1 c2:Value} {tmps:Array Value} {Q:Ending->World->Prop} (k:Ob W g 90 [c0,c1,c2]) (h4:tmps.getD 2 undef=.pointer (some ⟨g,0,none⟩)) (hq:Q (.returned (.agg #[c0,c1,c2])) W) :
  bodyPost Tryz.prog Tryz.f116 Q Exit.ret { tmps:=tmps,defers:=[] } W:=by
 have hl:=run_loadVar_row (P:=Tryz.prog) W g 90 90 #[c0,c1,c2] (0,0) _ k Tryz.underlying90 rfl (by rw [size_node];rfl);have h4':tmps[2]?.getD undef=.pointer (some ⟨g,0,none⟩):=by simpa using h4
 refine bodyPost_ret (v:=.agg #[c0,c1,c2]) ?_ rfl hq;simp [results,Tryz.results116,asAddr,h4',hl]
def RnP (w:World) (p g:Nat) (q:St × Nd) (e:Ending) (w':World):Prop:=∃ x:NdA,x.n=q.2/\OkN w' x/\NewN w.heap.size x/\e=.returned (.agg x.cells.toArray)/\Rr w' p 224 g q.1/\w.grownBy w' (some p)
theorem rnode_p (p g:Nat) (b:List Int) (w:World) (h:Rr w p 224 g (some b)) (hg:g < w.heap.size) (hl:b.length<=49152) :
  Calls Tryz.prog 116 #[.agg #[.pointer (some ⟨p,0,none⟩)]] w (RnP w p g (pRaw b)):=by
 have hp:=h.lt;obtain ⟨W0,hW0⟩:∃ W0,W0=(w.alloc (.cells #[.pointer (some ⟨p,0,none⟩)] 201)).alloc (.cells #[.int .i64 0,.slice none 0 0,.slice none 0 0] 90):=⟨_,rfl⟩;have kb:Ob W0 w.heap.size 201 [.pointer (some ⟨p,0,none⟩)]:=by rw [hW0];exact (Ob.new w [.pointer (some ⟨p,0,none⟩)] 201).alloc _
 have kr:Ob W0 (w.heap.size+1) 90 [.int .i64 0,.slice none 0 0,.slice none 0 0]:=by
  have:=Ob.new (w.alloc (.cells #[.pointer (some ⟨p,0,none⟩)] 201)) [.int .i64 0,.slice none 0 0,.slice none 0 0] 90;simp only [World.size_alloc] at this;rw [hW0];exact this
 have b0:Below w.heap.size w W0:=by rw [hW0];exact ((Below.refl _ w).alloc (Nat.le_refl _) _).alloc (by simp) _
 have s0:W0.heap.size=w.heap.size+2:=by rw [hW0];simp
 have HC1:=Za (rdnum_any p g (some b) 20 W0 (h.old b0));have hlv:=rnum_bd (some b) (most:=20) (by omega);have hlen:=rnum_left b 20;obtain ⟨Z,hZ⟩:∃ Z,Z=pRaw b:=⟨_,rfl⟩;rw [<- hZ];unfold pRaw at hZ;obtain ⟨lv,hLV⟩:∃ lv,lv=(Zr (some b) 20).1:=⟨_,rfl⟩;obtain ⟨s1,hs1⟩:∃ s1,s1=(Zr (some b) 20).2:=⟨_,rfl⟩;rw [<- hLV] at HC1 hlv hZ;rw [<- hs1] at HC1 hlen hZ;have HZ:=Za hZ;have HKB:=Za kb;have HKR:=Za kr;have HB0:=Za b0;have hwl:IntKind.i64.wrap lv=lv:=by rw [IntKind.wrap_i64];omega
 have c0:=kb.cell 0;simp only [List.getElem?_cons_zero] at c0;rw [hW0] at c0 HC1;clear h kb kr b0 hLV hs1 hZ;go_enter Tryz.func116,Tryz.ntmps116
 go_wp2_with fail
 refine HC1.out.mono ?_;rintro e w1 ⟨rfl,r1,g1⟩;rw [<- hW0] at g1;have z1:=g1.size;have kb1:=HKB.out.kept g1 (by intro e;have e2:=Option.some.inj e;omega);have kr1:=HKR.out.kept g1 (by intro e;have e2:=Option.some.inj e;omega);obtain ⟨W1,hW1⟩:∃ W1,W1=w1.alloc (.cells #[.int .i64 lv,.slice none 0 0,.slice none 0 0] 90):=⟨_,rfl⟩;have bw:Below w1.heap.size w1 W1:=by rw [hW1];exact (Below.refl _ _).alloc (Nat.le_refl _) _
 have sw:W1.heap.size=w1.heap.size+1:=by rw [hW1];simp
 have kn:Ob W1 w1.heap.size 90 [.int .i64 lv,.slice none 0 0,.slice none 0 0]:=by rw [hW1];exact Ob.new w1 [.int .i64 lv,.slice none 0 0,.slice none 0 0] 90
 have kb2:=kb1.old bw;have kr2:=kr1.old bw;have G1:w.grownBy W1 (some p):=Ze (Ze (Zm (some p) HB0.out) g1) (Zm (some p) bw);have r2:=r1.old bw;have x0:=kb2.cell 0;have n0:=kn.cell 0;simp only [List.getElem?_cons_zero] at x0 n0;obtain ⟨qn,hqn⟩:∃ qn,qn=w1.heap.size:=⟨_,rfl⟩;rw [<- hqn] at kn;obtain ⟨qr,hqr⟩:∃ qr,qr=w.heap.size+1:=⟨_,rfl⟩;rw [<- hqr] at kr2;have hq1:qn≠qr:=by omega
 have hq2:w.heap.size<=qn:=by omega
 have hq3:w.heap.size<=qr:=by omega
 have hq4:qn≠p:=by omega
 have hq5:qr≠p:=by omega
 have hq6:qn≠g:=by omega
 have hq7:qr≠g:=by omega
 have hgW:g < W1.heap.size:=by omega
 have HKN:=Za kn;have HKR2:=Za kr2;have HG1:=Za G1;rw [hW1] at x0 n0;by_cases h0:lv=0
 ·subst h0;have HC2:=Za (each_En p g s1 W1 r2 hgW (by omega));have hel:=eachOf_len enS s1 (l:=b.length) (by omega);have hsz:∀ e ∈ (Zx enS s1).1,e.k.size<=40/\e.v.size<=200:=by unfold Zx;exact eachK_en _ _
  have hZ:=HZ.out;rw [if_pos rfl] at hZ;obtain ⟨q,hq⟩:∃ q,q=Zx enS s1:=⟨_,rfl⟩;rw [<- hq] at HC2 hel hsz hZ;have HZ2:=Za hZ;have HSZ:=Za hsz;rw [hW1] at HC2;clear hq hsz hZ kn kr2 G1 r2 r1 g1 kb1 kr1 kb2 bw HC1 HKB HKR HB0;have HQN:=Za hqn;rw [<- hqr];clear hqn hqr;go_wp2_with fail
  refine HC2.out.mono ?_;rintro e w2 ⟨v,rfl,row2,r3,g3⟩;rw [<- hW1] at g3 row2;rw [<- HQN.out];clear HQN;have k3:=HKN.out.kept g3 (by intro e;have e2:=Option.some.inj e;omega);have kr3:=HKR2.out.kept g3 (by intro e;have e2:=Option.some.inj e;omega);obtain ⟨va,vc,hv,hvc,hvm,hvn,_⟩:=row2.form;subst hv;have m0:=k3.cell 0;have m1:=k3.cell 1;have m2:=k3.cell 2;have mf1:=k3.frozen 1;have t0:=kr3.cell 0;have t1:=kr3.cell 1;have t2:=kr3.cell 2;have tf0:=kr3.frozen 0;have tf1:=kr3.frozen 1;have tf2:=kr3.frozen 2;simp only [List.getElem?_cons_zero,List.getElem?_cons_succ] at m0 m1 m2 t0 t1 t2;obtain ⟨n,hn⟩:∃ n,n=q.1.length:=⟨_,rfl⟩;obtain ⟨w3,hw3⟩:∃ w3,w3=(((w2.setCell ⟨qn,1,none⟩ (.slice va n vc)).setCell ⟨qr,0,none⟩ (.int .i64 0)).setCell ⟨qr,1,none⟩ (.slice va n vc)).setCell ⟨qr,2,none⟩ (.slice none 0 0):=⟨_,rfl⟩
  have o3:Onl (fun i=>i=qn\/i=qr) w2 w3:=by
   rw [hw3];exact ((((Onl.refl (fun i=>i=qn\/i=qr) w2).set (p:=qn) (.inl (.inl rfl)) _).set (p:=qr) (.inl (.inr rfl)) _).set (p:=qr) (.inl (.inr rfl)) _).set (p:=qr) (.inl (.inr rfl)) _
  have kr4:Ob w3 qr 90 [.int .i64 0,.slice va n vc,.slice none 0 0]:=by
   rw [hw3];exact (((kr3.set_other (Ne.symm hq1) _).set 0 _).set 1 _).set 2 _
  have ap1:=Row.apartOb row2 k3 (by decide);have ap2:=Row.apartOb row2 kr3 (by decide)
  have row3:=row2.onl o3 (fun i hi z=>by
   rcases z with z | z
   ·exact ap1 (by rw [hi,z])
   ·exact ap2 (by rw [hi,z]))
  have r4:=r3.onl o3 (fun z=>by omega) (fun z=>by omega);have g4:=grew_onl (Ze HG1.out g3) o3 (fun i z=>by omega);obtain ⟨va',vc',hv',hrd,hlc,hcm,hno⟩:=rd_ecells row3;injection hv' with e1 e2 e3
  subst e1 e3;rw [<- hn] at hlc
  have HF:Hid (RnP w p g Z (.returned (.agg #[.int .i64 0,.slice va n vc,.slice none 0 0])) w3):=by
   rw [HZ2.out];refine Za ⟨⟨⟨0,q.1,[]⟩,va,vc,none,0⟩,rfl,⟨hrd,fun i e hi=>by simp at hi,hno,fun _=>rfl,by simp only;omega,by simp,by simp only;omega,by simp [maxLen],by simp only;omega,fun e he=>?_,by simp⟩,⟨fun y hy=>(by obtain ⟨va2,vc2,hv2,_,_,_,hb2⟩:=row3.form;cases hv2;obtain ⟨g2,rfl,hg2⟩:=hb2 y hy;simp only at hg2 ⊢;omega),fun y hy=>(by cases hy)⟩,by rw [hn];rfl,r4,g4⟩;have:=HSZ.out e he;unfold maxLen;omega
  have HKR4:=Za kr4;rw [<- hn];rw [hw3] at HF HKR4;clear row2 r3 g3 k3 kr3 o3 kr4 ap1 ap2 row3 r4 g4 hrd hn hw3 e2 HC2 hno;go_wp2;exact fin_rn HKR4.out rfl HF.out
 ·have d0:(lv == 0)=false:=by simpa using h0
  have HC2:=Za (each_Ki p g s1 W1 r2 hgW (by omega));have hel:=eachOf_len kiS s1 (l:=b.length) (by omega);have hsz:∀ e ∈ (Zx kiS s1).1,e.k.size<=40/\e.i < 18446744073709551616:=by unfold Zx;exact eachK_ki _ _
  have hZ:=HZ.out;rw [if_neg h0] at hZ;obtain ⟨q,hq⟩:∃ q,q=Zx kiS s1:=⟨_,rfl⟩;rw [<- hq] at HC2 hel hsz hZ;have HZ2:=Za hZ;have HSZ:=Za hsz;rw [hW1] at HC2;clear hq hsz hZ kn kr2 G1 r2 r1 g1 kb1 kr1 kb2 bw HC1 HKB HKR HB0;have HQN:=Za hqn;rw [<- hqr];clear hqn hqr h0;go_wp2_with fail
  refine HC2.out.mono ?_;rintro e w2 ⟨v,rfl,row2,r3,g3⟩;rw [<- hW1] at g3 row2;rw [<- HQN.out];clear HQN;have k3:=HKN.out.kept g3 (by intro e;have e2:=Option.some.inj e;omega);have kr3:=HKR2.out.kept g3 (by intro e;have e2:=Option.some.inj e;omega);obtain ⟨va,vc,hv,hvc,hvm,hvn,_⟩:=row2.form;subst hv;have m0:=k3.cell 0;have m1:=k3.cell 1;have m2:=k3.cell 2;have mf1:=k3.frozen 2;have t0:=kr3.cell 0;have t1:=kr3.cell 1;have t2:=kr3.cell 2;have tf0:=kr3.frozen 0;have tf1:=kr3.frozen 1;have tf2:=kr3.frozen 2;simp only [List.getElem?_cons_zero,List.getElem?_cons_succ] at m0 m1 m2 t0 t1 t2;obtain ⟨n,hn⟩:∃ n,n=q.1.length:=⟨_,rfl⟩;obtain ⟨w3,hw3⟩:∃ w3,w3=(((w2.setCell ⟨qn,2,none⟩ (.slice va n vc)).setCell ⟨qr,0,none⟩ (.int .i64 lv)).setCell ⟨qr,1,none⟩ (.slice none 0 0)).setCell ⟨qr,2,none⟩ (.slice va n vc):=⟨_,rfl⟩
  have o3:Onl (fun i=>i=qn\/i=qr) w2 w3:=by
   rw [hw3];exact ((((Onl.refl (fun i=>i=qn\/i=qr) w2).set (p:=qn) (.inl (.inl rfl)) _).set (p:=qr) (.inl (.inr rfl)) _).set (p:=qr) (.inl (.inr rfl)) _).set (p:=qr) (.inl (.inr rfl)) _
  have kr4:Ob w3 qr 90 [.int .i64 lv,.slice none 0 0,.slice va n vc]:=by
   rw [hw3];exact (((kr3.set_other (Ne.symm hq1) _).set 0 _).set 1 _).set 2 _
  have ap1:=Row.apartOb row2 k3 (by decide);have ap2:=Row.apartOb row2 kr3 (by decide)
  have row3:=row2.onl o3 (fun i hi z=>by
   rcases z with z | z
   ·exact ap1 (by rw [hi,z])
   ·exact ap2 (by rw [hi,z]))
  have r4:=r3.onl o3 (fun z=>by omega) (fun z=>by omega);have g4:=grew_onl (Ze HG1.out g3) o3 (fun i z=>by omega);obtain ⟨va',vc',hv',hrd,hlc,hcm,hno⟩:=rd_kcells row3;injection hv' with e1 e2 e3
  subst e1 e3;rw [<- hn] at hlc
  have HF:Hid (RnP w p g Z (.returned (.agg #[.int .i64 lv,.slice none 0 0,.slice va n vc])) w3):=by
   rw [HZ2.out];refine Za ⟨⟨⟨lv,[],q.1⟩,none,0,va,vc⟩,rfl,⟨fun i e hi=>by simp at hi,hrd,fun _=>rfl,hno,by simp,by simp only;omega,by simp [maxLen],by simp only;omega,by simp only;omega,by simp,fun e he=>?_⟩,⟨fun y hy=>(by cases hy),fun y hy=>(by obtain ⟨va2,vc2,hv2,_,_,_,hb2⟩:=row3.form;cases hv2;obtain ⟨g2,rfl,hg2⟩:=hb2 y hy;simp only at hg2 ⊢;omega)⟩,by rw [hn];rfl,r4,g4⟩;have:=HSZ.out e he;unfold maxLen;omega
  have HKR4:=Za kr4;rw [<- hn];rw [hw3] at HF HKR4;clear row2 r3 g3 k3 kr3 o3 kr4 ap1 ap2 row3 r4 g4 hrd hn hw3 e2 HC2 hno;go_wp2;exact fin_rn HKR4.out rfl HF.out
theorem fin_ofN {W:World} {g:Nat} {c0 c1 c2:Value} {er:Int} {tmps:Array Value} {Q:Ending->World->Prop} (k:Ob W g 90 [c0,c1,c2]) (h4:tmps.getD 2 undef=.pointer (some ⟨g,0,none⟩)) (h5:tmps.getD 3 undef=.int .i64 er) (hq:Q (.returned (.tuple #[.agg #[c0,c1,c2],.int .i64 er])) W) :
  bodyPost Tryz.prog Tryz.f73 Q Exit.ret { tmps:=tmps,defers:=[] } W:=by
 have hl:=run_loadVar_row (P:=Tryz.prog) W g 90 90 #[c0,c1,c2] (0,0) _ k Tryz.underlying90 rfl (by rw [size_node];rfl);have h4':tmps[2]?.getD undef=.pointer (some ⟨g,0,none⟩):=by simpa using h4
 have h5':tmps[3]?.getD undef=.int .i64 er:=by simpa using h5
 refine bodyPost_ret (v:=.tuple #[.agg #[c0,c1,c2],.int .i64 er]) ?_ rfl hq;simp [results,Tryz.results73,asAddr,h4',h5',hl]
theorem RdEn.onl {F:Nat->Prop} {w w':World} {a:Option Addr} {l:List En} (h:RdEn w a l) (o:Onl F w w') (hF:∀ (g of:Nat) (s:ByteArray),w.cell? ⟨g,of,none⟩=some (.string s)->¬ F g):RdEn w' a l:=by
 intro i e hi;obtain ⟨g,of,h1,h2,h3⟩:=h i e hi;have hg:=World.block_lt_of_cell? _ _ h2;have hb:=o.block g hg (hF g _ _ h2);exact ⟨g,of,h1,(World.cell?_of_block (a:=⟨g,of+i * 2,none⟩) hb).trans h2,(World.cell?_of_block (a:=⟨g,of+i * 2+1,none⟩) hb).trans h3⟩
theorem RdKi.onl {F:Nat->Prop} {w w':World} {a:Option Addr} {l:List Ki} (h:RdKi w a l) (o:Onl F w w') (hF:∀ (g of:Nat) (s:ByteArray),w.cell? ⟨g,of,none⟩=some (.string s)->¬ F g):RdKi w' a l:=by
 intro i e hi;obtain ⟨g,of,h1,h2,h3⟩:=h i e hi;have hg:=World.block_lt_of_cell? _ _ h2;have hb:=o.block g hg (hF g _ _ h2);exact ⟨g,of,h1,(World.cell?_of_block (a:=⟨g,of+i * 2,none⟩) hb).trans h2,(World.cell?_of_block (a:=⟨g,of+i * 2+1,none⟩) hb).trans h3⟩
theorem OkN.onl {F:Nat->Prop} {w w':World} {x:NdA} (h:OkN w x) (o:Onl F w w') (hF:∀ (g of:Nat) (s:ByteArray),w.cell? ⟨g,of,none⟩=some (.string s)->¬ F g):OkN w' x:={ h with es:=RdEn.onl h.es o hF,ks:=RdKi.onl h.ks o hF }
theorem no_str {w:World} {q:Nat} {t:TypeId} {z:Int} {a c:Option Addr} {n m k l:Nat} (h:Ob w q t [.int .i64 z,.slice a n m,.slice c k l]) (g of:Nat) (s:ByteArray) (hc:w.cell? ⟨g,of,none⟩=some (.string s)):¬ g=q:=by
 intro e;subst e;rw [h.cell of] at hc;match of,hc with
 | 0,hc=>simp at hc
 | 1,hc=>simp at hc
 | 2,hc=>simp at hc
 | of+3,hc=>simp at hc
def zeroN:NdA:=⟨⟨0,[],[]⟩,none,0,none,0⟩
theorem okN_zero (w:World):OkN w zeroN:=⟨fun i e hi=>by simp [zeroN] at hi,fun i e hi=>by simp [zeroN] at hi,fun _=>rfl,fun _=>rfl,by simp [zeroN],by simp [zeroN],by simp [zeroN,maxLen],by simp [zeroN,maxLen],by simp [zeroN],by simp [zeroN],by simp [zeroN]⟩
theorem of_node (w:World) (a:Option Addr) (cap:Nat) (b:List Int) (hr:Rd .u8 w a b) (hn:a=none->cap=0) (hb:InB b) (hl:b.length<=49152) :
  Calls Tryz.prog 73 #[.slice a b.length cap] w (NoP w (nodeOf b).1 (nodeOf b).2):=by
 have HY:=Za (nodeOf_yes hb hl);have HX:=Za (nodeOf_no hb hl)
 have hpl:(pRaw b).2.es.length<=1000000/\(pRaw b).2.ks.length<=1000000:=by
  unfold pRaw;have h1:=eachOf_len enS (Zr (some b) 20).2 (l:=b.length) (rnum_left b 20);have h2:=eachOf_len kiS (Zr (some b) 20).2 (l:=b.length) (rnum_left b 20);split
  ·exact ⟨by simp only;omega,by simp⟩
  ·exact ⟨by simp,by simp only;omega⟩
 obtain ⟨W0,hW0⟩:∃ W0,W0=w.alloc (.cells #[.int .i64 0,.slice none 0 0,.slice none 0 0] 90):=⟨_,rfl⟩;have b0:Below w.heap.size w W0:=by rw [hW0];exact (Below.refl _ w).alloc (Nat.le_refl _) _
 have s0:W0.heap.size=w.heap.size+1:=by rw [hW0];simp
 have k0:Ob W0 w.heap.size 90 [.int .i64 0,.slice none 0 0,.slice none 0 0]:=by rw [hW0];exact Ob.new w [.int .i64 0,.slice none 0 0,.slice none 0 0] 90
 have HC1:=Za (read_any a cap b W0 (hr.below b0) hn hb (by omega));have HC2:=Za (fun (p g:Nat) (W:World) (h:Rr W p 224 g (some b)) (hg:g < W.heap.size)=>rnode_p p g b W h hg hl);obtain ⟨nb,hnb⟩:∃ nb,nb=b.length:=⟨_,rfl⟩;obtain ⟨PR,hPR⟩:∃ PR,PR=pRaw b:=⟨_,rfl⟩;obtain ⟨NO,hNO⟩:∃ NO,NO=nodeOf b:=⟨_,rfl⟩;rw [<- hPR] at HC2 HY HX hpl;rw [<- hNO] at HY HX ⊢;rw [<- hnb] at HC1 hl ⊢;have HK0:=Za k0;have HB0:=Za b0;have d1:decide ((131072:Int) < (nb:Int))=false:=by simp;omega
 have d2:decide (131072 < nb)=false:=by simp;omega
 rw [hW0] at HC1;clear hr hn hb hnb hPR hNO k0 b0;go_enter Tryz.func73,Tryz.ntmps73
 go_wp2_with fail
 refine HC1.out.mono ?_;rintro e w1 ⟨p,g,rfl,r1,p1,p2,p3,p4,b1⟩;rw [<- hW0] at p1 p2 b1;obtain ⟨W1,hW1⟩:∃ W1,W1=w1.alloc (.cells #[.pointer (some ⟨p,0,none⟩)] 201):=⟨_,rfl⟩;have bw:Below w1.heap.size w1 W1:=by rw [hW1];exact (Below.refl _ _).alloc (Nat.le_refl _) _
 have sw:W1.heap.size=w1.heap.size+1:=by rw [hW1];simp
 have z1:=b1.size;have kq:Ob W1 w1.heap.size 201 [.pointer (some ⟨p,0,none⟩)]:=by rw [hW1];exact Ob.new w1 [.pointer (some ⟨p,0,none⟩)] 201
 have k1:=(HK0.out.old b1).old bw;have B1:Below W0.heap.size W0 W1:=b1.trans (bw.mono z1);have HC3:=Za (HC2.out p g W1 (r1.old bw) (by omega));have c0:=kq.cell 0;simp only [List.getElem?_cons_zero] at c0;have HKQ:=Za kq;have HK1:=Za k1;have HB1:=Za B1;rw [hW1] at HC3 c0;clear HC1 HC2 r1 b1 bw kq k1 B1;go_wp2_with fail
 refine HC3.out.mono ?_;rintro e w2 ⟨x,hx,ok,nw,rfl,r2,g2⟩;rw [<- hW1] at g2 nw;have HNW:=Za nw;clear nw;have z2:=g2.size;have hnwl:w.heap.size<=W1.heap.size:=by omega
 have kq2:=HKQ.out.kept g2 (by intro e;have e2:=Option.some.inj e;omega);have k2:=HK1.out.kept g2 (by intro e;have e2:=Option.some.inj e;omega);obtain ⟨W2,hW2⟩:∃ W2,W2=w2.alloc (.cells x.cells.toArray 90):=⟨_,rfl⟩;have bw:Below w2.heap.size w2 W2:=by rw [hW2];exact (Below.refl _ _).alloc (Nat.le_refl _) _
 have sw2:W2.heap.size=w2.heap.size+1:=by rw [hW2];simp
 have kx:Ob W2 w2.heap.size 90 x.cells:=by rw [hW2];exact Ob.new w2 x.cells 90
 have kq3:=kq2.old bw;have k3:=k2.old bw;have ok3:=ok.below bw;have B2:Below w.heap.size w W2:=HB0.out.trans (((HB1.out.mono (by omega)).grown g2 (by omega) (fun j hj=>by cases hj;omega)).trans (bw.mono (by omega)));have HCD:=Za (rddone_any p g PR.1 W2 (r2.old bw));have HCR:=Za (right_any W2 x ok3 (by rw [hx];exact hpl.1) (by rw [hx];exact hpl.2));rw [hx] at HCR;have e0:=kq3.cell 0;simp only [List.getElem?_cons_zero] at e0;have HKX:=Za kx;have HK3:=Za k3;have HB2:=Za B2;have HOK:=Za ok3;have HXN:=Za hx;obtain ⟨qx,hqx⟩:∃ qx,qx=w2.heap.size:=⟨_,rfl⟩;have hqx2:w.heap.size < qx:=by omega
 have HQX:=Za hqx;rw [<- hqx] at HKX;obtain ⟨⟨lv,es,ks⟩,ea,ec,ka,kc⟩:=x;simp only [NdA.cells] at *;obtain ⟨ne,hne⟩:∃ ne,ne=es.length:=⟨_,rfl⟩;obtain ⟨nk,hnk⟩:∃ nk,nk=ks.length:=⟨_,rfl⟩;have HNE:=Za (And.intro hne hnk);rw [<- hne,<- hnk] at HKX HCR hW2 ⊢;rw [hW2] at HCD HCR e0;clear HC3 ok ok3 r2 g2 kq2 k2 bw kx kq3 k3 B2 hx hqx hne hnk;have HZ:Hid (∀ W:World,Below w.heap.size w W->NO=(⟨0,[],[]⟩,90)->NoP w NO.1 NO.2 (.returned (.tuple #[.agg #[.int .i64 0,.slice none 0 0,.slice none 0 0],.int .i64 90])) W):=Za (fun W hB e=>⟨zeroN,by rw [e];rfl,okN_zero W,⟨fun y hy=>(by cases hy),fun y hy=>(by cases hy)⟩,by rw [e];rfl,hB⟩);have t0:=HK3.out.cell 0;have t1:=HK3.out.cell 1;have t2:=HK3.out.cell 2;have tf0:=HK3.out.frozen 0;have tf1:=HK3.out.frozen 1;have tf2:=HK3.out.frozen 2;simp only [List.getElem?_cons_zero,List.getElem?_cons_succ] at t0 t1 t2;by_cases hd:PR.1=some []
 ·have hdd:decide (PR.1=some [])=true:=by simpa using hd
  rw [hdd] at HCD;go_wp2_with fail
  refine HCD.out.mono ?_;rintro e w3 ⟨rfl,rfl⟩;go_wp2_with fail
  refine HCR.out.mono ?_;rintro e w3 ⟨rfl,b3⟩;rw [<- hW2] at b3;have z3:=b3.size;rw [<- HQX.out];have kx3:=HKX.out.old b3;have k4:=HK3.out.old b3;have u0:=k4.cell 0;have u1:=k4.cell 1;have u2:=k4.cell 2;have uf0:=k4.frozen 0;have uf1:=k4.frozen 1;have uf2:=k4.frozen 2;have v0:=kx3.cell 0;have v1:=kx3.cell 1;have v2:=kx3.cell 2;simp only [List.getElem?_cons_zero,List.getElem?_cons_succ] at u0 u1 u2 v0 v1 v2;have B3:Below w.heap.size w w3:=HB2.out.trans (b3.mono (by omega));obtain ⟨nE,hnE⟩:∃ nE,nE=nodeE PR.2:=⟨_,rfl⟩;rw [<- hnE] at HY HX ⊢;by_cases hz:nE=0
  ·subst hz;have hno:=HY.out ⟨hd,rfl⟩;obtain ⟨w4,hw4⟩:∃ w4,w4=((w3.setCell ⟨w.heap.size,0,none⟩ (.int .i64 lv)).setCell ⟨w.heap.size,1,none⟩ (.slice ea ne ec)).setCell ⟨w.heap.size,2,none⟩ (.slice ka nk kc):=⟨_,rfl⟩
   have o4:Onl (fun i=>i=w.heap.size) w3 w4:=by
    rw [hw4];exact (((Onl.refl (fun i=>i=w.heap.size) w3).set (p:=w.heap.size) (.inl rfl) _).set (p:=w.heap.size) (.inl rfl) _).set (p:=w.heap.size) (.inl rfl) _
   have kr4:Ob w4 w.heap.size 90 [.int .i64 lv,.slice ea ne ec,.slice ka nk kc]:=by
    rw [hw4];exact ((k4.set 0 _).set 1 _).set 2 _
   have HF:Hid (NoP w NO.1 NO.2 (.returned (.tuple #[.agg #[.int .i64 lv,.slice ea ne ec,.slice ka nk kc],.int .i64 0])) w4):=by
    refine Za ⟨_,?_,OkN.onl (HOK.out.below b3) o4 (no_str k4),⟨fun y hy=>Nat.le_trans hnwl (HNW.out.1 y hy),fun y hy=>Nat.le_trans hnwl (HNW.out.2 y hy)⟩,?_,Below.onl B3 o4 (fun i q=>by omega) (Nat.le_refl _)⟩
    ·rw [hno];exact HXN.out
    ·rw [hno,HNE.out.1,HNE.out.2];rfl
   have HKR:=Za kr4;rw [hw4] at HF HKR;clear o4 kr4 hw4 b3 kx3 k4 B3 hno hnE hd;go_wp2;exact fin_ofN HKR.out rfl rfl HF.out
  ·have hno:=HX.out (fun q=>hz q.2);have hz2:(nE != 0)=true:=by simpa using hz
   obtain ⟨w4,hw4⟩:∃ w4,w4=((w3.setCell ⟨w.heap.size,0,none⟩ (.int .i64 0)).setCell ⟨w.heap.size,1,none⟩ (.slice none 0 0)).setCell ⟨w.heap.size,2,none⟩ (.slice none 0 0):=⟨_,rfl⟩
   have o4:Onl (fun i=>i=w.heap.size) w3 w4:=by
    rw [hw4];exact (((Onl.refl (fun i=>i=w.heap.size) w3).set (p:=w.heap.size) (.inl rfl) _).set (p:=w.heap.size) (.inl rfl) _).set (p:=w.heap.size) (.inl rfl) _
   have kr4:Ob w4 w.heap.size 90 [.int .i64 0,.slice none 0 0,.slice none 0 0]:=by
    rw [hw4];exact ((k4.set 0 _).set 1 _).set 2 _
   have HF:=Za (HZ.out w4 (Below.onl B3 o4 (fun i q=>by omega) (Nat.le_refl _)) hno);have HKR:=Za kr4;rw [hw4] at HF HKR;clear o4 kr4 hw4 b3 kx3 k4 B3 hno hnE hd hz;go_wp2;exact fin_ofN HKR.out rfl rfl HF.out
 ·have hdd:decide (PR.1=some [])=false:=by simpa using hd
  rw [hdd] at HCD;have hno:=HX.out (fun q=>hd q.1);obtain ⟨w4,hw4⟩:∃ w4,w4=((W2.setCell ⟨w.heap.size,0,none⟩ (.int .i64 0)).setCell ⟨w.heap.size,1,none⟩ (.slice none 0 0)).setCell ⟨w.heap.size,2,none⟩ (.slice none 0 0):=⟨_,rfl⟩
  have o4:Onl (fun i=>i=w.heap.size) W2 w4:=by
   rw [hw4];exact (((Onl.refl (fun i=>i=w.heap.size) W2).set (p:=w.heap.size) (.inl rfl) _).set (p:=w.heap.size) (.inl rfl) _).set (p:=w.heap.size) (.inl rfl) _
  have kr4:Ob w4 w.heap.size 90 [.int .i64 0,.slice none 0 0,.slice none 0 0]:=by
   rw [hw4];exact ((HK3.out.set 0 _).set 1 _).set 2 _
  have HF:=Za (HZ.out w4 (Below.onl HB2.out o4 (fun i q=>by omega) (Nat.le_refl _)) hno);have HKR:=Za kr4;rw [hw4] at HF HKR;clear o4 kr4 hw4 hno hd;go_wp2_with fail
  refine HCD.out.mono ?_;rintro e w3 ⟨rfl,rfl⟩;rw [<- hW2];clear hW2;go_wp2;exact fin_ofN HKR.out rfl rfl HF.out
theorem RowsJ.lower {lo lo':Nat} {w:World} {v:Value} {rows:List (List Ki)} {vs:List Value} (h:RowsJ lo w v rows vs) (hl:lo'<=lo):RowsJ lo' w v rows vs :=
 ⟨h.row.mono (fun _ q=>Nat.le_trans hl q),h.len,fun i u r hu hr=>by obtain ⟨G,o,h1,h2,h3,h4,h5,h6⟩:=h.fin i u r hu hr;exact ⟨G,o,h1,h2,h3,h4,Nat.le_trans hl h5,h6⟩⟩
theorem split_En (a:Option Addr) (c:Nat) (l:List En) (w:World) (h:RdEn w a l) (hn:a=none->c=0) (hl:l.length<=1000000) (hz:∀ e ∈ l,e.k.size<=1099511627776) :
  Calls Tryz.prog 99 #[.slice a l.length c] w (SpoE w (Zd (fun e:En=>Zf 0 e.k) l)):=by
 have HC:=Za (rows_En a c l w h hn hl hz);generalize l.length=n at *;generalize Zd (fun e:En=>Zf 0 e.k) l=R at *;clear h hn hl hz;go_enter Tryz.func99,Tryz.ntmps99
 go_wp2_with fail
 refine HC.out.mono ?_;rintro e w1 ⟨v,vs,rfl,h1,h2⟩;have HX:Hid (SpoE w R (.returned v) w1):=Za ⟨v,vs,rfl,h1,h2⟩;clear h1 h2 HC;go_wp2;go_ret
 exact HX.out
theorem group_Ki (lv:Int) (a:Option Addr) (c:Nat) (l:List Ki) (w:World) (h:RdKi w a l) (hn:a=none->c=0) (hl:l.length<=1000000) (hz:∀ e ∈ l,e.k.size<=1099511627776) :
  Calls Tryz.prog 101 #[.int .i64 lv,.slice a l.length c] w (SpoJ w (Zd (fun e:Ki=>Zf lv e.k) l)):=by
 have bb:Below w.heap.size w (w.alloc (.cells #[.int .i64 lv] 3)):=(Below.refl _ _).alloc (Nat.le_refl _) _;have HC:=Za (rows_Ki lv w.heap.size a c l (w.alloc (.cells #[.int .i64 lv] 3)) ((Ob.new w [.int .i64 lv] 3).cell 0) (h.below bb) hn hl hz);have HBB:=Za bb;generalize l.length=n at *;generalize Zd (fun e:Ki=>Zf lv e.k) l=R at *;clear h hn hl hz bb;go_enter Tryz.func101,Tryz.ntmps101
 go_wp2_with fail
 refine HC.out.mono ?_;rintro e w1 ⟨v,vs,rfl,h1,h2⟩;have HX:Hid (SpoJ w R (.returned v) w1):=Za ⟨v,vs,rfl,h1.lower (by simp),HBB.out.trans (h2.mono (by simp))⟩;clear h1 h2 HC;go_wp2;go_ret
 exact HX.out
end Go.Proofs.YtdhebpnkfookcaaGreat
