import Derived.Test.YtdhebpnkfookcaaGreatSM11
set_option maxRecDepth 100000
set_option maxHeartbeats 4000000
namespace Apo
open Go Go.RowKit
structure Ck where
 at':Spn
 size:Nat
 sum:Nat
def Ck.val (c:Ck):Value:=.agg #[.int .i64 c.at'.a,.int .i64 c.at'.k,.int .i64 c.size,.int .u64 c.sum]
def bkM (sm:Nat->List Nat) (bv:Nat->Value):Nat->Option Value:=fun k=>if sm k=[] then none else some (bv k)
def ckM (ch:Nat->Option Ck):Nat->Option Value:=fun i=>(ch i).map Ck.val
theorem ckM_upd (ch:Nat->Option Ck) (i:Nat) (c:Option Ck):ckM (upd ch i c)=upd (ckM ch) i (c.map Ck.val):=by
 funext j
 unfold ckM upd;split <;> rfl
structure LExt (L:Nat->Nat) (w:World) (L':Nat->Nat) (w':World):Prop where
 old:∀ i,i < w.heap.size->L' i=L i
 lt:∀ i,L' i≠0->i < w'.heap.size
def tagd (L:Nat->Nat) (w w':World) (t:Nat):Nat->Nat:=fun i=>if w.heap.size<=i/\i < w'.heap.size then t else L i
theorem tagd_old {L:Nat->Nat} {w w':World} {t i:Nat} (h:i < w.heap.size):tagd L w w' t i=L i:=by unfold tagd;rw [if_neg (by omega)]
theorem tagd_new {L:Nat->Nat} {w w':World} {t i:Nat} (h:w.heap.size<=i) (h2:i < w'.heap.size):tagd L w w' t i=t:=by unfold tagd;rw [if_pos ⟨h,h2⟩]
theorem tagd_ext {L:Nat->Nat} {w w':World} (t:Nat) (hs:w.heap.size<=w'.heap.size) (h:∀ i,L i≠0->i < w.heap.size):LExt L w (tagd L w w' t) w' :=
 ⟨fun _ hi=>tagd_old hi,fun i hi=>by
  unfold tagd at hi;split at hi
  ·next q=>exact q.2
  ·have:=h i hi;omega⟩
end Apo
namespace Go.Proofs.YtdhebpnkfookcaaGreat
open Go.RowKit Apo
theorem hk64:Tryz.prog.underlying 27=some (.int .u64):=Tryz.underlying27
structure CSh (L:Nat->Nat) (w:World) (bc bs:Nat) (ch:Nat->Option Ck) (sm:Nat->List Nat):Prop where
 mc:Mp Tryz.prog 27 w bc (ckM ch)
 lc:L bc=10
 ls:L bs=11
 ms:∃ bv:Nat->Value,Mp Tryz.prog 27 w bs (bkM sm bv)/\∀ k,sm k≠[]->Row (fun g=>L g=12+k) w 27 1 (bv k) (sm k).length (Zj (sm k))
theorem CSh.onl {L L':Nat->Nat} {F:Nat->Prop} {w w':World} {bc bs:Nat} {ch:Nat->Option Ck} {sm:Nat->List Nat} (h:CSh L w bc bs ch sm) (o:Onl F w w') (hF:∀ i,10<=L i->¬ F i) (hL:∀ i,i < w.heap.size->L' i=L i):CSh L' w' bc bs ch sm:=by
 obtain ⟨mc,lc,ls,bv,ms,mr⟩:=h;refine ⟨mc.onl o (hF _ (by omega)),(hL _ mc.lt).trans lc,(hL _ ms.lt).trans ls,bv,ms.onl o (hF _ (by omega)),fun k hk=>?_⟩;have r:=mr k hk;have r2:=r.onl o (fun g hg=>hF g (by have:=r.2 g hg;omega));exact ⟨r2.1,fun g hg=>(hL g (r.lt g hg)).trans (r.2 g hg)⟩
theorem zero_ck:∀ W:World,(zeroValue 123).run Tryz.prog W=.ok (.agg #[.int .i64 0,.int .i64 0,.int .i64 0,.int .u64 0]) W:=fun _=>by kernel_rfl
theorem zero_sl:∀ W:World,(zeroValue 169).run Tryz.prog W=.ok (.slice none 0 0) W:=fun _=>by kernel_rfl
def AddP (L:Nat->Nat) (w:World) (bc bs:Nat) (ch:Nat->Option Ck) (sm:Nat->List Nat) (id:Nat) (c:Ck) (e:Ending) (w':World):Prop :=
 e=.returned (.tuple #[])/\∃ L' l',CSh L' w' bc bs (upd ch id (some c)) (upd sm c.sum l')/\l'.Perm (id :: sm c.sum)/\LExt L w L' w'/\Onl (fun i=>10<=L i) w w'
theorem cadd_any {L:Nat->Nat} {w:World} {bc bs:Nat} {ch:Nat->Option Ck} {sm:Nat->List Nat} (h:CSh L w bc bs ch sm) (hlt:∀ i,L i≠0->i < w.heap.size) {id:Nat} (hid:id < 18446744073709551616) (c:Ck) (hc:c.sum < 18446744073709551616)
  {K1 K2:List Nat} (h1:∀ i,ch i≠none->i ∈ K1) (l1:K1.length < maxLen) (h2:∀ k,sm k≠[]->k ∈ K2) (l2:K2.length < maxLen) (hb:(sm c.sum).length<=16384) :
  Calls Tryz.prog 58 #[.agg #[.map (some bc),.map (some bs)],.int .u64 id,c.val] w (AddP L w bc bs ch sm id c):=by
 obtain ⟨⟨sa,sk⟩,csize,csum⟩:=c;simp only at hc hb;have e0:Ck.val ⟨⟨sa,sk⟩,csize,csum⟩=.agg #[.int .i64 sa,.int .i64 sk,.int .i64 csize,.int .u64 csum]:=rfl;rw [e0];have k1:Ob ((w.alloc (.cells #[.map (some bc),.map (some bs)] 103)).alloc (.cells #[.int .i64 sa,.int .i64 sk,.int .i64 csize,.int .u64 csum] 123)) w.heap.size 103 [.map (some bc),.map (some bs)]:=(Ob.new w [.map (some bc),.map (some bs)] 103).alloc _
 have k2:Ob ((w.alloc (.cells #[.map (some bc),.map (some bs)] 103)).alloc (.cells #[.int .i64 sa,.int .i64 sk,.int .i64 csize,.int .u64 csum] 123)) (w.heap.size+1) 123 [.int .i64 sa,.int .i64 sk,.int .i64 csize,.int .u64 csum]:=by
  have:=Ob.new (w.alloc (.cells #[.map (some bc),.map (some bs)] 103)) [.int .i64 sa,.int .i64 sk,.int .i64 csize,.int .u64 csum] 123;simpa using this
 have bA:Below w.heap.size w ((w.alloc (.cells #[.map (some bc),.map (some bs)] 103)).alloc (.cells #[.int .i64 sa,.int .i64 sk,.int .i64 csize,.int .u64 csum] 123)):=((Below.refl _ w).alloc (Nat.le_refl _) _).alloc (by simp) _;have hA:=h.onl (L':=L) (Onl.ofBelow (O:=fun _=>False) bA) (fun _ _ q=>q) (fun _ _=>rfl);obtain ⟨w1,R1,m1,t1⟩:=hA.mc.store hk64 Tryz.underlying100 (L:=K1) (fun i hi=>h1 i (fun e=>hi (by unfold ckM;rw [e];rfl))) l1 hid (.agg #[.int .i64 sa,.int .i64 sk,.int .i64 csize,.int .u64 csum]);have kk1:=k1.onl (turned_onl t1) (fun e=>by have:=h.mc.lt;omega);have kk2:=k2.onl (turned_onl t1) (fun e=>by have:=h.mc.lt;omega);have O1:Onl (fun i=>10<=L i) w w1:=(Onl.ofBelow bA).grown t1.grown (fun j hj=>.inl (by cases hj;have:=h.lc;omega));have hsz:w.heap.size+2<=w1.heap.size:=by have:=t1.grown.size;simp at this;omega
 generalize hWA:(w.alloc (.cells #[.map (some bc),.map (some bs)] 103)).alloc (.cells #[.int .i64 sa,.int .i64 sk,.int .i64 csize,.int .u64 csum] 123)=WA at *;have hne:bc≠bs:=fun e=>by have:=h.lc;have:=h.ls;rw [e] at *;omega
 obtain ⟨bv,ms,mr⟩:=hA.ms;have ms1:=ms.onl (turned_onl t1) (fun e=>hne e.symm);have mr1:∀ k,sm k≠[]->Row (fun g=>L g=12+k) w1 27 1 (bv k) (sm k).length (Zj (sm k)):=fun k hk=>(mr k hk).onl (turned_onl t1) (fun g hg e=>by have:=(mr k hk).2 g hg;have:=h.lc;rw [e] at *;omega)
 have R2:=ms1.look hk64 Tryz.underlying101 zero_sl hc;obtain ⟨v,hv⟩:∃ v,v=(bkM sm bv csum).getD (.slice none 0 0):=⟨_,rfl⟩;rw [<- hv] at R2
 have rv:Row (fun g=>L g=12+csum) w1 27 1 v (sm csum).length (Zj (sm csum)):=by
  rw [hv];unfold bkM;by_cases q:sm csum=[]
  ·rw [if_pos q,q];exact Row.nil _ _ _ _
  ·rw [if_neg q];exact mr1 csum q
 have HV:=Za hv;clear hv;have CB:=bsearch_any rv (by omega) (id:Int);obtain ⟨va,vcap,hvf,hf1,hf2,hf3,hf4⟩:=rv.form;obtain ⟨W2,hW2⟩:∃ W2,W2=w1.drew.alloc (.cells #[.int .u64 id] 27):=⟨_,rfl⟩;have b2:Below w1.heap.size w1 W2:=by rw [hW2];exact ((Below.refl _ w1).drew).alloc (Nat.le_refl _) _
 have rv2:=rv.onl (Onl.ofBelow (O:=fun _=>False) b2) (fun _ _ q=>q);have kn:Ob W2 w1.heap.size 27 (Zj [id]):=by rw [hW2];exact Ob.new w1.drew [.int .u64 id] 27
 have rn:Row (fun _=>True) W2 27 1 (.slice (some ⟨w1.heap.size,0,none⟩) 1 1) [id].length (Zj [id]):=ob_row trivial kn (by simp) (by unfold maxLen;omega) (by simp [Zj]) (by simp [Zj]);have CI:∀ i:Nat,i<=(sm csum).length->_:=fun i hi=>uinsert_any rv2 rn (fun g hg e=>by have:=rv.lt g hg;simp only [Value.ownBlock,Option.some.injEq] at e;omega) hi (by simp) (by simp) hb
 have hHid:=Za CI;have HRV2:=Za rv2;have hCB:=Za CB;have hM1:=Za m1;have hMs:=Za ms1;have hMr:=Za mr1;have HO1:=Za O1;have Hh:=Za h;have HB2:=Za b2;have a1:=k1.cell 0;have a2:=k1.cell 1;have a3:=kk1.cell 1;have a4:=k2.cell 0;have a5:=k2.cell 1;have a6:=k2.cell 2;have a7:=k2.cell 3;have a8:=kk2.cell 3;simp only [List.getElem?_cons_zero,List.getElem?_cons_succ] at a1 a2 a3 a4 a5 a6 a7 a8;have hkk1:=Za kk1;have hkk2:=Za kk2;obtain ⟨n0,hn0⟩:∃ n0,n0=(sm csum).length:=⟨_,rfl⟩;rw [<- hn0] at hvf hf1 hb;have HN:=Za hn0;have HE0:=Za e0;have HWA:=Za hWA;have HW2:=Za hW2;have HL:=Za hlt;have HH2:=Za h2;subst hvf;clear CI rv2 CB m1 ms1 mr1 O1 h b2 k1 k2 kk1 kk2 rv hA ms mr bA t1 hn0 e0 hW2 hlt h1 h2 l1 kn rn;have HX:w.heap.size+2<=WA.heap.size:=by rw [<- hWA];simp
 go_enter Tryz.func58,Tryz.ntmps58
 go_wp2_with fail
 clear hWA;refine hCB.out.mono ?_;rintro e wx ⟨i,b,rfl,hi,rfl⟩;have CI2:=hHid.out i hi;have HCI:=Za CI2;clear CI2;rw [HW2.out] at HCI
 -- what lies behind the insertion and the store
 have HAF:Hid (∀ w3 u,Row (Gro (fun g=>L g=12+csum) W2 w3) w3 27 1 u ((sm csum).length+[id].length) (Zj ((sm csum).take i++([id]++(sm csum).drop i)))->W2.grownBy w3 (Value.slice va n0 vcap).ownBlock ->
   ∃ w4,(Instr.mapUpdate 101 (.map (some bs)) (.int .u64 (csum:Int)) u).run Tryz.prog w3=.ok () w4/\w3.cell? ⟨w.heap.size,1,none⟩=some (.map (some bs))/\w3.cell? ⟨w.heap.size+1,3,none⟩=some (.int .u64 csum)/\w4.cell? ⟨w.heap.size,1,none⟩=some (.map (some bs))/\w4.cell? ⟨w.heap.size+1,3,none⟩=some (.int .u64 csum)/\AddP L w bc bs ch sm id ⟨⟨sa,sk⟩,csize,csum⟩ (.returned (.tuple #[])) w4):=by
  refine Za (fun w3 u ru gu=>?_);have hs2:w1.heap.size<=W2.heap.size:=HB2.out.size;have O2:Onl (fun i=>L i=12+csum) w1 w3:=(Onl.ofBelow HB2.out).grown gu (fun j hj=>.inl (HRV2.out.2 j hj));have Hl:=Hh.out;have hbw:=Hl.ms;obtain ⟨_,hbw,_⟩:=hbw;have hbl:=hbw.lt;have hcl:=Hl.mc.lt
  have hnw:∀ j,w.heap.size<=j->L j=0:=fun j hj=>by
   by_cases q:L j=0
   ·exact q
   ·have:=HL.out j q;omega
  have ms3:=hMs.out.onl O2 (by rw [Hl.ls];omega);have mc3:=hM1.out.onl O2 (by rw [Hl.lc];omega);have o3:=hkk1.out.onl O2 (by rw [hnw _ (Nat.le_refl _)];omega);have p3:=hkk2.out.onl O2 (by rw [hnw _ (by omega)];omega);obtain ⟨w4,R4,m4,t4⟩:=ms3.store hk64 Tryz.underlying101 (L:=K2) (fun j hj=>HH2.out j (fun e=>hj (by unfold bkM;rw [if_pos e]))) l2 hc u;have T4:=turned_onl t4;have o4:=o3.onl T4 (by omega);have p4:=p3.onl T4 (by omega);have s3:=O2.size;have s4:=T4.size;refine ⟨w4,R4,o3.cell 1,p3.cell 3,o4.cell 1,p4.cell 3,rfl,tagd L w w4 (12+csum),(sm csum).take i++([id]++(sm csum).drop i),⟨?_,?_,?_,fun k=>if k=csum then u else bv k,?_,?_⟩,?_,tagd_ext _ (by omega) HL.out,?_⟩
  ·rw [ckM_upd];exact mc3.onl T4 (fun e=>hne e)
  ·rw [tagd_old hcl];exact Hl.lc
  ·rw [tagd_old hbl];exact Hl.ls
  ·have e:bkM (upd sm csum ((sm csum).take i++([id]++(sm csum).drop i))) (fun k=>if k=csum then u else bv k)=upd (bkM sm bv) csum (some u):=by
    funext k
    by_cases q:k=csum
    ·subst q;rw [upd_same];unfold bkM;rw [upd_same,if_neg (by simp)];simp only [if_true]
    ·rw [ZY _ _ q];unfold bkM;rw [ZY _ _ q];simp only [if_neg q]
   rw [e];exact m4
  ·intro k hk;by_cases q:k=csum
   ·subst q;rw [upd_same];simp only [if_true];have e1:((sm k).take i++([id]++(sm k).drop i)).length=(sm k).length+[id].length:=by simp;omega
    rw [e1]
    have ru4:=ru.onl T4 (fun g hg e=>by
     rcases ru.2 g hg with z | z
     ·have:=Hl.ls;rw [<- e,z] at this;omega
     ·have:=z.1;omega)
    refine ⟨ru4.1,fun g hg=>?_⟩;rcases ru.2 g hg with z | z
    ·have:g < w.heap.size:=HL.out g (by rw [z];omega);show tagd L w w4 (12+k) g=12+k
     rw [tagd_old this];exact z
    ·show tagd L w w4 (12+k) g=12+k
     exact tagd_new (by omega) (by omega)
   ·rw [ZY _ _ q] at hk ⊢;simp only [if_neg q];have r1:=hMr.out k hk;have r3:=r1.onl O2 (fun g hg e=>by have:=r1.2 g hg;omega);have r4:=r3.onl T4 (fun g hg e=>by have:=r1.2 g hg;rw [e] at this;have:=Hl.ls;omega);refine ⟨r4.1,fun g hg=>?_⟩;have z:=r1.2 g hg;show tagd L w w4 (12+csum) g=12+k
    rw [tagd_old (HL.out g (by rw [z];omega))];exact z
  ·have:=List.perm_middle (a:=id) (l₁:=(sm csum).take i) (l₂:=(sm csum).drop i);rw [List.take_append_drop] at this;exact this
  ·exact (HO1.out.more O2 (fun j hj=>.inl (by omega))).more T4 (fun j hj=>.inl (by rw [hj,Hl.ls];omega))
 rw [HW2.out] at HAF;clear HW2 hHid HRV2 hM1 hMs hMr HO1 Hh HB2 hkk1 hkk2 HL HH2;go_wp2
 go_region_held3 (fun W'=>W'.cell? ⟨w.heap.size,1,none⟩=some (.map (some bs))/\W'.cell? ⟨w.heap.size+1,3,none⟩=some (.int .u64 csum)) (go_keep) (first
  | (go_at_call 97;refine HCI.out.mono ?_;rintro en w3 ⟨u,rfl,ru,gu⟩;obtain ⟨w4,R4,x1,x2,y1,y2,F⟩:=HAF.out w3 u ru gu;have HF:=Za F;clear F))
 go_wp2;go_end0
 exact HF.out
structure Pw (U X:Nat->Prop) (w W:World) (p d pf pw pn:Nat) (c:Cg) (st:Sd) (Od Of Ow On:Nat->Prop):Prop where
 c:CPd Od Of Ow On W p d pf pw pn c st
 inn:∀ i,Od i\/Of i\/Ow i\/On i\/i=p->U i\/w.heap.size<=i
 onl:Onl U w W
 oth:∀ i,X i->i < W.heap.size/\¬ Od i/\¬ Of i/\¬ Ow i/\¬ On i/\i≠p
section
variable {U X:Nat->Prop} {w W W':World} {p d pf pw pn:Nat} {c:Cg} {st:Sd} {Od Of Ow On:Nat->Prop}
theorem Pw.new (h:CPd Od Of Ow On w p d pf pw pn c st) (hU:∀ i,Od i\/Of i\/Ow i\/On i\/i=p->U i):Pw U (fun i=>i < w.heap.size/\¬ U i) w w p d pf pw pn c st Od Of Ow On :=
 ⟨h,fun i q=>.inl (hU i q),Onl.refl _ _,fun i q=>⟨q.1,fun z=>q.2 (hU i (.inl z)),fun z=>q.2 (hU i (.inr (.inl z))),fun z=>q.2 (hU i (.inr (.inr (.inl z)))),fun z=>q.2 (hU i (.inr (.inr (.inr (.inl z))))),fun z=>q.2 (hU i (.inr (.inr (.inr (.inr z)))))⟩⟩
theorem Pw.below (h:Pw U X w W p d pf pw pn c st Od Of Ow On) (b:Below W.heap.size W W'):Pw U X w W' p d pf pw pn c st Od Of Ow On :=
 ⟨h.c.below b,h.inn,h.onl.trans (Onl.ofBelow b),fun i q=>⟨Nat.lt_of_lt_of_le (h.oth i q).1 b.size,(h.oth i q).2⟩⟩
theorem Pw.drew (h:Pw U X w W p d pf pw pn c st Od Of Ow On):Pw U X w W.drew p d pf pw pn c st Od Of Ow On:=h.below ((Below.refl _ W).drew)
theorem Pw.alloc (h:Pw U X w W p d pf pw pn c st Od Of Ow On) (o:Obj):Pw U (fun i=>X i\/i=W.heap.size) w (W.alloc o) p d pf pw pn c st Od Of Ow On:=by
 have h':=h.below ((Below.refl _ W).alloc (Nat.le_refl _) o);have lt:=h.c.lt;refine ⟨h'.c,h'.inn,h'.onl,fun i q=>q.elim (h'.oth i) (fun z=>?_)⟩;subst z;exact ⟨by simp,fun z=>absurd (lt _ (.inl z)) (Nat.lt_irrefl _),fun z=>absurd (lt _ (.inr (.inl z))) (Nat.lt_irrefl _),fun z=>absurd (lt _ (.inr (.inr (.inl z)))) (Nat.lt_irrefl _),fun z=>absurd (lt _ (.inr (.inr (.inr (.inl z))))) (Nat.lt_irrefl _),fun z=>absurd (lt _ (.inr (.inr (.inr (.inr z))))) (Nat.lt_irrefl _)⟩
theorem Pw.other (h:Pw U X w W p d pf pw pn c st Od Of Ow On) {r:Nat} (hr:X r) (hw:w.heap.size<=r) (i:Nat) (v:Value):Pw U X w (W.setCell ⟨r,i,none⟩ v) p d pf pw pn c st Od Of Ow On:=by
 have o:Onl (fun k=>k=r) W (W.setCell ⟨r,i,none⟩ v):=(Onl.refl (fun k=>k=r) W).set (p:=r) (.inl rfl) v;have q:=(h.oth r hr).2;refine ⟨h.c.onl o ?_,h.inn,h.onl.set (p:=r) (.inr hw) v,fun j z=>⟨by have:=(h.oth j z).1;simpa [World.setCell] using this,(h.oth j z).2⟩⟩;rintro j (z | z | z | z | z) rfl
 ·exact q.1 z
 ·exact q.2.1 z
 ·exact q.2.2.1 z
 ·exact q.2.2.2.1 z
 ·exact q.2.2.2.2 z
theorem Pw.turnD (h:Pw U X w W p d pf pw pn c st Od Of Ow On) {st':Sd} (k:CDev (Gro Od W W') W' d st') (o:Onl Od W W'):Pw U X w W' p d pf pw pn c st' (Gro Od W W') Of Ow On:=by
 have lt:∀ i,i < W.heap.size->i < W'.heap.size:=fun i q=>Nat.lt_of_lt_of_le q o.size
 have C:=h.c;have B:=C.b;have hp:=B.ob.lt;have gd:∀ {P:Nat->Prop},(∀ i,Od i->¬ P i)->(∀ i,P i->i < W.heap.size)->∀ i,Gro Od W W' i->¬ P i:=fun h1 h2 i q z=>q.elim (fun q=>h1 i q z) (fun q=>absurd (h2 i z) (Nat.not_lt.2 q.1))
 refine ⟨⟨⟨B.ob.onl o (fun q=>(B.a1 p q).2 rfl),k,B.fr.onl o (fun i q z=>(B.a1 i z).1 q),fun i q=>⟨gd (fun i z=>(B.a1 i z).1) B.l2 i q,fun z=>gd (P:=fun j=>j=p) (fun j z=>(B.a1 j z).2) (fun j z=>by rw [z];exact hp) i q z⟩,B.a2,Gro.lt B.l1 o.size,fun i q=>lt i (B.l2 i q),B.rok⟩,C.wr.onl o (fun i q=>(C.a3 i q).1),C.nr.onl o (fun i q=>(C.a4 i q).1),fun i q=>⟨fun z=>gd (P:=Ow) (fun j z y=>(C.a3 j y).1 z) C.l3 i z q,(C.a3 i q).2⟩,fun i q=>⟨fun z=>gd (P:=On) (fun j z y=>(C.a4 j y).1 z) C.l4 i z q,(C.a4 i q).2⟩,fun i q=>lt i (C.l3 i q),fun i q=>lt i (C.l4 i q)⟩,?_,?_,?_⟩
 ·rintro i (q | q)
  ·exact q.elim (fun q=>h.inn i (.inl q)) (fun q=>.inr (Nat.le_trans h.onl.size q.1))
  ·exact h.inn i (.inr q)
 ·exact h.onl.more o (fun i q=>h.inn i (.inl q))
 ·intro i q;have z:=h.oth i q;exact ⟨lt i z.1,fun y=>y.elim z.2.1 (fun y=>absurd z.1 (Nat.not_lt.2 y.1)),z.2.2⟩
theorem Pw.turnF (h:Pw U X w W p d pf pw pn c st Od Of Ow On) {f':Fr} (k:CFr (Gro Of W W') W' pf f') (o:Onl Of W W'):Pw U X w W' p d pf pw pn { c with f:=f' } st Od (Gro Of W W') Ow On:=by
 have lt:∀ i,i < W.heap.size->i < W'.heap.size:=fun i q=>Nat.lt_of_lt_of_le q o.size
 have C:=h.c;have B:=C.b;have hp:=B.ob.lt;have gd:∀ {P:Nat->Prop},(∀ i,Of i->¬ P i)->(∀ i,P i->i < W.heap.size)->∀ i,Gro Of W W' i->¬ P i:=fun h1 h2 i q z=>q.elim (fun q=>h1 i q z) (fun q=>absurd (h2 i z) (Nat.not_lt.2 q.1))
 refine ⟨⟨⟨B.ob.onl o (fun q=>B.a2 p q rfl),B.dv.onl o (fun i q=>(B.a1 i q).1),k,fun i q=>⟨fun z=>gd (P:=Od) (fun j z y=>(B.a1 j y).1 z) B.l1 i z q,(B.a1 i q).2⟩,fun i q z=>gd (P:=fun j=>j=p) (fun j z=>B.a2 j z) (fun j z=>by rw [z];exact hp) i q z,fun i q=>lt i (B.l1 i q),Gro.lt B.l2 o.size,B.rok⟩,C.wr.onl o (fun i q=>(C.a3 i q).2.1),C.nr.onl o (fun i q=>(C.a4 i q).2.1),fun i q=>⟨(C.a3 i q).1,fun z=>gd (P:=Ow) (fun j z y=>(C.a3 j y).2.1 z) C.l3 i z q,(C.a3 i q).2.2⟩,fun i q=>⟨(C.a4 i q).1,fun z=>gd (P:=On) (fun j z y=>(C.a4 j y).2.1 z) C.l4 i z q,(C.a4 i q).2.2⟩,fun i q=>lt i (C.l3 i q),fun i q=>lt i (C.l4 i q)⟩,?_,?_,?_⟩
 ·rintro i (q | q | q)
  ·exact h.inn i (.inl q)
  ·exact q.elim (fun q=>h.inn i (.inr (.inl q))) (fun q=>.inr (Nat.le_trans h.onl.size q.1))
  ·exact h.inn i (.inr (.inr q))
 ·exact h.onl.more o (fun i q=>h.inn i (.inr (.inl q)))
 ·intro i q;have z:=h.oth i q;exact ⟨lt i z.1,z.2.1,fun y=>y.elim z.2.2.1 (fun y=>absurd z.1 (Nat.not_lt.2 y.1)),z.2.2.2⟩
theorem Pw.turnN (h:Pw U X w W p d pf pw pn c st Od Of Ow On) {f':Fr} (k:CFr (Gro On W W') W' pn f') (o:Onl On W W'):Pw U X w W' p d pf pw pn { c with n:=f' } st Od Of Ow (Gro On W W'):=by
 have lt:∀ i,i < W.heap.size->i < W'.heap.size:=fun i q=>Nat.lt_of_lt_of_le q o.size
 have C:=h.c;have B:=C.b;have hp:=B.ob.lt;refine ⟨⟨⟨B.ob.onl o (fun q=>(C.a4 p q).2.2.2 rfl),B.dv.onl o (fun i q z=>(C.a4 i z).1 q),B.fr.onl o (fun i q z=>(C.a4 i z).2.1 q),B.a1,B.a2,fun i q=>lt i (B.l1 i q),fun i q=>lt i (B.l2 i q),B.rok⟩,C.wr.onl o (fun i q z=>(C.a4 i z).2.2.1 q),k,C.a3,fun i q=>⟨fun z=>q.elim (fun q=>(C.a4 i q).1 z) (fun q=>absurd (B.l1 i z) (Nat.not_lt.2 q.1)),fun z=>q.elim (fun q=>(C.a4 i q).2.1 z) (fun q=>absurd (B.l2 i z) (Nat.not_lt.2 q.1)),fun z=>q.elim (fun q=>(C.a4 i q).2.2.1 z) (fun q=>absurd (C.l3 i z) (Nat.not_lt.2 q.1)),fun z=>q.elim (fun q=>(C.a4 i q).2.2.2 z) (fun q=>absurd hp (Nat.not_lt.2 (by rw [<- z];exact q.1)))⟩,fun i q=>lt i (C.l3 i q),Gro.lt C.l4 o.size⟩,?_,?_,?_⟩
 ·rintro i (q | q | q | q | q)
  ·exact h.inn i (.inl q)
  ·exact h.inn i (.inr (.inl q))
  ·exact h.inn i (.inr (.inr (.inl q)))
  ·exact q.elim (fun q=>h.inn i (.inr (.inr (.inr (.inl q))))) (fun q=>.inr (Nat.le_trans h.onl.size q.1))
  ·exact h.inn i (.inr (.inr (.inr (.inr q))))
 ·exact h.onl.more o (fun i q=>h.inn i (.inr (.inr (.inr (.inl q)))))
 ·intro i q;have z:=h.oth i q;exact ⟨lt i z.1,z.2.1,z.2.2.1,z.2.2.2.1,fun y=>y.elim z.2.2.2.2.1 (fun y=>absurd z.1 (Nat.not_lt.2 y.1)),z.2.2.2.2.2⟩
theorem Pw.ends (h:Pw U X w W p d pf pw pn c st Od Of Ow On) (b:Bool):Pw U X w (W.setCell ⟨p,7,none⟩ (.bool b)) p d pf pw pn { c with ended:=b } st Od Of Ow On:=by
 have o:Onl (fun k=>k=p) W (W.setCell ⟨p,7,none⟩ (.bool b)):=(Onl.refl (fun k=>k=p) W).set (p:=p) (.inl rfl) _;have lt:∀ i,i < W.heap.size->i < (W.setCell ⟨p,7,none⟩ (.bool b)).heap.size:=fun i q=>Nat.lt_of_lt_of_le q o.size
 have C:=h.c;have B:=C.b;exact ⟨⟨⟨B.ob.set 7 (.bool b),B.dv.onl o (fun i q=>(B.a1 i q).2),B.fr.onl o (fun i q=>B.a2 i q),B.a1,B.a2,fun i q=>lt i (B.l1 i q),fun i q=>lt i (B.l2 i q),B.rok⟩,C.wr.onl o (fun i q=>(C.a3 i q).2.2),C.nr.onl o (fun i q=>(C.a4 i q).2.2.2),C.a3,C.a4,fun i q=>lt i (C.l3 i q),fun i q=>lt i (C.l4 i q)⟩,h.inn,h.onl.more o (fun i q=>h.inn i (.inr (.inr (.inr (.inr q))))),fun i q=>⟨lt i (h.oth i q).1,(h.oth i q).2⟩⟩
theorem Pw.out (h:Pw U X w W p d pf pw pn c st Od Of Ow On):CPx (Gro U w W) W p d c st/\Onl U w W :=
 ⟨⟨Od,Of,Ow,On,pf,pw,pn,h.c,fun i q=>(h.inn i q).elim .inl (fun z=>.inr ⟨z,h.c.lt i q⟩)⟩,h.onl⟩
theorem Pw.ob (h:Pw U X w W p d pf pw pn c st Od Of Ow On):Ob W p 161 [.pointer (some ⟨d,0,none⟩),.int .u64 c.e,.int .i64 c.r.a,.int .i64 c.r.k,.pointer (some ⟨pf,0,none⟩),.pointer (some ⟨pw,0,none⟩),.pointer (some ⟨pn,0,none⟩),.bool c.ended]:=h.c.b.ob
theorem Pw.cells (h:Pw U X w W p d pf pw pn c st Od Of Ow On):W.cell? ⟨p,0,none⟩=some (.pointer (some ⟨d,0,none⟩))/\W.cell? ⟨p,1,none⟩=some (.int .u64 c.e)/\W.cell? ⟨p,4,none⟩=some (.pointer (some ⟨pf,0,none⟩))/\W.cell? ⟨p,5,none⟩=some (.pointer (some ⟨pw,0,none⟩))/\W.cell? ⟨p,6,none⟩=some (.pointer (some ⟨pn,0,none⟩))/\W.cell? ⟨p,7,none⟩=some (.bool c.ended)/\p < W.heap.size :=
 ⟨h.ob.cell 0,h.ob.cell 1,h.ob.cell 4,h.ob.cell 5,h.ob.cell 6,h.ob.cell 7,h.ob.lt⟩
end
end Go.Proofs.YtdhebpnkfookcaaGreat
namespace Apo
open Go Go.RowKit
def Cg.put (c:Cg) (st:Sd) (b:List Int):(Spn × Int) × Cg × Sd :=
 if c.ended then ((⟨0,0⟩,40),c,st)
 else if Zc b.length=0 then ((⟨0,0⟩,2),c,st)
 else if (c.f.take (Zc b.length)).1.2=false then ((⟨0,0⟩,70),c,st)
 else if (st.wrText2 (Zw (c.f.take (Zc b.length)).1.1) b).1=0 then
  ((⟨(c.f.take (Zc b.length)).1.1,Zc b.length⟩,0),{ c with f:=(c.f.take (Zc b.length)).2,n:=(c.n.claim ⟨(c.f.take (Zc b.length)).1.1,Zc b.length⟩).2,ended:=false },(st.wrText2 (Zw (c.f.take (Zc b.length)).1.1) b).2)
 else ((⟨0,0⟩,(st.wrText2 (Zw (c.f.take (Zc b.length)).1.1) b).1),{ c with f:=(c.f.take (Zc b.length)).2,n:=(c.n.claim ⟨(c.f.take (Zc b.length)).1.1,Zc b.length⟩).2,ended:=true },(st.wrText2 (Zw (c.f.take (Zc b.length)).1.1) b).2)
end Apo
namespace Go.Proofs.YtdhebpnkfookcaaGreat
open Go.RowKit Apo
theorem take_bd {f:Fr} (ok:OkFr f) (n:Int):0<=(f.take n).1.1/\(f.take n).1.1<=16384:=by
 unfold Fr.take;cases hq:f.first n with
 | none=>exact ⟨by simp,by simp⟩
 | some i =>
  have hi:=List.mem_range.1 (List.mem_of_find?_eq_some hq);have hl:=ok.len;exact ⟨by simp,by simp;omega⟩
theorem size_span:(Tryz.prog.info? 108).map (·.size)=some 2:=by kernel_rfl
theorem fin_put {W:World} {g:Nat} {sa sk er:Int} {tmps:Array Value} {Q:Ending->World->Prop} (k:Ob W g 108 [.int .i64 sa,.int .i64 sk]) (h4:tmps.getD 4 undef=.pointer (some ⟨g,0,none⟩)) (h5:tmps.getD 5 undef=.int .i64 er) (hq:Q (.returned (.tuple #[.agg #[.int .i64 sa,.int .i64 sk],.int .i64 er])) W) :
  bodyPost Tryz.prog Tryz.f56 Q Exit.ret { tmps:=tmps,defers:=[] } W:=by
 have hl:=run_loadVar_row (P:=Tryz.prog) W g 108 108 #[.int .i64 sa,.int .i64 sk] (0,0) _ k Tryz.underlying108 rfl (by rw [size_span];rfl);have h4':tmps[4]?.getD undef=.pointer (some ⟨g,0,none⟩):=by simpa using h4
 have h5':tmps[5]?.getD undef=.int .i64 er:=by simpa using h5
 refine bodyPost_ret (v:=.tuple #[.agg #[.int .i64 sa,.int .i64 sk],.int .i64 er]) ?_ rfl hq;simp [results,Tryz.results56,asAddr,h4',h5',hl]
theorem cput_any {U:Nat->Prop} {w:World} {p d:Nat} {c:Cg} {st:Sd} (h:CPx U w p d c st) (hc:st.C.length<=536870912) (ba:Option Addr) (bc:Nat) (b:List Int) (hr:Rd .u8 w ba b) (hn:ba=none->bc=0) (hbc:b.length<=bc) (hbo:∀ x,ba=some x->0 < b.length->¬ U x.block) (hby:∀ z ∈ b,0<=z/\z<=255) :
  Calls Tryz.prog 56 #[.pointer (some ⟨p,0,none⟩),.slice ba b.length bc] w fun e w'=>e=.returned (.tuple #[.agg #[.int .i64 (c.put st b).1.1.a,.int .i64 (c.put st b).1.1.k],.int .i64 (c.put st b).1.2])/\CPx (Gro U w w') w' p d (c.put st b).2.1 (c.put st b).2.2/\Onl U w w':=by
 obtain ⟨Od,Of,Ow,On,pf,pw,pn,h,hin⟩:=h;have hbx:∀ x,ba=some x->0 < b.length->x.block < w.heap.size/\¬ U x.block:=fun x hx hl=>⟨by subst hx;exact Rd.lt hr hl,hbo x hx hl⟩
 have P0:=(Pw.new h hin).alloc (.cells #[.int .i64 0,.int .i64 0] 108);have k0:=Ob.new w [.int .i64 0,.int .i64 0] 108;have r0:Rd .u8 (w.alloc (.cells #[.int .i64 0,.int .i64 0] 108)) ba b:=hr.below ((Below.refl _ w).alloc (Nat.le_refl _) _);obtain ⟨c0,c1,c4,c5,c6,c7,cp⟩:=P0.cells;have x0:=k0.cell 0;have x1:=k0.cell 1;have f0:=k0.frozen 0;have f1:=k0.frozen 1;simp only [List.getElem?_cons_zero,List.getElem?_cons_succ] at x0 x1;have C1:=cgoes_ob P0.ob rfl rfl;have okf:=h.b.fr.ok;have hrok:=h.b.rok;have HP0:=Za P0;have HK0:=Za k0;have HR0:=Za r0;have HBX:=Za hbx;have HBY:=Za hby;have HN:=Za hn;have hs0:(w.alloc (.cells #[.int .i64 0,.int .i64 0] 108)).heap.size=w.heap.size+1:=by simp
 clear P0 k0 r0 hbx hby hbo hr h hin hn;cases hend:c.ended with
 | true =>
  have e:c.put st b=((⟨0,0⟩,40),c,st):=by unfold Cg.put;rw [if_pos hend]
  rw [e];rw [hend] at C1;clear e;go_enter Tryz.func56,Tryz.ntmps56
  go_wp2_with fail
  refine C1.mono ?_;rintro e wx ⟨rfl,rfl⟩;go_wp2;exact fin_put HK0.out rfl rfl ⟨rfl,HP0.out.out⟩
 | false =>
  rw [hend] at C1;have C2:=fun W=>cneed_any (b.length:Int) W
  by_cases hn0:Zc b.length=0
  ·have e:c.put st b=((⟨0,0⟩,2),c,st):=by unfold Cg.put;rw [if_neg (by rw [hend];simp),if_pos hn0]
   rw [e];rw [hn0] at C2;clear e;go_enter Tryz.func56,Tryz.ntmps56
   go_wp2_with fail
   refine C1.mono ?_;rintro e wx ⟨rfl,rfl⟩;go_wp2_with fail
   refine (C2 _).mono ?_;rintro e wx ⟨rfl,rfl⟩;go_wp2;exact fin_put HK0.out rfl rfl ⟨rfl,HP0.out.out⟩
  ·obtain ⟨n,hnn⟩:∃ n,n=Zc b.length:=⟨_,rfl⟩;have hnl:=needP_le (b.length:Int);rw [<- hnn] at C2 hnl;have hnb:((n:Int) == 0)=false:=by simp;omega
   have C3:=ctake_any HP0.out.c.b.fr HP0.out.c.b.l2 (n:Int);have htb:=take_bd okf (n:Int);have HNN:=Za hnn;have HC3:=Za C3;clear C3 hnn;cases htk:(c.f.take (n:Int)).1.2 with
   | false =>
    have e:c.put st b=((⟨0,0⟩,70),c,st):=by unfold Cg.put;rw [if_neg (by rw [hend];simp),if_neg hn0,<- HNN.out,if_pos htk]
    have htn:(c.f.take (n:Int)).2=c.f:=by
     unfold Fr.take at htk ⊢;split at htk
     ·cases htk
     ·rfl
    rw [e];rw [htk,htn] at HC3;generalize (c.f.take (n:Int)).1.1=A at HC3;clear e;go_enter Tryz.func56,Tryz.ntmps56
    go_wp2_with fail
    refine C1.mono ?_;rintro e wx ⟨rfl,rfl⟩;go_wp2_with fail
    refine (C2 _).mono ?_;rintro e wx ⟨rfl,rfl⟩;go_wp2_with fail
    refine HC3.out.mono ?_;rintro e w2 ⟨rfl,f2,o2⟩;have T2:Pw U _ w w2 p d pf pw pn c st _ _ _ _:=HP0.out.turnF f2 o2;have k2:=HK0.out.onl o2 (HP0.out.oth w.heap.size (.inr rfl)).2.2.1;have y0:=k2.cell 0;have y1:=k2.cell 1;have g0:=k2.frozen 0;have g1:=k2.frozen 1;simp only [List.getElem?_cons_zero,List.getElem?_cons_succ] at y0 y1;have HT:=Za ((T2.other (r:=w.heap.size) (.inr rfl) (Nat.le_refl _) 0 (.int .i64 0)).other (r:=w.heap.size) (.inr rfl) (Nat.le_refl _) 1 (.int .i64 0));have HK:=Za ((k2.set 0 (.int .i64 0)).set 1 (.int .i64 0));clear f2 o2 T2 k2;go_wp2;exact fin_put HK.out rfl rfl ⟨rfl,HT.out.out⟩
   | true =>
    obtain ⟨A,hA⟩:∃ A,A=(c.f.take (n:Int)).1.1:=⟨_,rfl⟩;obtain ⟨f',hf'⟩:∃ f',f'=(c.f.take (n:Int)).2:=⟨_,rfl⟩
    have e:c.put st b=if (st.wrText2 (Zw A) b).1=0 then ((⟨A,n⟩,0),{ c with f:=f',n:=(c.n.claim ⟨A,n⟩).2,ended:=false },(st.wrText2 (Zw A) b).2) else ((⟨0,0⟩,(st.wrText2 (Zw A) b).1),{ c with f:=f',n:=(c.n.claim ⟨A,n⟩).2,ended:=true },(st.wrText2 (Zw A) b).2):=by
     unfold Cg.put;rw [if_neg (by rw [hend];simp),if_neg hn0,<- HNN.out,if_neg (by rw [htk];simp),<- hA,<- hf']
    rw [htk,<- hA,<- hf'] at HC3;rw [<- hA] at htb;generalize c.put st b=res at e ⊢;have HE:=Za e;clear e hA hf' htk;go_enter Tryz.func56,Tryz.ntmps56
    go_wp2_with fail
    refine C1.mono ?_;rintro e wx ⟨rfl,rfl⟩;go_wp2_with fail
    refine (C2 _).mono ?_;rintro e wx ⟨rfl,rfl⟩;go_wp2_with fail
    refine HC3.out.mono ?_;rintro e w2 ⟨rfl,f2,o2⟩;have T2:=HP0.out.turnF f2 o2;have k2:=HK0.out.onl o2 (HP0.out.oth w.heap.size (.inr rfl)).2.2.1;have r2:Rd .u8 w2 ba b:=HR0.out.onl o2 (fun x hx hl=>(HP0.out.oth x.block (.inl (HBX.out x hx hl))).2.2.1);have T3:=(T2.alloc (.cells #[.int .i64 A,.int .i64 n] 108)).drew;have k3:Ob (w2.alloc (.cells #[.int .i64 A,.int .i64 n] 108)).drew w.heap.size 108 _:=k2.alloc _;have m3:Ob (w2.alloc (.cells #[.int .i64 A,.int .i64 n] 108)).drew w2.heap.size 108 [.int .i64 A,.int .i64 n]:=Ob.new w2 [.int .i64 A,.int .i64 n] 108;have r3:Rd .u8 (w2.alloc (.cells #[.int .i64 A,.int .i64 n] 108)).drew ba b:=r2.below (((Below.refl _ w2).alloc (Nat.le_refl _) _).drew);have C4:=cclaim_any T3.c.nr T3.c.l4 ⟨A,n⟩ ⟨by show -9223372036854775808<=A;omega,by show A<=9223372036854775807;omega,by show -9223372036854775808<=(n:Int);omega,by show (n:Int)<=9223372036854775807;omega⟩;obtain ⟨d0,d1,d4,d5,d6,d7,dp⟩:=T3.cells;have z0:=m3.cell 0;have z1:=m3.cell 1;simp only [List.getElem?_cons_zero,List.getElem?_cons_succ] at z0 z1;have hw2:w.heap.size < w2.heap.size:=k2.lt;have HT3:=Za T3;have HK3:=Za k3;have HM3:=Za m3;have HR3:=Za r3;have HC4:=Za C4;clear f2 o2 T2 k2 r2 T3 k3 m3 r3 C4;go_wp2
    go_region_held3 (fun W'=>W'.cell? ⟨p,6,none⟩=some (.pointer (some ⟨pn,0,none⟩))/\W'.cell? ⟨w2.heap.size,0,none⟩=some (.int .i64 A)/\W'.cell? ⟨w2.heap.size,1,none⟩=some (.int .i64 n)) (go_keep) (first
     | (go_at_call 93;refine HC4.out.mono ?_;rintro e w4 ⟨rfl,k4,o4⟩;have T4:=HT3.out.turnN k4 o4;obtain ⟨d0,d1,d4,d5,d6,d7,dp⟩:=T4.cells;have m4:=HM3.out.onl o4 (HT3.out.oth w2.heap.size (.inr rfl)).2.2.2.2.1;have q4:=HK3.out.onl o4 (HT3.out.oth w.heap.size (.inl (.inr rfl))).2.2.2.2.1;have r4:=HR3.out.onl o4 (fun x hx hl=>(HT3.out.oth x.block (.inl (.inl (HBX.out x hx hl)))).2.2.2.2.1);have z0:=m4.cell 0;have z1:=m4.cell 1;simp only [List.getElem?_cons_zero,List.getElem?_cons_succ] at z0 z1;have HT4:=Za T4;have HM4:=Za m4;have HQ4:=Za q4;have HR4:=Za r4;clear T4 m4 q4 r4 k4 o4))
    have C5:=cwtext_any HT4.out.c.b.dv HT4.out.c.b.l1 hc A ba bc b HR4.out HN.out hbc (fun x hx hl=>(HT4.out.oth x.block (.inl (.inl (HBX.out x hx hl)))).2.1) HBY.out;have HC5:=Za C5;clear C5 HC4;obtain ⟨d0,d1,d4,d5,d6,d7,dp⟩:=HT4.out.cells;go_wp2_with fail
    refine HC5.out.mono ?_;rintro e w5 ⟨rfl,d5,o5⟩;have T5:=HT4.out.turnD d5 o5;have m5:=HM4.out.onl o5 (HT4.out.oth w2.heap.size (.inr rfl)).2.1;have q5:=HQ4.out.onl o5 (HT4.out.oth w.heap.size (.inl (.inr rfl))).2.1;obtain ⟨er,her⟩:∃ er,er=(st.wrText2 (Zw A) b).1:=⟨_,rfl⟩;rw [<- her];have HER:=Za her;clear her;have C6:=cends_ob T5.ob (by simp) er;have HT5:=Za T5;have HM5:=Za m5;have HQ5:=Za q5;have HC6:=Za C6;clear T5 m5 q5 C6 d5 o5;go_wp2_with fail
    refine HC6.out.mono ?_;rintro e w6 ⟨rfl,hw6⟩;have T6:=HT5.out.ends (er != 0);have hpr:=(HT5.out.oth w.heap.size (.inl (.inr rfl))).2.2.2.2.2;have hps:=(HT5.out.oth w2.heap.size (.inr rfl)).2.2.2.2.2;have m6:=HM5.out.set_other (q:=p) (i:=7) hps (.bool (er != 0));have q6:=HQ5.out.set_other (q:=p) (i:=7) hpr (.bool (er != 0));rw [<- hw6] at T6 m6 q6;clear hw6;have y0:=q6.cell 0;have y1:=q6.cell 1;have g0:=q6.frozen 0;have g1:=q6.frozen 1;have z0:=m6.cell 0;have z1:=m6.cell 1;simp only [List.getElem?_cons_zero,List.getElem?_cons_succ] at y0 y1 z0 z1;by_cases hq:er=0
    ·have HE2:Hid (res=((⟨A,n⟩,0),{ c with f:=f',n:=(c.n.claim ⟨A,n⟩).2,ended:=false },(st.wrText2 (Zw A) b).2)):=Za (by have:=HE.out;rw [if_pos (by rw [<- HER.out];exact hq)] at this;exact this);have hqb:(er != 0)=false:=by simpa using hq
     rw [hqb] at T6;have HT:=Za ((T6.other (r:=w.heap.size) (.inl (.inr rfl)) (Nat.le_refl _) 0 (.int .i64 A)).other (r:=w.heap.size) (.inl (.inr rfl)) (Nat.le_refl _) 1 (.int .i64 n));have HK:=Za ((q6.set 0 (.int .i64 A)).set 1 (.int .i64 n));clear T6 m6 q6 HER HE hqb;subst hq;go_wp2;refine fin_put HK.out rfl rfl ?_;rw [HE2.out];exact ⟨rfl,HT.out.out⟩
    ·have HE2:Hid (res=((⟨0,0⟩,er),{ c with f:=f',n:=(c.n.claim ⟨A,n⟩).2,ended:=true },(st.wrText2 (Zw A) b).2)):=Za (by have:=HE.out;rw [if_neg (by rw [<- HER.out];exact hq),<- HER.out] at this;exact this);have hqb:(er != 0)=true:=by simpa using hq
     have hqc:(er == 0)=false:=by simpa using hq
     rw [hqb] at T6;have HT:=Za ((T6.other (r:=w.heap.size) (.inl (.inr rfl)) (Nat.le_refl _) 0 (.int .i64 0)).other (r:=w.heap.size) (.inl (.inr rfl)) (Nat.le_refl _) 1 (.int .i64 0));have HK:=Za ((q6.set 0 (.int .i64 0)).set 1 (.int .i64 0));clear T6 m6 q6 HER HE;go_wp2;refine fin_put HK.out rfl rfl ?_;rw [HE2.out];exact ⟨rfl,HT.out.out⟩
end Go.Proofs.YtdhebpnkfookcaaGreat
