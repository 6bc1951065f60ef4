import Derived.Test.YteopalkiebfioaaGreatQM37
set_option maxRecDepth 100000
set_option maxHeartbeats 8000000
namespace Go.Proofs.YteopalkiebfioaaGreat
open Go.RowKit Apo
attribute [local go_sem ↓] app_exec
open Classical in
theorem neqSd (b b':Bool) (v v':ByteArray) (w:World):(binOp .neq 83 (.agg #[.bool b,.string v]) (.agg #[.bool b',.string v'])).run Tryz.prog w=.ok (.bool (!decide ((b,v)=(b',v')))) w:=by
 have u9:=Tryz.underlying9;have u4:=Tryz.underlying4;have hS:Tryz.prog.underlying 83=some (.struct (Tryz.prog.fieldsOf 83)):=by kernel_rfl
 have hp:Tryz.prog.stoodInHeld 83=false:=by kernel_rfl
 rw [run_neq_struct,show (10000:Nat)=9999+1 from rfl,run_equalIn_agg w 9999 83 _ _ hS hp]
 simp only [Program.fieldsOf,Tryz.underlying83];go_simp;by_cases h1:b=b'
 ·by_cases h2:v=v'
  ·simp [h1,h2]
  ·have h2':¬ v.toList=v'.toList:=fun e=>h2 (ZG e)
   simp [h1,h2,h2']
 ·simp [h1]
def lenC (w:World) (p:Nat):Nat:=match w.cell? ⟨p,0,none⟩ with
 | some (.slice _ n _)=>n
 | _=>0
theorem Cur.len {B:Nat} {w:World} {p:Nat} {es:List En} (h:Cur B w p es):lenC w p=es.length:=by
 obtain ⟨_,a,c,k,_⟩:=h;have:=k.cell 0;simp only [List.getElem?_cons_zero] at this
 unfold lenC;rw [this]
theorem least_none {es fs:List En} (h:(leastK es fs).2=false):es=[]/\fs=[]:=by
 cases es with
 | nil=>cases fs with
  | nil=>exact ⟨rfl,rfl⟩
  | cons f fs=>cases h
 | cons e es=>cases fs with
  | nil=>cases h
  | cons f fs=>simp only [leastK] at h;split at h <;> cases h
theorem take_len (es:List En) (key:ByteArray):(takeK es key).2.length<=es.length:=by
 cases es with
 | nil=>exact Nat.le_refl _
 | cons e es =>
  simp only [takeK];split
  ·simp
  ·exact Nat.le_refl _
theorem take_less {es fs:List En} {key:ByteArray} (h:leastK es fs=(key,true)):(takeK es key).2.length+(takeK fs key).2.length < es.length+fs.length:=by
 have l1:=take_len es key;have l2:=take_len fs key
 have cut:∀ (e:En) (l:List En),e.k=key->(takeK (e :: l) key).2.length < (e :: l).length:=fun e l he=>by
  have:takeK (e :: l) key=((true,e.v),l):=if_pos he;rw [this];simp
 cases es with
 | nil=>cases fs with
  | nil=>cases h
  | cons f fs =>
   have:f.k=key:=by cases h;rfl
   have:=cut f fs this;omega
 | cons e es=>cases fs with
  | nil =>
   have:e.k=key:=by cases h;rfl
   have:=cut e es this;omega
  | cons f fs =>
   simp only [leastK] at h;split at h
   ·have:f.k=key:=by cases h;rfl
    have:=cut f fs this;omega
   ·have:e.k=key:=by cases h;rfl
    have:=cut e es this;omega
def DChP (R:List Ch->Prop) (w:World) (e:Ending) (w':World):Prop:=∃ (cs:List Ch) (va:Option Addr) (vc:Nat),e=.returned (.slice va cs.length vc)/\R cs/\Row (fun g=>w.heap.size<=g) w' 49 5 (.slice va cs.length vc) cs.length (Zg cCh cs)/\Below w.heap.size w w'
def OfJ (w:World) (es fs es' fs':List En) (cs:List Ch) (va:Option Addr) (vc:Nat) (wr:World):Prop :=
 Row (fun g=>w.heap.size+2<=g) wr 49 5 (.slice va cs.length vc) cs.length (Zg cCh cs)/\Cur w.heap.size wr w.heap.size es'/\Cur w.heap.size wr (w.heap.size+1) fs'/\Below w.heap.size w wr/\(∀ ds,OfR es' fs' ds->OfR es fs (cs++ds))/\cs.length+es'.length+fs'.length<=es.length+fs.length
theorem dof_any (w:World) (a b:Option Addr) (ca cb:Nat) (es fs:List En) (ha:RdEn w a es) (hb:RdEn w b fs) (hla:es.length<=1000) (hlb:fs.length<=1000) (hca:es.length<=ca) (hcb:fs.length<=cb) (hma:ca<=maxLen) (hmb:cb<=maxLen) :
  Calls Tryz.prog 15 #[.slice a es.length ca,.slice b fs.length cb] w (DChP (OfR es fs) w):=by
 obtain ⟨n,hn⟩:∃ n,n=es.length:=⟨_,rfl⟩;obtain ⟨m,hm⟩:∃ m,m=fs.length:=⟨_,rfl⟩;obtain ⟨W0,hW0⟩:∃ W0,W0=(w.alloc (.cells #[.slice a n ca] 87)).alloc (.cells #[.slice b m cb] 87):=⟨_,rfl⟩;have b1:Below w.heap.size w (w.alloc (.cells #[.slice a n ca] 87)):=(Below.refl _ w).alloc (Nat.le_refl _) _;have b0:Below w.heap.size w W0:=by rw [hW0];exact b1.alloc b1.size _
 have s0:W0.heap.size=w.heap.size+2:=by rw [hW0];simp
 have k0:Ob W0 w.heap.size 87 [.slice a n ca]:=by rw [hW0];exact (Ob.new w [.slice a n ca] 87).alloc _
 have k1:Ob W0 (w.heap.size+1) 87 [.slice b m cb]:=by
  rw [hW0];have:=Ob.new (w.alloc (.cells #[.slice a n ca] 87)) [.slice b m cb] 87;rw [World.size_alloc] at this;exact this
 have lo:∀ {x:Option Addr} {l:List En},RdEn w x l->∀ y,x=some y->l≠[]->y.block < w.heap.size:=fun {x l} r y hy hl=>by
  cases l with
  | nil=>exact absurd rfl hl
  | cons e l =>
   obtain ⟨g,o,e1,e2,_⟩:=r 0 e rfl;rw [hy] at e1;cases e1
   exact World.block_lt_of_cell? _ _ e2
 have hJ0:OfJ w es fs es fs [] none 0 W0:=⟨Row.nil _ _ _ _,⟨Nat.le_refl _,a,ca,by rw [<- hn];exact k0,ha.below b0,hca,hma,lo ha⟩,⟨by omega,b,cb,by rw [<- hm];exact k1,hb.below b0,hcb,hmb,lo hb⟩,b0,fun ds h=>h,by simp⟩
 have HJ0:=Za hJ0;have HL:=Za (And.intro hla hlb);rw [<- hn,<- hm];clear ha hb hn hm k0 k1 b0 b1 s0 lo hJ0 hla hlb hca hcb hma hmb;go_enter Tryz.func15,Tryz.ntmps15
 go_wp2;rw [<- hW0];clear hW0;go_loopw [9] (fun v wr=>∃ (es' fs':List En) (cs:List Ch) (va:Option Addr) (vc nk:Nat),v=.slice va nk vc/\Hid (nk=cs.length)/\Hid (OfJ w es fs es' fs' cs va vc wr)) (fun _ wr=>lenC wr w.heap.size+lenC wr (w.heap.size+1))
 case atStart=>exact ⟨es,fs,[],none,0,0,rfl,Za rfl,HJ0⟩
 case round =>
  obtain ⟨es',fs',cs,va,vc,nk,rfl,HNK,HJ⟩:=hrel;obtain ⟨hrow,hp,hq,hbel,hof,hcnt⟩:=HJ.out;have CL:=dleast_any hp hq;have HM:=Za (show lenC wr w.heap.size+lenC wr (w.heap.size+1)=es'.length+fs'.length by rw [hp.len,hq.len])
  obtain ⟨⟨key,is⟩,hki⟩:∃ ki,ki=leastK es' fs':=⟨_,rfl⟩;rw [<- hki] at CL;have HCL:=Za CL;cases is with
  | false =>
   obtain ⟨rfl,rfl⟩:=least_none (es:=es') (fs:=fs') (by rw [<- hki])
   have HF:Hid (DChP (OfR es fs) w (.returned (.slice va nk vc)) wr):=by
    refine Za ⟨cs,va,vc,by rw [HNK.out],?_,hrow.mono (fun i hi=>by omega),hbel⟩
    have:=hof [] OfR.done;rwa [List.append_nil] at this
   clear hrow hp hq hbel hof hcnt CL HM hki HJ;go_wp2_with fail
   refine HCL.out.mono ?_;rintro e' w2 ⟨rfl,rfl⟩;go_wp2;go_ret
   exact HF.out
  | true =>
   have CT:=dtake_any hp key (by have:=HL.out;omega)
   unfold TkP at CT;have HLS:=Za (take_less hki.symm);obtain ⟨⟨⟨b1,v1⟩,es2⟩,ht1⟩:∃ x,x=takeK es' key:=⟨_,rfl⟩;obtain ⟨⟨⟨b2,v2⟩,fs2⟩,ht2⟩:∃ x,x=takeK fs' key:=⟨_,rfl⟩
   have HST:Hid (∀ ds,OfR es2 fs2 ds->OfR es' fs' (chOf key (b1,v1) (b2,v2)++ds)):=Za (fun ds h=>by
    have:=OfR.step (cs:=ds) hki.symm (by rw [<- ht1,<- ht2];exact h)
    rw [<- ht1,<- ht2] at this;exact this)
   rw [<- ht1] at CT;rw [<- ht1,<- ht2] at HLS;have HCT:=Za CT;have CU:∀ W,Cur w.heap.size W (w.heap.size+1) fs'->Calls Tryz.prog 35 #[.pointer (some ⟨w.heap.size+1,0,none⟩),.string key] W (TkP w.heap.size W (w.heap.size+1) fs' key):=fun W h=>dtake_any h key (by have:=HL.out;omega)
   unfold TkP at CU;rw [<- ht2] at CU;have HCU:=Za CU;have HJ':=Za (And.intro hrow (And.intro hq (And.intro hbel (And.intro hof hcnt))));simp only at HCL HCT HCU HLS;clear hrow hp hq hbel hof hcnt CL CT CU hki ht1 ht2 HJ;go_wp2_with fail
   refine HCL.out.mono ?_;rintro e' w2 ⟨rfl,rfl⟩;go_wp2_with fail
   refine HCT.out.mono ?_;rintro e' w3 ⟨rfl,c3,o3⟩;have q3:=HJ'.out.2.1.onl o3 (by omega) (fun i hi=>by omega)
   have HCU3:=Za (HCU.out w3 q3);have H3:=Za (And.intro c3 o3);clear c3 o3 q3 HCU;go_wp2_with fail
   refine HCU3.out.mono ?_;rintro e' w4 ⟨rfl,c4,o4⟩;obtain ⟨c3,o3⟩:=H3.out;obtain ⟨hrow,hq,hbel,hof,hcnt⟩:=HJ'.out;have hB:=hbel.size;have c3':=c3.onl o4 (by omega) (fun i hi=>by omega)
   have hb4:Below w.heap.size w w4:=Below.onl (Below.onl hbel o3 (fun i hi=>by omega) (Nat.le_refl _)) o4 (fun i hi=>by omega) (Nat.le_refl _)
   have row4:=(hrow.onl o3 (fun g hg q=>by have:=hrow.2 g hg;omega)).onl o4 (fun g hg q=>by have:=hrow.2 g hg;omega)
   obtain ⟨w5,hw5⟩:∃ w5,w5=(w4.alloc (.cells #[.bool b1,.string v1] 83)).alloc (.cells #[.bool b2,.string v2] 83):=⟨_,rfl⟩;have bb5:Below w4.heap.size w4 w5:=by rw [hw5];exact ((Below.refl _ w4).alloc (Nat.le_refl _) _).alloc (by simp) _
   have s5:w5.heap.size=w4.heap.size+2:=by rw [hw5];simp
   have k5:Ob w5 w4.heap.size 83 [.bool b1,.string v1]:=by rw [hw5];exact (Ob.new w4 [.bool b1,.string v1] 83).alloc _
   have k6:Ob w5 (w4.heap.size+1) 83 [.bool b2,.string v2]:=by
    rw [hw5];have:=Ob.new (w4.alloc (.cells #[.bool b1,.string v1] 83)) [.bool b2,.string v2] 83;rw [World.size_alloc] at this;exact this
   have o5:Onl (fun _=>False) w4 w5:=Onl.ofBelow bb5
   have hJ5:OfJ w es fs es2 fs2 cs va vc w5->True:=fun _=>trivial
   have c5:=c3'.onl o5 (fun q=>q) (fun _ q=>q.elim)
   have d5:=c4.onl o5 (fun q=>q) (fun _ q=>q.elim)
   have row5:=row4.onl o5 (fun _ _ q=>q)
   have hb5:=Below.onl hb4 o5 (fun _ q=>q.elim) (Nat.le_refl _)
   have y0:=k5.cell 0;have y1:=k5.cell 1;have x0:=k6.cell 0;have x1:=k6.cell 1;simp only [List.getElem?_cons_zero,List.getElem?_cons_succ] at y0 y1 x0 x1
   have hcmp:=neqSd b1 b2 v1 v2;have hgd:Tryz.prog.eqGuardType Tryz.prog.depth 83=false:=by kernel_rfl
   have HW5:=Za hw5;by_cases heq:(b1,v1)=(b2,v2)
   ·rw [decide_eq_true heq] at hcmp;simp only [Bool.not_true] at hcmp
    have HF:Hid (OfJ w es fs es2 fs2 cs va vc w5):=Za ⟨row5,c5,d5,hb5,fun ds h=>by
      have:=hof _ (HST.out ds h);rwa [chOf,if_pos heq,List.nil_append] at this,by have:=HLS.out;omega⟩
    have HM5:=Za (show lenC w5 w.heap.size+lenC w5 (w.heap.size+1) < es'.length+fs'.length by rw [c5.len,d5.len];exact HLS.out)
    rw [HW5.out] at y0 y1 x0 x1 HF HM5;clear HW5 hw5 hJ5 k5 k6 bb5 s5 o5 c5 d5 row5 hb5 c3 o3 hrow hq hbel hof hcnt c3' hb4 row4 c4 o4 heq;go_wp2;go_roundw
    case rel=>exact ⟨es2,fs2,cs,va,vc,nk,rfl,HNK,HF⟩
    case measure=>rw [HM.out];exact HM5.out
   ·rw [decide_eq_false heq] at hcmp;simp only [Bool.not_false] at hcmp;obtain ⟨x,hx⟩:∃ x:Ch,x=⟨key,b1,v1,b2,v2⟩:=⟨_,rfl⟩;obtain ⟨w6,hw6⟩:∃ w6,w6=w5.alloc (.cells (cCh x).toArray 49):=⟨_,rfl⟩;have bb6:Below w5.heap.size w5 w6:=by rw [hw6];exact (Below.refl _ w5).alloc (Nat.le_refl _) _
    have row6:=row5.onl (F:=fun _=>False) (Onl.ofBelow bb6) (fun _ _ q=>q)
    have rd6:RdG cCh 5 w6 (some ⟨w5.heap.size,0,none⟩) [x]:=by rw [hw6];exact rd_lit _ _ x
    obtain ⟨v8,w8,RR,r8,o8,ow8⟩:=app_ch (cp:=1) row6 (by have:=HL.out;simp;omega) rd6
    obtain ⟨va8,vc8,hva8,_⟩:=r8.form;obtain ⟨n8,hn8⟩:∃ n8,n8=(cs++[x]).length:=⟨_,rfl⟩;rw [hva8] at r8 RR;rw [show [x].length=1 from rfl,<- hn8,<- HNK.out] at RR
    have hs6:w6.heap.size=w4.heap.size+3:=by rw [hw6,World.size_alloc];omega
    have hs4:=hb4.size;have hv8:∀ i,(Value.slice va cs.length vc).ownBlock=some i->w.heap.size+2<=i:=fun i hi=>hrow.2 i hi
    have hs3:=o3.size;have hs4':=o4.size;have hp1:w.heap.size+1 < w4.heap.size:=by obtain ⟨_,_,_,kk,_⟩:=c4;exact kk.lt
    have c8:=(c5.onl (O:=fun _=>False) (Onl.ofBelow bb6) (fun q=>q) (fun _ q=>q.elim)).onl o8 (fun q=>by have:=hv8 _ q;omega) (fun i q=>by have:=hv8 _ q;omega)
    have d8:=(d5.onl (O:=fun _=>False) (Onl.ofBelow bb6) (fun q=>q) (fun _ q=>q.elim)).onl o8 (fun q=>by have:=hv8 _ q;omega) (fun i q=>by have:=hv8 _ q;omega)
    have hb8:Below w.heap.size w w8:=Below.onl (hb5.trans (bb6.mono hb5.size)) o8 (fun i q=>by have:=hv8 _ q;omega) (Nat.le_refl _)
    have HF:Hid (OfJ w es fs es2 fs2 (cs++[x]) va8 vc8 w8):=Za ⟨⟨r8.1,fun g hg=>(r8.2 g hg).elim (fun z=>z) (fun z=>by omega)⟩,c8,d8,hb8,fun ds h=>by
      have:=hof _ (HST.out ds h);rwa [chOf,if_neg heq,<- List.append_assoc,<- hx] at this,by have:=HLS.out;simp;omega⟩
    have HM8:=Za (show lenC w8 w.heap.size+lenC w8 (w.heap.size+1) < es'.length+fs'.length by rw [c8.len,d8.len];exact HLS.out)
    have HN8:=Za hn8;rw [hw6,hx] at RR;simp only [cCh] at RR;rw [hw5] at RR y0 y1 x0 x1;simp only [World.size_alloc] at RR;obtain ⟨z1,z2,z3⟩:=Zf RR;clear HW5 hw5 hJ5 k5 k6 bb5 s5 o5 c5 d5 row5 hb5 c3 o3 hrow hq hbel hof hcnt c3' hb4 row4 c4 o4 heq hw6 bb6 row6 rd6 r8 o8 ow8 hva8 hn8 hs6 hs4 hv8 hs3 hs4' hp1 c8 d8 hb8 RR HST;go_wp2;go_roundw
    case rel=>exact ⟨es2,fs2,cs++[x],va8,vc8,n8,rfl,HN8,HF⟩
    case measure=>rw [HM.out];exact HM8.out
end Go.Proofs.YteopalkiebfioaaGreat
namespace Apo
open Go Go.RowKit
theorem app_zero {P:Program} {W:World} {t e:TypeId} {i:TypeInfo} (hu:P.underlying t=some (.slice e)) (hi:P.info? e=some i) {b x:Option Addr} {n c cx:Nat} (h:n<=c) :
  (Builtin.append_ #[t,t] t #[.slice b n c,.slice x 0 cx]).run P W=.ok (.slice b n c) W:=by
 cases x <;> cases b <;> simp [Builtin.append_,run_underlying hu,Go.sizeOf,typeInfo,hi,Builtin.lenOf,Builtin.firstCells,loadCells,loadCellsFrom,storeCells,h]
end Apo
namespace Go.Proofs.YteopalkiebfioaaGreat
open Go.RowKit Apo
def RdM (w:World) (a:Option Addr) (ms:List (Option Addr × Nat × List En)):Prop :=
 ∀ i m,ms[i]?=some m->(∃ g o,a=some ⟨g,o,none⟩/\w.cell? ⟨g,o+i,none⟩=some (.slice m.1 m.2.2.length m.2.1))/\RdEn w m.1 m.2.2
theorem RdM.below {w w':World} {a:Option Addr} {ms:List (Option Addr × Nat × List En)} (h:RdM w a ms) (b:Below w.heap.size w w'):RdM w' a ms:=fun i m hm=>by
 obtain ⟨⟨g,o,h1,h2⟩,h3⟩:=h i m hm;exact ⟨⟨g,o,h1,(b.cell (p:=⟨g,o+i,none⟩) (World.block_lt_of_cell? _ _ h2)).trans h2⟩,h3.below b⟩
structure KsS (ks seen:List ByteArray):Prop where
 rise:Rise ks
 mem:∀ k,k ∈ ks↔k ∈ seen
 len:ks.length<=seen.length
theorem KsS.nil:KsS [] []:=⟨List.Pairwise.nil,fun _=>Iff.rfl,Nat.le_refl _⟩
theorem KsS.skip {ks seen:List ByteArray} {key:ByteArray} (h:KsS ks seen) (hk:key ∈ ks):KsS ks (seen++[key]) :=
 ⟨h.rise,fun k=>by
  rw [h.mem,List.mem_append,List.mem_singleton];exact ⟨fun q=>.inl q,fun q=>q.elim id (fun z=>by rw [z];exact (h.mem _).1 hk)⟩,by have:=h.len;simp;omega⟩
theorem KsS.put {ks seen:List ByteArray} {key:ByteArray} {i:Nat} (h:KsS ks seen) (hi:i<=ks.length) (h1:∀ t y,t < i->ks[t]?=some y->ZR y key=true) (h2:∀ y,ks[i]?=some y->ZR key y=true):KsS (ks.take i++key :: ks.drop i) (seen++[key]):=by
 refine ⟨?_,fun k=>?_,?_⟩
 ·unfold Rise;rw [List.pairwise_append];have hr:=h.rise;unfold Rise at hr;refine ⟨hr.sublist (List.take_sublist _ _),List.Pairwise.cons (fun y hy=>?_) (hr.sublist (List.drop_sublist _ _)),fun x hx y hy=>?_⟩
  ·obtain ⟨t,ht,rfl⟩:=List.mem_iff_getElem.1 hy;simp only [List.length_drop] at ht;have hit:ks[i]?=some (ks[i]'(by omega)):=List.getElem?_eq_getElem _
   have q1:=h2 _ hit;rw [List.getElem_drop];by_cases z:t=0
   ·subst z;exact q1
   ·exact ZQ q1 (List.pairwise_iff_getElem.1 hr i (i+t) (by omega) (by omega) (by omega))
  ·obtain ⟨t,ht,rfl⟩:=List.mem_iff_getElem.1 hx;simp only [List.length_take] at ht
   have hxk:ZR ((ks.take i)[t]'(by simp;omega)) key=true:=by
    rw [List.getElem_take];exact h1 t _ (by omega) (List.getElem?_eq_getElem _)
   rcases List.mem_cons.1 hy with rfl | hy
   ·exact hxk
   ·obtain ⟨s,hs,rfl⟩:=List.mem_iff_getElem.1 hy;simp only [List.length_drop] at hs;rw [List.getElem_take,List.getElem_drop];exact List.pairwise_iff_getElem.1 hr t (i+s) (by omega) (by omega) (by omega)
 ·rw [List.mem_append,List.mem_cons,List.mem_append,List.mem_singleton,<- h.mem];have:k ∈ ks↔k ∈ ks.take i\/k ∈ ks.drop i:=by rw [<- List.mem_append,List.take_append_drop]
  rw [this];constructor
  ·rintro (q | q | q)
   ·exact .inl (.inl q)
   ·exact .inr q
   ·exact .inl (.inr q)
  ·rintro ((q | q) | q)
   ·exact .inl q
   ·exact .inr (.inr q)
   ·exact .inr (.inl q)
 ·have:=h.len;simp
  omega
def KeJ (w:World) (ks seen:List ByteArray) (va:Option Addr) (vc:Nat) (wr:World):Prop :=
 Row (fun g=>w.heap.size<=g) wr 9 1 (.slice va ks.length vc) ks.length (Zg cTx ks)/\Below w.heap.size w wr/\KsS ks seen/\(ks=[]->va=none/\vc=0)
def DKeP (R:List ByteArray->Prop) (w:World) (e:Ending) (w':World):Prop:=∃ (ks:List ByteArray) (va:Option Addr) (vc:Nat),e=.returned (.slice va ks.length vc)/\R ks/\Row (fun g=>w.heap.size<=g) w' 9 1 (.slice va ks.length vc) ks.length (Zg cTx ks)/\Below w.heap.size w w'
end Go.Proofs.YteopalkiebfioaaGreat
namespace Apo
open Go Go.RowKit
section
variable {α:Type} {c:α->List Value} {k:Nat}
theorem row_lit (hk:∀ x,(c x).length=k) (e:TypeId) (W:World) (x:α):Row (fun g=>g=W.heap.size) (W.alloc (.cells (c x).toArray e)) e k (.slice (some ⟨W.heap.size,0,none⟩) 1 1) [x].length (Zg c [x]):=by
 have hg:Zg c [x]=c x:=by simp [Zg]
 refine ⟨⟨by rw [gcells_len hk],.inr ⟨W.heap.size,1,(c x).toArray,rfl,Nat.zero_le _,heap_alloc_new W _,by simp,by decide,by simp [hk],?_⟩⟩,fun g hg=>by cases hg;rfl⟩
 rw [hg,List.length_singleton,Nat.one_mul,List.take_of_length_le (by simp [hk])]
theorem RdG.sub {w:World} {g:Nat} {l:List α} (h:RdG c k w (some ⟨g,0,none⟩) l) (i m:Nat):RdG c k w (some ⟨g,i * k,none⟩) ((l.drop i).take m):=by
 intro j x hx
 have hj:l[i+j]?=some x:=by
  rw [List.getElem?_take] at hx
  split at hx
  ·rw [List.getElem?_drop] at hx;exact hx
  ·cases hx
 obtain ⟨g',o',h1,h2⟩:=h _ _ hj;injection h1 with h1
 injection h1 with h1 h1'
 subst h1 h1';refine ⟨g,i * k,rfl,fun t u hu=>?_⟩
 have:=h2 t u hu;rwa [Nat.zero_add,Nat.add_mul] at this
end
end Apo
namespace Go.Proofs.YteopalkiebfioaaGreat
open Go.RowKit Apo
theorem ins_outer {W w1:World} {g i n1 c1:Nat} {y:Addr} {ks:List ByteArray} {key:ByteArray} (hl:ks.length<=1000000) (hi:i<=ks.length) (b1:Below W.heap.size W w1) (hg:RdG cTx 1 w1 (some ⟨g,0,none⟩) (ks.take i)) (hn:n1=(key :: ks.drop i).length) (hrd:RdG cTx 1 w1 (some y) (key :: ks.drop i)) :
  ∃ a2 c2 w2,(Builtin.append_ #[79,79] 79 #[.slice (some ⟨g,0,none⟩) i i,.slice (some y) n1 c1]).run Tryz.prog w1=.ok (.slice a2 (ks.take i++key :: ks.drop i).length c2) w2/\Row (fun g=>W.heap.size<=g) w2 9 1 (.slice a2 (ks.take i++key :: ks.drop i).length c2) (ks.take i++key :: ks.drop i).length (Zg cTx (ks.take i++key :: ks.drop i))/\Below W.heap.size W w2:=by
 obtain ⟨i0,hii,hz0,hz1,hz2⟩:=info_parts info_tx;have hln:(key :: ks.drop i).length=ks.length - i+1:=by simp
 obtain ⟨v',w',RR,r',g'⟩:=run_append_full (P:=Tryz.prog) (w:=w1) 79 79 9 i0 _ 1 16 Tryz.underlying79 hii hz0 hz1 hz2 rfl ⟨g,0,none⟩ i (Zg cTx (ks.take i)) (by rw [gcells_len cTx_len];simp;omega) (RdG.news cTx_len (by decide) hg) y n1 c1 (Zg cTx (key :: ks.drop i)) (by rw [gcells_len cTx_len,hn]) (RdG.news cTx_len (by decide) hrd) (by omega) (by unfold maxLen;omega) (by omega)
 have hlen:i+n1=(ks.take i++key :: ks.drop i).length:=by rw [List.length_append,<- hn,List.length_take];omega
 rw [hlen,<- gcells_app] at r'
 have hrow:Row (fun g=>W.heap.size<=g) w' 9 1 v' (ks.take i++key :: ks.drop i).length (Zg cTx (ks.take i++key :: ks.drop i)):=by
  refine ⟨⟨r'.1,?_⟩,fun g hg=>by have:=(r'.lt g hg).1;have:=b1.size;omega⟩
  rcases r'.2 with q | ⟨g,cap,cur,q1,q2,q3⟩
  ·exact .inl q
  ·exact .inr ⟨g,cap,cur,q1,Nat.zero_le _,q3⟩
 obtain ⟨a2,c2,hv2,_⟩:=hrow.form;subst hv2;exact ⟨a2,c2,w',RR,hrow,⟨g'.os.trans b1.os,g'.tape.trans b1.tape,g'.output.trans b1.output,Nat.le_trans b1.size g'.size,fun k hk=>(g'.block k (by have:=b1.size;omega) (by simp)).trans (b1.block k hk)⟩⟩
theorem ins_mid {O:Nat->Prop} {W:World} {g i vc:Nat} {ks:List ByteArray} (row:Row O W 9 1 (.slice (some ⟨g,0,none⟩) ks.length vc) ks.length (Zg cTx ks)) (key:ByteArray) (hl:ks.length<=1000000) (hi:i < ks.length) :
  ∃ a1 c1 n1 w1 a2 c2 w2,(Builtin.append_ #[79,79] 79 #[.slice (some ⟨W.heap.size,0,none⟩) 1 1,.slice (some ⟨g,i,none⟩) (ks.length - i) (vc - i)]).run Tryz.prog (W.alloc (.cells #[.string key] 9)).drew=.ok (.slice (some a1) n1 c1) w1 /\
   (Builtin.append_ #[79,79] 79 #[.slice (some ⟨g,0,none⟩) i i,.slice (some a1) n1 c1]).run Tryz.prog w1=.ok (.slice a2 (ks.take i++key :: ks.drop i).length c2) w2/\Row (fun g=>W.heap.size<=g) w2 9 1 (.slice a2 (ks.take i++key :: ks.drop i).length c2) (ks.take i++key :: ks.drop i).length (Zg cTx (ks.take i++key :: ks.drop i))/\Below W.heap.size W w2:=by
 obtain ⟨A,hA⟩:∃ A,A=(W.alloc (.cells #[.string key] 9)).drew:=⟨_,rfl⟩;have bA:Onl (fun _=>False) W A:=by rw [hA];exact ((Onl.refl _ W).alloc _).drew
 have sA:A.heap.size=W.heap.size+1:=by rw [hA];simp
 have rA:Row (fun g=>g=W.heap.size) A 9 1 (.slice (some ⟨W.heap.size,0,none⟩) 1 1) [key].length (Zg cTx [key]):=by
  rw [hA];exact (row_lit cTx_len 9 W key).onl (F:=fun _=>False) ((Onl.refl _ _).drew) (fun _ _ q=>q)
 obtain ⟨a0,c0,hv0,rd0,_,_,_,_⟩:=ZV cTx_len row;injection hv0 with e1 e2 e3
 subst e1;have rdA:=rd0.onl bA (fun _ _ q=>q)
 have rdd:RdG cTx 1 A (some ⟨g,i,none⟩) (ks.drop i):=by
  have:=rdA.sub i (ks.length - i);rwa [Nat.mul_one,List.take_of_length_le (by simp)] at this
 obtain ⟨v1,w1,R1,r1,o1,ow1⟩:=app_tx (cp:=vc - i) rA (by simp;omega) rdd
 obtain ⟨g1,c1,hv1,_,_,_,_,_⟩:=r1.shape (by simp)
 subst hv1;have b1:Below W.heap.size W w1:=Below.onl (Onl.toBelow bA (fun _ q=>q.elim) (Nat.le_refl _)) o1 (fun i q=>by cases q;exact Nat.le_refl _) (Nat.le_refl _)
 obtain ⟨a3,c3,hv3,rd3,_⟩:=ZV cTx_len r1;injection hv3 with e1 e2 e3
 subst e1;have hgW:g < W.heap.size:=row.lt g rfl
 have rdg:RdG cTx 1 w1 (some ⟨g,0,none⟩) (ks.take i):=by
  have:=(rdA.sub 0 i).onl o1 (fun x hx q=>by cases hx;simp only [Value.ownBlock,Option.some.injEq] at q;omega)
  simpa using this
 obtain ⟨a2,c2,w2,R2,r2,b2⟩:=ins_outer (W:=W) (c1:=c1) hl (by omega) b1 rdg rfl rd3
 rw [List.length_drop,hA] at R1;exact ⟨_,c1,_,w1,a2,c2,w2,R1,R2,r2,b2⟩
theorem ins_end {O:Nat->Prop} {W:World} {g vc:Nat} {ks:List ByteArray} (row:Row O W 9 1 (.slice (some ⟨g,0,none⟩) ks.length vc) ks.length (Zg cTx ks)) (key:ByteArray) (hl:ks.length<=1000000) (x:Option Addr) (cx:Nat) :
  ∃ a2 c2 w2,(Builtin.append_ #[79,79] 79 #[.slice (some ⟨W.heap.size,0,none⟩) 1 1,.slice x 0 cx]).run Tryz.prog (W.alloc (.cells #[.string key] 9)).drew=.ok (.slice (some ⟨W.heap.size,0,none⟩) 1 1) (W.alloc (.cells #[.string key] 9)).drew /\
   (Builtin.append_ #[79,79] 79 #[.slice (some ⟨g,0,none⟩) ks.length ks.length,.slice (some ⟨W.heap.size,0,none⟩) 1 1]).run Tryz.prog (W.alloc (.cells #[.string key] 9)).drew=.ok (.slice a2 (ks++[key]).length c2) w2/\Row (fun g=>W.heap.size<=g) w2 9 1 (.slice a2 (ks++[key]).length c2) (ks++[key]).length (Zg cTx (ks++[key]))/\Below W.heap.size W w2:=by
 obtain ⟨i0,hii,_⟩:=info_parts info_tx;obtain ⟨A,hA⟩:∃ A,A=(W.alloc (.cells #[.string key] 9)).drew:=⟨_,rfl⟩;have bA:Onl (fun _=>False) W A:=by rw [hA];exact ((Onl.refl _ W).alloc _).drew
 have rA:RdG cTx 1 A (some ⟨W.heap.size,0,none⟩) [key]:=by
  rw [hA];exact (rd_lit (c:=cTx) (k:=1) 9 W key).onl (O:=fun _=>False) ((Onl.refl _ _).drew) (fun _ _ q=>q)
 obtain ⟨a0,c0,hv0,rd0,_,_,_,_⟩:=ZV cTx_len row;injection hv0 with e1 e2 e3
 subst e1;have rdA:=rd0.onl bA (fun _ _ q=>q)
 obtain ⟨a2,c2,w2,R2,r2,b2⟩:=ins_outer (W:=W) (w1:=A) (c1:=1) (i:=ks.length) (key:=key) hl (Nat.le_refl _) (Onl.toBelow bA (fun _ q=>q.elim) (Nat.le_refl _)) (by rw [List.take_length];exact rdA) (n1:=1) (by simp) (by rw [List.drop_length];exact rA)
 simp only [List.take_length,List.drop_length] at R2 r2;rw [<- hA];exact ⟨a2,c2,w2,app_zero Tryz.underlying79 hii (Nat.le_refl _),R2,r2,b2⟩
theorem ins_first (W:World) (key:ByteArray) :
  ∃ a2 c2 w2,(Builtin.append_ #[79,79] 79 #[.slice (some ⟨W.heap.size,0,none⟩) 1 1,.slice none 0 0]).run Tryz.prog (W.alloc (.cells #[.string key] 9)).drew=.ok (.slice (some ⟨W.heap.size,0,none⟩) 1 1) (W.alloc (.cells #[.string key] 9)).drew /\
   (Builtin.append_ #[79,79] 79 #[.slice none 0 0,.slice (some ⟨W.heap.size,0,none⟩) 1 1]).run Tryz.prog (W.alloc (.cells #[.string key] 9)).drew=.ok (.slice a2 1 c2) w2/\Row (fun g=>W.heap.size<=g) w2 9 1 (.slice a2 1 c2) [key].length (Zg cTx [key])/\Below W.heap.size W w2:=by
 obtain ⟨i0,hii,_⟩:=info_parts info_tx;obtain ⟨A,hA⟩:∃ A,A=(W.alloc (.cells #[.string key] 9)).drew:=⟨_,rfl⟩;have bA:Onl (fun _=>False) W A:=by rw [hA];exact ((Onl.refl _ W).alloc _).drew
 have sA:A.heap.size=W.heap.size+1:=by rw [hA];simp
 have rA:RdG cTx 1 A (some ⟨W.heap.size,0,none⟩) [key]:=by
  rw [hA];exact (rd_lit (c:=cTx) (k:=1) 9 W key).onl (O:=fun _=>False) ((Onl.refl _ _).drew) (fun _ _ q=>q)
 obtain ⟨v2,w2,R2,r2,o2,ow2⟩:=app_tx (cp:=1) (l:=[]) (Row.nil (fun _=>False) A 9 1) (by simp) rA
 obtain ⟨a2,c2,hv2,_⟩:=r2.form;subst hv2;rw [<- hA];exact ⟨a2,c2,w2,app_zero Tryz.underlying79 hii (Nat.le_refl _),R2,⟨r2.1,fun g hg=>(r2.2 g hg).elim (fun q=>q.elim) (fun q=>by omega)⟩,Below.onl (Onl.toBelow bA (fun _ q=>q.elim) (Nat.le_refl _)) o2 (fun i q=>by cases q) (Nat.le_refl _)⟩
end Go.Proofs.YteopalkiebfioaaGreat
