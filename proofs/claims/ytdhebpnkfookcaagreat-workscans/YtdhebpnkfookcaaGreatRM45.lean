import Derived.Test.YtdhebpnkfookcaaGreatRM44
import Derived.Test.YtdhebpnkfookcaaGreatRM42
set_option maxRecDepth 100000
set_option maxHeartbeats 8000000
namespace Go.Proofs.YtdhebpnkfookcaaGreat
open Go.RowKit Apo
section
attribute [local go_sem ↓] app_exec
def IsCh (es fs:List En) (c:Ch):Prop:=Gets es c.k c.was c.had/\Gets fs c.k c.now c.has/\¬ ((c.had,c.was)=(c.has,c.now))
def DiffC (es fs:List En) (cs:List Ch):Prop:=Rise (cs.map Ch.k)/\∀ c,c ∈ cs↔IsCh es fs c
def DfR (es fs:List En) (ks:List ByteArray) (cs:List Ch):Prop:=Rise (cs.map Ch.k)/\(∀ c,c ∈ cs↔c.k ∈ ks/\IsCh es fs c)/\cs.length<=ks.length
theorem DfR.nil (es fs:List En):DfR es fs [] []:=⟨List.Pairwise.nil,fun c=>by simp,Nat.le_refl _⟩
theorem DfR.skip {es fs:List En} {ks:List ByteArray} {cs:List Ch} {key v v':ByteArray} {b b':Bool} (hr:Zz es) (hr':Zz fs) (h:DfR es fs ks cs) (h1:Gets es key v b) (h2:Gets fs key v' b') (h3:(b,v)=(b',v')):DfR es fs (ks++[key]) cs:=by
 refine ⟨h.1,fun c=>?_,by have:=h.2.2;simp;omega⟩;rw [h.2.1,List.mem_append,List.mem_singleton];constructor
 ·exact fun q=>⟨.inl q.1,q.2⟩
 ·rintro ⟨q | q,z⟩
  ·exact ⟨q,z⟩
  ·exfalso
   obtain ⟨z1,z2,z3⟩:=z;rw [q] at z1 z2;obtain ⟨e1,e2⟩:=Z8 hr z1 h1;obtain ⟨e3,e4⟩:=Z8 hr' z2 h2;exact z3 (by rw [e1,e2,e3,e4];exact h3)
theorem DfR.put {es fs:List En} {ks:List ByteArray} {cs:List Ch} {key v v':ByteArray} {b b':Bool} (hr:Zz es) (hr':Zz fs) (h:DfR es fs ks cs) (hk:∀ k ∈ ks,Z2 k key=true) (h1:Gets es key v b) (h2:Gets fs key v' b') (h3:¬ (b,v)=(b',v')):DfR es fs (ks++[key]) (cs++[⟨key,b,v,b',v'⟩]):=by
 refine ⟨?_,fun c=>?_,by have:=h.2.2;simp;omega⟩
 ·unfold Rise;rw [List.map_append,List.pairwise_append];refine ⟨h.1,by simp,fun x hx y hy=>?_⟩;simp only [List.map_cons,List.map_nil,List.mem_singleton] at hy;subst hy;obtain ⟨c,hc,rfl⟩:=List.mem_map.1 hx;exact hk _ ((h.2.1 c).1 hc).1
 ·rw [List.mem_append,List.mem_singleton,List.mem_append,List.mem_singleton,h.2.1];constructor
  ·rintro (q | rfl)
   ·exact ⟨.inl q.1,q.2⟩
   ·exact ⟨.inr rfl,h1,h2,h3⟩
  ·rintro ⟨q | q,z⟩
   ·exact .inl ⟨q,z⟩
   ·right
    obtain ⟨ck,chad,cwas,chas,cnow⟩:=c;simp only at q;subst q;obtain ⟨z1,z2,z3⟩:=z;obtain ⟨e1,e2⟩:=Z8 hr z1 h1;obtain ⟨e3,e4⟩:=Z8 hr' z2 h2;simp only at e1 e2 e3 e4;rw [e1,e2,e3,e4]
theorem DfR.done {es fs:List En} {ks:List ByteArray} {cs:List Ch} (h:DfR es fs ks cs) (h1:∀ e ∈ es,e.k ∈ ks) (h2:∀ e ∈ fs,e.k ∈ ks):DiffC es fs cs:=by
 refine ⟨h.1,fun c=>⟨fun q=>((h.2.1 c).1 q).2,fun q=>(h.2.1 c).2 ⟨?_,q⟩⟩⟩;obtain ⟨z1,z2,z3⟩:=q;rcases z1 with ⟨_,e,he,hk,_⟩ | ⟨a1,a2,_⟩
 ·rw [<- hk];exact h1 e he
 ·rcases z2 with ⟨_,e,he,hk,_⟩ | ⟨a3,a4,_⟩
  ·rw [<- hk];exact h2 e he
  ·exact absurd (by rw [a1,a2,a3,a4]) z3
theorem DiffC.uniq {es fs:List En} {cs cs':List Ch} (h:DiffC es fs cs) (h':DiffC es fs cs'):cs=cs':=by
 obtain ⟨r,m⟩:=h;obtain ⟨r',m'⟩:=h';have hm:∀ c,c ∈ cs↔c ∈ cs':=fun c=>(m c).trans (m' c).symm
 clear m m';induction cs generalizing cs' with
 | nil =>
  cases cs' with
  | nil=>rfl
  | cons c l=>exact absurd ((hm c).2 (by simp)) (by simp)
 | cons c l ih =>
  cases cs' with
  | nil=>exact absurd ((hm c).1 (by simp)) (by simp)
  | cons c' l' =>
   unfold Rise at r r';rw [List.map_cons,List.pairwise_cons] at r r'
   have hcc:c=c':=by
    rcases List.mem_cons.1 ((hm c).1 (by simp)) with q | q
    ·exact q
    ·rcases List.mem_cons.1 ((hm c').2 (by simp)) with q' | q'
     ·exact q'.symm
     ·have z1:=r'.1 c.k (List.mem_map.2 ⟨c,q,rfl⟩);have z2:=r.1 c'.k (List.mem_map.2 ⟨c',q',rfl⟩);have:=ZV z1 z2;rw [ZM] at this;cases this
   subst hcc;congr 1
   refine ih r.2 r'.2 (fun x=>?_);constructor
   ·intro hx;rcases List.mem_cons.1 ((hm x).1 (by simp [hx])) with q | q
    ·have:=r.1 x.k (List.mem_map.2 ⟨x,hx,rfl⟩);rw [q,ZM] at this;cases this
    ·exact q
   ·intro hx;rcases List.mem_cons.1 ((hm x).2 (by simp [hx])) with q | q
    ·have:=r'.1 x.k (List.mem_map.2 ⟨x,hx,rfl⟩);rw [q,ZM] at this;cases this
    ·exact q
theorem rdiff_any (w:World) (a b:Option Addr) (ca cb:Nat) (es fs:List En) (ha:RdEn w a es) (hb:RdEn w b fs) (hla:es.length<=100000) (hlb:fs.length<=100000) (hra:Zz es) (hrb:Zz fs) :
  Calls Tryz.prog 23 #[.slice a es.length ca,.slice b fs.length cb] w (DChP (DiffC es fs) w):=by
 have CG1:∀ W key,Below w.heap.size w W->Calls Tryz.prog 15 #[.slice a es.length ca,.string key] W (RgP es key W):=fun W key hW=>rget_any W a ca es key (ha.below hW) (by omega)
 have CG2:∀ W key,Below w.heap.size w W->Calls Tryz.prog 15 #[.slice b fs.length cb,.string key] W (RgP fs key W):=fun W key hW=>rget_any W b cb fs key (hb.below hW) (by omega)
 obtain ⟨W0,hW0⟩:∃ W0,W0=w.alloc (.cells #[.slice a es.length ca,.slice b fs.length cb] 22):=⟨_,rfl⟩;have b0:Below w.heap.size w W0:=by rw [hW0];exact (Below.refl _ w).alloc (Nat.le_refl _) _
 have k0:Ob W0 w.heap.size 22 [.slice a es.length ca,.slice b fs.length cb]:=by rw [hW0];exact Ob.new w [.slice a es.length ca,.slice b fs.length cb] 22
 have hM:RdM W0 (some ⟨w.heap.size,0,none⟩) [(a,ca,es),(b,cb,fs)]:=by
  intro i m hm;match i with
  | 0=>simp at hm;subst hm;exact ⟨⟨_,_,rfl,by simpa using k0.cell 0⟩,ha.below b0⟩
  | 1=>simp at hm;subst hm;exact ⟨⟨_,_,rfl,by simpa using k0.cell 1⟩,hb.below b0⟩
  | i+2=>simp at hm
 have CK:=rkeys_any W0 _ 2 [(a,ca,es),(b,cb,fs)] hM (by simp) (by simp;omega);rw [show [(a,ca,es),(b,cb,fs)].length=2 from rfl] at CK;obtain ⟨n,hn⟩:∃ n,n=es.length:=⟨_,rfl⟩;obtain ⟨m,hm⟩:∃ m,m=fs.length:=⟨_,rfl⟩;rw [<- hn] at CG1 hW0 ⊢;rw [<- hm] at CG2 hW0 ⊢;have HCK:=Za CK;have HG1:=Za CG1;have HG2:=Za CG2;have HRR:=Za (And.intro hra hrb);have HLL:=Za (And.intro hla hlb);have HB0:=Za b0;clear CK CG1 CG2 hM k0 b0 ha hb hn hm hra hrb hla hlb;go_enter Tryz.func23,Tryz.ntmps23
 go_wp2_with fail
 rw [<- hW0];clear hW0;refine HCK.out.mono ?_;rintro e' w1 ⟨ks,ka,kc,rfl,hks,krow,kb⟩;obtain ⟨ln,hln⟩:∃ ln,ln=ks.length:=⟨_,rfl⟩;rw [<- hln] at krow;rw [<- hln];have hlk:ln<=1000000:=by have h1:=hks.len;have h2:=HLL.out;simp at h1;omega
 have b1:Below w.heap.size w w1:=HB0.out.trans (kb.mono HB0.out.size);have HKS:=Za hks;have HLN:=Za hln;rw [hln] at krow;obtain ⟨a',cp',hv',rd',_⟩:=rd_gcells cTx_len krow;injection hv' with e1 e2 e3
 subst e1 e3;have HRD:=Za rd';have HB1:=Za b1;clear hks hln krow kb rd' b1 e2 HCK HB0;go_wp2;go_loopw [5,15] (fun v i wr=>∃ (j:Nat) (cs:List Ch) (va:Option Addr) (vc nk:Nat),j<=ln/\i=.int .i64 j/\v=.slice va nk vc/\Hid (nk=cs.length)/\Hid (DfR es fs (ks.take j) cs)/\Hid (Row (fun g=>w1.heap.size<=g) wr 80 5 (.slice va cs.length vc) cs.length (Zf cCh cs))/\Hid (Below w1.heap.size w1 wr)) (fun _ i _=>ln - (intOf i).toNat)
 case atStart=>exact ⟨0,[],none,0,0,Nat.zero_le _,rfl,rfl,Za rfl,Za (by simpa using DfR.nil es fs),Za (Row.nil _ _ _ _),Za (Below.refl _ _)⟩
 case round =>
  obtain ⟨j,cs,va,vc,nk,hj,rfl,rfl,HNK,HD,HRW,HBr⟩:=hrel;by_cases hjn:j < ln
  ·obtain ⟨key,hx⟩:∃ x,ks[j]?=some x:=⟨ks[j]'(by have:=HLN.out;omega),List.getElem?_eq_getElem _⟩;obtain ⟨g,o,rfl,c0⟩:=(HRD.out.below HBr.out).tx hx;have hB2:=HB1.out.trans (HBr.out.mono HB1.out.size);have HB2:=Za hB2;have HC1:=Za (HG1.out wr key hB2);have HX:=Za hx;clear hB2 hx;go_wp2_with fail
   refine HC1.out.mono ?_;rintro e' w2 ⟨v1,b1,rfl,g1,bb2⟩;have HC2:=Za (HG2.out w2 key (HB2.out.trans (bb2.mono HB2.out.size)));have HGE1:=Za g1;have HBB2:=Za bb2;clear g1 bb2 HC1;go_wp2_with fail
   refine HC2.out.mono ?_;rintro e' w4 ⟨v2,b2,rfl,g2,bb4⟩;have hb4:Below wr.heap.size wr w4:=HBB2.out.trans (bb4.mono HBB2.out.size);obtain ⟨w5,hw5⟩:∃ w5,w5=(w4.alloc (.cells #[.bool b1,.string v1] 35)).alloc (.cells #[.bool b2,.string v2] 35):=⟨_,rfl⟩;have bb5:Below w4.heap.size w4 w5:=by rw [hw5];exact ((Below.refl _ w4).alloc (Nat.le_refl _) _).alloc (by simp) _
   have s5:w5.heap.size=w4.heap.size+2:=by rw [hw5];simp
   have k5:Ob w5 w4.heap.size 35 [.bool b1,.string v1]:=by rw [hw5];exact (Ob.new w4 [.bool b1,.string v1] 35).alloc _
   have k6:Ob w5 (w4.heap.size+1) 35 [.bool b2,.string v2]:=by
    rw [hw5];have:=Ob.new (w4.alloc (.cells #[.bool b1,.string v1] 35)) [.bool b2,.string v2] 35;rw [World.size_alloc] at this;exact this
   have hb5:Below wr.heap.size wr w5:=hb4.trans (bb5.mono hb4.size);have row5:=HRW.out.onl (F:=fun _=>False) (Onl.ofBelow hb5) (fun _ _ q=>q);have y0:=k5.cell 0;have y1:=k5.cell 1;have x0:=k6.cell 0;have x1:=k6.cell 1;simp only [List.getElem?_cons_zero,List.getElem?_cons_succ] at y0 y1 x0 x1;have hcmp:=neqSd b1 b2 v1 v2;have hgd:Tryz.prog.eqGuardType Tryz.prog.depth 35=false:=by kernel_rfl
   have htk:ks.take (j+1)=ks.take j++[key]:=by rw [List.take_add_one,HX.out];rfl
   have hlt:∀ k ∈ ks.take j,Z2 k key=true:=fun k hk=>by
    obtain ⟨t,ht,rfl⟩:=List.mem_iff_getElem.1 hk;simp only [List.length_take] at ht;rw [List.getElem_take];have hq:=(List.getElem?_eq_some_iff.1 HX.out);rw [<- hq.2];exact List.pairwise_iff_getElem.1 HKS.out.rise t j (by omega) hq.1 (by omega)
   have HB5:=Za (HBr.out.trans (hb5.mono HBr.out.size));have hsz5:w1.heap.size<=w5.heap.size:=HB5.out.size;by_cases heq:(b1,v1)=(b2,v2)
   ·rw [decide_eq_true heq] at hcmp;simp only [Bool.not_true] at hcmp
    have HF:Hid (DfR es fs (ks.take (j+1)) cs):=by
     rw [htk];exact Za (HD.out.skip HRR.out.1 HRR.out.2 HGE1.out g2 heq)
    have HRF:=Za row5;rw [hw5] at y0 y1 x0 x1 HB5 HRF;clear hw5 k5 k6 bb5 s5 row5 hb5 hb4 bb4 g2 heq htk hlt;go_wp2;go_roundw
    case rel=>exact ⟨j+1,cs,va,vc,nk,by omega,by simp,rfl,HNK,HF,HRF,HB5⟩
    case measure=>simp [intOf];omega
   ·rw [decide_eq_false heq] at hcmp;simp only [Bool.not_false] at hcmp;obtain ⟨x,hx⟩:∃ x:Ch,x=⟨key,b1,v1,b2,v2⟩:=⟨_,rfl⟩;obtain ⟨w6,hw6⟩:∃ w6,w6=w5.alloc (.cells (cCh x).toArray 80):=⟨_,rfl⟩;have bb6:Below w5.heap.size w5 w6:=by rw [hw6];exact (Below.refl _ w5).alloc (Nat.le_refl _) _
    have row6:=row5.onl (F:=fun _=>False) (Onl.ofBelow bb6) (fun _ _ q=>q);have rd6:RdG cCh 5 w6 (some ⟨w5.heap.size,0,none⟩) [x]:=by rw [hw6];exact rd_lit _ _ x
    obtain ⟨v8,w8,RR,r8,o8,ow8⟩:=app_ch (cp:=1) row6 (by have:=HD.out.2.2;simp at this;simp;omega) rd6;obtain ⟨va8,vc8,hva8,_⟩:=r8.form;obtain ⟨n8,hn8⟩:∃ n8,n8=(cs++[x]).length:=⟨_,rfl⟩;rw [hva8] at r8 RR;rw [show [x].length=1 from rfl,<- hn8,<- HNK.out] at RR;have hs6:w6.heap.size=w5.heap.size+1:=by rw [hw6,World.size_alloc]
    have hb8:Below w1.heap.size w1 w8:=Below.onl (HB5.out.trans (bb6.mono hsz5)) o8 (fun i q=>HRW.out.2 i q) (Nat.le_refl _);have HB8:=Za hb8
    have HF:Hid (DfR es fs (ks.take (j+1)) (cs++[x])):=by
     rw [htk,hx];exact Za (HD.out.put HRR.out.1 HRR.out.2 hlt HGE1.out g2 heq)
    have HRF:Hid (Row (fun g=>w1.heap.size<=g) w8 80 5 (.slice va8 (cs++[x]).length vc8) (cs++[x]).length (Zf cCh (cs++[x]))):=Za ⟨r8.1,fun g hg=>(r8.2 g hg).elim (fun z=>z) (fun z=>by omega)⟩;have HN8:=Za hn8;rw [hw6,hx] at RR;simp only [cCh] at RR;rw [hw5] at RR y0 y1 x0 x1;simp only [World.size_alloc] at RR;obtain ⟨z1,z2,z3⟩:=Ze RR;clear hw5 k5 k6 bb5 s5 row5 hb5 hb4 bb4 g2 heq htk hlt hw6 bb6 row6 rd6 r8 o8 ow8 hva8 hn8 hs6 hb8 RR HB5 hsz5;go_wp2;go_roundw
    case rel=>exact ⟨j+1,cs++[x],va8,vc8,n8,by omega,by simp,rfl,HN8,HF,HRF,HB8⟩
    case measure=>simp [intOf];omega
  ·have HF:Hid (DChP (DiffC es fs) w (.returned (.slice va nk vc)) wr):=by
    have hD:=HD.out;rw [List.take_of_length_le (by have:=HLN.out;omega)] at hD;refine Za ⟨cs,va,vc,by rw [HNK.out],hD.done (fun e he=>(HKS.out.mem _).2 (by simp;exact .inl ⟨e,he,rfl⟩)) (fun e he=>(HKS.out.mem _).2 (by simp;exact .inr ⟨e,he,rfl⟩)),HRW.out.mono (fun g hg=>by have:=HB1.out.size;omega),HB1.out.trans (HBr.out.mono HB1.out.size)⟩
   clear HD HRW;go_wp2;go_ret
   exact HF.out
end
open Classical in
theorem neqCh (f g:Ch) (w:World):(binOp .neq 80 (.agg #[.string f.k,.bool f.had,.string f.was,.bool f.has,.string f.now]) (.agg #[.string g.k,.bool g.had,.string g.was,.bool g.has,.string g.now])).run Tryz.prog w=.ok (.bool (!decide (f=g))) w:=by
 have u9:=Tryz.underlying9;have u4:=Tryz.underlying4;have hS:Tryz.prog.underlying 80=some (.struct (Tryz.prog.fieldsOf 80)):=by kernel_rfl
 have hp:Tryz.prog.stoodInHeld 80=false:=by kernel_rfl
 rw [run_neq_struct,show (10000:Nat)=9999+1 from rfl,run_equalIn_agg w 9999 80 _ _ hS hp];simp only [Program.fieldsOf,Tryz.underlying80];go_simp;obtain ⟨fk,fh,fw,fs,fn⟩:=f;obtain ⟨gk,gh,gw,gs,gn⟩:=g;simp only;by_cases h1:fk=gk
 ·by_cases h2:fh=gh
  ·by_cases h3:fw=gw
   ·by_cases h4:fs=gs
    ·by_cases h5:fn=gn
     ·simp [h1,h2,h3,h4,h5]
     ·have h5':¬ fn.toList=gn.toList:=fun e=>h5 (ZA e)
      simp [h1,h2,h3,h4,h5,h5']
    ·simp [h1,h2,h3,h4]
   ·have h3':¬ fw.toList=gw.toList:=fun e=>h3 (ZA e)
    simp [h1,h2,h3,h3']
  ·simp [h1,h2]
 ·have h1':¬ fk.toList=gk.toList:=fun e=>h1 (ZA e)
  simp [h1,h1']
open Classical in
theorem sameCh_any (a:Option Addr) (acap:Nat) (l:List Ch) (b:Option Addr) (bcap:Nat) (m:List Ch) (w:World) (ha:RdG cCh 5 w a l) (hb:RdG cCh 5 w b m) (hl:l.length<=9223372036854775807) :
  Calls Tryz.prog 22 #[.slice a l.length acap,.slice b m.length bcap] w fun e w'=>e=.returned (.bool (decide (l=m)))/\Below w.heap.size w w':=by
 have hA:=Za ha;have hB:=Za hb;clear ha hb;by_cases hlen:l.length=m.length
 ·rw [<- hlen];have HL:=Za hlen;clear hlen;go_enter Tryz.func22,Tryz.ntmps22
  go_wp2;go_loopw [13] (fun i wr=>∃ k:Nat,k<=l.length/\i=.int .i64 k/\Hid (l.take k=m.take k)/\Below w.heap.size w wr) (fun i _=>l.length - (intOf i).toNat)
  case atStart=>exact ⟨0,Nat.zero_le _,rfl,rfl,Below.refl _ _⟩
  case round =>
   obtain ⟨k,hk,rfl,hE,hbr⟩:=hrel;by_cases hlt:k < l.length
   ·have hz:l[k]?=some l[k]:=List.getElem?_eq_getElem hlt
    have hlt2:k < m.length:=by rw [<- HL.out];exact hlt
    have hy:m[k]?=some m[k]:=List.getElem?_eq_getElem hlt2
    generalize l[k]=f at hz;generalize m[k]=g at hy;obtain ⟨p,off,rfl,c0,c1,c2,c3,c4⟩:=(hA.out.below hbr).ch hz;obtain ⟨p',off',rfl,d0,d1,d2,d3,d4⟩:=(hB.out.below hbr).ch hy;have HZ:=Za hz;have HY:=Za hy;clear hz hy;have hm:Tryz.prog.eqGuardType Tryz.prog.depth 80=false:=by kernel_rfl
    have hcmp:=neqCh f g;by_cases hfg:f=g
    ·subst hfg;simp only [decide_true,Bool.not_true] at hcmp
     have hE':Hid (l.take (k+1)=m.take (k+1)):=by
      show _=_
      rw [List.take_add_one,List.take_add_one,HZ.out,HY.out,hE.out]
     go_wp2;go_quiet (fail)
     go_wp2;go_roundw
     case rel=>exact ⟨k+1,by omega,by go_num,hE',below_drewN hbr _⟩
     case measure=>simp [intOf];omega
    ·have hd:decide (f=g)=false:=by simp [hfg]
     simp only [hd,Bool.not_false] at hcmp
     have hE':Hid (l≠m):=by
      intro e;have h1:=HZ.out;rw [e,HY.out] at h1;exact hfg (by cases h1;rfl)
     go_wp2;go_quiet (fail)
     go_wp2;go_ret
     exact ⟨by simp [hE'.out],below_drewN hbr _⟩
   ·have hE':Hid (l=m):=by
     have h1:=hE.out;rw [List.take_of_length_le (by omega),List.take_of_length_le (by rw [<- HL.out];omega)] at h1;exact h1
    go_wp2;go_ret
    exact ⟨by simp [hE'.out],hbr⟩
 ·have hne:l≠m:=fun e=>hlen (by rw [e])
  have hN:=Za hne;have hlb:((l.length:Int) == (m.length:Int))=false:=by simp;omega
  clear hne;go_enter Tryz.func22,Tryz.ntmps22
  go_wp2;go_ret
  exact ⟨by simp [hN.out],Below.refl _ _⟩
theorem take_gets {es:List En} {key:ByteArray} (hr:Zz es) (hk:∀ e r,es=e :: r->Z2 e.k key=false):Gets es key (takeK es key).1.2 (takeK es key).1.1/\(∀ e ∈ (takeK es key).2,Z2 key e.k=true)/\Zz (takeK es key).2/\∀ k v b,Z2 key k=true->(Gets es k v b↔Gets (takeK es key).2 k v b):=by
 cases es with
 | nil=>exact ⟨.inr ⟨rfl,rfl,by simp⟩,by simp [takeK],hr,fun k v b _=>Iff.rfl⟩
 | cons e r =>
  unfold Zz at hr;rw [List.pairwise_cons] at hr;by_cases q:e.k=key
  ·have ht:takeK (e :: r) key=((true,e.v),r):=if_pos q;rw [ht];refine ⟨.inl ⟨rfl,e,by simp,q,rfl⟩,fun x hx=>by rw [<- q];exact hr.1 x hx,hr.2,fun k v b hkk=>?_⟩;have hne:e.k≠k:=fun z=>by rw [q] at z;rw [z,ZM] at hkk;cases hkk
   unfold Gets;constructor
   ·rintro (⟨h1,x,hx,h2,h3⟩ | ⟨h1,h2,h3⟩)
    ·rcases List.mem_cons.1 hx with z | z
     ·rw [z] at h2;exact absurd h2 hne
     ·exact .inl ⟨h1,x,z,h2,h3⟩
    ·exact .inr ⟨h1,h2,fun x hx=>h3 x (by simp [hx])⟩
   ·rintro (⟨h1,x,hx,h2,h3⟩ | ⟨h1,h2,h3⟩)
    ·exact .inl ⟨h1,x,by simp [hx],h2,h3⟩
    ·refine .inr ⟨h1,h2,fun x hx=>?_⟩;rcases List.mem_cons.1 hx with z | z
     ·rw [z];exact hne
     ·exact h3 x z
  ·have ht:takeK (e :: r) key=((false,⟨#[]⟩),e :: r):=if_neg q
   have hlt:Z2 key e.k=true:=by
    cases z:Z2 key e.k with
    | true=>rfl
    | false=>exact absurd (sLt_conn (hk e r rfl) z) q
   have hall:∀ x ∈ e :: r,Z2 key x.k=true:=fun x hx=>by
    rcases List.mem_cons.1 hx with z | z
    ·rw [z];exact hlt
    ·exact ZV hlt (hr.1 x z)
   rw [ht];refine ⟨.inr ⟨rfl,rfl,fun x hx z=>?_⟩,hall,List.pairwise_cons.2 hr,fun k v b _=>Iff.rfl⟩;have:=hall x hx;rw [z,ZM] at this;cases this
theorem least_le {es fs:List En} {key:ByteArray} (h:leastK es fs=(key,true)):(∀ e r,es=e :: r->Z2 e.k key=false)/\∀ e r,fs=e :: r->Z2 e.k key=false:=by
 cases es with
 | nil=>cases fs with
  | nil=>cases h
  | cons f fs =>
   have:f.k=key:=by cases h;rfl
   exact ⟨(fun e r q=>by cases q),fun e r q=>by cases q;rw [this];exact ZM _⟩
 | cons e es=>cases fs with
  | nil =>
   have:e.k=key:=by cases h;rfl
   exact ⟨fun x r q=>(by cases q;rw [this];exact ZM _),fun x r q=>by cases q⟩
  | cons f fs =>
   simp only [leastK] at h;split at h
   ·rename_i hl
    have hk:f.k=key:=by cases h;rfl
    refine ⟨fun x r q=>?_,fun x r q=>by cases q;rw [hk];exact ZM _⟩;cases q
    rw [<- hk];cases z:Z2 e.k f.k with
    | false=>rfl
    | true =>
     have:=ZV z hl;rw [ZM] at this;cases this
   ·rename_i hl
    have hk:e.k=key:=by cases h;rfl
    refine ⟨fun x r q=>(by cases q;rw [hk];exact ZM _),fun x r q=>?_⟩;cases q
    rw [<- hk];simpa using hl
theorem OfR.is {es fs:List En} {cs:List Ch} (h:OfR es fs cs):Zz es->Zz fs->DiffC es fs cs:=by
 induction h with
 | done =>
  intro _ _;refine ⟨List.Pairwise.nil,fun c=>⟨fun q=>by simp at q,fun q=>?_⟩⟩;obtain ⟨h1,h2,h3⟩:=q;rcases h1 with ⟨_,x,hx,_⟩ | ⟨a1,a2,_⟩
  ·simp at hx
  ·rcases h2 with ⟨_,x,hx,_⟩ | ⟨a3,a4,_⟩
   ·simp at hx
   ·exact absurd (by rw [a1,a2,a3,a4]) h3
 | @step es fs key cs hl hr ih =>
  intro r1 r2;obtain ⟨l1,l2⟩:=least_le hl;obtain ⟨g1,a1,s1,t1⟩:=take_gets r1 l1;obtain ⟨g2,a2,s2,t2⟩:=take_gets r2 l2;obtain ⟨i1,i2⟩:=ih s1 s2
  have hgt:∀ c ∈ cs,Z2 key c.k=true:=fun c hc=>by
   obtain ⟨h1,h2,h3⟩:=(i2 c).1 hc;rcases h1 with ⟨_,x,hx,q,_⟩ | ⟨b1,b2,_⟩
   ·rw [<- q];exact a1 x hx
   ·rcases h2 with ⟨_,x,hx,q,_⟩ | ⟨b3,b4,_⟩
    ·rw [<- q];exact a2 x hx
    ·exact absurd (by rw [b1,b2,b3,b4]) h3
  have hiff:∀ c:Ch,Z2 key c.k=true->(IsCh es fs c↔c ∈ cs):=fun c hc=>by
   rw [i2 c];unfold IsCh;rw [t1 _ _ _ hc,t2 _ _ _ hc]
  have hkey:∀ c:Ch,IsCh es fs c->c.k=key\/Z2 key c.k=true:=fun c hc=>by
   by_cases q:c.k=key
   ·exact .inl q
   ·right
    have hin:∀ {l:List En},Zz l->(∀ e r,l=e :: r->Z2 e.k key=false)->∀ x ∈ l,x.k=key\/Z2 key x.k=true:=fun {l} hr hh x hx=>by
     cases l with
     | nil=>simp at hx
     | cons e r =>
      unfold Zz at hr;rw [List.pairwise_cons] at hr;have he:=hh e r rfl
      have hle:e.k=key\/Z2 key e.k=true:=by
       cases z:Z2 key e.k with
       | true=>exact .inr rfl
       | false=>exact .inl (sLt_conn he z)
      rcases List.mem_cons.1 hx with z | z
      ·rw [z];exact hle
      ·right
       rcases hle with y | y
       ·rw [<- y];exact hr.1 x z
       ·exact ZV y (hr.1 x z)
    obtain ⟨h1,h2,h3⟩:=hc;rcases h1 with ⟨_,x,hx,z,_⟩ | ⟨b1,b2,_⟩
    ·rw [<- z];exact (hin r1 l1 x hx).resolve_left (by rw [z];exact q)
    ·rcases h2 with ⟨_,x,hx,z,_⟩ | ⟨b3,b4,_⟩
     ·rw [<- z];exact (hin r2 l2 x hx).resolve_left (by rw [z];exact q)
     ·exact absurd (by rw [b1,b2,b3,b4]) h3
  by_cases heq:(takeK es key).1=(takeK fs key).1
  ·rw [chOf,if_pos heq,List.nil_append];refine ⟨i1,fun c=>⟨fun q=>(hiff c (hgt c q)).2 q,fun q=>?_⟩⟩;rcases hkey c q with z | z
   ·exfalso
    obtain ⟨h1,h2,h3⟩:=q;rw [z] at h1 h2;obtain ⟨e1,e2⟩:=Z8 r1 h1 g1;obtain ⟨e3,e4⟩:=Z8 r2 h2 g2;exact h3 (by rw [e1,e2,e3,e4];exact heq)
   ·exact (hiff c z).1 q
  ·rw [chOf,if_neg heq];refine ⟨?_,fun c=>?_⟩
   ·unfold Rise;rw [List.map_append,List.pairwise_append];refine ⟨by simp,i1,fun x hx y hy=>?_⟩;simp only [List.map_cons,List.map_nil,List.mem_singleton] at hx;subst hx;obtain ⟨c,hc,rfl⟩:=List.mem_map.1 hy;exact hgt c hc
   ·rw [List.mem_append,List.mem_singleton];constructor
    ·rintro (rfl | q)
     ·exact ⟨g1,g2,heq⟩
     ·exact (hiff c (hgt c q)).2 q
    ·intro q;rcases hkey c q with z | z
     ·left
      obtain ⟨ck,chad,cwas,chas,cnow⟩:=c;simp only at z;subst z;obtain ⟨h1,h2,h3⟩:=q;obtain ⟨e1,e2⟩:=Z8 r1 h1 g1;obtain ⟨e3,e4⟩:=Z8 r2 h2 g2;simp only at e1 e2 e3 e4;rw [e1,e2,e3,e4]
     ·exact .inr ((hiff c z).1 q)
def Says (ws:List Ed) (key v:ByteArray) (b:Bool):Prop:=(b=true/\∃ x,(ofKey ws key).getLast?=some x/\x.g=false/\x.v=v)\/(b=false/\v=⟨#[]⟩/\∀ x,(ofKey ws key).getLast?=some x->x.g=true)
theorem says_ex (ws:List Ed) (key:ByteArray):∃ v b,Says ws key v b:=by
 cases h:(ofKey ws key).getLast? with
 | none=>exact ⟨_,false,.inr ⟨rfl,rfl,fun x hx=>by rw [h] at hx;cases hx⟩⟩
 | some x =>
  cases hg:x.g with
  | true=>exact ⟨_,false,.inr ⟨rfl,rfl,fun y hy=>by rw [h] at hy;cases hy;exact hg⟩⟩
  | false=>exact ⟨x.v,true,.inl ⟨rfl,x,h,hg,rfl⟩⟩
def Zp (e:En):Ed:=⟨e.k,e.v,false⟩
theorem ofK_ne {ws:List Ed} {x:Ed} {key:ByteArray} (h:x.k≠key):ofKey (ws++[x]) key=ofKey ws key:=by
 rw [ofK_app];simp [ofKey,h]
theorem ofK_eq {ws:List Ed} {x:Ed} {key:ByteArray} (h:x.k=key):ofKey (ws++[x]) key=ofKey ws key++[x]:=by
 rw [ofK_app];simp [ofKey,h]
theorem says_ne {ws:List Ed} {x:Ed} {key v:ByteArray} {b:Bool} (h:x.k≠key):Says (ws++[x]) key v b↔Says ws key v b:=by unfold Says;rw [ofK_ne h]
theorem says_eq {ws:List Ed} {x:Ed} {key v:ByteArray} {b:Bool} (h:x.k=key):Says (ws++[x]) key v b↔(b=true/\x.g=false/\x.v=v)\/(b=false/\v=⟨#[]⟩/\x.g=true):=by
 unfold Says;rw [ofK_eq h];simp
def ApR (a:List En) (l:List Ed) (es:List En):Prop:=Zz es/\∀ key v b,Says (a.map Zp++l) key v b->Gets es key v b
theorem ent_mem {es:List En} {e:En}:e ∈ es↔Gets es e.k e.v true:=by
 constructor
 ·exact fun h=>.inl ⟨rfl,e,h,rfl,rfl⟩
 ·rintro (⟨_,f,hf,h1,h2⟩ | ⟨h,_⟩)
  ·have:f=e:=by cases f;cases e;simp only at h1 h2;rw [h1,h2]
   rwa [<- this]
  ·cases h
theorem riseE_uniq {es fs:List En} (h:Zz es) (h':Zz fs) (hm:∀ e,e ∈ es↔e ∈ fs):es=fs:=by
 induction es generalizing fs with
 | nil =>
  cases fs with
  | nil=>rfl
  | cons c l=>exact absurd ((hm c).2 (by simp)) (by simp)
 | cons c l ih =>
  cases fs with
  | nil=>exact absurd ((hm c).1 (by simp)) (by simp)
  | cons c' l' =>
   unfold Zz at h h';rw [List.pairwise_cons] at h h'
   have hcc:c=c':=by
    rcases List.mem_cons.1 ((hm c).1 (by simp)) with q | q
    ·exact q
    ·rcases List.mem_cons.1 ((hm c').2 (by simp)) with q' | q'
     ·exact q'.symm
     ·have:=ZV (h'.1 c q) (h.1 c' q');rw [ZM] at this;cases this
   subst hcc;congr 1
   refine ih h.2 h'.2 (fun x=>?_);constructor
   ·intro hx;rcases List.mem_cons.1 ((hm x).1 (by simp [hx])) with q | q
    ·have:=h.1 x hx;rw [q,ZM] at this;cases this
    ·exact q
   ·intro hx;rcases List.mem_cons.1 ((hm x).2 (by simp [hx])) with q | q
    ·have:=h'.1 x hx;rw [q,ZM] at this;cases this
    ·exact q
theorem ApR.uniq {a:List En} {l:List Ed} {es fs:List En} (h:ApR a l es) (h':ApR a l fs):es=fs:=by
 refine riseE_uniq h.1 h'.1 (fun e=>?_);obtain ⟨v,b,hs⟩:=says_ex (a.map Zp++l) e.k;have g1:=h.2 _ _ _ hs;have g2:=h'.2 _ _ _ hs;rw [ent_mem,ent_mem];constructor
 ·intro q;obtain ⟨e1,e2⟩:=Z8 h.1 q g1;rw [e1,e2];exact g2
 ·intro q;obtain ⟨e1,e2⟩:=Z8 h'.1 q g2;rw [e1,e2];exact g1
theorem says_words {a:List En} {key v:ByteArray} {b:Bool} (h:Says (a.map Zp) key v b):Gets a key v b:=by
 rcases h with ⟨rfl,x,hx,hg,hv⟩ | ⟨rfl,rfl,hx⟩
 ·have hm:=List.mem_of_getLast? hx;unfold ofKey at hm;rw [List.mem_filter,decide_eq_true_eq] at hm;obtain ⟨e,he,rfl⟩:=List.mem_map.1 hm.1;exact .inl ⟨rfl,e,he,hm.2,hv⟩
 ·refine .inr ⟨rfl,rfl,fun e he hk=>?_⟩
  have hm:Zp e ∈ ofKey (a.map Zp) key:=by
   unfold ofKey;rw [List.mem_filter,decide_eq_true_eq];exact ⟨List.mem_map.2 ⟨e,he,rfl⟩,hk⟩
  cases hq:(ofKey (a.map Zp) key).getLast? with
  | none=>rw [List.getLast?_eq_none_iff] at hq;rw [hq] at hm;simp at hm
  | some y =>
   have hy:=hx y hq;have hm2:=List.mem_of_getLast? hq;unfold ofKey at hm2;rw [List.mem_filter] at hm2;obtain ⟨f,_,rfl⟩:=List.mem_map.1 hm2.1;cases hy
theorem ApR.nil {a:List En} (hr:Zz a):ApR a [] a:=⟨hr,fun key v b h=>says_words (by simpa using h)⟩
def SetC (es:List En) (x:Ed) (fs:List En):Prop:=Zz fs/\(∀ key v b,key≠x.k->Gets es key v b->Gets fs key v b)/\(x.g=false->Gets fs x.k x.v true)/\(x.g=true->Gets fs x.k ⟨#[]⟩ false)
theorem ApR.snoc {a:List En} {l:List Ed} {es fs:List En} {x:Ed} (h:ApR a l es) (hs:SetC es x fs):ApR a (l++[x]) fs:=by
 refine ⟨hs.1,fun key v b q=>?_⟩;rw [<- List.append_assoc] at q;by_cases z:x.k=key
 ·rw [says_eq z] at q;rcases q with ⟨rfl,h1,rfl⟩ | ⟨rfl,rfl,h1⟩
  ·rw [<- z];exact hs.2.2.1 h1
  ·rw [<- z];exact hs.2.2.2 h1
 ·rw [says_ne z] at q;exact hs.2.1 key v b (Ne.symm z) (h.2 key v b q)
def Kept (d:List Ed) (t:Nat) (x:Ed):Prop:=d[t]?=some x/\x.g=false/\∀ y,d[t+1]?=some y->y.k≠x.k
open Classical in
noncomputable def keepO (d:List Ed) (t:Nat):List En:=if h:∃ x,Kept d t x then [⟨h.choose.k,h.choose.v⟩] else []
theorem keep_yes {d:List Ed} {t:Nat} {x:Ed} (h:Kept d t x):keepO d t=[⟨x.k,x.v⟩]:=by
 have hex:∃ x,Kept d t x:=⟨x,h⟩;unfold keepO;rw [dif_pos hex];have h1:=hex.choose_spec.1;rw [h.1] at h1;cases h1
 rfl
theorem keep_no {d:List Ed} {t:Nat} (h:∀ x,¬ Kept d t x):keepO d t=[]:=by
 unfold keepO;rw [dif_neg (fun ⟨x,hx⟩=>h x hx)]
noncomputable def Zg (d:List Ed):Nat->List En
 | 0=>[]
 | n+1=>Zg d n++keepO d n
theorem keep_len (d:List Ed) (t:Nat):(keepO d t).length<=1:=by
 unfold keepO;split <;> simp
theorem keptTo_len (d:List Ed):∀ n,(Zg d n).length<=n
 | 0=>Nat.le_refl _
 | n+1=>by have h1:=keptTo_len d n;have h2:=keep_len d n;simp only [Zg,List.length_append];omega
theorem keptTo_mem {d:List Ed} {e:En}:∀ {n:Nat},e ∈ Zg d n↔∃ t x,t < n/\Kept d t x/\e=⟨x.k,x.v⟩
 | 0=>by simp [Zg]
 | n+1=>by
  simp only [Zg,List.mem_append];rw [keptTo_mem (n:=n)];constructor
  ·rintro (⟨t,x,h1,h2⟩ | h)
   ·exact ⟨t,x,by omega,h2⟩
   ·by_cases q:∃ x,Kept d n x
    ·obtain ⟨x,hx⟩:=q;rw [keep_yes hx,List.mem_singleton] at h;exact ⟨n,x,by omega,hx,h⟩
    ·rw [keep_no (fun x hx=>q ⟨x,hx⟩)] at h;simp at h
  ·rintro ⟨t,x,h1,h2,rfl⟩;by_cases z:t < n
   ·exact .inl ⟨t,x,z,h2,rfl⟩
   ·obtain rfl:t=n:=by omega
    right
    rw [keep_yes h2];simp
theorem leK_anti {a b:ByteArray} (h:leK a b) (k:leK b a):a=b:=sLt_conn k h
theorem kept_lt {d:List Ed} {n t u:Nat} {x y:Ed} (hs:SrtIn d 0 n) (hn:d.length<=n) (h:Kept d t x) (hy:d[u]?=some y) (htu:t < u):Z2 x.k y.k=true:=by
 have hu:=(List.getElem?_eq_some_iff.1 hy).1;have h1:=hs t u (Nat.zero_le _) htu (by omega);rw [kAt_some h.1,kAt_some hy] at h1;cases q:Z2 x.k y.k with
 | true=>rfl
 | false =>
  exfalso
  have hxy:x.k=y.k:=leK_anti h1 q;obtain ⟨z,hz⟩:∃ z,d[t+1]?=some z:=⟨d[t+1]'(by omega),List.getElem?_eq_getElem _⟩;have h2:=hs.le (i:=t) (j:=t+1) (Nat.zero_le _) (by omega) (by omega);have h3:=hs.le (i:=t+1) (j:=u) (Nat.zero_le _) (by omega) (by omega);rw [kAt_some h.1,kAt_some hz] at h2;rw [kAt_some hz,kAt_some hy,<- hxy] at h3;exact h.2.2 z hz (leK_anti h3 h2)
theorem keptTo_rise {d:List Ed} {n:Nat} (hs:SrtIn d 0 n) (hn:d.length<=n):∀ m,Zz (Zg d m)
 | 0=>List.Pairwise.nil
 | m+1=>by
  have ih:=keptTo_rise hs hn m;unfold Zz at ih ⊢;simp only [Zg];rw [List.pairwise_append];refine ⟨ih,?_,fun e he f hf=>?_⟩
  ·by_cases q:∃ x,Kept d m x
   ·obtain ⟨x,hx⟩:=q;rw [keep_yes hx];simp
   ·rw [keep_no (fun x hx=>q ⟨x,hx⟩)];exact List.Pairwise.nil
  ·by_cases q:∃ x,Kept d m x
   ·obtain ⟨x,hx⟩:=q;rw [keep_yes hx,List.mem_singleton] at hf;obtain ⟨t,y,ht,hy,rfl⟩:=keptTo_mem.1 he;rw [hf];exact kept_lt hs hn hy hx.1 ht
   ·rw [keep_no (fun x hx=>q ⟨x,hx⟩)] at hf;simp at hf
theorem lastk_at {d:List Ed} {t:Nat} {x:Ed} {key:ByteArray} (h:d[t]?=some x) (hk:x.k=key) (hl:∀ u y,t < u->d[u]?=some y->y.k≠key):(ofKey d key).getLast?=some x:=by
 have ht:=(List.getElem?_eq_some_iff.1 h).1
 have hd:d=d.take t++([x]++d.drop (t+1)):=by
  conv=>lhs;rw [<- List.take_append_drop t d]
  rw [List.drop_eq_getElem_cons ht,(List.getElem?_eq_some_iff.1 h).2];simp
 have h0:ofKey (d.drop (t+1)) key=[]:=by
  unfold ofKey;rw [List.filter_eq_nil_iff];intro y hy z;rw [decide_eq_true_eq] at z;obtain ⟨i,hi,rfl⟩:=List.mem_iff_getElem.1 hy;simp only [List.length_drop] at hi;exact hl (t+1+i) _ (by omega) (by rw [List.getElem?_eq_getElem (by omega),List.getElem_drop]) z
 have h1:ofKey [x] key=[x]:=by simp [ofKey,hk]
 rw [hd,ofK_app,ofK_app,h0,h1];simp
theorem last_place {p:Nat->Prop}:∀ n,(∃ t,t < n/\p t)->∃ t,t < n/\p t/\∀ u,t < u->u < n->¬ p u
 | 0,⟨t,h,_⟩=>by omega
 | n+1,⟨t,h,hp⟩=>by
  by_cases q:p n
  ·exact ⟨n,by omega,q,fun u h1 h2=>by omega⟩
  ·have htn:t≠n:=fun z=>q (by rw [<- z];exact hp)
   obtain ⟨s,h1,h2,h3⟩:=last_place n ⟨t,by omega,hp⟩;refine ⟨s,by omega,h2,fun u z1 z2=>?_⟩;by_cases y:u=n
   ·rw [y];exact q
   ·exact h3 u z1 (by omega)
theorem kept_apr {a:List En} {l d:List Ed} (hst:Stb (a.map Zp++l) d) (hs:SrtIn d 0 d.length):ApR a l (Zg d d.length):=by
 refine ⟨keptTo_rise hs (Nat.le_refl _) _,fun key v b h=>?_⟩;unfold Says at h;rw [<- hst.2 key] at h;by_cases q:∃ t,t < d.length/\∃ x,d[t]?=some x/\x.k=key
 ·obtain ⟨t,ht,⟨x,hx,hk⟩,hl⟩:=last_place (p:=fun t=>∃ x,d[t]?=some x/\x.k=key) d.length q;have hlast:=lastk_at hx hk (fun u y h1 h2 h3=>hl u h1 (List.getElem?_eq_some_iff.1 h2).1 ⟨y,h2,h3⟩);rw [hlast] at h;have hnext:∀ y,d[t+1]?=some y->y.k≠x.k:=fun y hy z=>hl (t+1) (by omega) (List.getElem?_eq_some_iff.1 hy).1 ⟨y,hy,z.trans hk⟩
  rcases h with ⟨rfl,y,hy,hg,hv⟩ | ⟨rfl,rfl,hy⟩
  ·cases hy
   exact .inl ⟨rfl,⟨x.k,x.v⟩,keptTo_mem.2 ⟨t,x,ht,⟨hx,hg,hnext⟩,rfl⟩,hk,hv⟩
  ·have hg:=hy x rfl;refine .inr ⟨rfl,rfl,fun e he hek=>?_⟩;obtain ⟨u,z,hu,hz,rfl⟩:=keptTo_mem.1 he;simp only at hek
   have hut:u<=t:=by
    rcases Nat.lt_or_ge t u with y | y
    ·exact absurd ⟨z,hz.1,hek⟩ (hl u y hu)
    ·exact y
   rcases Nat.lt_or_ge u t with y | y
   ·have:=kept_lt hs (Nat.le_refl _) hz hx y;rw [hek,hk,ZM] at this;cases this
   ·obtain rfl:u=t:=by omega
    have hz1:=hz.1;rw [hx] at hz1;cases hz1
    rw [hz.2.1] at hg;cases hg
 ·have hno:ofKey d key=[]:=by
   unfold ofKey;rw [List.filter_eq_nil_iff];intro y hy z;rw [decide_eq_true_eq] at z;obtain ⟨i,hi,rfl⟩:=List.mem_iff_getElem.1 hy;exact q ⟨i,hi,_,List.getElem?_eq_getElem hi,z⟩
  rw [hno] at h;rcases h with ⟨_,y,hy,_⟩ | ⟨rfl,rfl,_⟩
  ·simp at hy
  ·refine .inr ⟨rfl,rfl,fun e he hek=>?_⟩;obtain ⟨u,z,hu,hz,rfl⟩:=keptTo_mem.1 he;exact q ⟨u,hu,z,hz.1,hek⟩
end Go.Proofs.YtdhebpnkfookcaaGreat
