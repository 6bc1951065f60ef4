import Derived.Test.YteopalkiebfioaaGreatQM38
set_option maxRecDepth 100000
set_option maxHeartbeats 8000000
namespace Go.Proofs.YteopalkiebfioaaGreat
open Go.RowKit Apo
attribute [local go_sem ↓] app_exec
theorem rkeys_any (w:World) (a:Option Addr) (c:Nat) (ms:List (Option Addr × Nat × List En)) (h:RdM w a ms) (hl:ms.length<=1000) (hn:((ms.flatMap (fun m=>m.2.2)).length<=1000000)) :
  Calls Tryz.prog 32 #[.slice a ms.length c] w (DKeP (fun ks=>KsS ks ((ms.flatMap (fun m=>m.2.2)).map En.k)) w):=by
 obtain ⟨n,hnn⟩:∃ n,n=ms.length:=⟨_,rfl⟩;have HN:=Za hnn;have HR:=Za h;have HT:=Za hn;rw [<- hnn] at hl ⊢;clear h hnn hn;go_enter Tryz.func32,Tryz.ntmps32
 go_wp2;go_loopw [3,11] (fun v i wr=>∃ (j:Nat) (ks:List ByteArray) (va:Option Addr) (vc nk:Nat),j<=n/\i=.int .i64 j/\v=.slice va nk vc/\Hid (nk=ks.length)/\Hid (KeJ w ks (((ms.take j).flatMap (fun m=>m.2.2)).map En.k) va vc wr)) (fun _ i _=>n - (intOf i).toNat)
 case atStart=>exact ⟨0,[],none,0,0,Nat.zero_le _,rfl,rfl,Za rfl,Za ⟨Row.nil _ _ _ _,Below.refl _ _,by simpa using KsS.nil,fun _=>⟨rfl,rfl⟩⟩⟩
 case round =>
  obtain ⟨j,ks,va,vc,nk,hj,rfl,rfl,HNK,HJ⟩:=hrel;by_cases hjn:j < n
  ·obtain ⟨⟨ma,mc,l⟩,hm⟩:∃ m,ms[j]?=some m:=⟨ms[j]'(by have:=HN.out;omega),List.getElem?_eq_getElem _⟩
   obtain ⟨⟨g,o,rfl,q1⟩,q2⟩:=(HR.out.below HJ.out.2.1) j _ hm;simp only at q1 q2;obtain ⟨ln,hln⟩:∃ ln,ln=l.length:=⟨_,rfl⟩;rw [<- hln] at q1
   have hto:((ms.take j).flatMap (fun m=>m.2.2)).length+l.length<=(ms.flatMap (fun m=>m.2.2)).length:=by
    have h1:ms=ms.take j++(⟨ma,mc,l⟩ :: ms.drop (j+1)):=by
     have:=List.take_append_drop j ms;rw [List.drop_eq_getElem_cons (by have:=HN.out;omega)] at this
     have hmm:=(List.getElem?_eq_some_iff.1 hm).2
     rw [hmm] at this;exact this.symm
    conv=>rhs;rw [h1]
    simp
   have htake:(ms.take (j+1)).flatMap (fun m=>m.2.2)=(ms.take j).flatMap (fun m=>m.2.2)++l:=by
    rw [List.take_add_one,hm,List.flatMap_append];simp
   have hlm:ln<=1000000:=by have:=HT.out;omega
   have HLN:=Za hln;have HTO:=Za hto;have HTK:=Za htake;have HQ2:=Za q2;have HJ0:=HJ;obtain ⟨w0,hw0⟩:∃ w0,w0=wr:=⟨_,rfl⟩;clear hm hln hto htake q2;go_wp2;rw [<- hw0];rw [<- hw0] at HJ HJ0 HQ2;clear q1 hw0;go_loopw [3,17] (fun v i wr=>∃ (k:Nat) (ks:List ByteArray) (va:Option Addr) (vc nk:Nat),k<=ln/\i=.int .i64 k/\v=.slice va nk vc/\Hid (nk=ks.length)/\Hid (KeJ w ks ((((ms.take j).flatMap (fun m=>m.2.2))++l.take k).map En.k) va vc wr)/\Hid (RdEn wr ma l)) (fun _ i _=>ln - (intOf i).toNat)
   case atStart=>exact ⟨0,ks,va,vc,nk,Nat.zero_le _,rfl,rfl,HNK,Za (by simpa using HJ.out),HQ2⟩
   case round =>
    clear HNK HJ HJ0 HQ2;obtain ⟨k,ks,va,vc,nk,hk,rfl,rfl,HNK,HJ,HRE⟩:=hrel;obtain ⟨wl,rfl⟩:∃ wl,wl=wr:=⟨_,rfl⟩;by_cases hkn:k < ln
    ·obtain ⟨⟨ek,ev⟩,hx⟩:∃ x,l[k]?=some x:=⟨l[k]'(by have:=HLN.out;omega),List.getElem?_eq_getElem _⟩
     obtain ⟨gm,om,rfl,p1,p2⟩:=HRE.out k _ hx;simp only at p1 p2;obtain ⟨W1,hW1⟩:∃ W1,W1=wl.alloc (.cells #[.string ek,.string ev] 47):=⟨_,rfl⟩;have b1:Below wl.heap.size wl W1:=by rw [hW1];exact (Below.refl _ wl).alloc (Nat.le_refl _) _
     have kb:Ob W1 wl.heap.size 47 [.string ek,.string ev]:=by rw [hW1];exact Ob.new wl [.string ek,.string ev] 47
     have HKB:=Za kb;have HB1:=Za b1
     have hkl:nk<=1000000:=by
      have h1:=HJ.out.2.2.1.len;have h2:=HNK.out;have h3:=HTO.out;have h4:=HT.out;have h5:=HLN.out;simp only [List.length_map,List.length_append,List.length_take] at h1;omega
     have HS2:Hid ((((ms.take j).flatMap (fun m=>m.2.2))++l.take (k+1)).map En.k=(((ms.take j).flatMap (fun m=>m.2.2))++l.take k).map En.k++[ek]):=Za (by rw [List.take_add_one,hx];simp)
     have hrow1:=HJ.out.1.onl (F:=fun _=>False) (Onl.ofBelow b1) (fun _ _ q=>q)
     have HRW:=Za hrow1;clear hx b1 kb hrow1;go_wp2;rw [<- hW1];clear hW1 p1 p2;go_loopw [8] (fun v wq=>∃ i:Nat,i<=nk/\v=.int .i64 i/\Hid (∀ t y,t < i->ks[t]?=some y->ZR y ek=true)/\Hid (Below W1.heap.size W1 wq)) (fun v _=>nk - (intOf v).toNat)
     case atStart=>exact ⟨0,Nat.zero_le _,rfl,Za (fun t y ht=>absurd ht (by omega)),Za (Below.refl _ _)⟩
     case round =>
      obtain ⟨i,hi,rfl,HI,HBq⟩:=hrel;have kbq:=HKB.out.old HBq.out;have e0:=kbq.cell 0;simp only [List.getElem?_cons_zero] at e0
      have rowq:=HRW.out.onl (F:=fun _=>False) (Onl.ofBelow HBq.out) (fun _ _ q=>q)
      by_cases hin:i < nk
      ·obtain ⟨y,hy⟩:∃ y,ks[i]?=some y:=⟨ks[i]'(by have:=HNK.out;omega),List.getElem?_eq_getElem _⟩
       obtain ⟨a',cp',hv',rd',_,_,_,ho'⟩:=ZV cTx_len rowq;injection hv' with hv1 hv2 hv3
       subst hv1 hv3;obtain ⟨g',o',rfl,c0⟩:=rd'.tx hy;obtain ⟨g2,hg2,hgw⟩:=ho' _ rfl;obtain ⟨rfl,rfl⟩:g'=g2/\o'=0:=by cases hg2;exact ⟨rfl,rfl⟩
       simp only [Nat.zero_add] at c0;have hd:decide ((i:Int) < (nk:Int))=true:=decide_eq_true (by omega)
       have hdn:decide (i < nk)=true:=decide_eq_true hin;cases hb:ZR y ek
       ·have hb':Op.bytesLess y.toList ek.toList=false:=hb;by_cases hyk:y=ek
        ·have hd2:(y.toList == ek.toList)=true:=by rw [hyk];simp
         have HF:Hid (∀ W,Below W1.heap.size W1 W->KeJ w ks ((((ms.take j).flatMap (fun m=>m.2.2))++l.take (k+1)).map En.k) (some ⟨g',0,none⟩) vc W):=Za (fun W hW=>by
          have hb2:=HB1.out.trans (hW.mono HB1.out.size);have hJ:=HJ.out;rw [HS2.out];exact ⟨hJ.1.onl (F:=fun _=>False) (Onl.ofBelow hb2) (fun _ _ q=>q),hJ.2.1.trans (hb2.mono hJ.2.1.size),hJ.2.2.1.skip (by rw [<- hyk];exact List.mem_of_getElem? hy),hJ.2.2.2⟩)
         have HRF:Hid (∀ W,Below W1.heap.size W1 W->RdEn W (some ⟨gm,om,none⟩) l):=Za (fun W hW=>HRE.out.below (HB1.out.trans (hW.mono HB1.out.size)))
         clear hb hy HI rowq kbq hv2 ho' hgw hg2 rd' hyk;go_wp2;go_quiet (fail)
         go_wp2;obtain ⟨W2,hW2⟩:∃ W2,W2=wr.drewN nq:=⟨_,rfl⟩;have b2:Below W1.heap.size W1 W2:=by rw [hW2];exact below_drewN HBq.out _
         have c0':W2.cell? ⟨g',i,none⟩=some (.string y):=by rw [hW2];exact c0
         have e0':W2.cell? ⟨wl.heap.size,0,none⟩=some (.string ek):=by rw [hW2];exact e0
         rw [<- hW2];have HB2:=Za b2;clear hW2 b2 c0 e0;go_quiet (fail)
         go_wp2;go_roundw
         case rel=>exact ⟨k+1,ks,some ⟨g',0,none⟩,vc,nk,by omega,by simp,rfl,HNK,Za (HF.out _ (below_drewN HB2.out _)),Za (HRF.out _ (below_drewN HB2.out _))⟩
         case measure=>simp [intOf];omega
        ·have hd2:(y.toList == ek.toList)=false:=by
          cases q:(y.toList == ek.toList) with
          | false=>rfl
          | true=>exact absurd (ZG (by simpa using q)) hyk
         clear hb rowq kbq hv2 ho' hgw hg2 rd';go_wp2;go_quiet (fail)
         go_wp2;obtain ⟨W2,hW2⟩:∃ W2,W2=wr.drewN nq:=⟨_,rfl⟩;have b2:Below W1.heap.size W1 W2:=by rw [hW2];exact below_drewN HBq.out _
         have c0':W2.cell? ⟨g',i,none⟩=some (.string y):=by rw [hW2];exact c0
         have e0':W2.cell? ⟨wl.heap.size,0,none⟩=some (.string ek):=by rw [hW2];exact e0
         rw [<- hW2];have HB2:=Za b2;clear hW2 b2 c0 e0;go_quiet (fail)
         go_wp2;obtain ⟨W3,hW3⟩:∃ W3,W3=W2.drewN nq:=⟨_,rfl⟩;have b3:Below W1.heap.size W1 W3:=by rw [hW3];exact below_drewN HB2.out _
         have e0:W3.cell? ⟨wl.heap.size,0,none⟩=some (.string ek):=by rw [hW3];exact e0'
         rw [<- hW3];clear hW3 e0' c0' HB2;have row3:=HRW.out.onl (F:=fun _=>False) (Onl.ofBelow b3) (fun _ _ q=>q)
         obtain ⟨a1,c1,n1,w1,a2,c2,w2,R1,R2,r2,bb2⟩:=ins_mid (i:=i) row3 ek (by have:=HNK.out;omega) (by have:=HNK.out;omega)
         have hiv:nk<=vc/\vc<=maxLen:=by
          obtain ⟨_,_,hv,h1,h2,_⟩:=row3.form;injection hv with _ _ h3
          subst h3;have:=HNK.out;omega
         have hnv:=hiv.1;have hvm:vc<=9223372036854775807:=by have:=hiv.2;unfold maxLen at this;omega
         have hie:¬ vc=i:=by omega
         obtain ⟨n2,hn2⟩:∃ n2,n2=(ks.take i++ek :: ks.drop i).length:=⟨_,rfl⟩;have hbb:Below wl.heap.size wl w2:=(HB1.out.trans (b3.mono HB1.out.size)).trans (bb2.mono (by have:=HB1.out.size;have:=b3.size;omega))
         have HF:Hid (KeJ w (ks.take i++ek :: ks.drop i) ((((ms.take j).flatMap (fun m=>m.2.2))++l.take (k+1)).map En.k) a2 c2 w2):=by
          have hJ:=HJ.out;refine Za ⟨r2.mono (fun g hg=>by have:=hJ.2.1.size;have:=HB1.out.size;have:=b3.size;omega),hJ.2.1.trans (hbb.mono hJ.2.1.size),?_,fun q=>by simp at q⟩
          rw [HS2.out];refine hJ.2.2.1.put (by have:=HNK.out;omega) HI.out (fun z hz=>?_)
          rw [hy] at hz;cases hz
          cases q:ZR ek y with
          | true=>rfl
          | false=>exact absurd (sLt_conn hb' q) hyk
         have HRF:Hid (RdEn w2 (some ⟨gm,om,none⟩) l):=Za (HRE.out.below hbb);have HN2:=Za hn2;rw [<- hn2] at R2;rw [<- HNK.out] at R1;obtain ⟨z1,z2,z3⟩:=Zf R1;obtain ⟨z4,z5,z6⟩:=Zf R2;clear R1 R2 r2 bb2 hbb hn2 row3 hiv hy HI b3 hyk;go_region
         go_wp2;go_roundw
         case rel=>exact ⟨k+1,ks.take i++ek :: ks.drop i,a2,c2,n2,by omega,by simp,rfl,HN2,HF,HRF⟩
         case measure=>simp [intOf];omega
       ·have hb':Op.bytesLess y.toList ek.toList=true:=hb
        have HI2:Hid (∀ t y,t < i+1->ks[t]?=some y->ZR y ek=true):=Za (fun t z ht hz=>by
         by_cases q:t < i
         ·exact HI.out t z q hz
         ·obtain rfl:t=i:=by omega
          rw [hy] at hz;cases hz
          exact hb)
        clear hb hy HI rowq kbq hv2 ho' hgw hg2 rd';go_wp2;go_quiet (fail)
        go_wp2;go_roundw
        case rel=>exact ⟨i+1,by omega,by simp,HI2,Za (below_drewN HBq.out _)⟩
        case measure=>simp [intOf];omega
      ·obtain rfl:i=nk:=by omega
       have hd:decide ((i:Int) < (i:Int))=false:=decide_eq_false (by omega)
       have hdn:decide (i < i)=false:=decide_eq_false (by omega)
       clear rowq kbq;go_wp2;go_quiet (fail)
       go_wp2;obtain ⟨W2,hW2⟩:∃ W2,W2=wr.drewN nq:=⟨_,rfl⟩;have b2:Below W1.heap.size W1 W2:=by rw [hW2];exact below_drewN HBq.out _
       have e0':W2.cell? ⟨wl.heap.size,0,none⟩=some (.string ek):=by rw [hW2];exact e0
       rw [<- hW2];have HB2:=Za b2;clear hW2 b2 e0;go_quiet (fail)
       go_wp2;obtain ⟨W3,hW3⟩:∃ W3,W3=W2.drewN nq:=⟨_,rfl⟩;have b3:Below W1.heap.size W1 W3:=by rw [hW3];exact below_drewN HB2.out _
       have e0:W3.cell? ⟨wl.heap.size,0,none⟩=some (.string ek):=by rw [hW3];exact e0'
       rw [<- hW3];clear hW3 e0' HB2;have row3:=HRW.out.onl (F:=fun _=>False) (Onl.ofBelow b3) (fun _ _ q=>q)
       by_cases hks:ks=[]
       ·obtain ⟨rfl,rfl⟩:=HJ.out.2.2.2 hks;obtain rfl:i=0:=by rw [HNK.out,hks];rfl
        obtain ⟨a2,c2,w2,R1,R2,r2,bb2⟩:=ins_first W3 ek;have hbb:Below wl.heap.size wl w2:=(HB1.out.trans (b3.mono HB1.out.size)).trans (bb2.mono (by have:=HB1.out.size;have:=b3.size;omega))
        have HF:Hid (KeJ w [ek] ((((ms.take j).flatMap (fun m=>m.2.2))++l.take (k+1)).map En.k) a2 c2 w2):=by
         have hJ:=HJ.out;refine Za ⟨r2.mono (fun g hg=>by have:=hJ.2.1.size;have:=HB1.out.size;have:=b3.size;omega),hJ.2.1.trans (hbb.mono hJ.2.1.size),?_,fun q=>by simp at q⟩
         rw [HS2.out];have:=hJ.2.2.1.put (i:=0) (key:=ek) (by omega) (fun t y ht=>absurd ht (by omega)) (fun z hz=>by rw [hks] at hz;simp at hz)
         rw [hks] at this;simpa using this
        have HRF:Hid (RdEn w2 (some ⟨gm,om,none⟩) l):=Za (HRE.out.below hbb);obtain ⟨z1,z2,z3⟩:=Zf R1;obtain ⟨z4,z5,z6⟩:=Zf R2;clear R1 R2 r2 bb2 hbb row3 HI b3 hks;go_region
        go_wp2;go_roundw
        case rel=>exact ⟨k+1,[ek],a2,c2,1,by omega,by simp,rfl,Za rfl,HF,HRF⟩
        case measure=>simp [intOf];omega
       ·have hpos:0 < ks.length:=List.length_pos_iff.2 hks;obtain ⟨g',cp,hvv,_,_,hiv1,hiv2,_,_⟩:=row3.shape hpos;injection hvv with e1 e2 e3
        subst e1 e3;have hnv:i<=vc:=by have:=HNK.out;omega
        have hvm:vc<=9223372036854775807:=by have:=hiv2;unfold maxLen at this;omega
        obtain ⟨n2,hn2⟩:∃ n2,n2=(ks++[ek]).length:=⟨_,rfl⟩
        have tail:∀ (x:Option Addr),∃ a2 c2 w2,(Builtin.append_ #[79,79] 79 #[.slice (some ⟨W3.heap.size,0,none⟩) 1 1,.slice x 0 (vc - i)]).run Tryz.prog (W3.alloc (.cells #[.string ek] 9)).drew=.ok (.slice (some ⟨W3.heap.size,0,none⟩) 1 1) (W3.alloc (.cells #[.string ek] 9)).drew /\
          (Builtin.append_ #[79,79] 79 #[.slice (some ⟨g',0,none⟩) i i,.slice (some ⟨W3.heap.size,0,none⟩) 1 1]).run Tryz.prog (W3.alloc (.cells #[.string ek] 9)).drew=.ok (.slice a2 n2 c2) w2/\Hid (KeJ w (ks++[ek]) ((((ms.take j).flatMap (fun m=>m.2.2))++l.take (k+1)).map En.k) a2 c2 w2)/\Hid (RdEn w2 (some ⟨gm,om,none⟩) l):=by
         intro x;obtain ⟨a2,c2,w2,R1,R2,r2,bb2⟩:=ins_end row3 ek (by have:=HNK.out;omega) x (vc - i)
         have hbb:Below wl.heap.size wl w2:=(HB1.out.trans (b3.mono HB1.out.size)).trans (bb2.mono (by have:=HB1.out.size;have:=b3.size;omega))
         rw [<- HNK.out,<- hn2] at R2;refine ⟨a2,c2,w2,R1,R2,?_,Za (HRE.out.below hbb)⟩;have hJ:=HJ.out;refine Za ⟨r2.mono (fun g hg=>by have:=hJ.2.1.size;have:=HB1.out.size;have:=b3.size;omega),hJ.2.1.trans (hbb.mono hJ.2.1.size),?_,fun q=>by simp at q⟩
         rw [HS2.out];have:=hJ.2.2.1.put (i:=ks.length) (key:=ek) (Nat.le_refl _) (fun t y ht hy=>HI.out t y (by have:=HNK.out;omega) hy) (fun z hz=>by simp at hz)
         simpa using this
        have HN2:=Za hn2;clear hn2 row3 b3 hks e2 hiv1 hpos HI;by_cases hie:vc=i
        ·subst hie;obtain ⟨a2,c2,w2,R1,R2,HF,HRF⟩:=tail (some ⟨g',0,none⟩);rw [Nat.sub_self] at R1;obtain ⟨z1,z2,z3⟩:=Zf R1;obtain ⟨z4,z5,z6⟩:=Zf R2;clear R1 R2 tail;go_region
         go_wp2;go_roundw
         case rel=>exact ⟨k+1,ks++[ek],a2,c2,n2,by omega,by simp,rfl,HN2,HF,HRF⟩
         case measure=>simp [intOf];omega
        ·obtain ⟨a2,c2,w2,R1,R2,HF,HRF⟩:=tail (some ⟨g',i,none⟩);obtain ⟨z1,z2,z3⟩:=Zf R1;obtain ⟨z4,z5,z6⟩:=Zf R2;clear R1 R2 tail;go_region
         go_wp2;go_roundw
         case rel=>exact ⟨k+1,ks++[ek],a2,c2,n2,by omega,by simp,rfl,HN2,HF,HRF⟩
         case measure=>simp [intOf];omega
    ·have HF:Hid (KeJ w ks (((ms.take (j+1)).flatMap (fun m=>m.2.2)).map En.k) va vc wl):=by
      have:=HJ.out;rw [show l.take k=l from List.take_of_length_le (by have:=HLN.out;omega),<- HTK.out] at this
      exact Za this
     clear HJ;go_wp2;go_roundw
     case rel=>exact ⟨j+1,ks,va,vc,nk,by omega,by simp,rfl,HNK,HF⟩
     case measure=>simp [intOf];omega
  ·have HF:Hid (DKeP (fun ks=>KsS ks ((ms.flatMap (fun m=>m.2.2)).map En.k)) w (.returned (.slice va nk vc)) wr):=by
    have:=HJ.out;rw [List.take_of_length_le (by have:=HN.out;omega)] at this
    exact Za ⟨ks,va,vc,by rw [HNK.out],this.2.2.1,this.1,this.2.1⟩
   clear HJ;go_wp2;go_ret
   exact HF.out
def IsCh (es fs:List En) (c:Ch):Prop:=Gets es c.k c.was c.had/\Gets fs c.k c.now c.has/\¬ ((c.had,c.was)=(c.has,c.now))
def DiffC (es fs:List En) (cs:List Ch):Prop:=Rise (cs.map Ch.k)/\∀ c,c ∈ cs↔IsCh es fs c
def DfR (es fs:List En) (ks:List ByteArray) (cs:List Ch):Prop:=Rise (cs.map Ch.k)/\(∀ c,c ∈ cs↔c.k ∈ ks/\IsCh es fs c)/\cs.length<=ks.length
theorem DfR.nil (es fs:List En):DfR es fs [] []:=⟨List.Pairwise.nil,fun c=>by simp,Nat.le_refl _⟩
theorem DfR.skip {es fs:List En} {ks:List ByteArray} {cs:List Ch} {key v v':ByteArray} {b b':Bool} (hr:Zo es) (hr':Zo fs) (h:DfR es fs ks cs) (h1:Gets es key v b) (h2:Gets fs key v' b') (h3:(b,v)=(b',v')):DfR es fs (ks++[key]) cs:=by
 refine ⟨h.1,fun c=>?_,by have:=h.2.2;simp;omega⟩
 rw [h.2.1,List.mem_append,List.mem_singleton];constructor
 ·exact fun q=>⟨.inl q.1,q.2⟩
 ·rintro ⟨q | q,z⟩
  ·exact ⟨q,z⟩
  ·exfalso
   obtain ⟨z1,z2,z3⟩:=z;rw [q] at z1 z2;obtain ⟨e1,e2⟩:=Z7 hr z1 h1;obtain ⟨e3,e4⟩:=Z7 hr' z2 h2;exact z3 (by rw [e1,e2,e3,e4];exact h3)
theorem DfR.put {es fs:List En} {ks:List ByteArray} {cs:List Ch} {key v v':ByteArray} {b b':Bool} (hr:Zo es) (hr':Zo fs) (h:DfR es fs ks cs) (hk:∀ k ∈ ks,ZR k key=true) (h1:Gets es key v b) (h2:Gets fs key v' b') (h3:¬ (b,v)=(b',v')):DfR es fs (ks++[key]) (cs++[⟨key,b,v,b',v'⟩]):=by
 refine ⟨?_,fun c=>?_,by have:=h.2.2;simp;omega⟩
 ·unfold Rise;rw [List.map_append,List.pairwise_append];refine ⟨h.1,by simp,fun x hx y hy=>?_⟩
  simp only [List.map_cons,List.map_nil,List.mem_singleton] at hy;subst hy;obtain ⟨c,hc,rfl⟩:=List.mem_map.1 hx;exact hk _ ((h.2.1 c).1 hc).1
 ·rw [List.mem_append,List.mem_singleton,List.mem_append,List.mem_singleton,h.2.1];constructor
  ·rintro (q | rfl)
   ·exact ⟨.inl q.1,q.2⟩
   ·exact ⟨.inr rfl,h1,h2,h3⟩
  ·rintro ⟨q | q,z⟩
   ·exact .inl ⟨q,z⟩
   ·right
    obtain ⟨ck,chad,cwas,chas,cnow⟩:=c;simp only at q;subst q;obtain ⟨z1,z2,z3⟩:=z;obtain ⟨e1,e2⟩:=Z7 hr z1 h1;obtain ⟨e3,e4⟩:=Z7 hr' z2 h2;simp only at e1 e2 e3 e4;rw [e1,e2,e3,e4]
theorem DfR.done {es fs:List En} {ks:List ByteArray} {cs:List Ch} (h:DfR es fs ks cs) (h1:∀ e ∈ es,e.k ∈ ks) (h2:∀ e ∈ fs,e.k ∈ ks):DiffC es fs cs:=by
 refine ⟨h.1,fun c=>⟨fun q=>((h.2.1 c).1 q).2,fun q=>(h.2.1 c).2 ⟨?_,q⟩⟩⟩
 obtain ⟨z1,z2,z3⟩:=q;rcases z1 with ⟨_,e,he,hk,_⟩ | ⟨a1,a2,_⟩
 ·rw [<- hk];exact h1 e he
 ·rcases z2 with ⟨_,e,he,hk,_⟩ | ⟨a3,a4,_⟩
  ·rw [<- hk];exact h2 e he
  ·exact absurd (by rw [a1,a2,a3,a4]) z3
theorem DiffC.uniq {es fs:List En} {cs cs':List Ch} (h:DiffC es fs cs) (h':DiffC es fs cs'):cs=cs':=by
 obtain ⟨r,m⟩:=h;obtain ⟨r',m'⟩:=h';have hm:∀ c,c ∈ cs↔c ∈ cs':=fun c=>(m c).trans (m' c).symm
 clear m m';induction cs generalizing cs' with
 | nil =>
  cases cs' with
  | nil=>rfl
  | cons c l=>exact absurd ((hm c).2 (by simp)) (by simp)
 | cons c l ih =>
  cases cs' with
  | nil=>exact absurd ((hm c).1 (by simp)) (by simp)
  | cons c' l' =>
   unfold Rise at r r';rw [List.map_cons,List.pairwise_cons] at r r'
   have hcc:c=c':=by
    rcases List.mem_cons.1 ((hm c).1 (by simp)) with q | q
    ·exact q
    ·rcases List.mem_cons.1 ((hm c').2 (by simp)) with q' | q'
     ·exact q'.symm
     ·have z1:=r'.1 c.k (List.mem_map.2 ⟨c,q,rfl⟩);have z2:=r.1 c'.k (List.mem_map.2 ⟨c',q',rfl⟩);have:=ZQ z1 z2;rw [Zr] at this;cases this
   subst hcc;congr 1
   refine ih r.2 r'.2 (fun x=>?_)
   constructor
   ·intro hx;rcases List.mem_cons.1 ((hm x).1 (by simp [hx])) with q | q
    ·have:=r.1 x.k (List.mem_map.2 ⟨x,hx,rfl⟩);rw [q,Zr] at this;cases this
    ·exact q
   ·intro hx;rcases List.mem_cons.1 ((hm x).2 (by simp [hx])) with q | q
    ·have:=r'.1 x.k (List.mem_map.2 ⟨x,hx,rfl⟩);rw [q,Zr] at this;cases this
    ·exact q
theorem rdiff_any (w:World) (a b:Option Addr) (ca cb:Nat) (es fs:List En) (ha:RdEn w a es) (hb:RdEn w b fs) (hla:es.length<=100000) (hlb:fs.length<=100000) (hra:Zo es) (hrb:Zo fs) :
  Calls Tryz.prog 13 #[.slice a es.length ca,.slice b fs.length cb] w (DChP (DiffC es fs) w):=by
 have CG1:∀ W key,Below w.heap.size w W->Calls Tryz.prog 33 #[.slice a es.length ca,.string key] W (RgP es key W):=fun W key hW=>rget_any W a ca es key (ha.below hW) (by omega)
 have CG2:∀ W key,Below w.heap.size w W->Calls Tryz.prog 33 #[.slice b fs.length cb,.string key] W (RgP fs key W):=fun W key hW=>rget_any W b cb fs key (hb.below hW) (by omega)
 obtain ⟨W0,hW0⟩:∃ W0,W0=w.alloc (.cells #[.slice a es.length ca,.slice b fs.length cb] 22):=⟨_,rfl⟩;have b0:Below w.heap.size w W0:=by rw [hW0];exact (Below.refl _ w).alloc (Nat.le_refl _) _
 have k0:Ob W0 w.heap.size 22 [.slice a es.length ca,.slice b fs.length cb]:=by rw [hW0];exact Ob.new w [.slice a es.length ca,.slice b fs.length cb] 22
 have hM:RdM W0 (some ⟨w.heap.size,0,none⟩) [(a,ca,es),(b,cb,fs)]:=by
  intro i m hm;match i with
  | 0=>simp at hm;subst hm;exact ⟨⟨_,_,rfl,by simpa using k0.cell 0⟩,ha.below b0⟩
  | 1=>simp at hm;subst hm;exact ⟨⟨_,_,rfl,by simpa using k0.cell 1⟩,hb.below b0⟩
  | i+2=>simp at hm
 have CK:=rkeys_any W0 _ 2 [(a,ca,es),(b,cb,fs)] hM (by simp) (by simp;omega)
 rw [show [(a,ca,es),(b,cb,fs)].length=2 from rfl] at CK
 obtain ⟨n,hn⟩:∃ n,n=es.length:=⟨_,rfl⟩;obtain ⟨m,hm⟩:∃ m,m=fs.length:=⟨_,rfl⟩;rw [<- hn] at CG1 hW0 ⊢;rw [<- hm] at CG2 hW0 ⊢;have HCK:=Za CK;have HG1:=Za CG1;have HG2:=Za CG2;have HRR:=Za (And.intro hra hrb);have HLL:=Za (And.intro hla hlb);have HB0:=Za b0;clear CK CG1 CG2 hM k0 b0 ha hb hn hm hra hrb hla hlb;go_enter Tryz.func13,Tryz.ntmps13
 go_wp2_with fail
 rw [<- hW0];clear hW0;refine HCK.out.mono ?_;rintro e' w1 ⟨ks,ka,kc,rfl,hks,krow,kb⟩;obtain ⟨ln,hln⟩:∃ ln,ln=ks.length:=⟨_,rfl⟩;rw [<- hln] at krow;rw [<- hln];have hlk:ln<=1000000:=by have h1:=hks.len;have h2:=HLL.out;simp at h1;omega
 have b1:Below w.heap.size w w1:=HB0.out.trans (kb.mono HB0.out.size);have HKS:=Za hks;have HLN:=Za hln;rw [hln] at krow;obtain ⟨a',cp',hv',rd',_⟩:=ZV cTx_len krow;injection hv' with e1 e2 e3
 subst e1 e3;have HRD:=Za rd';have HB1:=Za b1;clear hks hln krow kb rd' b1 e2 HCK HB0;go_wp2;go_loopw [5,15] (fun v i wr=>∃ (j:Nat) (cs:List Ch) (va:Option Addr) (vc nk:Nat),j<=ln/\i=.int .i64 j/\v=.slice va nk vc/\Hid (nk=cs.length)/\Hid (DfR es fs (ks.take j) cs)/\Hid (Row (fun g=>w1.heap.size<=g) wr 49 5 (.slice va cs.length vc) cs.length (Zg cCh cs))/\Hid (Below w1.heap.size w1 wr)) (fun _ i _=>ln - (intOf i).toNat)
 case atStart=>exact ⟨0,[],none,0,0,Nat.zero_le _,rfl,rfl,Za rfl,Za (by simpa using DfR.nil es fs),Za (Row.nil _ _ _ _),Za (Below.refl _ _)⟩
 case round =>
  obtain ⟨j,cs,va,vc,nk,hj,rfl,rfl,HNK,HD,HRW,HBr⟩:=hrel;by_cases hjn:j < ln
  ·obtain ⟨key,hx⟩:∃ x,ks[j]?=some x:=⟨ks[j]'(by have:=HLN.out;omega),List.getElem?_eq_getElem _⟩
   obtain ⟨g,o,rfl,c0⟩:=(HRD.out.below HBr.out).tx hx;have hB2:=HB1.out.trans (HBr.out.mono HB1.out.size);have HB2:=Za hB2;have HC1:=Za (HG1.out wr key hB2);have HX:=Za hx;clear hB2 hx;go_wp2_with fail
   refine HC1.out.mono ?_;rintro e' w2 ⟨v1,b1,rfl,g1,bb2⟩;have HC2:=Za (HG2.out w2 key (HB2.out.trans (bb2.mono HB2.out.size)));have HGE1:=Za g1;have HBB2:=Za bb2;clear g1 bb2 HC1;go_wp2_with fail
   refine HC2.out.mono ?_;rintro e' w4 ⟨v2,b2,rfl,g2,bb4⟩;have hb4:Below wr.heap.size wr w4:=HBB2.out.trans (bb4.mono HBB2.out.size);obtain ⟨w5,hw5⟩:∃ w5,w5=(w4.alloc (.cells #[.bool b1,.string v1] 83)).alloc (.cells #[.bool b2,.string v2] 83):=⟨_,rfl⟩;have bb5:Below w4.heap.size w4 w5:=by rw [hw5];exact ((Below.refl _ w4).alloc (Nat.le_refl _) _).alloc (by simp) _
   have s5:w5.heap.size=w4.heap.size+2:=by rw [hw5];simp
   have k5:Ob w5 w4.heap.size 83 [.bool b1,.string v1]:=by rw [hw5];exact (Ob.new w4 [.bool b1,.string v1] 83).alloc _
   have k6:Ob w5 (w4.heap.size+1) 83 [.bool b2,.string v2]:=by
    rw [hw5];have:=Ob.new (w4.alloc (.cells #[.bool b1,.string v1] 83)) [.bool b2,.string v2] 83;rw [World.size_alloc] at this;exact this
   have hb5:Below wr.heap.size wr w5:=hb4.trans (bb5.mono hb4.size);have row5:=HRW.out.onl (F:=fun _=>False) (Onl.ofBelow hb5) (fun _ _ q=>q)
   have y0:=k5.cell 0;have y1:=k5.cell 1;have x0:=k6.cell 0;have x1:=k6.cell 1;simp only [List.getElem?_cons_zero,List.getElem?_cons_succ] at y0 y1 x0 x1
   have hcmp:=neqSd b1 b2 v1 v2;have hgd:Tryz.prog.eqGuardType Tryz.prog.depth 83=false:=by kernel_rfl
   have htk:ks.take (j+1)=ks.take j++[key]:=by rw [List.take_add_one,HX.out];rfl
   have hlt:∀ k ∈ ks.take j,ZR k key=true:=fun k hk=>by
    obtain ⟨t,ht,rfl⟩:=List.mem_iff_getElem.1 hk;simp only [List.length_take] at ht;rw [List.getElem_take];have hq:=(List.getElem?_eq_some_iff.1 HX.out)
    rw [<- hq.2];exact List.pairwise_iff_getElem.1 HKS.out.rise t j (by omega) hq.1 (by omega)
   have HB5:=Za (HBr.out.trans (hb5.mono HBr.out.size));have hsz5:w1.heap.size<=w5.heap.size:=HB5.out.size;by_cases heq:(b1,v1)=(b2,v2)
   ·rw [decide_eq_true heq] at hcmp;simp only [Bool.not_true] at hcmp
    have HF:Hid (DfR es fs (ks.take (j+1)) cs):=by
     rw [htk];exact Za (HD.out.skip HRR.out.1 HRR.out.2 HGE1.out g2 heq)
    have HRF:=Za row5;rw [hw5] at y0 y1 x0 x1 HB5 HRF;clear hw5 k5 k6 bb5 s5 row5 hb5 hb4 bb4 g2 heq htk hlt;go_wp2;go_roundw
    case rel=>exact ⟨j+1,cs,va,vc,nk,by omega,by simp,rfl,HNK,HF,HRF,HB5⟩
    case measure=>simp [intOf];omega
   ·rw [decide_eq_false heq] at hcmp;simp only [Bool.not_false] at hcmp;obtain ⟨x,hx⟩:∃ x:Ch,x=⟨key,b1,v1,b2,v2⟩:=⟨_,rfl⟩;obtain ⟨w6,hw6⟩:∃ w6,w6=w5.alloc (.cells (cCh x).toArray 49):=⟨_,rfl⟩;have bb6:Below w5.heap.size w5 w6:=by rw [hw6];exact (Below.refl _ w5).alloc (Nat.le_refl _) _
    have row6:=row5.onl (F:=fun _=>False) (Onl.ofBelow bb6) (fun _ _ q=>q)
    have rd6:RdG cCh 5 w6 (some ⟨w5.heap.size,0,none⟩) [x]:=by rw [hw6];exact rd_lit _ _ x
    obtain ⟨v8,w8,RR,r8,o8,ow8⟩:=app_ch (cp:=1) row6 (by have:=HD.out.2.2;simp at this;simp;omega) rd6
    obtain ⟨va8,vc8,hva8,_⟩:=r8.form;obtain ⟨n8,hn8⟩:∃ n8,n8=(cs++[x]).length:=⟨_,rfl⟩;rw [hva8] at r8 RR;rw [show [x].length=1 from rfl,<- hn8,<- HNK.out] at RR
    have hs6:w6.heap.size=w5.heap.size+1:=by rw [hw6,World.size_alloc]
    have hb8:Below w1.heap.size w1 w8:=Below.onl (HB5.out.trans (bb6.mono hsz5)) o8 (fun i q=>HRW.out.2 i q) (Nat.le_refl _)
    have HB8:=Za hb8
    have HF:Hid (DfR es fs (ks.take (j+1)) (cs++[x])):=by
     rw [htk,hx];exact Za (HD.out.put HRR.out.1 HRR.out.2 hlt HGE1.out g2 heq)
    have HRF:Hid (Row (fun g=>w1.heap.size<=g) w8 49 5 (.slice va8 (cs++[x]).length vc8) (cs++[x]).length (Zg cCh (cs++[x]))):=Za ⟨r8.1,fun g hg=>(r8.2 g hg).elim (fun z=>z) (fun z=>by omega)⟩
    have HN8:=Za hn8;rw [hw6,hx] at RR;simp only [cCh] at RR;rw [hw5] at RR y0 y1 x0 x1;simp only [World.size_alloc] at RR;obtain ⟨z1,z2,z3⟩:=Zf RR;clear hw5 k5 k6 bb5 s5 row5 hb5 hb4 bb4 g2 heq htk hlt hw6 bb6 row6 rd6 r8 o8 ow8 hva8 hn8 hs6 hb8 RR HB5 hsz5;go_wp2;go_roundw
    case rel=>exact ⟨j+1,cs++[x],va8,vc8,n8,by omega,by simp,rfl,HN8,HF,HRF,HB8⟩
    case measure=>simp [intOf];omega
  ·have HF:Hid (DChP (DiffC es fs) w (.returned (.slice va nk vc)) wr):=by
    have hD:=HD.out;rw [List.take_of_length_le (by have:=HLN.out;omega)] at hD
    refine Za ⟨cs,va,vc,by rw [HNK.out],hD.done (fun e he=>(HKS.out.mem _).2 (by simp;exact .inl ⟨e,he,rfl⟩)) (fun e he=>(HKS.out.mem _).2 (by simp;exact .inr ⟨e,he,rfl⟩)),HRW.out.mono (fun g hg=>by have:=HB1.out.size;omega),HB1.out.trans (HBr.out.mono HB1.out.size)⟩
   clear HD HRW;go_wp2;go_ret
   exact HF.out
end Go.Proofs.YteopalkiebfioaaGreat
