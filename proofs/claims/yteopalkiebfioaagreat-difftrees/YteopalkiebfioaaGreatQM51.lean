import Derived.Test.YteopalkiebfioaaGreatQM42
set_option maxRecDepth 100000
set_option maxHeartbeats 16000000
namespace Go.Proofs.YteopalkiebfioaaGreat
section
open Go.RowKit Apo
attribute [local go_sem ↓] app_exec
def lowE (key:ByteArray) (l:List En):List En:=l.filter (fun e=>ZR e.k key)
def higE (key:ByteArray) (l:List En):List En:=l.filter (fun e=>ZR key e.k)
def midE (has:Bool) (kv:En):List En:=if has=true then [kv] else []
def setE (has:Bool) (kv:En) (l:List En):List En:=lowE kv.k l++(midE has kv++higE kv.k l)
theorem setE_ok {has:Bool} {kv:En} {es:List En} (hr:Zo es):SetC es ⟨kv.k,kv.v,!has⟩ (setE has kv es):=by
 have m1:∀ e,e ∈ lowE kv.k es↔e ∈ es/\ZR e.k kv.k=true:=fun e=>by unfold lowE;rw [List.mem_filter]
 have m2:∀ e,e ∈ higE kv.k es↔e ∈ es/\ZR kv.k e.k=true:=fun e=>by unfold higE;rw [List.mem_filter]
 have hmid:∀ e ∈ midE has kv,e=kv:=fun e he=>by unfold midE at he;split at he <;> simp_all
 refine ⟨?_,fun key v b hne hg=>?_,fun hh=>?_,fun hh=>?_⟩
 ·unfold Zo at hr ⊢;unfold setE;rw [List.pairwise_append,List.pairwise_append];refine ⟨hr.filter _,⟨?_,hr.filter _,fun e he f hf=>?_⟩,fun e he f hf=>?_⟩
  ·unfold midE;split <;> simp
  ·rw [hmid e he];exact ((m2 f).1 hf).2
  ·rcases List.mem_append.1 hf with q | q
   ·rw [hmid f q];exact ((m1 e).1 he).2
   ·exact ZQ ((m1 e).1 he).2 ((m2 f).1 q).2
 ·simp only at hne;rcases hg with ⟨rfl,e,he,hk,hv⟩ | ⟨rfl,rfl,hno⟩
  ·refine .inl ⟨rfl,e,?_,hk,hv⟩;unfold setE;rw [List.mem_append,List.mem_append,m1,m2];cases q:ZR e.k kv.k with
   | true=>exact .inl ⟨he,rfl⟩
   | false =>
    cases z:ZR kv.k e.k with
    | true=>exact .inr (.inr ⟨he,rfl⟩)
    | false=>exact absurd ((sLt_conn q z).symm.trans hk) (Ne.symm hne)
  ·refine .inr ⟨rfl,rfl,fun e he hk=>?_⟩
   unfold setE at he;rw [List.mem_append,List.mem_append,m1,m2] at he;rcases he with q | q | q
   ·exact hno e q.1 hk
   ·rw [hmid e q] at hk;exact hne hk.symm
   ·exact hno e q.1 hk
 ·simp only at hh ⊢;have:has=true:=by cases has <;> simp_all
  refine .inl ⟨rfl,kv,?_,rfl,rfl⟩;unfold setE midE;rw [if_pos this];simp
 ·simp only at hh ⊢;have hf:has=false:=by cases has <;> simp_all
  refine .inr ⟨rfl,rfl,fun e he hk=>?_⟩
  unfold setE midE at he;rw [hf] at he;simp only [Bool.false_eq_true,if_false,List.nil_append,List.mem_append,m1,m2] at he;rcases he with q | q
  ·have:=q.2;rw [hk,Zr] at this;cases this
  ·have:=q.2;rw [hk,Zr] at this;cases this
def StT (has:Bool) (kv:En) (l out:List En) (done:Bool):Prop:=out=lowE kv.k l++((if higE kv.k l=[] then [] else midE has kv)++higE kv.k l)/\(done=true↔has=false\/higE kv.k l≠[])
theorem StT.nil (has:Bool) (kv:En):StT has kv [] [] (!has):=by
 refine ⟨by simp [lowE,higE],?_⟩
 cases has <;> simp [higE]
theorem StT.fin1 {has:Bool} {kv:En} {l out:List En} (h:StT has kv l out true):out=setE has kv l:=by
 rw [h.1];unfold setE;rcases h.2.1 rfl with q | q
 ·rw [q];unfold midE;simp
 ·rw [if_neg q]
theorem StT.fin2 {has:Bool} {kv:En} {l out:List En} (h:StT has kv l out false):out++[kv]=setE has kv l:=by
 have hn:¬ (has=false\/higE kv.k l≠[]):=fun q=>by have:=h.2.2 q;cases this
 have h1:has=true:=by cases has <;> simp_all
 have h2:higE kv.k l=[]:=Classical.byContradiction (fun q=>hn (.inr q))
 rw [h.1];unfold setE midE;rw [if_pos h2,if_pos h1,h2];simp
theorem low_snoc {key:ByteArray} {l:List En} {x:En}:lowE key (l++[x])=lowE key l++(if ZR x.k key=true then [x] else []):=by
 unfold lowE;rw [List.filter_append];congr 1
 cases h:ZR x.k key <;> simp [h]
theorem hig_snoc {key:ByteArray} {l:List En} {x:En}:higE key (l++[x])=higE key l++(if ZR key x.k=true then [x] else []):=by
 unfold higE;rw [List.filter_append];congr 1
 cases h:ZR key x.k <;> simp [h]
theorem StT.same {has done:Bool} {kv x:En} {l out:List En} (h:StT has kv l out done) (he:x.k=kv.k):StT has kv (l++[x]) out done:=by
 unfold StT;rw [low_snoc,hig_snoc,he,Zr];simp only [Bool.false_eq_true,if_false,List.append_nil];exact h
theorem StT.less {has done:Bool} {kv x:En} {l out:List En} (hr:Zo (l++[x])) (h:StT has kv l out done) (hl:ZR x.k kv.k=true):StT has kv (l++[x]) (out++[x]) done:=by
 have hg:ZR kv.k x.k=false:=by
  cases q:ZR kv.k x.k with
  | false=>rfl
  | true=>have:=ZQ hl q;rw [Zr] at this;cases this
 have hz:higE kv.k l=[]:=by
  unfold higE;rw [List.filter_eq_nil_iff];intro e he q;unfold Zo at hr;rw [List.pairwise_append] at hr;have:=ZQ (ZQ q (hr.2.2 e he x (by simp))) hl
  rw [Zr] at this;cases this
 unfold StT at h ⊢;rw [low_snoc,hig_snoc,if_pos hl,hg];rw [hz] at h ⊢;simp only [Bool.false_eq_true,if_false,List.append_nil,if_true] at h ⊢;exact ⟨by rw [h.1],h.2⟩
theorem StT.more {has:Bool} {kv x:En} {l out:List En} (h:StT has kv l out true) (hl:ZR kv.k x.k=true):StT has kv (l++[x]) (out++[x]) true:=by
 have hg:ZR x.k kv.k=false:=by
  cases q:ZR x.k kv.k with
  | false=>rfl
  | true=>have:=ZQ hl q;rw [Zr] at this;cases this
 unfold StT;rw [low_snoc,hig_snoc,if_pos hl,hg];refine ⟨?_,by simp⟩
 rw [h.1];rcases h.2.1 rfl with q | q
 ·rw [q];unfold midE;simp
 ·rw [if_neg q,if_neg (by simp)]
  simp
theorem StT.first {has:Bool} {kv x:En} {l out:List En} (h:StT has kv l out false) (hl:ZR kv.k x.k=true):StT has kv (l++[x]) (out++[kv]++[x]) true:=by
 have hg:ZR x.k kv.k=false:=by
  cases q:ZR x.k kv.k with
  | false=>rfl
  | true=>have:=ZQ hl q;rw [Zr] at this;cases this
 have hn:¬ (has=false\/higE kv.k l≠[]):=fun q=>by have:=h.2.2 q;cases this
 have h1:has=true:=by cases has <;> simp_all
 have h2:higE kv.k l=[]:=Classical.byContradiction (fun q=>hn (.inr q))
 unfold StT;rw [low_snoc,hig_snoc,if_pos hl,hg,h2];refine ⟨?_,by simp⟩
 rw [h.1,h2];unfold midE;rw [h1];simp
theorem StT.len {has done:Bool} {kv:En} {l out:List En} (h:StT has kv l out done):out.length<=2 * l.length+1:=by
 rw [h.1];have h1:(lowE kv.k l).length<=l.length:=List.length_filter_le _ _;have h2:(higE kv.k l).length<=l.length:=List.length_filter_le _ _;have h3:(midE has kv).length<=1:=by unfold midE;split <;> simp
 simp only [List.length_append];split <;> simp <;> omega
theorem setE_len {has:Bool} {kv:En} {es:List En}:(setE has kv es).length<=es.length+1:=by
 have h3:(midE has kv).length<=1:=by unfold midE;split <;> simp
 have h4:∀ l:List En,(lowE kv.k l).length+(higE kv.k l).length<=l.length:=by
  intro l;induction l with
  | nil=>simp [lowE,higE]
  | cons x l ih =>
   unfold lowE higE at ih ⊢;cases q:ZR x.k kv.k with
   | true =>
    have h5:ZR kv.k x.k=false:=by
     cases z:ZR kv.k x.k with
     | false=>rfl
     | true=>have:=ZQ q z;rw [Zr] at this;cases this
    simp only [List.filter_cons,q,h5,if_true,Bool.false_eq_true,if_false,List.length_cons];omega
   | false =>
    cases z:ZR kv.k x.k with
    | false =>
     simp only [List.filter_cons,q,z,Bool.false_eq_true,if_false,List.length_cons];omega
    | true =>
     simp only [List.filter_cons,q,z,if_true,Bool.false_eq_true,if_false,List.length_cons];omega
 have:=h4 es;unfold setE;simp only [List.length_append];omega
theorem rset_any (w:World) (a:Option Addr) (c:Nat) (es:List En) (key val:ByteArray) (has:Bool) (h:RdEn w a es) (hl:es.length<=100000) (hr:Zo es) :
  Calls Tryz.prog 34 #[.slice a es.length c,.string key,.agg #[.bool has,.string val]] w (EnP (fun fs=>fs=setE has ⟨key,val⟩ es) w):=by
 obtain ⟨n,hn⟩:∃ n,n=es.length:=⟨_,rfl⟩;obtain ⟨W0,hW0⟩:∃ W0,W0=w.alloc (.cells #[.bool has,.string val] 83):=⟨_,rfl⟩;have b0:Below w.heap.size w W0:=by rw [hW0];exact (Below.refl _ w).alloc (Nat.le_refl _) _
 have k0:Ob W0 w.heap.size 83 [.bool has,.string val]:=by rw [hW0];exact Ob.new w [.bool has,.string val] 83
 have HN:=Za hn;have HR:=Za (h.below b0);have HRI:=Za hr;have HB0:=Za b0;have HK0:=Za k0;rw [<- hn] at hl ⊢;clear h hn hr b0 k0;go_enter Tryz.func34,Tryz.ntmps34
 go_wp2;rw [<- hW0];clear hW0;go_loopw [7,8,16] (fun v u i wr=>∃ (k:Nat) (out:List En) (va:Option Addr) (vc nk:Nat) (done:Bool),k<=n/\i=.int .i64 k/\v=.slice va nk vc/\u=.bool done/\Hid (nk=out.length)/\Hid (StT has ⟨key,val⟩ (es.take k) out done)/\Hid (Row (fun g=>W0.heap.size<=g) wr 47 2 (.slice va out.length vc) out.length (Zg cEn out))/\Hid (Below W0.heap.size W0 wr)) (fun _ _ i _=>n - (intOf i).toNat)
 case atStart=>exact ⟨0,[],none,0,0,!has,Nat.zero_le _,rfl,rfl,rfl,Za rfl,Za (by simpa using StT.nil has ⟨key,val⟩),Za (Row.nil _ _ _ _),Za (Below.refl _ _)⟩
 case round =>
  obtain ⟨k,out,va,vc,nk,done,hk,rfl,rfl,rfl,HNK,HST,HRW,HBr⟩:=hrel;have hlo:out.length<=300000:=by have h1:=HST.out.len;simp at h1;omega
  by_cases hkn:k < n
  ·obtain ⟨⟨ek,ev⟩,hx⟩:∃ x,es[k]?=some x:=⟨es[k]'(by have:=HN.out;omega),List.getElem?_eq_getElem _⟩
   obtain ⟨gm,om,rfl,p1,p2⟩:=(HR.out.below HBr.out) k _ hx;simp only at p1 p2;obtain ⟨W1,hW1⟩:∃ W1,W1=wr.alloc (.cells #[.string ek,.string ev] 47):=⟨_,rfl⟩;have b1:Below wr.heap.size wr W1:=by rw [hW1];exact (Below.refl _ wr).alloc (Nat.le_refl _) _
   have kb:Ob W1 wr.heap.size 47 [.string ek,.string ev]:=by rw [hW1];exact Ob.new wr [.string ek,.string ev] 47
   have y0:=kb.cell 0;have y1:=kb.cell 1;have kz:=(HK0.out.old HBr.out).old b1;have zz0:=kz.cell 0;have zz1:=kz.cell 1;simp only [List.getElem?_cons_zero,List.getElem?_cons_succ] at y0 y1 zz0 zz1
   have htk:es.take (k+1)=es.take k++[⟨ek,ev⟩]:=by rw [List.take_add_one,hx];rfl
   have hrt:Zo (es.take k++[⟨ek,ev⟩]):=by
    rw [<- htk];have:=HRI.out;unfold Zo at this ⊢;exact this.sublist (List.take_sublist _ _)
   have HTK:=Za htk;have HRT:=Za hrt;clear hx htk hrt kz;by_cases heq:ek=key
   ·have hd:(ek.toList == key.toList)=true:=by rw [heq];simp
    have hne:(ek.toList != key.toList)=false:=by rw [heq];simp
    have hle:Op.bytesLess key.toList ek.toList=false:=by rw [heq];exact Zr key
    have hle2:Op.bytesLess ek.toList key.toList=false:=by rw [heq];exact Zr key
    have HST2:Hid (StT has ⟨key,val⟩ (es.take (k+1)) out done):=by
     rw [HTK.out];exact Za (HST.out.same heq)
    clear heq;cases done with
    | true =>
     have HRF:Hid (Row (fun g=>W0.heap.size<=g) W1 47 2 (.slice va out.length vc) out.length (Zg cEn out)):=Za (HRW.out.onl (F:=fun _=>False) (Onl.ofBelow b1) (fun _ _ q=>q))
     have HB8:=Za (HBr.out.trans (b1.mono HBr.out.size));rw [hW1] at y0 y1 zz0 zz1 HRF HB8;clear hW1 b1 kb HRW;go_wp2;go_roundw
     case rel=>exact ⟨k+1,out,va,vc,nk,_,by omega,by simp,rfl,rfl,HNK,HST2,HRF,HB8⟩
     case measure=>simp [intOf];omega
    | false =>
     have HRF:Hid (Row (fun g=>W0.heap.size<=g) W1 47 2 (.slice va out.length vc) out.length (Zg cEn out)):=Za (HRW.out.onl (F:=fun _=>False) (Onl.ofBelow b1) (fun _ _ q=>q))
     have HB8:=Za (HBr.out.trans (b1.mono HBr.out.size));rw [hW1] at y0 y1 zz0 zz1 HRF HB8;clear hW1 b1 kb HRW;go_wp2;go_roundw
     case rel=>exact ⟨k+1,out,va,vc,nk,_,by omega,by simp,rfl,rfl,HNK,HST2,HRF,HB8⟩
     case measure=>simp [intOf];omega
   ·have hd:(ek.toList == key.toList)=false:=by
     cases q:(ek.toList == key.toList) with
     | false=>rfl
     | true=>exact absurd (ZG (by simpa using q)) heq
    have hne:(ek.toList != key.toList)=true:=by simp only [bne,hd];rfl
    cases hlt:ZR key ek with
    | false =>
     have hle:Op.bytesLess key.toList ek.toList=false:=hlt
     have hl2:ZR ek key=true:=by
      cases q:ZR ek key with
      | true=>rfl
      | false=>exact absurd (sLt_conn q hlt) heq
     have HST2:Hid (StT has ⟨key,val⟩ (es.take (k+1)) (out++[⟨ek,ev⟩]) done):=by
      rw [HTK.out];exact Za (HST.out.less HRT.out hl2)
     have hle2:Op.bytesLess ek.toList key.toList=true:=hl2;clear heq hlt hl2;cases done with
     | true =>
      obtain ⟨w6,hw6⟩:∃ w6,w6=W1.alloc (.cells (cEn (En.mk ek ev)).toArray 47):=⟨_,rfl⟩;have bb6:Below W1.heap.size W1 w6:=by rw [hw6];exact (Below.refl _ W1).alloc (Nat.le_refl _) _
      have row6:=(HRW.out.onl (F:=fun _=>False) (Onl.ofBelow b1) (fun _ _ q=>q)).onl (F:=fun _=>False) (Onl.ofBelow bb6) (fun _ _ q=>q)
      have rd6:RdG cEn 2 w6 (some ⟨W1.heap.size,0,none⟩) [(En.mk ek ev)]:=by rw [hw6];exact rd_lit _ _ (En.mk ek ev)
      obtain ⟨v8,w8,RR,r8,o8,ow8⟩:=app_en (cp:=1) row6 (by simp;omega) rd6
      obtain ⟨va8,vc8,hva8,_⟩:=r8.form;obtain ⟨n8,hn8⟩:∃ n8,n8=(out++[(En.mk ek ev)]).length:=⟨_,rfl⟩;rw [hva8] at r8 RR;rw [show [(En.mk ek ev)].length=1 from rfl,<- hn8,<- HNK.out] at RR
      have hs6:w6.heap.size=W1.heap.size+1:=by rw [hw6,World.size_alloc]
      have hb8:Below W0.heap.size W0 w8:=Below.onl ((HBr.out.trans (b1.mono HBr.out.size)).trans (bb6.mono (by have:=b1.size;have:=HBr.out.size;omega))) o8 (fun i q=>HRW.out.2 i q) (Nat.le_refl _)
      have HB8:=Za hb8;have HRF:Hid (Row (fun g=>W0.heap.size<=g) w8 47 2 (.slice va8 (out++[En.mk ek ev]).length vc8) (out++[En.mk ek ev]).length (Zg cEn (out++[En.mk ek ev]))):=Za ⟨r8.1,fun g hg=>(r8.2 g hg).elim (fun z=>z) (fun z=>by have:=b1.size;have:=HBr.out.size;omega)⟩
      have HN8:=Za hn8;rw [hw6] at RR;simp only [cEn] at RR;rw [hW1] at RR y0 y1 zz0 zz1;simp only [World.size_alloc] at RR;obtain ⟨x1,x2,x3⟩:=Zf RR;clear hW1 b1 kb hw6 bb6 row6 rd6 r8 o8 ow8 hva8 hn8 RR hs6 hb8 HRW;go_wp2;go_roundw
      case rel=>exact ⟨k+1,out++[En.mk ek ev],va8,vc8,n8,_,by omega,by simp,rfl,rfl,HN8,HST2,HRF,HB8⟩
      case measure=>simp [intOf];omega
     | false =>
      obtain ⟨w6,hw6⟩:∃ w6,w6=W1.alloc (.cells (cEn (En.mk ek ev)).toArray 47):=⟨_,rfl⟩;have bb6:Below W1.heap.size W1 w6:=by rw [hw6];exact (Below.refl _ W1).alloc (Nat.le_refl _) _
      have row6:=(HRW.out.onl (F:=fun _=>False) (Onl.ofBelow b1) (fun _ _ q=>q)).onl (F:=fun _=>False) (Onl.ofBelow bb6) (fun _ _ q=>q)
      have rd6:RdG cEn 2 w6 (some ⟨W1.heap.size,0,none⟩) [(En.mk ek ev)]:=by rw [hw6];exact rd_lit _ _ (En.mk ek ev)
      obtain ⟨v8,w8,RR,r8,o8,ow8⟩:=app_en (cp:=1) row6 (by simp;omega) rd6
      obtain ⟨va8,vc8,hva8,_⟩:=r8.form;obtain ⟨n8,hn8⟩:∃ n8,n8=(out++[(En.mk ek ev)]).length:=⟨_,rfl⟩;rw [hva8] at r8 RR;rw [show [(En.mk ek ev)].length=1 from rfl,<- hn8,<- HNK.out] at RR
      have hs6:w6.heap.size=W1.heap.size+1:=by rw [hw6,World.size_alloc]
      have hb8:Below W0.heap.size W0 w8:=Below.onl ((HBr.out.trans (b1.mono HBr.out.size)).trans (bb6.mono (by have:=b1.size;have:=HBr.out.size;omega))) o8 (fun i q=>HRW.out.2 i q) (Nat.le_refl _)
      have HB8:=Za hb8;have HRF:Hid (Row (fun g=>W0.heap.size<=g) w8 47 2 (.slice va8 (out++[En.mk ek ev]).length vc8) (out++[En.mk ek ev]).length (Zg cEn (out++[En.mk ek ev]))):=Za ⟨r8.1,fun g hg=>(r8.2 g hg).elim (fun z=>z) (fun z=>by have:=b1.size;have:=HBr.out.size;omega)⟩
      have HN8:=Za hn8;rw [hw6] at RR;simp only [cEn] at RR;rw [hW1] at RR y0 y1 zz0 zz1;simp only [World.size_alloc] at RR;obtain ⟨x1,x2,x3⟩:=Zf RR;clear hW1 b1 kb hw6 bb6 row6 rd6 r8 o8 ow8 hva8 hn8 RR hs6 hb8 HRW;go_wp2;go_roundw
      case rel=>exact ⟨k+1,out++[En.mk ek ev],va8,vc8,n8,_,by omega,by simp,rfl,rfl,HN8,HST2,HRF,HB8⟩
      case measure=>simp [intOf];omega
    | true =>
     have hle:Op.bytesLess key.toList ek.toList=true:=hlt
     have hle2:Op.bytesLess ek.toList key.toList=false:=by
      cases q:ZR ek key with
      | false=>exact q
      | true=>have:=ZQ hlt q;rw [Zr] at this;cases this
     cases done with
     | true =>
      have HST2:Hid (StT has ⟨key,val⟩ (es.take (k+1)) (out++[⟨ek,ev⟩]) true):=by
       rw [HTK.out];exact Za (HST.out.more hlt)
      clear heq hlt;obtain ⟨w6,hw6⟩:∃ w6,w6=W1.alloc (.cells (cEn (En.mk ek ev)).toArray 47):=⟨_,rfl⟩;have bb6:Below W1.heap.size W1 w6:=by rw [hw6];exact (Below.refl _ W1).alloc (Nat.le_refl _) _
      have row6:=(HRW.out.onl (F:=fun _=>False) (Onl.ofBelow b1) (fun _ _ q=>q)).onl (F:=fun _=>False) (Onl.ofBelow bb6) (fun _ _ q=>q)
      have rd6:RdG cEn 2 w6 (some ⟨W1.heap.size,0,none⟩) [(En.mk ek ev)]:=by rw [hw6];exact rd_lit _ _ (En.mk ek ev)
      obtain ⟨v8,w8,RR,r8,o8,ow8⟩:=app_en (cp:=1) row6 (by simp;omega) rd6
      obtain ⟨va8,vc8,hva8,_⟩:=r8.form;obtain ⟨n8,hn8⟩:∃ n8,n8=(out++[(En.mk ek ev)]).length:=⟨_,rfl⟩;rw [hva8] at r8 RR;rw [show [(En.mk ek ev)].length=1 from rfl,<- hn8,<- HNK.out] at RR
      have hs6:w6.heap.size=W1.heap.size+1:=by rw [hw6,World.size_alloc]
      have hb8:Below W0.heap.size W0 w8:=Below.onl ((HBr.out.trans (b1.mono HBr.out.size)).trans (bb6.mono (by have:=b1.size;have:=HBr.out.size;omega))) o8 (fun i q=>HRW.out.2 i q) (Nat.le_refl _)
      have HB8:=Za hb8;have HRF:Hid (Row (fun g=>W0.heap.size<=g) w8 47 2 (.slice va8 (out++[En.mk ek ev]).length vc8) (out++[En.mk ek ev]).length (Zg cEn (out++[En.mk ek ev]))):=Za ⟨r8.1,fun g hg=>(r8.2 g hg).elim (fun z=>z) (fun z=>by have:=b1.size;have:=HBr.out.size;omega)⟩
      have HN8:=Za hn8;rw [hw6] at RR;simp only [cEn] at RR;rw [hW1] at RR y0 y1 zz0 zz1;simp only [World.size_alloc] at RR;obtain ⟨x1,x2,x3⟩:=Zf RR;clear hW1 b1 kb hw6 bb6 row6 rd6 r8 o8 ow8 hva8 hn8 RR hs6 hb8 HRW;go_wp2;go_roundw
      case rel=>exact ⟨k+1,out++[En.mk ek ev],va8,vc8,n8,_,by omega,by simp,rfl,rfl,HN8,HST2,HRF,HB8⟩
      case measure=>simp [intOf];omega
     | false =>
      have HST2:Hid (StT has ⟨key,val⟩ (es.take (k+1)) (out++[⟨key,val⟩]++[⟨ek,ev⟩]) true):=by
       rw [HTK.out];exact Za (HST.out.first hlt)
      clear heq hlt;obtain ⟨wa6,hwa6⟩:∃ w6,w6=W1.alloc (.cells (cEn (En.mk key val)).toArray 47):=⟨_,rfl⟩;have bba6:Below W1.heap.size W1 wa6:=by rw [hwa6];exact (Below.refl _ W1).alloc (Nat.le_refl _) _
      have rowa6:=(HRW.out.onl (F:=fun _=>False) (Onl.ofBelow b1) (fun _ _ q=>q)).onl (F:=fun _=>False) (Onl.ofBelow bba6) (fun _ _ q=>q)
      have rda6:RdG cEn 2 wa6 (some ⟨W1.heap.size,0,none⟩) [(En.mk key val)]:=by rw [hwa6];exact rd_lit _ _ (En.mk key val)
      obtain ⟨va8,wa8,RRa,ra8,oa8,owa8⟩:=app_en (cp:=1) rowa6 (by simp;omega) rda6
      obtain ⟨vaa8,vca8,hvaa8,_⟩:=ra8.form;obtain ⟨na8,hna8⟩:∃ n8,n8=(out++[(En.mk key val)]).length:=⟨_,rfl⟩;rw [hvaa8] at ra8 RRa;rw [show [(En.mk key val)].length=1 from rfl,<- hna8,<- HNK.out] at RRa
      have hsa6:wa6.heap.size=W1.heap.size+1:=by rw [hwa6,World.size_alloc]
      have hba:Onl (fun i=>W0.heap.size<=i) W1 wa8:=(Onl.ofBelow bba6).trans (oa8.mono (fun i q=>HRW.out.2 i q))
      have kba:=(kb.old bba6).onl oa8 (fun q=>by
       have h9:=HRW.out.lt _ q;omega)
      have ya0:=kba.cell 0;have ya1:=kba.cell 1;simp only [List.getElem?_cons_zero,List.getElem?_cons_succ] at ya0 ya1
      have rowa:Row (fun g=>W0.heap.size<=g) wa8 47 2 (.slice vaa8 (out++[En.mk key val]).length vca8) (out++[En.mk key val]).length (Zg cEn (out++[En.mk key val])):=⟨ra8.1,fun g hg=>(ra8.2 g hg).elim (fun z=>z) (fun z=>by have:=b1.size;have:=HBr.out.size;omega)⟩
      have hsa8:W1.heap.size<=wa8.heap.size:=hba.size;obtain ⟨wb6,hwb6⟩:∃ w6,w6=wa8.alloc (.cells (cEn (En.mk ek ev)).toArray 47):=⟨_,rfl⟩;have bbb6:Below wa8.heap.size wa8 wb6:=by rw [hwb6];exact (Below.refl _ wa8).alloc (Nat.le_refl _) _
      have rowb6:=(rowa).onl (F:=fun _=>False) (Onl.ofBelow bbb6) (fun _ _ q=>q)
      have rdb6:RdG cEn 2 wb6 (some ⟨wa8.heap.size,0,none⟩) [(En.mk ek ev)]:=by rw [hwb6];exact rd_lit _ _ (En.mk ek ev)
      obtain ⟨vb8,wb8,RRb,rb8,ob8,owb8⟩:=app_en (cp:=1) rowb6 (by simp;omega) rdb6
      obtain ⟨vab8,vcb8,hvab8,_⟩:=rb8.form;obtain ⟨nb8,hnb8⟩:∃ n8,n8=((out++[En.mk key val])++[(En.mk ek ev)]).length:=⟨_,rfl⟩;rw [hvab8] at rb8 RRb;rw [show [(En.mk ek ev)].length=1 from rfl,<- hnb8,<- hna8] at RRb
      have hsb6:wb6.heap.size=wa8.heap.size+1:=by rw [hwb6,World.size_alloc]
      have hb8:Below W0.heap.size W0 wb8:=Below.onl ((Below.onl (HBr.out.trans (b1.mono HBr.out.size)) hba (fun i q=>q) (Nat.le_refl _)).trans (bbb6.mono (by have:=b1.size;have:=HBr.out.size;omega))) ob8 (fun i q=>rowa.2 i q) (Nat.le_refl _)
      have HB8:=Za hb8;have HRF:Hid (Row (fun g=>W0.heap.size<=g) wb8 47 2 (.slice vab8 (out++[En.mk key val]++[En.mk ek ev]).length vcb8) (out++[En.mk key val]++[En.mk ek ev]).length (Zg cEn (out++[En.mk key val]++[En.mk ek ev]))):=Za ⟨rb8.1,fun g hg=>(rb8.2 g hg).elim (fun z=>z) (fun z=>by have:=b1.size;have:=HBr.out.size;omega)⟩
      have HN8:=Za hnb8;rw [hwa6] at RRa;rw [hwb6] at RRb;simp only [cEn] at RRa RRb;rw [hW1] at RRa y0 y1 zz0 zz1;simp only [World.size_alloc] at RRa;obtain ⟨x1,x2,x3⟩:=Zf RRa;obtain ⟨x4,x5,x6⟩:=Zf RRb;clear hW1 b1 kb hwa6 bba6 rowa6 rda6 ra8 oa8 owa8 hvaa8 hna8 RRa hsa6 hwb6 bbb6 rowb6 rdb6 rb8 ob8 owb8 hvab8 hnb8 RRb hsb6 hb8 HRW hba kba rowa hsa8;go_wp2;go_roundw
      case rel=>exact ⟨k+1,out++[En.mk key val]++[En.mk ek ev],vab8,vcb8,nb8,true,by omega,by simp,rfl,rfl,HN8,HST2,HRF,HB8⟩
      case measure=>simp [intOf];omega
  ·have hst:=HST.out;rw [List.take_of_length_le (by have:=HN.out;omega)] at hst
   cases done with
   | true =>
    have HF:Hid (EnP (fun fs=>fs=setE has ⟨key,val⟩ es) w (.returned (.slice va nk vc)) wr):=Za ⟨out,va,vc,by rw [HNK.out],hst.fin1,HRW.out.mono (fun i hi=>by have:=HB0.out.size;omega),HB0.out.trans (HBr.out.mono HB0.out.size)⟩
    clear hst HRW;go_wp2;go_ret
    exact HF.out
   | false =>
    have kz:=HK0.out.old HBr.out;have zz1:=kz.cell 1;simp only [List.getElem?_cons_zero,List.getElem?_cons_succ] at zz1
    obtain ⟨w6,hw6⟩:∃ w6,w6=wr.alloc (.cells (cEn (En.mk key val)).toArray 47):=⟨_,rfl⟩;have bb6:Below wr.heap.size wr w6:=by rw [hw6];exact (Below.refl _ wr).alloc (Nat.le_refl _) _
    have row6:=(HRW.out).onl (F:=fun _=>False) (Onl.ofBelow bb6) (fun _ _ q=>q)
    have rd6:RdG cEn 2 w6 (some ⟨wr.heap.size,0,none⟩) [(En.mk key val)]:=by rw [hw6];exact rd_lit _ _ (En.mk key val)
    obtain ⟨v8,w8,RR,r8,o8,ow8⟩:=app_en (cp:=1) row6 (by simp;omega) rd6
    obtain ⟨va8,vc8,hva8,_⟩:=r8.form;obtain ⟨n8,hn8⟩:∃ n8,n8=(out++[(En.mk key val)]).length:=⟨_,rfl⟩;rw [hva8] at r8 RR;rw [show [(En.mk key val)].length=1 from rfl,<- hn8,<- HNK.out] at RR
    have hs6:w6.heap.size=wr.heap.size+1:=by rw [hw6,World.size_alloc]
    have hb8:Below w.heap.size w w8:=Below.onl ((HB0.out.trans (HBr.out.mono HB0.out.size)).trans (bb6.mono (by have:=HB0.out.size;have:=HBr.out.size;omega))) o8 (fun i q=>by have:=HRW.out.2 i q;have:=HB0.out.size;omega) (Nat.le_refl _)
    have HF:Hid (EnP (fun fs=>fs=setE has ⟨key,val⟩ es) w (.returned (.slice va8 n8 vc8)) w8):=by
     refine Za ⟨out++[En.mk key val],va8,vc8,by rw [hn8],hst.fin2,⟨r8.1,fun g hg=>(r8.2 g hg).elim (fun z=>by have:=HB0.out.size;omega) (fun z=>by have:=HB0.out.size;have:=HBr.out.size;omega)⟩,hb8⟩
    rw [hw6] at RR;simp only [cEn] at RR;obtain ⟨x1,x2,x3⟩:=Zf RR;clear kz hw6 bb6 row6 rd6 r8 o8 ow8 hva8 hn8 RR hs6 hb8 HRW hst;go_wp2;go_ret
    exact HF.out
theorem rapply_any (w:World) (a b:Option Addr) (ca cb:Nat) (es:List En) (l:List Ed) (ha:RdEn w a es) (hb:RdG cEd 3 w b l) (hla:es.length<=1000) (hlb:l.length<=1000) (hr:Zo es) (han:a=none->ca=0) :
  Calls Tryz.prog 14 #[.slice a es.length ca,.slice b l.length cb] w fun e w'=>∃ (fs:List En) (va:Option Addr) (vc:Nat),e=.returned (.slice va fs.length vc)/\ApR es l fs/\RdEn w' va fs/\(va=none->vc=0)/\fs.length<=es.length+l.length/\Below w.heap.size w w':=by
 obtain ⟨n,hn⟩:∃ n,n=es.length:=⟨_,rfl⟩;obtain ⟨m,hm⟩:∃ m,m=l.length:=⟨_,rfl⟩;have HN:=Za hn;have HM:=Za hm;have HA:=Za (And.intro ha han);have HBL:=Za hb;have HRI:=Za hr;rw [<- hn] at hla;rw [<- hm] at hlb;rw [<- hn,<- hm];clear ha han hb hn hm hr;go_enter Tryz.func14,Tryz.ntmps14
 go_wp2;go_loopw [0,9] (fun v i wr=>∃ (k:Nat) (cur:List En) (va:Option Addr) (vc nk:Nat),k<=m/\i=.int .i64 k/\v=.slice va nk vc/\Hid (nk=cur.length)/\Hid (ApR es (l.take k) cur)/\Hid (RdEn wr va cur/\(va=none->vc=0))/\Hid (cur.length<=n+k)/\Hid (Below w.heap.size w wr)) (fun _ i _=>m - (intOf i).toNat)
 case atStart=>exact ⟨0,es,a,ca,n,Nat.zero_le _,rfl,rfl,HN,Za (by simpa using ApR.nil HRI.out),HA,Za (by have:=HN.out;omega),Za (Below.refl _ _)⟩
 case round =>
  obtain ⟨k,cur,va,vc,nk,hk,rfl,rfl,HNK,HAP,HRC,HLC,HBr⟩:=hrel;by_cases hkm:k < m
  ·obtain ⟨⟨xk,xv,xg⟩,hx⟩:∃ x,l[k]?=some x:=⟨l[k]'(by have:=HM.out;omega),List.getElem?_eq_getElem _⟩
   obtain ⟨g,o,rfl,c0,c1,c2⟩:=(HBL.out.below HBr.out).ed hx;simp only at c0 c1 c2;obtain ⟨W1,hW1⟩:∃ W1,W1=wr.alloc (.cells #[.string xk,.string xv,.bool xg] 52):=⟨_,rfl⟩;have b1:Below wr.heap.size wr W1:=by rw [hW1];exact (Below.refl _ wr).alloc (Nat.le_refl _) _
   have kb:Ob W1 wr.heap.size 52 [.string xk,.string xv,.bool xg]:=by rw [hW1];exact Ob.new wr [.string xk,.string xv,.bool xg] 52
   have y0:=kb.cell 0;have y1:=kb.cell 1;have y2:=kb.cell 2;simp only [List.getElem?_cons_zero,List.getElem?_cons_succ] at y0 y1 y2
   have CS:=rset_any W1 va vc cur xk xv (!xg) (HRC.out.1.below b1) (by have:=HLC.out;omega) HAP.out.1
   rw [<- HNK.out] at CS;have HCS:=Za CS;have HB1:=Za (HBr.out.trans (b1.mono HBr.out.size));have htk:l.take (k+1)=l.take k++[⟨xk,xv,xg⟩]:=by rw [List.take_add_one,hx];rfl
   have HTK:=Za htk;rw [hW1] at y0 y1 y2;clear CS b1 kb htk hx;go_wp2_with fail
   rw [<- hW1];clear hW1;refine HCS.out.mono ?_;rintro e' w2 ⟨fs,va2,vc2,rfl,hfs,row2,b2⟩;obtain ⟨a',cp',hv',rd',_,_,hnil',_⟩:=ZV cEn_len row2;injection hv' with e1 _ e3
   subst e1 e3
   have HAP2:Hid (ApR es (l.take (k+1)) fs):=by
    rw [HTK.out,hfs];have h1:=setE_ok (has:=!xg) (kv:=⟨xk,xv⟩) HAP.out.1;rw [Bool.not_not] at h1;exact Za (HAP.out.snoc h1)
   have HRC2:=Za (And.intro (RdG.en.1 rd') hnil')
   have HLC2:Hid (fs.length<=n+(k+1)):=by
    have h2:fs.length<=cur.length+1:=by
     rw [hfs];exact setE_len
    have:=HLC.out;exact Za (by omega)
   have HB2:=Za (HB1.out.trans (b2.mono HB1.out.size));obtain ⟨n2,hn2⟩:∃ n2,n2=fs.length:=⟨_,rfl⟩;have HN2:=Za hn2;rw [<- hn2];clear hfs row2 b2 rd' hn2 hnil';go_wp2;go_roundw
   case rel=>exact ⟨k+1,fs,va2,vc2,n2,by omega,by simp,rfl,HN2,HAP2,HRC2,HLC2,HB2⟩
   case measure=>simp [intOf];omega
  ·have HF:Hid (∃ (fs:List En) (va':Option Addr) (vc':Nat),(Ending.returned (.slice va nk vc):Ending)=.returned (.slice va' fs.length vc')/\ApR es l fs/\RdEn wr va' fs/\(va'=none->vc'=0)/\fs.length<=n+m/\Below w.heap.size w wr):=by
    have h1:=HAP.out;rw [List.take_of_length_le (by have:=HM.out;omega)] at h1
    exact Za ⟨cur,va,vc,by rw [HNK.out],h1,HRC.out.1,HRC.out.2,by have:=HLC.out;omega,HBr.out⟩
   clear HAP;go_wp2;go_ret
   exact HF.out
def smallEd (e:Ed):Bool:=decide (e.k.size<=60) && decide (e.v.size<=250)
def editsB (l:List Ed):Bool:=l.all smallEd && decide (l.length<=20)
theorem ledits_any (w:World) (a:Option Addr) (c:Nat) (l:List Ed) (h:RdG cEd 3 w a l) (hl:l.length<=9223372036854775807) (hz:∀ e ∈ l,e.k.size<=maxLen/\e.v.size<=maxLen) :
  Calls Tryz.prog 6 #[.slice a l.length c] w fun e w'=>e=.returned (.bool (editsB l))/\Below w.heap.size w w':=by
 obtain ⟨n,hn⟩:∃ n,n=l.length:=⟨_,rfl⟩;have HN:=Za hn;have HE:=Za h;have HZ:=Za hz;rw [<- hn] at hl ⊢;clear h hn hz;go_enter Tryz.func6,Tryz.ntmps6
 go_wp2;go_loopw [7] (fun i wr=>∃ k:Nat,k<=n/\i=.int .i64 k/\Hid ((l.take k).all smallEd=true)/\Hid (Below w.heap.size w wr)) (fun i _=>n - (intOf i).toNat)
 case atStart=>exact ⟨0,Nat.zero_le _,rfl,Za (by simp),Za (Below.refl _ _)⟩
 case round =>
  obtain ⟨k,hk,rfl,HS,HB⟩:=hrel;by_cases hkn:k < n
  ·obtain ⟨e,hek⟩:∃ e,l[k]?=some e:=⟨l[k]'(by have:=HN.out;omega),List.getElem?_eq_getElem _⟩
   obtain ⟨g,o,rfl,q1,q2,q3⟩:=HE.out.ed hek;have q1':=(HB.out.cell (p:=⟨g,o+k * 3,none⟩) (World.block_lt_of_cell? _ _ q1)).trans q1;have q2':=(HB.out.cell (p:=⟨g,o+k * 3+1,none⟩) (World.block_lt_of_cell? _ _ q2)).trans q2;have q3':=(HB.out.cell (p:=⟨g,o+k * 3+2,none⟩) (World.block_lt_of_cell? _ _ q3)).trans q3;have hsz:=HZ.out _ (List.mem_of_getElem? hek);obtain ⟨ek,ev,eg⟩:=e;simp only at q1' q2' q3' hsz;unfold maxLen at hsz;have HEK:=Za hek;have HBA:=Za (HB.out.alloc HB.out.size (.cells #[.string ek,.string ev,.bool eg] 52));clear q1 q2 q3 hek;by_cases h1:ek.size<=60
   ·have d1:decide ((60:Int) < (ek.size:Int))=false:=by simp;omega
    have d1n:decide (60 < ek.size)=false:=by simp;omega
    by_cases h2:ev.size<=250
    ·have d2:decide ((250:Int) < (ev.size:Int))=false:=by simp;omega
     have d2n:decide (250 < ev.size)=false:=by simp;omega
     have HS2:Hid ((l.take (k+1)).all smallEd=true):=by
      refine Za ?_;rw [List.take_add_one,HEK.out,List.all_append,HS.out];simp [smallEd,h1,h2]
     go_wp2;go_roundw
     case rel=>exact ⟨k+1,by omega,by simp,HS2,HBA⟩
     case measure=>simp [intOf];omega
    ·have d2:decide ((250:Int) < (ev.size:Int))=true:=by simp;omega
     have d2n:decide (250 < ev.size)=true:=by simp;omega
     have HX:Hid (editsB l=false):=Za (by unfold editsB;rw [all_take_false HEK.out (by simp [smallEd,h2])];rfl)
     go_wp2;go_ret
     rw [HX.out];exact ⟨rfl,HBA.out⟩
   ·have d1:decide ((60:Int) < (ek.size:Int))=true:=by simp;omega
    have d1n:decide (60 < ek.size)=true:=by simp;omega
    have HX:Hid (editsB l=false):=Za (by unfold editsB;rw [all_take_false HEK.out (by simp [smallEd,h1])];rfl)
    go_wp2;go_ret
    rw [HX.out];exact ⟨rfl,HBA.out⟩
  ·obtain rfl:k=n:=by omega
   have HX:Hid (editsB l=decide (k<=20)):=by
    refine Za ?_;have q:=HS.out;rw [HN.out,List.take_length] at q;unfold editsB;rw [q,HN.out];simp
   have hdd:decide ((k:Int)<=20)=decide (k<=20):=by
    by_cases q:k<=20
    ·simp [q];omega
    ·simp [q];omega
   go_wp2;go_ret
   rw [HX.out];exact ⟨by rw [<- hdd];rfl,HB.out⟩
end
section
open Go.RowKit Apo Go.ChangeShapes Go.WideShapes Go.Deep
instance:Inhabited Ed:=⟨⟨ByteArray.empty,ByteArray.empty,false⟩⟩
instance:Inhabited Ch:=⟨⟨ByteArray.empty,false,ByteArray.empty,false,ByteArray.empty⟩⟩
section
variable {H:Type} {enc:TypeId × Value->H} {w:World} {base:Nat} {spare:Nat->Bool} {held:Bool}
theorem open_eds {fuel:Nat} {v:Value} {x:DataW H × List MemPlace} (h:DataW.trod enc Tryz.prog w base spare held fuel 23 [v]=some x) :
  ∃ (a:Option Addr) (cap:Nat) (fs:List Ed),v=.slice a fs.length cap/\RdG cEd 3 w a fs/\(∀ f ∈ fs,f.k.size<=maxLen/\f.v.size<=maxLen)/\fs.length<=cap/\cap<=maxLen/\(a=none->cap=0):=by
 rcases open_slice Tryz.underlying23 h with ⟨hcs,_⟩ | ⟨ad,len,cap,m,n,D,Pl,hcs,hb,hl,hm,hmm,_,hx⟩
 ·simp only [List.cons.injEq,and_true] at hcs;exact ⟨none,0,[],hcs,RdG.nil _ _,by simp,by simp,by omega,fun _=>rfl⟩
 ·simp only [List.cons.injEq,and_true] at hcs;have hlm:len<=m:=by rw [hmm];split <;> omega
  have ce:Tryz.prog.cellsOf 52=3:=by kernel_rfl
  have each:∀ i,i < len->∃ f:Ed,w.cell? (ad.add (i * 3))=some (.string f.k)/\w.cell? (ad.add (i * 3+1))=some (.string f.v)/\w.cell? (ad.add (i * 3+2))=some (.bool f.g)/\(f.k.size<=maxLen/\f.v.size<=maxLen):=by
   intro i hi;obtain ⟨cs',h1,h2⟩:=hx i (by omega)
   rw [ce] at h1;obtain ⟨_,hlen,hcell⟩:=World.cells?_some h1
   obtain ⟨xs,k,hk,hxy,_,hxl,hf⟩:=DataW.trod_struct Tryz.underlying52 h2;match xs,hxl,cs',hlen with
   | [y0,y1,y2],_,[v0,v1,v2],_ =>
    have c9:Tryz.prog.cellsOf 9=1:=by kernel_rfl
    have c4:Tryz.prog.cellsOf 4=1:=by kernel_rfl
    have g0:=hf 0 _ rfl;have g1:=hf 1 _ rfl;have g2:=hf 2 _ rfl;simp [c9,c4] at g0 g1 g2
    obtain ⟨u0,e0,_,w0⟩:=DataW.trod_string Tryz.underlying9 g0;obtain ⟨u1,e1,_,w1⟩:=DataW.trod_string Tryz.underlying9 g1;obtain ⟨u2,e2,_⟩:=DataW.trod_bool Tryz.underlying4 g2;have q0:=hcell 0 (by omega)
    have q1:=hcell 1 (by omega)
    have q2:=hcell 2 (by omega)
    rw [add_add] at q0 q1 q2;simp only [List.cons.injEq,and_true] at e0 e1 e2;subst e0 e1 e2;exact ⟨⟨u0,u1,u2⟩,by simpa using q0,by simpa using q1,by simpa using q2,w0,w1⟩
  obtain ⟨F,hF⟩:=choose_lt each;refine ⟨some ad,cap,(List.range len).map F,by simpa using hcs,?_,?_,by simp;omega,by omega,fun e=>by cases e⟩
  ·intro i f hi;obtain ⟨hlt,hv⟩:=List.getElem?_eq_some_iff.1 hi
   have hil:i < len:=by simpa using hlt
   have hfi:F i=f:=by simpa using hv
   obtain ⟨p0,p1,p2,_⟩:=hF i hil;have z0:=(hF 0 (by omega)).1
   obtain ⟨b,off,spot⟩:=ad;have hspot:spot=none:=by simpa [Addr.add] using World.cell?_spot z0
   subst hspot;rw [hfi] at p0 p1 p2;rw [add_plain] at p0 p1 p2;refine ⟨b,off,rfl,fun j u hu=>?_⟩
   match j with
   | 0=>simp [cEd] at hu;rw [<- hu];simpa [Nat.add_assoc] using p0
   | 1=>simp [cEd] at hu;rw [<- hu];simpa [Nat.add_assoc] using p1
   | 2=>simp [cEd] at hu;rw [<- hu];simpa [Nat.add_assoc] using p2
   | j+3=>simp [cEd] at hu
  ·intro f hf;simp only [List.mem_map,List.mem_range] at hf;obtain ⟨i,hi,rfl⟩:=hf;exact (hF i hi).2.2.2
structure EdA where
 a:Option Addr
 c:Nat
 l:List Ed
structure OkEdA (w:World) (x:EdA):Prop where
 rd:RdG cEd 3 w x.a x.l
 sz:∀ f ∈ x.l,f.k.size<=maxLen/\f.v.size<=maxLen
 len:x.l.length<=x.c
 big:x.c<=maxLen
 nil:x.a=none->x.c=0
theorem eds_in {r:Reach} {b0:Nat} {v:Value} {d:DataW H} {ps:List MemPlace} (hval:Value.okWide Tryz.prog w r b0 23 v) (h:DataW.Trod enc Tryz.prog w base spare held 23 v d ps):∃ t:EdA,v=.slice t.a t.l.length t.c/\OkEdA w t:=by
 obtain ⟨a,l,c,rfl⟩:=okWide_slice Tryz.underlying23 hval;obtain ⟨fuel,hf⟩:=h;obtain ⟨a',c',fs,e,h1,h2,h3,h4,h5⟩:=open_eds hf;exact ⟨⟨a',c',fs⟩,e,⟨h1,h2,h3,h4,h5⟩⟩
end
end
end Go.Proofs.YteopalkiebfioaaGreat
