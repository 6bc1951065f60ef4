import Derived.Test.YtdhebpnkfookcaaGreatSM48
set_option maxRecDepth 100000
set_option maxHeartbeats 16000000
namespace Go.Proofs.YtdhebpnkfookcaaGreat
section
open Go.RowKit Apo
attribute [local go_sem ↓] app_exec
def lowE (key:ByteArray) (l:List En):List En:=l.filter (fun e=>ZQ e.k key)
def higE (key:ByteArray) (l:List En):List En:=l.filter (fun e=>ZQ key e.k)
def midE (has:Bool) (kv:En):List En:=if has=true then [kv] else []
def setE (has:Bool) (kv:En) (l:List En):List En:=lowE kv.k l++(midE has kv++higE kv.k l)
theorem setE_ok {has:Bool} {kv:En} {es:List En} (hr:Z1 es):SetC es ⟨kv.k,kv.v,!has⟩ (setE has kv es):=by
 have m1:∀ e,e ∈ lowE kv.k es↔e ∈ es/\ZQ e.k kv.k=true:=fun e=>by unfold lowE;rw [List.mem_filter]
 have m2:∀ e,e ∈ higE kv.k es↔e ∈ es/\ZQ kv.k e.k=true:=fun e=>by unfold higE;rw [List.mem_filter]
 have hmid:∀ e ∈ midE has kv,e=kv:=fun e he=>by unfold midE at he;split at he <;> simp_all
 refine ⟨?_,fun key v b hne hg=>?_,fun hh=>?_,fun hh=>?_⟩
 ·unfold Z1 at hr ⊢;unfold setE;rw [List.pairwise_append,List.pairwise_append];refine ⟨hr.filter _,⟨?_,hr.filter _,fun e he f hf=>?_⟩,fun e he f hf=>?_⟩
  ·unfold midE;split <;> simp
  ·rw [hmid e he];exact ((m2 f).1 hf).2
  ·rcases List.mem_append.1 hf with q | q
   ·rw [hmid f q];exact ((m1 e).1 he).2
   ·exact ZL ((m1 e).1 he).2 ((m2 f).1 q).2
 ·simp only at hne;rcases hg with ⟨rfl,e,he,hk,hv⟩ | ⟨rfl,rfl,hno⟩
  ·refine .inl ⟨rfl,e,?_,hk,hv⟩;unfold setE;rw [List.mem_append,List.mem_append,m1,m2];cases q:ZQ e.k kv.k with
   | true=>exact .inl ⟨he,rfl⟩
   | false =>
    cases z:ZQ kv.k e.k with
    | true=>exact .inr (.inr ⟨he,rfl⟩)
    | false=>exact absurd ((sLt_conn q z).symm.trans hk) (Ne.symm hne)
  ·refine .inr ⟨rfl,rfl,fun e he hk=>?_⟩;unfold setE at he;rw [List.mem_append,List.mem_append,m1,m2] at he;rcases he with q | q | q
   ·exact hno e q.1 hk
   ·rw [hmid e q] at hk;exact hne hk.symm
   ·exact hno e q.1 hk
 ·simp only at hh ⊢;have:has=true:=by cases has <;> simp_all
  refine .inl ⟨rfl,kv,?_,rfl,rfl⟩;unfold setE midE;rw [if_pos this];simp
 ·simp only at hh ⊢;have hf:has=false:=by cases has <;> simp_all
  refine .inr ⟨rfl,rfl,fun e he hk=>?_⟩;unfold setE midE at he;rw [hf] at he;simp only [Bool.false_eq_true,if_false,List.nil_append,List.mem_append,m1,m2] at he;rcases he with q | q
  ·have:=q.2;rw [hk,ZM] at this;cases this
  ·have:=q.2;rw [hk,ZM] at this;cases this
def StT (has:Bool) (kv:En) (l out:List En) (done:Bool):Prop:=out=lowE kv.k l++((if higE kv.k l=[] then [] else midE has kv)++higE kv.k l)/\(done=true↔has=false\/higE kv.k l≠[])
theorem StT.nil (has:Bool) (kv:En):StT has kv [] [] (!has):=by
 refine ⟨by simp [lowE,higE],?_⟩;cases has <;> simp [higE]
theorem StT.fin1 {has:Bool} {kv:En} {l out:List En} (h:StT has kv l out true):out=setE has kv l:=by
 rw [h.1];unfold setE;rcases h.2.1 rfl with q | q
 ·rw [q];unfold midE;simp
 ·rw [if_neg q]
theorem StT.fin2 {has:Bool} {kv:En} {l out:List En} (h:StT has kv l out false):out++[kv]=setE has kv l:=by
 have hn:¬ (has=false\/higE kv.k l≠[]):=fun q=>by have:=h.2.2 q;cases this
 have h1:has=true:=by cases has <;> simp_all
 have h2:higE kv.k l=[]:=Classical.byContradiction (fun q=>hn (.inr q));rw [h.1];unfold setE midE;rw [if_pos h2,if_pos h1,h2];simp
theorem low_snoc {key:ByteArray} {l:List En} {x:En}:lowE key (l++[x])=lowE key l++(if ZQ x.k key=true then [x] else []):=by
 unfold lowE;rw [List.filter_append];congr 1
 cases h:ZQ x.k key <;> simp [h]
theorem hig_snoc {key:ByteArray} {l:List En} {x:En}:higE key (l++[x])=higE key l++(if ZQ key x.k=true then [x] else []):=by
 unfold higE;rw [List.filter_append];congr 1
 cases h:ZQ key x.k <;> simp [h]
theorem StT.same {has done:Bool} {kv x:En} {l out:List En} (h:StT has kv l out done) (he:x.k=kv.k):StT has kv (l++[x]) out done:=by
 unfold StT;rw [low_snoc,hig_snoc,he,ZM];simp only [Bool.false_eq_true,if_false,List.append_nil];exact h
theorem StT.less {has done:Bool} {kv x:En} {l out:List En} (hr:Z1 (l++[x])) (h:StT has kv l out done) (hl:ZQ x.k kv.k=true):StT has kv (l++[x]) (out++[x]) done:=by
 have hg:ZQ kv.k x.k=false:=by
  cases q:ZQ kv.k x.k with
  | false=>rfl
  | true=>have:=ZL hl q;rw [ZM] at this;cases this
 have hz:higE kv.k l=[]:=by
  unfold higE;rw [List.filter_eq_nil_iff];intro e he q;unfold Z1 at hr;rw [List.pairwise_append] at hr;have:=ZL (ZL q (hr.2.2 e he x (by simp))) hl;rw [ZM] at this;cases this
 unfold StT at h ⊢;rw [low_snoc,hig_snoc,if_pos hl,hg];rw [hz] at h ⊢;simp only [Bool.false_eq_true,if_false,List.append_nil,if_true] at h ⊢;exact ⟨by rw [h.1],h.2⟩
theorem StT.more {has:Bool} {kv x:En} {l out:List En} (h:StT has kv l out true) (hl:ZQ kv.k x.k=true):StT has kv (l++[x]) (out++[x]) true:=by
 have hg:ZQ x.k kv.k=false:=by
  cases q:ZQ x.k kv.k with
  | false=>rfl
  | true=>have:=ZL hl q;rw [ZM] at this;cases this
 unfold StT;rw [low_snoc,hig_snoc,if_pos hl,hg];refine ⟨?_,by simp⟩;rw [h.1];rcases h.2.1 rfl with q | q
 ·rw [q];unfold midE;simp
 ·rw [if_neg q,if_neg (by simp)];simp
theorem StT.first {has:Bool} {kv x:En} {l out:List En} (h:StT has kv l out false) (hl:ZQ kv.k x.k=true):StT has kv (l++[x]) (out++[kv]++[x]) true:=by
 have hg:ZQ x.k kv.k=false:=by
  cases q:ZQ x.k kv.k with
  | false=>rfl
  | true=>have:=ZL hl q;rw [ZM] at this;cases this
 have hn:¬ (has=false\/higE kv.k l≠[]):=fun q=>by have:=h.2.2 q;cases this
 have h1:has=true:=by cases has <;> simp_all
 have h2:higE kv.k l=[]:=Classical.byContradiction (fun q=>hn (.inr q));unfold StT;rw [low_snoc,hig_snoc,if_pos hl,hg,h2];refine ⟨?_,by simp⟩;rw [h.1,h2];unfold midE;rw [h1];simp
theorem StT.len {has done:Bool} {kv:En} {l out:List En} (h:StT has kv l out done):out.length<=2 * l.length+1:=by
 rw [h.1];have h1:(lowE kv.k l).length<=l.length:=List.length_filter_le _ _;have h2:(higE kv.k l).length<=l.length:=List.length_filter_le _ _;have h3:(midE has kv).length<=1:=by unfold midE;split <;> simp
 simp only [List.length_append];split <;> simp <;> omega
theorem setE_len {has:Bool} {kv:En} {es:List En}:(setE has kv es).length<=es.length+1:=by
 have h3:(midE has kv).length<=1:=by unfold midE;split <;> simp
 have h4:∀ l:List En,(lowE kv.k l).length+(higE kv.k l).length<=l.length:=by
  intro l;induction l with
  | nil=>simp [lowE,higE]
  | cons x l ih =>
   unfold lowE higE at ih ⊢;cases q:ZQ x.k kv.k with
   | true =>
    have h5:ZQ kv.k x.k=false:=by
     cases z:ZQ kv.k x.k with
     | false=>rfl
     | true=>have:=ZL q z;rw [ZM] at this;cases this
    simp only [List.filter_cons,q,h5,if_true,Bool.false_eq_true,if_false,List.length_cons];omega
   | false =>
    cases z:ZQ kv.k x.k with
    | false =>
     simp only [List.filter_cons,q,z,Bool.false_eq_true,if_false,List.length_cons];omega
    | true =>
     simp only [List.filter_cons,q,z,if_true,Bool.false_eq_true,if_false,List.length_cons];omega
 have:=h4 es;unfold setE;simp only [List.length_append];omega
theorem rset_any (w:World) (a:Option Addr) (c:Nat) (es:List En) (key val:ByteArray) (has:Bool) (h:RdEn w a es) (hl:es.length<=100000) (hr:Z1 es) :
  Calls Tryz.prog 17 #[.slice a es.length c,.string key,.agg #[.bool has,.string val]] w (EnP (fun fs=>fs=setE has ⟨key,val⟩ es) w):=by
 obtain ⟨n,hn⟩:∃ n,n=es.length:=⟨_,rfl⟩;obtain ⟨W0,hW0⟩:∃ W0,W0=w.alloc (.cells #[.bool has,.string val] 35):=⟨_,rfl⟩;have b0:Below w.heap.size w W0:=by rw [hW0];exact (Below.refl _ w).alloc (Nat.le_refl _) _
 have k0:Ob W0 w.heap.size 35 [.bool has,.string val]:=by rw [hW0];exact Ob.new w [.bool has,.string val] 35
 have HN:=Za hn;have HR:=Za (h.below b0);have HRI:=Za hr;have HB0:=Za b0;have HK0:=Za k0;rw [<- hn] at hl ⊢;clear h hn hr b0 k0;go_enter Tryz.func17,Tryz.ntmps17
 go_wp2;rw [<- hW0];clear hW0;go_loopw [7,8,16] (fun v u i wr=>∃ (k:Nat) (out:List En) (va:Option Addr) (vc nk:Nat) (done:Bool),k<=n/\i=.int .i64 k/\v=.slice va nk vc/\u=.bool done/\Hid (nk=out.length)/\Hid (StT has ⟨key,val⟩ (es.take k) out done)/\Hid (Row (fun g=>W0.heap.size<=g) wr 43 2 (.slice va out.length vc) out.length (Zk cEn out))/\Hid (Below W0.heap.size W0 wr)) (fun _ _ i _=>n - (intOf i).toNat)
 case atStart=>exact ⟨0,[],none,0,0,!has,Nat.zero_le _,rfl,rfl,rfl,Za rfl,Za (by simpa using StT.nil has ⟨key,val⟩),Za (Row.nil _ _ _ _),Za (Below.refl _ _)⟩
 case round =>
  obtain ⟨k,out,va,vc,nk,done,hk,rfl,rfl,rfl,HNK,HST,HRW,HBr⟩:=hrel;have hlo:out.length<=300000:=by have h1:=HST.out.len;simp at h1;omega
  by_cases hkn:k < n
  ·obtain ⟨⟨ek,ev⟩,hx⟩:∃ x,es[k]?=some x:=⟨es[k]'(by have:=HN.out;omega),List.getElem?_eq_getElem _⟩;obtain ⟨gm,om,rfl,p1,p2⟩:=(HR.out.below HBr.out) k _ hx;simp only at p1 p2;obtain ⟨W1,hW1⟩:∃ W1,W1=wr.alloc (.cells #[.string ek,.string ev] 43):=⟨_,rfl⟩;have b1:Below wr.heap.size wr W1:=by rw [hW1];exact (Below.refl _ wr).alloc (Nat.le_refl _) _
   have kb:Ob W1 wr.heap.size 43 [.string ek,.string ev]:=by rw [hW1];exact Ob.new wr [.string ek,.string ev] 43
   have y0:=kb.cell 0;have y1:=kb.cell 1;have kz:=(HK0.out.old HBr.out).old b1;have zz0:=kz.cell 0;have zz1:=kz.cell 1;simp only [List.getElem?_cons_zero,List.getElem?_cons_succ] at y0 y1 zz0 zz1;have htk:es.take (k+1)=es.take k++[⟨ek,ev⟩]:=by rw [List.take_add_one,hx];rfl
   have hrt:Z1 (es.take k++[⟨ek,ev⟩]):=by
    rw [<- htk];have:=HRI.out;unfold Z1 at this ⊢;exact this.sublist (List.take_sublist _ _)
   have HTK:=Za htk;have HRT:=Za hrt;clear hx htk hrt kz;by_cases heq:ek=key
   ·have hd:(ek.toList == key.toList)=true:=by rw [heq];simp
    have hne:(ek.toList != key.toList)=false:=by rw [heq];simp
    have hle:Op.bytesLess key.toList ek.toList=false:=by rw [heq];exact ZM key
    have hle2:Op.bytesLess ek.toList key.toList=false:=by rw [heq];exact ZM key
    have HST2:Hid (StT has ⟨key,val⟩ (es.take (k+1)) out done):=by
     rw [HTK.out];exact Za (HST.out.same heq)
    clear heq;cases done with
    | true =>
     have HRF:Hid (Row (fun g=>W0.heap.size<=g) W1 43 2 (.slice va out.length vc) out.length (Zk cEn out)):=Za (HRW.out.onl (F:=fun _=>False) (Onl.ofBelow b1) (fun _ _ q=>q));have HB8:=Za (HBr.out.trans (b1.mono HBr.out.size));rw [hW1] at y0 y1 zz0 zz1 HRF HB8;clear hW1 b1 kb HRW;go_wp2;go_roundw
     case rel=>exact ⟨k+1,out,va,vc,nk,_,by omega,by simp,rfl,rfl,HNK,HST2,HRF,HB8⟩
     case measure=>simp [intOf];omega
    | false =>
     have HRF:Hid (Row (fun g=>W0.heap.size<=g) W1 43 2 (.slice va out.length vc) out.length (Zk cEn out)):=Za (HRW.out.onl (F:=fun _=>False) (Onl.ofBelow b1) (fun _ _ q=>q));have HB8:=Za (HBr.out.trans (b1.mono HBr.out.size));rw [hW1] at y0 y1 zz0 zz1 HRF HB8;clear hW1 b1 kb HRW;go_wp2;go_roundw
     case rel=>exact ⟨k+1,out,va,vc,nk,_,by omega,by simp,rfl,rfl,HNK,HST2,HRF,HB8⟩
     case measure=>simp [intOf];omega
   ·have hd:(ek.toList == key.toList)=false:=by
     cases q:(ek.toList == key.toList) with
     | false=>rfl
     | true=>exact absurd (bytes_of_list (by simpa using q)) heq
    have hne:(ek.toList != key.toList)=true:=by simp only [bne,hd];rfl
    cases hlt:ZQ key ek with
    | false =>
     have hle:Op.bytesLess key.toList ek.toList=false:=hlt
     have hl2:ZQ ek key=true:=by
      cases q:ZQ ek key with
      | true=>rfl
      | false=>exact absurd (sLt_conn q hlt) heq
     have HST2:Hid (StT has ⟨key,val⟩ (es.take (k+1)) (out++[⟨ek,ev⟩]) done):=by
      rw [HTK.out];exact Za (HST.out.less HRT.out hl2)
     have hle2:Op.bytesLess ek.toList key.toList=true:=hl2;clear heq hlt hl2;cases done with
     | true =>
      obtain ⟨w6,hw6⟩:∃ w6,w6=W1.alloc (.cells (cEn (En.mk ek ev)).toArray 43):=⟨_,rfl⟩;have bb6:Below W1.heap.size W1 w6:=by rw [hw6];exact (Below.refl _ W1).alloc (Nat.le_refl _) _
      have row6:=(HRW.out.onl (F:=fun _=>False) (Onl.ofBelow b1) (fun _ _ q=>q)).onl (F:=fun _=>False) (Onl.ofBelow bb6) (fun _ _ q=>q);have rd6:RdG cEn 2 w6 (some ⟨W1.heap.size,0,none⟩) [(En.mk ek ev)]:=by rw [hw6];exact rd_lit _ _ (En.mk ek ev)
      obtain ⟨v8,w8,RR,r8,o8,ow8⟩:=app_en (cp:=1) row6 (by simp;omega) rd6;obtain ⟨va8,vc8,hva8,_⟩:=r8.form;obtain ⟨n8,hn8⟩:∃ n8,n8=(out++[(En.mk ek ev)]).length:=⟨_,rfl⟩;rw [hva8] at r8 RR;rw [show [(En.mk ek ev)].length=1 from rfl,<- hn8,<- HNK.out] at RR;have hs6:w6.heap.size=W1.heap.size+1:=by rw [hw6,World.size_alloc]
      have hb8:Below W0.heap.size W0 w8:=Below.onl ((HBr.out.trans (b1.mono HBr.out.size)).trans (bb6.mono (by have:=b1.size;have:=HBr.out.size;omega))) o8 (fun i q=>HRW.out.2 i q) (Nat.le_refl _);have HB8:=Za hb8;have HRF:Hid (Row (fun g=>W0.heap.size<=g) w8 43 2 (.slice va8 (out++[En.mk ek ev]).length vc8) (out++[En.mk ek ev]).length (Zk cEn (out++[En.mk ek ev]))):=Za ⟨r8.1,fun g hg=>(r8.2 g hg).elim (fun z=>z) (fun z=>by have:=b1.size;have:=HBr.out.size;omega)⟩;have HN8:=Za hn8;rw [hw6] at RR;simp only [cEn] at RR;rw [hW1] at RR y0 y1 zz0 zz1;simp only [World.size_alloc] at RR;obtain ⟨x1,x2,x3⟩:=Zi RR;clear hW1 b1 kb hw6 bb6 row6 rd6 r8 o8 ow8 hva8 hn8 RR hs6 hb8 HRW;go_wp2;go_roundw
      case rel=>exact ⟨k+1,out++[En.mk ek ev],va8,vc8,n8,_,by omega,by simp,rfl,rfl,HN8,HST2,HRF,HB8⟩
      case measure=>simp [intOf];omega
     | false =>
      obtain ⟨w6,hw6⟩:∃ w6,w6=W1.alloc (.cells (cEn (En.mk ek ev)).toArray 43):=⟨_,rfl⟩;have bb6:Below W1.heap.size W1 w6:=by rw [hw6];exact (Below.refl _ W1).alloc (Nat.le_refl _) _
      have row6:=(HRW.out.onl (F:=fun _=>False) (Onl.ofBelow b1) (fun _ _ q=>q)).onl (F:=fun _=>False) (Onl.ofBelow bb6) (fun _ _ q=>q);have rd6:RdG cEn 2 w6 (some ⟨W1.heap.size,0,none⟩) [(En.mk ek ev)]:=by rw [hw6];exact rd_lit _ _ (En.mk ek ev)
      obtain ⟨v8,w8,RR,r8,o8,ow8⟩:=app_en (cp:=1) row6 (by simp;omega) rd6;obtain ⟨va8,vc8,hva8,_⟩:=r8.form;obtain ⟨n8,hn8⟩:∃ n8,n8=(out++[(En.mk ek ev)]).length:=⟨_,rfl⟩;rw [hva8] at r8 RR;rw [show [(En.mk ek ev)].length=1 from rfl,<- hn8,<- HNK.out] at RR;have hs6:w6.heap.size=W1.heap.size+1:=by rw [hw6,World.size_alloc]
      have hb8:Below W0.heap.size W0 w8:=Below.onl ((HBr.out.trans (b1.mono HBr.out.size)).trans (bb6.mono (by have:=b1.size;have:=HBr.out.size;omega))) o8 (fun i q=>HRW.out.2 i q) (Nat.le_refl _);have HB8:=Za hb8;have HRF:Hid (Row (fun g=>W0.heap.size<=g) w8 43 2 (.slice va8 (out++[En.mk ek ev]).length vc8) (out++[En.mk ek ev]).length (Zk cEn (out++[En.mk ek ev]))):=Za ⟨r8.1,fun g hg=>(r8.2 g hg).elim (fun z=>z) (fun z=>by have:=b1.size;have:=HBr.out.size;omega)⟩;have HN8:=Za hn8;rw [hw6] at RR;simp only [cEn] at RR;rw [hW1] at RR y0 y1 zz0 zz1;simp only [World.size_alloc] at RR;obtain ⟨x1,x2,x3⟩:=Zi RR;clear hW1 b1 kb hw6 bb6 row6 rd6 r8 o8 ow8 hva8 hn8 RR hs6 hb8 HRW;go_wp2;go_roundw
      case rel=>exact ⟨k+1,out++[En.mk ek ev],va8,vc8,n8,_,by omega,by simp,rfl,rfl,HN8,HST2,HRF,HB8⟩
      case measure=>simp [intOf];omega
    | true =>
     have hle:Op.bytesLess key.toList ek.toList=true:=hlt
     have hle2:Op.bytesLess ek.toList key.toList=false:=by
      cases q:ZQ ek key with
      | false=>exact q
      | true=>have:=ZL hlt q;rw [ZM] at this;cases this
     cases done with
     | true =>
      have HST2:Hid (StT has ⟨key,val⟩ (es.take (k+1)) (out++[⟨ek,ev⟩]) true):=by
       rw [HTK.out];exact Za (HST.out.more hlt)
      clear heq hlt;obtain ⟨w6,hw6⟩:∃ w6,w6=W1.alloc (.cells (cEn (En.mk ek ev)).toArray 43):=⟨_,rfl⟩;have bb6:Below W1.heap.size W1 w6:=by rw [hw6];exact (Below.refl _ W1).alloc (Nat.le_refl _) _
      have row6:=(HRW.out.onl (F:=fun _=>False) (Onl.ofBelow b1) (fun _ _ q=>q)).onl (F:=fun _=>False) (Onl.ofBelow bb6) (fun _ _ q=>q);have rd6:RdG cEn 2 w6 (some ⟨W1.heap.size,0,none⟩) [(En.mk ek ev)]:=by rw [hw6];exact rd_lit _ _ (En.mk ek ev)
      obtain ⟨v8,w8,RR,r8,o8,ow8⟩:=app_en (cp:=1) row6 (by simp;omega) rd6;obtain ⟨va8,vc8,hva8,_⟩:=r8.form;obtain ⟨n8,hn8⟩:∃ n8,n8=(out++[(En.mk ek ev)]).length:=⟨_,rfl⟩;rw [hva8] at r8 RR;rw [show [(En.mk ek ev)].length=1 from rfl,<- hn8,<- HNK.out] at RR;have hs6:w6.heap.size=W1.heap.size+1:=by rw [hw6,World.size_alloc]
      have hb8:Below W0.heap.size W0 w8:=Below.onl ((HBr.out.trans (b1.mono HBr.out.size)).trans (bb6.mono (by have:=b1.size;have:=HBr.out.size;omega))) o8 (fun i q=>HRW.out.2 i q) (Nat.le_refl _);have HB8:=Za hb8;have HRF:Hid (Row (fun g=>W0.heap.size<=g) w8 43 2 (.slice va8 (out++[En.mk ek ev]).length vc8) (out++[En.mk ek ev]).length (Zk cEn (out++[En.mk ek ev]))):=Za ⟨r8.1,fun g hg=>(r8.2 g hg).elim (fun z=>z) (fun z=>by have:=b1.size;have:=HBr.out.size;omega)⟩;have HN8:=Za hn8;rw [hw6] at RR;simp only [cEn] at RR;rw [hW1] at RR y0 y1 zz0 zz1;simp only [World.size_alloc] at RR;obtain ⟨x1,x2,x3⟩:=Zi RR;clear hW1 b1 kb hw6 bb6 row6 rd6 r8 o8 ow8 hva8 hn8 RR hs6 hb8 HRW;go_wp2;go_roundw
      case rel=>exact ⟨k+1,out++[En.mk ek ev],va8,vc8,n8,_,by omega,by simp,rfl,rfl,HN8,HST2,HRF,HB8⟩
      case measure=>simp [intOf];omega
     | false =>
      have HST2:Hid (StT has ⟨key,val⟩ (es.take (k+1)) (out++[⟨key,val⟩]++[⟨ek,ev⟩]) true):=by
       rw [HTK.out];exact Za (HST.out.first hlt)
      clear heq hlt;obtain ⟨wa6,hwa6⟩:∃ w6,w6=W1.alloc (.cells (cEn (En.mk key val)).toArray 43):=⟨_,rfl⟩;have bba6:Below W1.heap.size W1 wa6:=by rw [hwa6];exact (Below.refl _ W1).alloc (Nat.le_refl _) _
      have rowa6:=(HRW.out.onl (F:=fun _=>False) (Onl.ofBelow b1) (fun _ _ q=>q)).onl (F:=fun _=>False) (Onl.ofBelow bba6) (fun _ _ q=>q);have rda6:RdG cEn 2 wa6 (some ⟨W1.heap.size,0,none⟩) [(En.mk key val)]:=by rw [hwa6];exact rd_lit _ _ (En.mk key val)
      obtain ⟨va8,wa8,RRa,ra8,oa8,owa8⟩:=app_en (cp:=1) rowa6 (by simp;omega) rda6;obtain ⟨vaa8,vca8,hvaa8,_⟩:=ra8.form;obtain ⟨na8,hna8⟩:∃ n8,n8=(out++[(En.mk key val)]).length:=⟨_,rfl⟩;rw [hvaa8] at ra8 RRa;rw [show [(En.mk key val)].length=1 from rfl,<- hna8,<- HNK.out] at RRa;have hsa6:wa6.heap.size=W1.heap.size+1:=by rw [hwa6,World.size_alloc]
      have hba:Onl (fun i=>W0.heap.size<=i) W1 wa8:=(Onl.ofBelow bba6).trans (oa8.mono (fun i q=>HRW.out.2 i q))
      have kba:=(kb.old bba6).onl oa8 (fun q=>by
       have h9:=HRW.out.lt _ q;omega)
      have ya0:=kba.cell 0;have ya1:=kba.cell 1;simp only [List.getElem?_cons_zero,List.getElem?_cons_succ] at ya0 ya1;have rowa:Row (fun g=>W0.heap.size<=g) wa8 43 2 (.slice vaa8 (out++[En.mk key val]).length vca8) (out++[En.mk key val]).length (Zk cEn (out++[En.mk key val])):=⟨ra8.1,fun g hg=>(ra8.2 g hg).elim (fun z=>z) (fun z=>by have:=b1.size;have:=HBr.out.size;omega)⟩;have hsa8:W1.heap.size<=wa8.heap.size:=hba.size;obtain ⟨wb6,hwb6⟩:∃ w6,w6=wa8.alloc (.cells (cEn (En.mk ek ev)).toArray 43):=⟨_,rfl⟩;have bbb6:Below wa8.heap.size wa8 wb6:=by rw [hwb6];exact (Below.refl _ wa8).alloc (Nat.le_refl _) _
      have rowb6:=(rowa).onl (F:=fun _=>False) (Onl.ofBelow bbb6) (fun _ _ q=>q);have rdb6:RdG cEn 2 wb6 (some ⟨wa8.heap.size,0,none⟩) [(En.mk ek ev)]:=by rw [hwb6];exact rd_lit _ _ (En.mk ek ev)
      obtain ⟨vb8,wb8,RRb,rb8,ob8,owb8⟩:=app_en (cp:=1) rowb6 (by simp;omega) rdb6;obtain ⟨vab8,vcb8,hvab8,_⟩:=rb8.form;obtain ⟨nb8,hnb8⟩:∃ n8,n8=((out++[En.mk key val])++[(En.mk ek ev)]).length:=⟨_,rfl⟩;rw [hvab8] at rb8 RRb;rw [show [(En.mk ek ev)].length=1 from rfl,<- hnb8,<- hna8] at RRb;have hsb6:wb6.heap.size=wa8.heap.size+1:=by rw [hwb6,World.size_alloc]
      have hb8:Below W0.heap.size W0 wb8:=Below.onl ((Below.onl (HBr.out.trans (b1.mono HBr.out.size)) hba (fun i q=>q) (Nat.le_refl _)).trans (bbb6.mono (by have:=b1.size;have:=HBr.out.size;omega))) ob8 (fun i q=>rowa.2 i q) (Nat.le_refl _);have HB8:=Za hb8;have HRF:Hid (Row (fun g=>W0.heap.size<=g) wb8 43 2 (.slice vab8 (out++[En.mk key val]++[En.mk ek ev]).length vcb8) (out++[En.mk key val]++[En.mk ek ev]).length (Zk cEn (out++[En.mk key val]++[En.mk ek ev]))):=Za ⟨rb8.1,fun g hg=>(rb8.2 g hg).elim (fun z=>z) (fun z=>by have:=b1.size;have:=HBr.out.size;omega)⟩;have HN8:=Za hnb8;rw [hwa6] at RRa;rw [hwb6] at RRb;simp only [cEn] at RRa RRb;rw [hW1] at RRa y0 y1 zz0 zz1;simp only [World.size_alloc] at RRa;obtain ⟨x1,x2,x3⟩:=Zi RRa;obtain ⟨x4,x5,x6⟩:=Zi RRb;clear hW1 b1 kb hwa6 bba6 rowa6 rda6 ra8 oa8 owa8 hvaa8 hna8 RRa hsa6 hwb6 bbb6 rowb6 rdb6 rb8 ob8 owb8 hvab8 hnb8 RRb hsb6 hb8 HRW hba kba rowa hsa8;go_wp2;go_roundw
      case rel=>exact ⟨k+1,out++[En.mk key val]++[En.mk ek ev],vab8,vcb8,nb8,true,by omega,by simp,rfl,rfl,HN8,HST2,HRF,HB8⟩
      case measure=>simp [intOf];omega
  ·have hst:=HST.out;rw [List.take_of_length_le (by have:=HN.out;omega)] at hst;cases done with
   | true =>
    have HF:Hid (EnP (fun fs=>fs=setE has ⟨key,val⟩ es) w (.returned (.slice va nk vc)) wr):=Za ⟨out,va,vc,by rw [HNK.out],hst.fin1,HRW.out.mono (fun i hi=>by have:=HB0.out.size;omega),HB0.out.trans (HBr.out.mono HB0.out.size)⟩;clear hst HRW;go_wp2;go_ret
    exact HF.out
   | false =>
    have kz:=HK0.out.old HBr.out;have zz1:=kz.cell 1;simp only [List.getElem?_cons_zero,List.getElem?_cons_succ] at zz1;obtain ⟨w6,hw6⟩:∃ w6,w6=wr.alloc (.cells (cEn (En.mk key val)).toArray 43):=⟨_,rfl⟩;have bb6:Below wr.heap.size wr w6:=by rw [hw6];exact (Below.refl _ wr).alloc (Nat.le_refl _) _
    have row6:=(HRW.out).onl (F:=fun _=>False) (Onl.ofBelow bb6) (fun _ _ q=>q);have rd6:RdG cEn 2 w6 (some ⟨wr.heap.size,0,none⟩) [(En.mk key val)]:=by rw [hw6];exact rd_lit _ _ (En.mk key val)
    obtain ⟨v8,w8,RR,r8,o8,ow8⟩:=app_en (cp:=1) row6 (by simp;omega) rd6;obtain ⟨va8,vc8,hva8,_⟩:=r8.form;obtain ⟨n8,hn8⟩:∃ n8,n8=(out++[(En.mk key val)]).length:=⟨_,rfl⟩;rw [hva8] at r8 RR;rw [show [(En.mk key val)].length=1 from rfl,<- hn8,<- HNK.out] at RR;have hs6:w6.heap.size=wr.heap.size+1:=by rw [hw6,World.size_alloc]
    have hb8:Below w.heap.size w w8:=Below.onl ((HB0.out.trans (HBr.out.mono HB0.out.size)).trans (bb6.mono (by have:=HB0.out.size;have:=HBr.out.size;omega))) o8 (fun i q=>by have:=HRW.out.2 i q;have:=HB0.out.size;omega) (Nat.le_refl _)
    have HF:Hid (EnP (fun fs=>fs=setE has ⟨key,val⟩ es) w (.returned (.slice va8 n8 vc8)) w8):=by
     refine Za ⟨out++[En.mk key val],va8,vc8,by rw [hn8],hst.fin2,⟨r8.1,fun g hg=>(r8.2 g hg).elim (fun z=>by have:=HB0.out.size;omega) (fun z=>by have:=HB0.out.size;have:=HBr.out.size;omega)⟩,hb8⟩
    rw [hw6] at RR;simp only [cEn] at RR;obtain ⟨x1,x2,x3⟩:=Zi RR;clear kz hw6 bb6 row6 rd6 r8 o8 ow8 hva8 hn8 RR hs6 hb8 HRW hst;go_wp2;go_ret
    exact HF.out
end
section
open Go.RowKit Apo
theorem root_none:RootOf [] [] 0:=⟨0,[],⟨rfl,fun i n k _ h=>by simp at h⟩,by omega,by simp,rfl⟩
theorem apr_set {es:List En} (hr:Z1 es) (has:Bool) (k v:ByteArray):ApR es [⟨k,v,!has⟩] (setE has ⟨k,v⟩ es):=by
 have:=(ApR.nil hr).snoc (setE_ok (has:=has) (kv:=⟨k,v⟩) hr);simpa using this
end
section
open Go.RowKit Go.Shelf Apo
theorem edsE_one (x:Ed):edsE [x]=edE x:=by
 unfold edsE ZE ZE;by_cases h:edE x=0
 ·rw [if_neg (by simp [h]),h]
 ·rw [if_pos h]
def OneP (w W:World) (s:Nat) (O:Nat->Prop) (T:List (List Int)) (m:Nat) (es:List En) (x:Ed) (e:Ending) (W':World):Prop :=
 ∃ (fs:List En) (id:Nat) (O':Nat->Prop) (T':List (List Int)),e=.returned (.tuple #[.int .u64 id,.int .i64 0])/\ApR es [x] fs/\MapOk fs/\fs.length<=es.length+1/\RootOf T' fs id/\Sub T T'/\(TxOk T->TxOk T')/\(T'=treeT T fs/\id=rootT T fs)/\TSw w W' s O' T' m/\(∀ i,O' i->O i\/W.heap.size<=i)/\Onl O W W'
def BadP (E:Int) (W:World) (e:Ending) (W':World):Prop:=e=.returned (.tuple #[.int .u64 0,.int .i64 E])/\Below W.heap.size W W'
def PtP (w W:World) (s:Nat) (O:Nat->Prop) (T:List (List Int)) (m:Nat) (es:List En) (x:Ed) (e:Ending) (W':World):Prop :=
 (edE x≠0/\BadP (edE x) W e W')\/(edE x=0/\OneP w W s O T m es x e W')
theorem DoP.one {w W W0 W':World} {s m:Nat} {O:Nat->Prop} {T:List (List Int)} {es:List En} {x:Ed} {e:Ending} (b:Below W.heap.size W W0) (h:DoP w W0 s O T m es [x] e W') (hl:es.length<=100):OneP w W s O T m es x e W':=by
 obtain ⟨fs,id,O',T',h1,h2,h3,h4,rfl,h5,h6,h7,h8,h9,h10,h11⟩:=h;have h4':fs.length<=es.length+1:=h4;rw [if_pos (by omega),if_pos (by omega)];have hb:=b.size;exact ⟨fs,id,O',T',rfl,h1,h3,h4',h5,h6,h7,h8,h9,fun i q=>(h10 i q).imp (fun z=>z) (fun z=>by omega),(Onl.ofBelow b).trans h11⟩
theorem wone_any {w W:World} {s m:Nat} {O:Nat->Prop} {T:List (List Int)} (h:TSw w W s O T m) (hp:pgT T<=4096) (hx:TxOk T) {es:List En} {id:Nat} (hr:RootOf T es id) (hok:MapOk es) (hle:es.length<=100) (x:Ed) (hz:x.k.size<=maxLen/\x.v.size<=maxLen) (hroom:∀ fs,MapOk fs->fs.length<=es.length+1->(fs.flatMap enB).length<=40000/\pgT (treeT T fs)<=4096) :
  Calls Tryz.prog 19 #[.pointer (some ⟨s,0,none⟩),.int .u64 id,.slice (some ⟨W.heap.size,0,none⟩) 1 1] (W.alloc (.cells #[.string x.k,.string x.v,.bool x.g] 46)) (PtP w W s O T m es x):=by
 have hml:maxLen<=9223372036854775807:=by decide
 have b:Below W.heap.size W (W.alloc (.cells #[.string x.k,.string x.v,.bool x.g] 46)):=(Below.refl _ W).alloc (Nat.le_refl _) _;have rl:RdG cEd 3 (W.alloc (.cells #[.string x.k,.string x.v,.bool x.g] 46)) (some ⟨W.heap.size,0,none⟩) [x]:=rd_lit 46 W x;by_cases hE:edE x=0
 ·have C:=wdo_any (h.below b) hp hx hr hok hle (some ⟨W.heap.size,0,none⟩) 1 [x] rl (fun y hy=>by cases hy;exact ⟨by simp,fun q=>by have:=h.hi _ q;simp at this⟩) (by simp) (fun y hy=>by rw [List.mem_singleton.1 hy];exact hE) (fun y hy=>by rw [List.mem_singleton.1 hy];exact hz) (fun fs _ _ h3 h4=>hroom fs h3 h4);exact C.mono (fun e W' q=>.inr ⟨hE,q.one b hle⟩)
 ·have C:=wdo_err (W.alloc (.cells #[.string x.k,.string x.v,.bool x.g] 46)) s id (some ⟨W.heap.size,0,none⟩) 1 [x] rl (by simp) (fun y hy=>by rw [List.mem_singleton.1 hy];omega) (fun q=>hE (q x (by simp)));rw [edsE_one] at C;exact C.mono (fun e W' q=>.inl ⟨hE,q.1,b.trans (q.2.mono b.size)⟩)
theorem PtP.shape {w W W':World} {s m:Nat} {O:Nat->Prop} {T:List (List Int)} {es:List En} {x:Ed} {e:Ending} (h:PtP w W s O T m es x e W'):∃ (a:Nat) (E:Int),e=.returned (.tuple #[.int .u64 a,.int .i64 E]):=by
 rcases h with ⟨_,h,_⟩ | ⟨_,fs,id,O',T',h,_⟩
 ·exact ⟨0,_,h⟩
 ·exact ⟨id,_,h⟩
theorem OneP.shape {w W W':World} {s m:Nat} {O:Nat->Prop} {T:List (List Int)} {es:List En} {x:Ed} {e:Ending} (h:OneP w W s O T m es x e W'):∃ (a:Nat) (E:Int),e=.returned (.tuple #[.int .u64 a,.int .i64 E]):=by
 obtain ⟨fs,id,O',T',h,_⟩:=h;exact ⟨id,_,h⟩
theorem wput_any {w W:World} {s m:Nat} {O:Nat->Prop} {T:List (List Int)} (h:TSw w W s O T m) (hp:pgT T<=4096) (hx:TxOk T) {es:List En} {id:Nat} (hr:RootOf T es id) (hok:MapOk es) (hle:es.length<=100) (key val:ByteArray) (hz:key.size<=maxLen/\val.size<=maxLen) (hroom:∀ fs,MapOk fs->fs.length<=es.length+1->(fs.flatMap enB).length<=40000/\pgT (treeT T fs)<=4096) :
  Calls Tryz.prog 11 #[.pointer (some ⟨s,0,none⟩),.int .u64 id,.string key,.string val] W (PtP w W s O T m es ⟨key,val,false⟩):=by
 have HC:=Za (wone_any h hp hx hr hok hle ⟨key,val,false⟩ hz hroom);simp only at HC;clear h hp hx hr hok hle hz hroom;go_enter Tryz.func11,Tryz.ntmps11
 go_wp2_with fail
 refine HC.out.mono ?_;rintro e w1 hh;obtain ⟨a,E,he⟩:=hh.shape;rw [he] at hh ⊢;have HH:=Za hh;clear hh he HC;go_wp2;refine bodyPost_ret (by simp [results,Tryz.results11,go_sem];rfl) rfl ?_;exact HH.out
def DlP (w W:World) (s:Nat) (O:Nat->Prop) (T:List (List Int)) (m:Nat) (es:List En) (key:ByteArray) (e:Ending) (W':World):Prop :=
 (Z2 key≠0/\BadP (Z2 key) W e W')\/(Z2 key=0/\(∀ x ∈ es,x.k≠key)/\BadP 3 W e W')\/(Z2 key=0/\(∃ x ∈ es,x.k=key)/\OneP w W s O T m es ⟨key,⟨#[]⟩,true⟩ e W')
theorem edE_gone {key v:ByteArray} (h:Z2 key=0):edE ⟨key,v,true⟩=0:=by
 unfold edE;rw [if_neg (by simp [h]),if_pos rfl]
theorem wdel_any {w W:World} {s m:Nat} {O:Nat->Prop} {T:List (List Int)} (h:TSw w W s O T m) (hp:pgT T<=4096) (hx:TxOk T) {es:List En} {id:Nat} (hr:RootOf T es id) (hok:MapOk es) (hle:es.length<=100) (key:ByteArray) (hz:key.size<=maxLen) (hroom:∀ fs,MapOk fs->fs.length<=es.length+1->(fs.flatMap enB).length<=40000/\pgT (treeT T fs)<=4096) :
  Calls Tryz.prog 12 #[.pointer (some ⟨s,0,none⟩),.int .u64 id,.string key] W (DlP w W s O T m es key):=by
 have hml:maxLen<=9223372036854775807:=by decide
 have hT:T.length<=16000:=by have:=h.len;omega
 obtain ⟨ls,q1,q2,q3,_⟩:=hr.tree hok (by omega) hT
 have HCG:Hid (∀ W',Below W.heap.size W W'->Calls Tryz.prog 25 #[.pointer (some ⟨s,0,none⟩),.int .u64 id,.string key] W' (GtP es key W')):=Za (fun W' b=>by
  have C:=tgettree_any (h.below b) hT hx id ls q1 (by rw [q2];exact riseE_iff.2 hok.rise) key;rwa [q2] at C)
 have HK:=Za (fun W=>key_any key W (by omega));have HC:=Za (fun W' (b:Below W.heap.size W W')=>wone_any (h.below b) hp hx hr hok hle ⟨key,⟨#[]⟩,true⟩ ⟨hz,Nat.zero_le _⟩ hroom);simp only at HC;obtain ⟨K,hK⟩:∃ K,K=Z2 key:=⟨_,rfl⟩;have HKE:=Za hK;rw [<- hK] at HK;clear h hp hx hr hok hle hz hroom q1 q2 q3 hT hK;go_enter Tryz.func12,Tryz.ntmps12
 go_wp2_with fail
 refine (HK.out _).mono ?_;rintro e w1 ⟨rfl,rfl⟩;by_cases hK0:K=0
 rotate_left
 ·have dc:(K != 0)=true:=by simpa using hK0
  go_wp2;refine bodyPost_ret (by simp [results,Tryz.results12,go_sem];rfl) rfl ?_;exact .inl ⟨by rw [<- HKE.out];exact hK0,by rw [<- HKE.out];exact ⟨rfl,Below.refl _ _⟩⟩
 subst hK0;have HG:=Za (HCG.out W (Below.refl _ _));go_wp2_with fail
 refine HG.out.mono ?_;rintro e w2 ⟨v,b,rfl,hg,b2⟩;have HG2:=Za hg;have HB2:=Za b2;cases b with
 | false =>
  have hno:∀ x ∈ es,x.k≠key:=by
   rcases hg with ⟨q,_⟩ | ⟨_,_,q⟩
   ·cases q
   ·exact q
  have HNO:=Za hno;clear hg b2 hno;go_wp2;refine bodyPost_ret (by simp [results,Tryz.results12,go_sem];rfl) rfl ?_;exact .inr (.inl ⟨HKE.out.symm,HNO.out,rfl,HB2.out⟩)
 | true =>
  have hyes:∃ x ∈ es,x.k=key:=by
   rcases hg with ⟨_,x,h1,h2,_⟩ | ⟨q,_⟩
   ·exact ⟨x,h1,h2⟩
   ·cases q
  have HY:=Za hyes;have HC2:=Za (HC.out w2 b2);clear hg b2 hyes HC HCG HG;go_wp2_with fail
  refine HC2.out.mono ?_;rintro e w3 hh
  have hh2:OneP w w2 s O T m es ⟨key,⟨#[]⟩,true⟩ e w3:=by
   rcases hh with ⟨q,_⟩ | ⟨_,q⟩
   ·exact absurd (edE_gone HKE.out.symm) q
   ·exact q
  have HH:Hid (OneP w W s O T m es ⟨key,⟨#[]⟩,true⟩ e w3):=Za (by
   obtain ⟨fs,id',O',T',h0,h1,h3,h4,h5,h6,h7,h8,h9,h10,h11⟩:=hh2;have hb:=HB2.out.size;exact ⟨fs,id',O',T',h0,h1,h3,h4,h5,h6,h7,h8,h9,fun i q=>(h10 i q).imp (fun z=>z) (fun z=>by omega),(Onl.ofBelow HB2.out).trans h11⟩)
  obtain ⟨a,E,he⟩:=hh2.shape;rw [he] at HH ⊢;clear hh hh2 he;go_wp2;refine bodyPost_ret (by simp [results,Tryz.results12,go_sem];rfl) rfl ?_;exact .inr (.inr ⟨HKE.out.symm,HY.out,HH.out⟩)
end
section
open Go.RowKit Apo
end
end Go.Proofs.YtdhebpnkfookcaaGreat
