import Derived.Test.YtdhebpnkfookcaaGreatRM43
set_option maxRecDepth 100000
set_option maxHeartbeats 8000000
namespace Apo
open Go Go.RowKit
theorem app_zero {P:Program} {W:World} {t e:TypeId} {i:TypeInfo} (hu:P.underlying t=some (.slice e)) (hi:P.info? e=some i) {b x:Option Addr} {n c cx:Nat} (h:n<=c) :
  (Builtin.append_ #[t,t] t #[.slice b n c,.slice x 0 cx]).run P W=.ok (.slice b n c) W:=by
 cases x <;> cases b <;> simp [Builtin.append_,run_underlying hu,Go.sizeOf,typeInfo,hi,Builtin.lenOf,Builtin.firstCells,loadCells,loadCellsFrom,storeCells,h]
end Apo
namespace Go.Proofs.YtdhebpnkfookcaaGreat
open Go.RowKit Apo
def RdM (w:World) (a:Option Addr) (ms:List (Option Addr × Nat × List En)):Prop :=
 ∀ i m,ms[i]?=some m->(∃ g o,a=some ⟨g,o,none⟩/\w.cell? ⟨g,o+i,none⟩=some (.slice m.1 m.2.2.length m.2.1))/\RdEn w m.1 m.2.2
theorem RdM.below {w w':World} {a:Option Addr} {ms:List (Option Addr × Nat × List En)} (h:RdM w a ms) (b:Below w.heap.size w w'):RdM w' a ms:=fun i m hm=>by
 obtain ⟨⟨g,o,h1,h2⟩,h3⟩:=h i m hm;exact ⟨⟨g,o,h1,(b.cell (p:=⟨g,o+i,none⟩) (World.block_lt_of_cell? _ _ h2)).trans h2⟩,h3.below b⟩
structure KsS (ks seen:List ByteArray):Prop where
 rise:Rise ks
 mem:∀ k,k ∈ ks↔k ∈ seen
 len:ks.length<=seen.length
theorem KsS.nil:KsS [] []:=⟨List.Pairwise.nil,fun _=>Iff.rfl,Nat.le_refl _⟩
theorem KsS.skip {ks seen:List ByteArray} {key:ByteArray} (h:KsS ks seen) (hk:key ∈ ks):KsS ks (seen++[key]) :=
 ⟨h.rise,fun k=>by
  rw [h.mem,List.mem_append,List.mem_singleton];exact ⟨fun q=>.inl q,fun q=>q.elim id (fun z=>by rw [z];exact (h.mem _).1 hk)⟩,by have:=h.len;simp;omega⟩
theorem KsS.put {ks seen:List ByteArray} {key:ByteArray} {i:Nat} (h:KsS ks seen) (hi:i<=ks.length) (h1:∀ t y,t < i->ks[t]?=some y->Z2 y key=true) (h2:∀ y,ks[i]?=some y->Z2 key y=true):KsS (ks.take i++key :: ks.drop i) (seen++[key]):=by
 refine ⟨?_,fun k=>?_,?_⟩
 ·unfold Rise;rw [List.pairwise_append];have hr:=h.rise;unfold Rise at hr;refine ⟨hr.sublist (List.take_sublist _ _),List.Pairwise.cons (fun y hy=>?_) (hr.sublist (List.drop_sublist _ _)),fun x hx y hy=>?_⟩
  ·obtain ⟨t,ht,rfl⟩:=List.mem_iff_getElem.1 hy;simp only [List.length_drop] at ht;have hit:ks[i]?=some (ks[i]'(by omega)):=List.getElem?_eq_getElem _
   have q1:=h2 _ hit;rw [List.getElem_drop];by_cases z:t=0
   ·subst z;exact q1
   ·exact ZV q1 (List.pairwise_iff_getElem.1 hr i (i+t) (by omega) (by omega) (by omega))
  ·obtain ⟨t,ht,rfl⟩:=List.mem_iff_getElem.1 hx;simp only [List.length_take] at ht
   have hxk:Z2 ((ks.take i)[t]'(by simp;omega)) key=true:=by
    rw [List.getElem_take];exact h1 t _ (by omega) (List.getElem?_eq_getElem _)
   rcases List.mem_cons.1 hy with rfl | hy
   ·exact hxk
   ·obtain ⟨s,hs,rfl⟩:=List.mem_iff_getElem.1 hy;simp only [List.length_drop] at hs;rw [List.getElem_take,List.getElem_drop];exact List.pairwise_iff_getElem.1 hr t (i+s) (by omega) (by omega) (by omega)
 ·rw [List.mem_append,List.mem_cons,List.mem_append,List.mem_singleton,<- h.mem];have:k ∈ ks↔k ∈ ks.take i\/k ∈ ks.drop i:=by rw [<- List.mem_append,List.take_append_drop]
  rw [this];constructor
  ·rintro (q | q | q)
   ·exact .inl (.inl q)
   ·exact .inr q
   ·exact .inl (.inr q)
  ·rintro ((q | q) | q)
   ·exact .inl q
   ·exact .inr (.inr q)
   ·exact .inr (.inl q)
 ·have:=h.len;simp
  omega
def KeJ (w:World) (ks seen:List ByteArray) (va:Option Addr) (vc:Nat) (wr:World):Prop :=
 Row (fun g=>w.heap.size<=g) wr 9 1 (.slice va ks.length vc) ks.length (Zf cTx ks)/\Below w.heap.size w wr/\KsS ks seen/\(ks=[]->va=none/\vc=0)
def DKeP (R:List ByteArray->Prop) (w:World) (e:Ending) (w':World):Prop:=∃ (ks:List ByteArray) (va:Option Addr) (vc:Nat),e=.returned (.slice va ks.length vc)/\R ks/\Row (fun g=>w.heap.size<=g) w' 9 1 (.slice va ks.length vc) ks.length (Zf cTx ks)/\Below w.heap.size w w'
end Go.Proofs.YtdhebpnkfookcaaGreat
namespace Apo
open Go Go.RowKit
section
variable {α:Type} {c:α->List Value} {k:Nat}
theorem row_lit (hk:∀ x,(c x).length=k) (e:TypeId) (W:World) (x:α):Row (fun g=>g=W.heap.size) (W.alloc (.cells (c x).toArray e)) e k (.slice (some ⟨W.heap.size,0,none⟩) 1 1) [x].length (Zf c [x]):=by
 have hg:Zf c [x]=c x:=by simp [Zf]
 refine ⟨⟨by rw [gcells_len hk],.inr ⟨W.heap.size,1,(c x).toArray,rfl,Nat.zero_le _,heap_alloc_new W _,by simp,by decide,by simp [hk],?_⟩⟩,fun g hg=>by cases hg;rfl⟩;rw [hg,List.length_singleton,Nat.one_mul,List.take_of_length_le (by simp [hk])]
theorem RdG.sub {w:World} {g:Nat} {l:List α} (h:RdG c k w (some ⟨g,0,none⟩) l) (i m:Nat):RdG c k w (some ⟨g,i * k,none⟩) ((l.drop i).take m):=by
 intro j x hx
 have hj:l[i+j]?=some x:=by
  rw [List.getElem?_take] at hx;split at hx
  ·rw [List.getElem?_drop] at hx;exact hx
  ·cases hx
 obtain ⟨g',o',h1,h2⟩:=h _ _ hj;injection h1 with h1
 injection h1 with h1 h1'
 subst h1 h1';refine ⟨g,i * k,rfl,fun t u hu=>?_⟩;have:=h2 t u hu;rwa [Nat.zero_add,Nat.add_mul] at this
end
end Apo
namespace Go.Proofs.YtdhebpnkfookcaaGreat
open Go.RowKit Apo
theorem ins_outer {W w1:World} {g i n1 c1:Nat} {y:Addr} {ks:List ByteArray} {key:ByteArray} (hl:ks.length<=1000000) (hi:i<=ks.length) (b1:Below W.heap.size W w1) (hg:RdG cTx 1 w1 (some ⟨g,0,none⟩) (ks.take i)) (hn:n1=(key :: ks.drop i).length) (hrd:RdG cTx 1 w1 (some y) (key :: ks.drop i)) :
  ∃ a2 c2 w2,(Builtin.append_ #[40,40] 40 #[.slice (some ⟨g,0,none⟩) i i,.slice (some y) n1 c1]).run Tryz.prog w1=.ok (.slice a2 (ks.take i++key :: ks.drop i).length c2) w2/\Row (fun g=>W.heap.size<=g) w2 9 1 (.slice a2 (ks.take i++key :: ks.drop i).length c2) (ks.take i++key :: ks.drop i).length (Zf cTx (ks.take i++key :: ks.drop i))/\Below W.heap.size W w2:=by
 obtain ⟨i0,hii,hz0,hz1,hz2⟩:=info_parts info_tx;have hln:(key :: ks.drop i).length=ks.length - i+1:=by simp
 obtain ⟨v',w',RR,r',g'⟩:=run_append_full (P:=Tryz.prog) (w:=w1) 40 40 9 i0 _ 1 16 Tryz.underlying40 hii hz0 hz1 hz2 rfl ⟨g,0,none⟩ i (Zf cTx (ks.take i)) (by rw [gcells_len cTx_len];simp;omega) (RdG.news cTx_len (by decide) hg) y n1 c1 (Zf cTx (key :: ks.drop i)) (by rw [gcells_len cTx_len,hn]) (RdG.news cTx_len (by decide) hrd) (by omega) (by unfold maxLen;omega) (by omega);have hlen:i+n1=(ks.take i++key :: ks.drop i).length:=by rw [List.length_append,<- hn,List.length_take];omega
 rw [hlen,<- gcells_app] at r'
 have hrow:Row (fun g=>W.heap.size<=g) w' 9 1 v' (ks.take i++key :: ks.drop i).length (Zf cTx (ks.take i++key :: ks.drop i)):=by
  refine ⟨⟨r'.1,?_⟩,fun g hg=>by have:=(r'.lt g hg).1;have:=b1.size;omega⟩;rcases r'.2 with q | ⟨g,cap,cur,q1,q2,q3⟩
  ·exact .inl q
  ·exact .inr ⟨g,cap,cur,q1,Nat.zero_le _,q3⟩
 obtain ⟨a2,c2,hv2,_⟩:=hrow.form;subst hv2;exact ⟨a2,c2,w',RR,hrow,⟨g'.os.trans b1.os,g'.tape.trans b1.tape,g'.output.trans b1.output,Nat.le_trans b1.size g'.size,fun k hk=>(g'.block k (by have:=b1.size;omega) (by simp)).trans (b1.block k hk)⟩⟩
theorem ins_mid {O:Nat->Prop} {W:World} {g i vc:Nat} {ks:List ByteArray} (row:Row O W 9 1 (.slice (some ⟨g,0,none⟩) ks.length vc) ks.length (Zf cTx ks)) (key:ByteArray) (hl:ks.length<=1000000) (hi:i < ks.length) :
  ∃ a1 c1 n1 w1 a2 c2 w2,(Builtin.append_ #[40,40] 40 #[.slice (some ⟨W.heap.size,0,none⟩) 1 1,.slice (some ⟨g,i,none⟩) (ks.length - i) (vc - i)]).run Tryz.prog (W.alloc (.cells #[.string key] 9)).drew=.ok (.slice (some a1) n1 c1) w1 /\
   (Builtin.append_ #[40,40] 40 #[.slice (some ⟨g,0,none⟩) i i,.slice (some a1) n1 c1]).run Tryz.prog w1=.ok (.slice a2 (ks.take i++key :: ks.drop i).length c2) w2/\Row (fun g=>W.heap.size<=g) w2 9 1 (.slice a2 (ks.take i++key :: ks.drop i).length c2) (ks.take i++key :: ks.drop i).length (Zf cTx (ks.take i++key :: ks.drop i))/\Below W.heap.size W w2:=by
 obtain ⟨A,hA⟩:∃ A,A=(W.alloc (.cells #[.string key] 9)).drew:=⟨_,rfl⟩;have bA:Onl (fun _=>False) W A:=by rw [hA];exact ((Onl.refl _ W).alloc _).drew
 have sA:A.heap.size=W.heap.size+1:=by rw [hA];simp
 have rA:Row (fun g=>g=W.heap.size) A 9 1 (.slice (some ⟨W.heap.size,0,none⟩) 1 1) [key].length (Zf cTx [key]):=by
  rw [hA];exact (row_lit cTx_len 9 W key).onl (F:=fun _=>False) ((Onl.refl _ _).drew) (fun _ _ q=>q)
 obtain ⟨a0,c0,hv0,rd0,_,_,_,_⟩:=rd_gcells cTx_len row;injection hv0 with e1 e2 e3
 subst e1;have rdA:=rd0.onl bA (fun _ _ q=>q)
 have rdd:RdG cTx 1 A (some ⟨g,i,none⟩) (ks.drop i):=by
  have:=rdA.sub i (ks.length - i);rwa [Nat.mul_one,List.take_of_length_le (by simp)] at this
 obtain ⟨v1,w1,R1,r1,o1,ow1⟩:=app_tx (cp:=vc - i) rA (by simp;omega) rdd;obtain ⟨g1,c1,hv1,_,_,_,_,_⟩:=r1.shape (by simp);subst hv1;have b1:Below W.heap.size W w1:=Below.onl (Onl.toBelow bA (fun _ q=>q.elim) (Nat.le_refl _)) o1 (fun i q=>by cases q;exact Nat.le_refl _) (Nat.le_refl _);obtain ⟨a3,c3,hv3,rd3,_⟩:=rd_gcells cTx_len r1;injection hv3 with e1 e2 e3
 subst e1;have hgW:g < W.heap.size:=row.lt g rfl
 have rdg:RdG cTx 1 w1 (some ⟨g,0,none⟩) (ks.take i):=by
  have:=(rdA.sub 0 i).onl o1 (fun x hx q=>by cases hx;simp only [Value.ownBlock,Option.some.injEq] at q;omega);simpa using this
 obtain ⟨a2,c2,w2,R2,r2,b2⟩:=ins_outer (W:=W) (c1:=c1) hl (by omega) b1 rdg rfl rd3;rw [List.length_drop,hA] at R1;exact ⟨_,c1,_,w1,a2,c2,w2,R1,R2,r2,b2⟩
theorem ins_end {O:Nat->Prop} {W:World} {g vc:Nat} {ks:List ByteArray} (row:Row O W 9 1 (.slice (some ⟨g,0,none⟩) ks.length vc) ks.length (Zf cTx ks)) (key:ByteArray) (hl:ks.length<=1000000) (x:Option Addr) (cx:Nat) :
  ∃ a2 c2 w2,(Builtin.append_ #[40,40] 40 #[.slice (some ⟨W.heap.size,0,none⟩) 1 1,.slice x 0 cx]).run Tryz.prog (W.alloc (.cells #[.string key] 9)).drew=.ok (.slice (some ⟨W.heap.size,0,none⟩) 1 1) (W.alloc (.cells #[.string key] 9)).drew /\
   (Builtin.append_ #[40,40] 40 #[.slice (some ⟨g,0,none⟩) ks.length ks.length,.slice (some ⟨W.heap.size,0,none⟩) 1 1]).run Tryz.prog (W.alloc (.cells #[.string key] 9)).drew=.ok (.slice a2 (ks++[key]).length c2) w2/\Row (fun g=>W.heap.size<=g) w2 9 1 (.slice a2 (ks++[key]).length c2) (ks++[key]).length (Zf cTx (ks++[key]))/\Below W.heap.size W w2:=by
 obtain ⟨i0,hii,_⟩:=info_parts info_tx;obtain ⟨A,hA⟩:∃ A,A=(W.alloc (.cells #[.string key] 9)).drew:=⟨_,rfl⟩;have bA:Onl (fun _=>False) W A:=by rw [hA];exact ((Onl.refl _ W).alloc _).drew
 have rA:RdG cTx 1 A (some ⟨W.heap.size,0,none⟩) [key]:=by
  rw [hA];exact (rd_lit (c:=cTx) (k:=1) 9 W key).onl (O:=fun _=>False) ((Onl.refl _ _).drew) (fun _ _ q=>q)
 obtain ⟨a0,c0,hv0,rd0,_,_,_,_⟩:=rd_gcells cTx_len row;injection hv0 with e1 e2 e3
 subst e1;have rdA:=rd0.onl bA (fun _ _ q=>q);obtain ⟨a2,c2,w2,R2,r2,b2⟩:=ins_outer (W:=W) (w1:=A) (c1:=1) (i:=ks.length) (key:=key) hl (Nat.le_refl _) (Onl.toBelow bA (fun _ q=>q.elim) (Nat.le_refl _)) (by rw [List.take_length];exact rdA) (n1:=1) (by simp) (by rw [List.drop_length];exact rA);simp only [List.take_length,List.drop_length] at R2 r2;rw [<- hA];exact ⟨a2,c2,w2,app_zero Tryz.underlying40 hii (Nat.le_refl _),R2,r2,b2⟩
theorem ins_first (W:World) (key:ByteArray) :
  ∃ a2 c2 w2,(Builtin.append_ #[40,40] 40 #[.slice (some ⟨W.heap.size,0,none⟩) 1 1,.slice none 0 0]).run Tryz.prog (W.alloc (.cells #[.string key] 9)).drew=.ok (.slice (some ⟨W.heap.size,0,none⟩) 1 1) (W.alloc (.cells #[.string key] 9)).drew /\
   (Builtin.append_ #[40,40] 40 #[.slice none 0 0,.slice (some ⟨W.heap.size,0,none⟩) 1 1]).run Tryz.prog (W.alloc (.cells #[.string key] 9)).drew=.ok (.slice a2 1 c2) w2/\Row (fun g=>W.heap.size<=g) w2 9 1 (.slice a2 1 c2) [key].length (Zf cTx [key])/\Below W.heap.size W w2:=by
 obtain ⟨i0,hii,_⟩:=info_parts info_tx;obtain ⟨A,hA⟩:∃ A,A=(W.alloc (.cells #[.string key] 9)).drew:=⟨_,rfl⟩;have bA:Onl (fun _=>False) W A:=by rw [hA];exact ((Onl.refl _ W).alloc _).drew
 have sA:A.heap.size=W.heap.size+1:=by rw [hA];simp
 have rA:RdG cTx 1 A (some ⟨W.heap.size,0,none⟩) [key]:=by
  rw [hA];exact (rd_lit (c:=cTx) (k:=1) 9 W key).onl (O:=fun _=>False) ((Onl.refl _ _).drew) (fun _ _ q=>q)
 obtain ⟨v2,w2,R2,r2,o2,ow2⟩:=app_tx (cp:=1) (l:=[]) (Row.nil (fun _=>False) A 9 1) (by simp) rA;obtain ⟨a2,c2,hv2,_⟩:=r2.form;subst hv2;rw [<- hA];exact ⟨a2,c2,w2,app_zero Tryz.underlying40 hii (Nat.le_refl _),R2,⟨r2.1,fun g hg=>(r2.2 g hg).elim (fun q=>q.elim) (fun q=>by omega)⟩,Below.onl (Onl.toBelow bA (fun _ q=>q.elim) (Nat.le_refl _)) o2 (fun i q=>by cases q) (Nat.le_refl _)⟩
section
attribute [local go_sem ↓] app_exec
theorem rkeys_any (w:World) (a:Option Addr) (c:Nat) (ms:List (Option Addr × Nat × List En)) (h:RdM w a ms) (hl:ms.length<=1000) (hn:((ms.flatMap (fun m=>m.2.2)).length<=1000000)) :
  Calls Tryz.prog 40 #[.slice a ms.length c] w (DKeP (fun ks=>KsS ks ((ms.flatMap (fun m=>m.2.2)).map En.k)) w):=by
 obtain ⟨n,hnn⟩:∃ n,n=ms.length:=⟨_,rfl⟩;have HN:=Za hnn;have HR:=Za h;have HT:=Za hn;rw [<- hnn] at hl ⊢;clear h hnn hn;go_enter Tryz.func40,Tryz.ntmps40
 go_wp2;go_loopw [3,11] (fun v i wr=>∃ (j:Nat) (ks:List ByteArray) (va:Option Addr) (vc nk:Nat),j<=n/\i=.int .i64 j/\v=.slice va nk vc/\Hid (nk=ks.length)/\Hid (KeJ w ks (((ms.take j).flatMap (fun m=>m.2.2)).map En.k) va vc wr)) (fun _ i _=>n - (intOf i).toNat)
 case atStart=>exact ⟨0,[],none,0,0,Nat.zero_le _,rfl,rfl,Za rfl,Za ⟨Row.nil _ _ _ _,Below.refl _ _,by simpa using KsS.nil,fun _=>⟨rfl,rfl⟩⟩⟩
 case round =>
  obtain ⟨j,ks,va,vc,nk,hj,rfl,rfl,HNK,HJ⟩:=hrel;by_cases hjn:j < n
  ·obtain ⟨⟨ma,mc,l⟩,hm⟩:∃ m,ms[j]?=some m:=⟨ms[j]'(by have:=HN.out;omega),List.getElem?_eq_getElem _⟩;obtain ⟨⟨g,o,rfl,q1⟩,q2⟩:=(HR.out.below HJ.out.2.1) j _ hm;simp only at q1 q2;obtain ⟨ln,hln⟩:∃ ln,ln=l.length:=⟨_,rfl⟩;rw [<- hln] at q1
   have hto:((ms.take j).flatMap (fun m=>m.2.2)).length+l.length<=(ms.flatMap (fun m=>m.2.2)).length:=by
    have h1:ms=ms.take j++(⟨ma,mc,l⟩ :: ms.drop (j+1)):=by
     have:=List.take_append_drop j ms;rw [List.drop_eq_getElem_cons (by have:=HN.out;omega)] at this;have hmm:=(List.getElem?_eq_some_iff.1 hm).2;rw [hmm] at this;exact this.symm
    conv=>rhs;rw [h1]
    simp
   have htake:(ms.take (j+1)).flatMap (fun m=>m.2.2)=(ms.take j).flatMap (fun m=>m.2.2)++l:=by
    rw [List.take_add_one,hm,List.flatMap_append];simp
   have hlm:ln<=1000000:=by have:=HT.out;omega
   have HLN:=Za hln;have HTO:=Za hto;have HTK:=Za htake;have HQ2:=Za q2;have HJ0:=HJ;obtain ⟨w0,hw0⟩:∃ w0,w0=wr:=⟨_,rfl⟩;clear hm hln hto htake q2;go_wp2;rw [<- hw0];rw [<- hw0] at HJ HJ0 HQ2;clear q1 hw0;go_loopw [3,17] (fun v i wr=>∃ (k:Nat) (ks:List ByteArray) (va:Option Addr) (vc nk:Nat),k<=ln/\i=.int .i64 k/\v=.slice va nk vc/\Hid (nk=ks.length)/\Hid (KeJ w ks ((((ms.take j).flatMap (fun m=>m.2.2))++l.take k).map En.k) va vc wr)/\Hid (RdEn wr ma l)) (fun _ i _=>ln - (intOf i).toNat)
   case atStart=>exact ⟨0,ks,va,vc,nk,Nat.zero_le _,rfl,rfl,HNK,Za (by simpa using HJ.out),HQ2⟩
   case round =>
    clear HNK HJ HJ0 HQ2;obtain ⟨k,ks,va,vc,nk,hk,rfl,rfl,HNK,HJ,HRE⟩:=hrel;obtain ⟨wl,rfl⟩:∃ wl,wl=wr:=⟨_,rfl⟩;by_cases hkn:k < ln
    ·obtain ⟨⟨ek,ev⟩,hx⟩:∃ x,l[k]?=some x:=⟨l[k]'(by have:=HLN.out;omega),List.getElem?_eq_getElem _⟩;obtain ⟨gm,om,rfl,p1,p2⟩:=HRE.out k _ hx;simp only at p1 p2;obtain ⟨W1,hW1⟩:∃ W1,W1=wl.alloc (.cells #[.string ek,.string ev] 43):=⟨_,rfl⟩;have b1:Below wl.heap.size wl W1:=by rw [hW1];exact (Below.refl _ wl).alloc (Nat.le_refl _) _
     have kb:Ob W1 wl.heap.size 43 [.string ek,.string ev]:=by rw [hW1];exact Ob.new wl [.string ek,.string ev] 43
     have HKB:=Za kb;have HB1:=Za b1
     have hkl:nk<=1000000:=by
      have h1:=HJ.out.2.2.1.len;have h2:=HNK.out;have h3:=HTO.out;have h4:=HT.out;have h5:=HLN.out;simp only [List.length_map,List.length_append,List.length_take] at h1;omega
     have HS2:Hid ((((ms.take j).flatMap (fun m=>m.2.2))++l.take (k+1)).map En.k=(((ms.take j).flatMap (fun m=>m.2.2))++l.take k).map En.k++[ek]):=Za (by rw [List.take_add_one,hx];simp);have hrow1:=HJ.out.1.onl (F:=fun _=>False) (Onl.ofBelow b1) (fun _ _ q=>q);have HRW:=Za hrow1;clear hx b1 kb hrow1;go_wp2;rw [<- hW1];clear hW1 p1 p2;go_loopw [8] (fun v wq=>∃ i:Nat,i<=nk/\v=.int .i64 i/\Hid (∀ t y,t < i->ks[t]?=some y->Z2 y ek=true)/\Hid (Below W1.heap.size W1 wq)) (fun v _=>nk - (intOf v).toNat)
     case atStart=>exact ⟨0,Nat.zero_le _,rfl,Za (fun t y ht=>absurd ht (by omega)),Za (Below.refl _ _)⟩
     case round =>
      obtain ⟨i,hi,rfl,HI,HBq⟩:=hrel;have kbq:=HKB.out.old HBq.out;have e0:=kbq.cell 0;simp only [List.getElem?_cons_zero] at e0;have rowq:=HRW.out.onl (F:=fun _=>False) (Onl.ofBelow HBq.out) (fun _ _ q=>q);by_cases hin:i < nk
      ·obtain ⟨y,hy⟩:∃ y,ks[i]?=some y:=⟨ks[i]'(by have:=HNK.out;omega),List.getElem?_eq_getElem _⟩;obtain ⟨a',cp',hv',rd',_,_,_,ho'⟩:=rd_gcells cTx_len rowq;injection hv' with hv1 hv2 hv3
       subst hv1 hv3;obtain ⟨g',o',rfl,c0⟩:=rd'.tx hy;obtain ⟨g2,hg2,hgw⟩:=ho' _ rfl;obtain ⟨rfl,rfl⟩:g'=g2/\o'=0:=by cases hg2;exact ⟨rfl,rfl⟩
       simp only [Nat.zero_add] at c0;have hd:decide ((i:Int) < (nk:Int))=true:=decide_eq_true (by omega);have hdn:decide (i < nk)=true:=decide_eq_true hin;cases hb:Z2 y ek
       ·have hb':Op.bytesLess y.toList ek.toList=false:=hb;by_cases hyk:y=ek
        ·have hd2:(y.toList == ek.toList)=true:=by rw [hyk];simp
         have HF:Hid (∀ W,Below W1.heap.size W1 W->KeJ w ks ((((ms.take j).flatMap (fun m=>m.2.2))++l.take (k+1)).map En.k) (some ⟨g',0,none⟩) vc W):=Za (fun W hW=>by
          have hb2:=HB1.out.trans (hW.mono HB1.out.size);have hJ:=HJ.out;rw [HS2.out];exact ⟨hJ.1.onl (F:=fun _=>False) (Onl.ofBelow hb2) (fun _ _ q=>q),hJ.2.1.trans (hb2.mono hJ.2.1.size),hJ.2.2.1.skip (by rw [<- hyk];exact List.mem_of_getElem? hy),hJ.2.2.2⟩)
         have HRF:Hid (∀ W,Below W1.heap.size W1 W->RdEn W (some ⟨gm,om,none⟩) l):=Za (fun W hW=>HRE.out.below (HB1.out.trans (hW.mono HB1.out.size)));clear hb hy HI rowq kbq hv2 ho' hgw hg2 rd' hyk;go_wp2;go_quiet (fail)
         go_wp2;obtain ⟨W2,hW2⟩:∃ W2,W2=wr.drewN nq:=⟨_,rfl⟩;have b2:Below W1.heap.size W1 W2:=by rw [hW2];exact below_drewN HBq.out _
         have c0':W2.cell? ⟨g',i,none⟩=some (.string y):=by rw [hW2];exact c0
         have e0':W2.cell? ⟨wl.heap.size,0,none⟩=some (.string ek):=by rw [hW2];exact e0
         rw [<- hW2];have HB2:=Za b2;clear hW2 b2 c0 e0;go_quiet (fail)
         go_wp2;go_roundw
         case rel=>exact ⟨k+1,ks,some ⟨g',0,none⟩,vc,nk,by omega,by simp,rfl,HNK,Za (HF.out _ (below_drewN HB2.out _)),Za (HRF.out _ (below_drewN HB2.out _))⟩
         case measure=>simp [intOf];omega
        ·have hd2:(y.toList == ek.toList)=false:=by
          cases q:(y.toList == ek.toList) with
          | false=>rfl
          | true=>exact absurd (ZA (by simpa using q)) hyk
         clear hb rowq kbq hv2 ho' hgw hg2 rd';go_wp2;go_quiet (fail)
         go_wp2;obtain ⟨W2,hW2⟩:∃ W2,W2=wr.drewN nq:=⟨_,rfl⟩;have b2:Below W1.heap.size W1 W2:=by rw [hW2];exact below_drewN HBq.out _
         have c0':W2.cell? ⟨g',i,none⟩=some (.string y):=by rw [hW2];exact c0
         have e0':W2.cell? ⟨wl.heap.size,0,none⟩=some (.string ek):=by rw [hW2];exact e0
         rw [<- hW2];have HB2:=Za b2;clear hW2 b2 c0 e0;go_quiet (fail)
         go_wp2;obtain ⟨W3,hW3⟩:∃ W3,W3=W2.drewN nq:=⟨_,rfl⟩;have b3:Below W1.heap.size W1 W3:=by rw [hW3];exact below_drewN HB2.out _
         have e0:W3.cell? ⟨wl.heap.size,0,none⟩=some (.string ek):=by rw [hW3];exact e0'
         rw [<- hW3];clear hW3 e0' c0' HB2;have row3:=HRW.out.onl (F:=fun _=>False) (Onl.ofBelow b3) (fun _ _ q=>q);obtain ⟨a1,c1,n1,w1,a2,c2,w2,R1,R2,r2,bb2⟩:=ins_mid (i:=i) row3 ek (by have:=HNK.out;omega) (by have:=HNK.out;omega)
         have hiv:nk<=vc/\vc<=maxLen:=by
          obtain ⟨_,_,hv,h1,h2,_⟩:=row3.form;injection hv with _ _ h3
          subst h3;have:=HNK.out;omega
         have hnv:=hiv.1;have hvm:vc<=9223372036854775807:=by have:=hiv.2;unfold maxLen at this;omega
         have hie:¬ vc=i:=by omega
         obtain ⟨n2,hn2⟩:∃ n2,n2=(ks.take i++ek :: ks.drop i).length:=⟨_,rfl⟩;have hbb:Below wl.heap.size wl w2:=(HB1.out.trans (b3.mono HB1.out.size)).trans (bb2.mono (by have:=HB1.out.size;have:=b3.size;omega))
         have HF:Hid (KeJ w (ks.take i++ek :: ks.drop i) ((((ms.take j).flatMap (fun m=>m.2.2))++l.take (k+1)).map En.k) a2 c2 w2):=by
          have hJ:=HJ.out;refine Za ⟨r2.mono (fun g hg=>by have:=hJ.2.1.size;have:=HB1.out.size;have:=b3.size;omega),hJ.2.1.trans (hbb.mono hJ.2.1.size),?_,fun q=>by simp at q⟩;rw [HS2.out];refine hJ.2.2.1.put (by have:=HNK.out;omega) HI.out (fun z hz=>?_);rw [hy] at hz;cases hz
          cases q:Z2 ek y with
          | true=>rfl
          | false=>exact absurd (sLt_conn hb' q) hyk
         have HRF:Hid (RdEn w2 (some ⟨gm,om,none⟩) l):=Za (HRE.out.below hbb);have HN2:=Za hn2;rw [<- hn2] at R2;rw [<- HNK.out] at R1;obtain ⟨z1,z2,z3⟩:=Ze R1;obtain ⟨z4,z5,z6⟩:=Ze R2;clear R1 R2 r2 bb2 hbb hn2 row3 hiv hy HI b3 hyk;go_region
         go_wp2;go_roundw
         case rel=>exact ⟨k+1,ks.take i++ek :: ks.drop i,a2,c2,n2,by omega,by simp,rfl,HN2,HF,HRF⟩
         case measure=>simp [intOf];omega
       ·have hb':Op.bytesLess y.toList ek.toList=true:=hb
        have HI2:Hid (∀ t y,t < i+1->ks[t]?=some y->Z2 y ek=true):=Za (fun t z ht hz=>by
         by_cases q:t < i
         ·exact HI.out t z q hz
         ·obtain rfl:t=i:=by omega
          rw [hy] at hz;cases hz
          exact hb)
        clear hb hy HI rowq kbq hv2 ho' hgw hg2 rd';go_wp2;go_quiet (fail)
        go_wp2;go_roundw
        case rel=>exact ⟨i+1,by omega,by simp,HI2,Za (below_drewN HBq.out _)⟩
        case measure=>simp [intOf];omega
      ·obtain rfl:i=nk:=by omega
       have hd:decide ((i:Int) < (i:Int))=false:=decide_eq_false (by omega);have hdn:decide (i < i)=false:=decide_eq_false (by omega);clear rowq kbq;go_wp2;go_quiet (fail)
       go_wp2;obtain ⟨W2,hW2⟩:∃ W2,W2=wr.drewN nq:=⟨_,rfl⟩;have b2:Below W1.heap.size W1 W2:=by rw [hW2];exact below_drewN HBq.out _
       have e0':W2.cell? ⟨wl.heap.size,0,none⟩=some (.string ek):=by rw [hW2];exact e0
       rw [<- hW2];have HB2:=Za b2;clear hW2 b2 e0;go_quiet (fail)
       go_wp2;obtain ⟨W3,hW3⟩:∃ W3,W3=W2.drewN nq:=⟨_,rfl⟩;have b3:Below W1.heap.size W1 W3:=by rw [hW3];exact below_drewN HB2.out _
       have e0:W3.cell? ⟨wl.heap.size,0,none⟩=some (.string ek):=by rw [hW3];exact e0'
       rw [<- hW3];clear hW3 e0' HB2;have row3:=HRW.out.onl (F:=fun _=>False) (Onl.ofBelow b3) (fun _ _ q=>q);by_cases hks:ks=[]
       ·obtain ⟨rfl,rfl⟩:=HJ.out.2.2.2 hks;obtain rfl:i=0:=by rw [HNK.out,hks];rfl
        obtain ⟨a2,c2,w2,R1,R2,r2,bb2⟩:=ins_first W3 ek;have hbb:Below wl.heap.size wl w2:=(HB1.out.trans (b3.mono HB1.out.size)).trans (bb2.mono (by have:=HB1.out.size;have:=b3.size;omega))
        have HF:Hid (KeJ w [ek] ((((ms.take j).flatMap (fun m=>m.2.2))++l.take (k+1)).map En.k) a2 c2 w2):=by
         have hJ:=HJ.out;refine Za ⟨r2.mono (fun g hg=>by have:=hJ.2.1.size;have:=HB1.out.size;have:=b3.size;omega),hJ.2.1.trans (hbb.mono hJ.2.1.size),?_,fun q=>by simp at q⟩;rw [HS2.out];have:=hJ.2.2.1.put (i:=0) (key:=ek) (by omega) (fun t y ht=>absurd ht (by omega)) (fun z hz=>by rw [hks] at hz;simp at hz);rw [hks] at this;simpa using this
        have HRF:Hid (RdEn w2 (some ⟨gm,om,none⟩) l):=Za (HRE.out.below hbb);obtain ⟨z1,z2,z3⟩:=Ze R1;obtain ⟨z4,z5,z6⟩:=Ze R2;clear R1 R2 r2 bb2 hbb row3 HI b3 hks;go_region
        go_wp2;go_roundw
        case rel=>exact ⟨k+1,[ek],a2,c2,1,by omega,by simp,rfl,Za rfl,HF,HRF⟩
        case measure=>simp [intOf];omega
       ·have hpos:0 < ks.length:=List.length_pos_iff.2 hks;obtain ⟨g',cp,hvv,_,_,hiv1,hiv2,_,_⟩:=row3.shape hpos;injection hvv with e1 e2 e3
        subst e1 e3;have hnv:i<=vc:=by have:=HNK.out;omega
        have hvm:vc<=9223372036854775807:=by have:=hiv2;unfold maxLen at this;omega
        obtain ⟨n2,hn2⟩:∃ n2,n2=(ks++[ek]).length:=⟨_,rfl⟩
        have tail:∀ (x:Option Addr),∃ a2 c2 w2,(Builtin.append_ #[40,40] 40 #[.slice (some ⟨W3.heap.size,0,none⟩) 1 1,.slice x 0 (vc - i)]).run Tryz.prog (W3.alloc (.cells #[.string ek] 9)).drew=.ok (.slice (some ⟨W3.heap.size,0,none⟩) 1 1) (W3.alloc (.cells #[.string ek] 9)).drew /\
          (Builtin.append_ #[40,40] 40 #[.slice (some ⟨g',0,none⟩) i i,.slice (some ⟨W3.heap.size,0,none⟩) 1 1]).run Tryz.prog (W3.alloc (.cells #[.string ek] 9)).drew=.ok (.slice a2 n2 c2) w2/\Hid (KeJ w (ks++[ek]) ((((ms.take j).flatMap (fun m=>m.2.2))++l.take (k+1)).map En.k) a2 c2 w2)/\Hid (RdEn w2 (some ⟨gm,om,none⟩) l):=by
         intro x;obtain ⟨a2,c2,w2,R1,R2,r2,bb2⟩:=ins_end row3 ek (by have:=HNK.out;omega) x (vc - i);have hbb:Below wl.heap.size wl w2:=(HB1.out.trans (b3.mono HB1.out.size)).trans (bb2.mono (by have:=HB1.out.size;have:=b3.size;omega));rw [<- HNK.out,<- hn2] at R2;refine ⟨a2,c2,w2,R1,R2,?_,Za (HRE.out.below hbb)⟩;have hJ:=HJ.out;refine Za ⟨r2.mono (fun g hg=>by have:=hJ.2.1.size;have:=HB1.out.size;have:=b3.size;omega),hJ.2.1.trans (hbb.mono hJ.2.1.size),?_,fun q=>by simp at q⟩;rw [HS2.out];have:=hJ.2.2.1.put (i:=ks.length) (key:=ek) (Nat.le_refl _) (fun t y ht hy=>HI.out t y (by have:=HNK.out;omega) hy) (fun z hz=>by simp at hz);simpa using this
        have HN2:=Za hn2;clear hn2 row3 b3 hks e2 hiv1 hpos HI;by_cases hie:vc=i
        ·subst hie;obtain ⟨a2,c2,w2,R1,R2,HF,HRF⟩:=tail (some ⟨g',0,none⟩);rw [Nat.sub_self] at R1;obtain ⟨z1,z2,z3⟩:=Ze R1;obtain ⟨z4,z5,z6⟩:=Ze R2;clear R1 R2 tail;go_region
         go_wp2;go_roundw
         case rel=>exact ⟨k+1,ks++[ek],a2,c2,n2,by omega,by simp,rfl,HN2,HF,HRF⟩
         case measure=>simp [intOf];omega
        ·obtain ⟨a2,c2,w2,R1,R2,HF,HRF⟩:=tail (some ⟨g',i,none⟩);obtain ⟨z1,z2,z3⟩:=Ze R1;obtain ⟨z4,z5,z6⟩:=Ze R2;clear R1 R2 tail;go_region
         go_wp2;go_roundw
         case rel=>exact ⟨k+1,ks++[ek],a2,c2,n2,by omega,by simp,rfl,HN2,HF,HRF⟩
         case measure=>simp [intOf];omega
    ·have HF:Hid (KeJ w ks (((ms.take (j+1)).flatMap (fun m=>m.2.2)).map En.k) va vc wl):=by
      have:=HJ.out;rw [show l.take k=l from List.take_of_length_le (by have:=HLN.out;omega),<- HTK.out] at this;exact Za this
     clear HJ;go_wp2;go_roundw
     case rel=>exact ⟨j+1,ks,va,vc,nk,by omega,by simp,rfl,HNK,HF⟩
     case measure=>simp [intOf];omega
  ·have HF:Hid (DKeP (fun ks=>KsS ks ((ms.flatMap (fun m=>m.2.2)).map En.k)) w (.returned (.slice va nk vc)) wr):=by
    have:=HJ.out;rw [List.take_of_length_le (by have:=HN.out;omega)] at this;exact Za ⟨ks,va,vc,by rw [HNK.out],this.2.2.1,this.1,this.2.1⟩
   clear HJ;go_wp2;go_ret
   exact HF.out
end
end Go.Proofs.YtdhebpnkfookcaaGreat
