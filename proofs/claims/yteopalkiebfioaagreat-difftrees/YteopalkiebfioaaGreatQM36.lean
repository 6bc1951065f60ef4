import Derived.Lib.Bytealg
import Derived.Test.YteopalkiebfioaaGreatQM35
set_option maxRecDepth 100000
set_option maxHeartbeats 4000000
namespace Go.Proofs.YteopalkiebfioaaGreat
section
open Go.RowKit Go.Shelf Apo
attribute [local go_sem] Oper.semAt_some
def RootT (T:List (List Int)) (root:Nat) (ls:List (Nat × List En)):Prop:=(root=0/\ls=[])\/(∃ l n,IsT T l root n ls)
section
variable {w:World} {s m:Nat} {O:Nat->Prop} {T:List (List Int)} {N:Nat} {it:Nat->Nat × List En} {lp:Nat} {J:Nat->(Nat->Prop)->World->Prop}
theorem leaves1_in (H:Hears w s m O T N it lp J) (hT:T.length<=16000) (hx:TxOk T) (nn:Nat) (W:World) (root Br Bl:Nat) (ls:List (Nat × List En)) (U:Nat->Prop) (ht:RootT T root ls) (hj:J 0 U W) (hr:W.cell? ⟨Br,0,none⟩=some (.int .u64 root)) (hl:W.cell? ⟨Bl,0,none⟩=some (ldV s)) (hit:∀ i p,ls[i]?=some p->it i=p) (hN:ls.length<=N) :
  CallsIn Fence.wide nn Tryz.prog 57 #[.func (.yield lp) #[] #[],.pointer (some ⟨Br,0,none⟩),.pointer (some ⟨Bl,0,none⟩)] W fun e W'=>(∃ v,e=.returned v)/\∃ U',J ls.length U' W'/\Onl U W W'/\∀ i,U' i->U i\/W.heap.size<=i:=by
 rcases ht with ⟨rfl,rfl⟩ | ⟨l,n,ht⟩
 ·have HJ:=Za hj;refine callsIn_of_wp Tryz.func57 rfl trivial ?_ rfl;simp only [Tryz.ntmps57,List.size_toArray,List.length_cons,List.length_nil,Nat.reduceAdd,Nat.reduceSub,Array.replicate_succ,Array.replicate_zero,List.push_toArray,List.append_toArray,List.nil_append,List.cons_append];gi_wp2
  refine bodyPost_ret (results_none rfl _ _ _) rfl ?_;exact ⟨⟨_,rfl⟩,U,HJ.out,Onl.refl _ _,fun i q=>.inl q⟩
 ·have hnod:=ht.nod;have hne:((root:Int) == 0)=false:=by have:=hnod.1.pos;simp;omega
  have C1:=tload_any (H.st _ _ _ hj) hT hx root hnod.1.lt;rw [hnod.1.ld] at C1;simp only at C1;have hul:=H.lt _ _ _ hj;have HC1:=Za C1;have HJ:=Za hj;have HH:=Za H;have HT:=Za ht;have HIT:=Za hit;have HN:=Za hN;have HUL:=Za hul;simp only [ldV] at HC1 hl;clear C1 hj H ht hit hN hul hnod;have hbr:=World.block_lt_of_cell? _ _ hr;have hbl:=World.block_lt_of_cell? _ _ hl;refine callsIn_of_wp Tryz.func57 rfl trivial ?_ rfl;simp only [Tryz.ntmps57,List.size_toArray,List.length_cons,List.length_nil,Nat.reduceAdd,Nat.reduceSub,Array.replicate_succ,Array.replicate_zero,List.push_toArray,List.append_toArray,List.nil_append,List.cons_append];gi_wp2_with fail
  refine ⟨trivial,fun q=>(by cases q),(callsIn_wide.2 HC1.out).mono ?_⟩
  rintro e w3 ⟨x',hx'n,ok',nw',rfl,b3⟩;have s3:=b3.size;obtain ⟨w4,hw4⟩:∃ w4,w4=w3.alloc (.cells x'.cells.toArray 129):=⟨_,rfl⟩;have b4:Below w3.heap.size w3 w4:=by rw [hw4];exact (Below.refl _ w3).alloc (Nat.le_refl _) _
  have kx4:Ob w4 w3.heap.size 129 x'.cells:=by rw [hw4];exact Ob.new w3 x'.cells 129
  have b24:Below W.heap.size W w4:=b3.trans (b4.mono (by omega))
  have C5:=under_in HH.out hT hx l (nn - 1) w4 x' root ls 0 U (by rw [hx'n];exact HT.out) (HH.out.bel _ _ _ _ HJ.out b24) (ok'.below b4) ⟨fun y hy _ q=>by have:=nw'.1 y hy;have:=HUL.out _ q;omega,fun y hy _ q=>by have:=nw'.2 y hy;have:=HUL.out _ q;omega⟩ (fun y hy q=>by have:=nw'.1 y hy;have:=HUL.out _ q;omega) (fun i p hp=>by rw [Nat.zero_add];exact HIT.out i p hp) (by rw [Nat.zero_add];exact HN.out)
  rw [Nat.zero_add] at C5;have d0:=(b24.cell (p:=⟨Br,0,none⟩) hbr).trans hr;have d1:=(b24.cell (p:=⟨Bl,0,none⟩) hbl).trans hl;have x0:=kx4.cell 0;have x1:=kx4.cell 1;have x2:=kx4.cell 2;simp only [ldV] at C5;obtain ⟨⟨lv',es',ks'⟩,ea',ec',ka',kc'⟩:=x';simp only [NdA.cells,List.getElem?_cons_zero,List.getElem?_cons_succ] at x0 x1 x2 C5 hw4 ⊢
  obtain ⟨ne',hne'⟩:∃ ne',ne'=es'.length:=⟨_,rfl⟩;obtain ⟨nk',hnk'⟩:∃ nk',nk'=ks'.length:=⟨_,rfl⟩;rw [<- hne'] at x1 C5 hw4 ⊢;rw [<- hnk'] at x2 C5 hw4 ⊢;have HC5:=Za C5;have HB24:=Za b24;have hw4':w4=w3.alloc (.cells #[.int .i64 lv',.slice ea' ne' ec',.slice ka' nk' kc'] 129):=hw4;clear C5 b24 kx4 b3 b4 ok' nw' hx'n hne' hnk' hw4 hr hl;rw [hw4'] at d0 d1 x0 x1 x2;gi_wp2_with fail
  rw [<- hw4'];clear hw4';refine ⟨trivial,fun q=>(by cases q),HC5.out.mono ?_⟩
  rintro e w5 ⟨rfl,U5,j5,o5,u5⟩;have sb:=HB24.out.size;have HF:Hid (∃ U',J ls.length U' w5/\Onl U W w5/\∀ i,U' i->U i\/W.heap.size<=i):=Za ⟨U5,j5,(Onl.ofBelow HB24.out).trans o5,fun i q=>(u5 i q).imp (fun z=>z) (fun z=>by omega)⟩
  clear j5 o5 u5 d0 d1 x0 x1 x2;gi_wp2
  go_end0
  exact ⟨⟨_,rfl⟩,HF.out⟩
end
theorem leaves_fn (s root:Nat) (W:World) :
  Calls Tryz.prog 26 #[ldV s,.int .u64 root] W fun e W'=>e=.returned (.func (.func 57) #[] #[.pointer (some ⟨W.heap.size+1,0,none⟩),.pointer (some ⟨W.heap.size,0,none⟩)])/\W'=(W.alloc (.cells #[ldV s] 66)).alloc (.cells #[.int .u64 root] 29):=by
 simp only [ldV];go_enter Tryz.func26,Tryz.ntmps26
 go_wp2;go_ret
 exact ⟨rfl,rfl⟩
theorem enter_leaves1:∀ args w,(callFunc 57 args).run Tryz.prog w=.ok (.enter 57 args) w:=fun _ _=>by kernel_rfl
end
section
open Go.RowKit Go.Shelf Apo
attribute [local go_sem] Oper.semAt_some
attribute [local go_sem ↓] app_sem
def esK (it:Nat->Nat × List En) (k:Nat):List En:=(List.range k).flatMap (fun i=>(it i).2)
theorem esK_succ (it:Nat->Nat × List En) (k:Nat):esK it (k+1)=esK it k++(it k).2:=by simp [esK,List.range_succ]
theorem ecells_app (a b:List En):ZI (a++b)=ZI a++ZI b:=by simp [ZI]
theorem app_Es {O:Nat->Prop} {W:World} {v:Value} {l es:List En} (h:Row O W 47 2 v l.length (ZI l)) (hn:l.length+es.length<=1000000) {y:Addr} {c:Nat} (hr:RdEn W (some y) es) :
  ∃ v' w',(Builtin.append_ #[22,22] 22 #[v,.slice (some y) es.length c]).run Tryz.prog W=.ok v' w'/\Row (fun g=>O g\/g=W.heap.size) w' 47 2 v' (l++es).length (ZI (l++es))/\Onl (fun g=>v.ownBlock=some g) W w'/\∀ g,v'.ownBlock=some g->v.ownBlock=some g\/g=W.heap.size:=by
 obtain ⟨i0,hi,hz0,hz1,hz2⟩:=info_parts info_En;obtain ⟨v5,w5,RR,r5,g5,_,ho5⟩:=run_append_own_at (P:=Tryz.prog) W 0 22 22 47 i0 _ 2 32 Tryz.underlying22 hi hz0 hz1 hz2 rfl (by decide) v l.length (ZI l) h.1 y es.length c (ZI es) (ecells_len es) (RdEn.news hr) (by intro u hu;simp only [ZI,List.mem_flatMap] at hu;obtain ⟨e,_,hu⟩:=hu;simp at hu;rcases hu with rfl | rfl <;> rfl) (by unfold maxLen;omega) (by omega) (Nat.zero_le _)
 refine ⟨v5,w5,RR,⟨?_,fun g hg=>?_⟩,(Onl.refl _ W).grown g5 (fun k hk=>.inl hk),fun g hg=>?_⟩
 ·rw [List.length_append,ecells_app];exact r5
 ·rcases ho5 with q | q
  ·rw [q] at hg;exact .inl (h.2 g hg)
  ·rw [q] at hg;cases hg;exact .inr rfl
 ·rcases ho5 with q | q
  ·rw [q] at hg;exact .inl hg
  ·rw [q] at hg;cases hg;exact .inr rfl
theorem put_onl {A:World} {l:Nat} (o:Obj):Onl (fun i=>i=l) A (A.putObj l o):=(Onl.refl _ A).grown (grownBy_putObj' A l o) (fun k e=>.inl (by cases e;rfl))
theorem onl_back {U:Nat->Prop} {l:Nat} {A B:World} (h:Onl (fun i=>U i\/i=l) A B) (hb:B.heap[l]?=A.heap[l]?):Onl U A B :=
 ⟨h.os,h.tape,h.output,h.size,fun i hi hu=>by
  by_cases q:i=l
  ·rw [q];exact hb
  ·exact h.block i hi (fun z=>z.elim hu q)⟩
theorem cell_not {A:World} {a:Addr} {v:Value} {d:Nat} {o:Obj} (h:A.cell? a=some v) (hl:A.heap[d]?=some o) (ho:o.isCells=false):a.block≠d:=by
 intro q;obtain ⟨o2,h1,h2⟩:=cells_of_cell h;rw [q,hl] at h1;cases h1
 rw [ho] at h2;cases h2
theorem Row.noLoop {O:Nat->Prop} {A:World} {e:TypeId} {size n d:Nat} {v:Value} {xs:List Value} {o:Obj} (h:Row O A e size v n xs) (hl:A.heap[d]?=some o) (ho:o.isCells=false):v.ownBlock≠some d:=by
 intro q;rcases h.1.2 with ⟨rfl,_⟩ | ⟨g,cap,cur,rfl,_,hc,_⟩
 ·cases q
 ·simp only [Value.ownBlock,Option.some.injEq] at q;subst q;rw [hc] at hl;cases hl
  cases ho
end
section
open Go.RowKit Apo
def cmpS (a b:ByteArray):Int:=Lib.compareBytes a.data.toList b.data.toList
theorem cb_lt:∀ x y:List UInt8,(Lib.compareBytes x y < 0↔Op.bytesLess x y=true)/\(Lib.compareBytes x y=0↔x=y)/\-1<=Lib.compareBytes x y/\Lib.compareBytes x y<=1
 | [],[]=>by simp [Lib.compareBytes,Op.bytesLess]
 | [],_ :: _=>by simp [Lib.compareBytes,Op.bytesLess]
 | _ :: _,[]=>by simp [Lib.compareBytes,Op.bytesLess]
 | a :: x,b :: y=>by
  have ih:=cb_lt x y;unfold Lib.compareBytes;by_cases h1:a < b
  ·rw [if_pos h1];refine ⟨by simp [Op.bytesLess,h1],⟨fun q=>by simp at q,fun q=>?_⟩,by omega,by omega⟩
   have:a=b:=by injection q
   subst this;exact absurd h1 (UInt8.lt_irrefl a)
  ·rw [if_neg h1];by_cases h2:b < a
   ·rw [if_pos h2];have hne:a≠b:=fun q=>by subst q;exact UInt8.lt_irrefl a h2
    refine ⟨by simp [Op.bytesLess,h1,hne],⟨fun q=>by simp at q,fun q=>?_⟩,by omega,by omega⟩
    injection q with q
    exact absurd q hne
   ·rw [if_neg h2]
    have hab:a=b:=by
     rw [UInt8.not_lt] at h1 h2;exact UInt8.le_antisymm h2 h1
    subst hab;refine ⟨?_,?_,ih.2.2.1,ih.2.2.2⟩
    ·rw [ih.1];simp [Op.bytesLess]
    ·rw [ih.2.1];simp
theorem cmpS_lt {a b:ByteArray}:cmpS a b < 0↔ZR a b=true:=by
 unfold cmpS ZR;rw [ByteArray.toList_eq,ByteArray.toList_eq];exact (cb_lt _ _).1
theorem cmpstring_any (a b:ByteArray) (w:World):Calls Tryz.prog 95 #[.string a,.string b] w fun e w'=>e=.returned (.int .i64 (cmpS a b))/\w=w':=by
 go_enter Tryz.func95,Tryz.ntmps95
 go_wp2;rw [run_callFunc_extern Tryz.func140 (by kernel_rfl) (by kernel_rfl) (by kernel_rfl) (e:=Extern.BytealgCompare.compare) (by kernel_rfl),Lib.run_compareString]
 simp only [Result.andThen];rw [Oper.upon_value];go_wp2;go_ret
 exact ⟨rfl,rfl⟩
theorem scompare_any (a b:ByteArray) (w:World):Calls Tryz.prog 63 #[.string a,.string b] w fun e w'=>e=.returned (.int .i64 (cmpS a b))/\w=w':=by
 have C:=cmpstring_any a b w;go_enter Tryz.func63,Tryz.ntmps63
 go_wp2_with fail
 refine C.mono ?_;rintro e w2 ⟨rfl,rfl⟩;go_wp2;go_ret
 exact ⟨rfl,rfl⟩
def Gets (es:List En) (key:ByteArray) (v:ByteArray) (b:Bool):Prop:=(b=true/\∃ e ∈ es,e.k=key/\e.v=v)\/(b=false/\v=⟨#[]⟩/\∀ e ∈ es,e.k≠key)
theorem zero_unit:∀ W:World,(zeroValue 138).run Tryz.prog W=.ok (.agg #[]) W:=fun _=>by kernel_rfl
def AdP (w:World) (b:Nat) (M:Nat->Option Value) (i:Nat) (e:Ending) (w':World):Prop:=e=.returned (.bool (!(M i).isSome))/\Mp Tryz.prog 29 w' b (upd M i (some (.agg #[])))/\Onl (fun j=>j=b) w w'
theorem add_any {w:World} {b:Nat} {M:Nat->Option Value} (h:Mp Tryz.prog 29 w b M) (hM:∀ i v,M i=some v->v=.agg #[]) {L:List Nat} (hL:∀ i,M i≠none->i ∈ L) (hl:L.length < 1000000) (i:Nat) (hi:i < 18446744073709551616) :
  Calls Tryz.prog 65 #[.map (some b),.int .u64 i] w (AdP w b M i):=by
 have b1:Below w.heap.size w (w.alloc (.cells #[] 138)):=(Below.refl _ w).alloc (Nat.le_refl _) _;have R1:=h.look2 hk64 Tryz.underlying75 zero_unit hi;obtain ⟨w3,R2,m3,t3⟩:=(h.below b1).store hk64 Tryz.underlying75 hL (by unfold maxLen;omega) hi (.agg #[])
 have hv:(M i).getD (.agg #[])=.agg #[]:=by
  cases q:M i with
  | none=>rfl
  | some v=>exact hM i v q
 rw [hv] at R1;have HF:Hid (AdP w b M i (.returned (.bool (!(M i).isSome))) w3):=Za ⟨rfl,m3,(Onl.ofBelow b1).trans (turned_onl t3)⟩;obtain ⟨bb,hbb⟩:∃ bb,bb=(M i).isSome:=⟨_,rfl⟩;rw [<- hbb] at R1 HF;clear h hL m3 t3 hv hbb b1 hM;go_enter Tryz.func65,Tryz.ntmps65
 go_wp2;go_ret
 exact HF.out
def ent (ls:List (Nat × List En)):List En:=ls.flatMap (fun p=>p.2)
def Zo (es:List En):Prop:=es.Pairwise (fun a b=>ZR a.k b.k=true)
theorem riseE_iff {es:List En}:Zo es↔Rise (es.map En.k):=by unfold Zo Rise;rw [List.pairwise_map]
theorem node_leaf {n:Nd} (h:nodeE n=0) (h0:n.lv=0):n.es≠[]/\n.ks=[]:=by
 have:=(nodeE_ok h).2.2.2.2.1;rcases Bool.or_eq_true_iff.1 this with q | q
 ·unfold Nd.leaf at q;simp at q
  exact ⟨List.ne_nil_of_length_pos (by omega),List.eq_nil_of_length_eq_zero (by rw [q.2];rfl)⟩
 ·unfold Nd.inner at q;simp at q
  omega
theorem node_inner {n:Nd} (h:nodeE n=0) (h0:0 < n.lv):n.ks≠[]/\n.es=[]:=by
 have:=(nodeE_ok h).2.2.2.2.1;rcases Bool.or_eq_true_iff.1 this with q | q
 ·unfold Nd.leaf at q;simp at q
  omega
 ·unfold Nd.inner at q;simp at q
  exact ⟨List.ne_nil_of_length_pos (by omega),List.eq_nil_of_length_eq_zero (by rw [q.2];rfl)⟩
noncomputable def hgt (T:List (List Int)) (id:Nat):Nat:=if id=0 then 0 else (loadT T id).1.lv.toNat+1
theorem hgt_is {T:List (List Int)} {l id:Nat} {n:Nd} {ls:List (Nat × List En)} (h:IsT T l id n ls):hgt T id=l+1/\l<=100:=by
 have hn:=h.nod;refine ⟨?_,?_⟩
 ·unfold hgt;rw [if_neg (by have:=hn.1.pos;omega),hn.1.ld]
  simp only;rw [hn.2];simp
 ·cases l with
  | zero=>omega
  | succ l=>have:=h.2.2.1;omega
theorem cut_map {α β:Type} (f:α->β) (p:β->Bool) (l:List α):∀ k,ZY p (l.map f) k=((ZY (fun x=>p (f x)) l k).1.map (List.map f),(ZY (fun x=>p (f x)) l k).2.map f)
 | 0=>rfl
 | k+1=>by
  cases h:l[k]? with
  | none =>
   have h2:(l.map f)[k]?=none:=by rw [List.getElem?_map,h];rfl
   unfold ZY;rw [h,h2];exact cut_map f p l k
  | some x =>
   have h2:(l.map f)[k]?=some (f x):=by rw [List.getElem?_map,h];rfl
   rw [cutK_step h,cutK_step h2,cut_map f p l k];by_cases q:p (f x)=true
   ·rw [if_pos q,if_pos q];simp
   ·rw [if_neg q,if_neg q];simp
theorem split_map {α β:Type} (f:α->β) (p:β->Bool) (l:List α):Ze p (l.map f)=(Ze (fun x=>p (f x)) l).map (List.map f):=by
 rw [cut_split,cut_split,List.length_map,cut_map];simp only [List.length_map];split <;> simp
theorem GoodN.nod {T:List (List Int)} {n:Nd} {id:Nat} (g:GoodN n) (h1:1<=id) (h2:T[id - 1]?=some (Z4 n)) (hT:T.length<=16000) (hz:∀ k ∈ n.ks,k.i < 18446744073709551616):TNod T id n:=by
 have hs:=g.small;have hl:=(List.getElem?_eq_some_iff.1 h2).1
 have hlen:=g.len;obtain ⟨g1,g2,_⟩:=nodeE_ok g.ok;have f1:=flat_ge (f:=enB) (c:=3) (l:=n.es) (fun e he=>enB_ge (g1 e he).1.1)
 have f2:=flat_ge (f:=kiB) (c:=3) (l:=n.ks) (fun e he=>kiB_ge (g2 e he).1.1)
 have hcnt:n.es.length+n.ks.length<=16384:=by
  unfold Z4 at hlen;simp only [List.length_append] at hlen;omega
 refine ⟨h1,by omega,?_,hs.1,hs.2,g.ok⟩
 have hg:getT T id=(Z4 n,0):=by unfold getT;rw [if_neg (by omega),h2]
 unfold loadT;rw [hg,if_neg (by simp)]
 exact nodeOf_ndB g.ok hz (by omega) hcnt
theorem IsT.leaves {T:List (List Int)}:∀ {l id:Nat} {n:Nd} {ls:List (Nat × List En)},IsT T l id n ls->∀ p ∈ ls,0 < p.2.length
 | 0,id,n,ls,h=>by
  obtain ⟨h1,h2,h3⟩:=h;subst h3;intro p hp;simp only [List.mem_singleton] at hp;subst hp;exact List.length_pos_iff.2 (node_leaf h1.ok h2).1
 | l+1,id,n,ls,h=>by
  obtain ⟨h1,h2,h3,ns,lss,h4,h5,h6,h7⟩:=h;subst h7;intro p hp;obtain ⟨x,hx,hpx⟩:=List.mem_flatten.1 hp;obtain ⟨t,ht,q⟩:=List.mem_iff_getElem.1 hx;exact IsT.leaves (h6 t (n.ks[t]'(by omega)) (ns[t]'(by omega)) x (List.getElem?_eq_getElem _) (List.getElem?_eq_getElem _) (by rw [List.getElem?_eq_getElem ht,q])).2 p hpx
end
end Go.Proofs.YteopalkiebfioaaGreat
namespace Apo
open Go Go.RowKit
def smallEn (e:En):Bool:=decide (e.k.size<=60) && decide (e.v.size<=250)
def lightB (l:List En):Bool:=l.all smallEn && decide (l.length<=60)
theorem all_take_false {α:Type} {p:α->Bool} {l:List α} {k:Nat} {x:α} (h:l[k]?=some x) (hx:p x=false):l.all p=false:=by
 rw [List.all_eq_false];exact ⟨x,List.mem_of_getElem? h,by rw [hx];simp⟩
end Apo
namespace Go.Proofs.YteopalkiebfioaaGreat
open Go.RowKit Apo
theorem light_any (w:World) (a:Option Addr) (c:Nat) (l:List En) (h:RdEn w a l) (hl:l.length<=9223372036854775807) (hz:∀ e ∈ l,e.k.size<=maxLen/\e.v.size<=maxLen) :
  Calls Tryz.prog 16 #[.slice a l.length c] w fun e w'=>e=.returned (.bool (lightB l))/\Below w.heap.size w w':=by
 obtain ⟨n,hn⟩:∃ n,n=l.length:=⟨_,rfl⟩;have HN:=Za hn;have HE:=Za h;have HZ:=Za hz;rw [<- hn] at hl ⊢;clear h hn hz;go_enter Tryz.func16,Tryz.ntmps16
 go_wp2;go_loopw [7] (fun i wr=>∃ k:Nat,k<=n/\i=.int .i64 k/\Hid ((l.take k).all smallEn=true)/\Hid (Below w.heap.size w wr)) (fun i _=>n - (intOf i).toNat)
 case atStart=>exact ⟨0,Nat.zero_le _,rfl,Za (by simp),Za (Below.refl _ _)⟩
 case round =>
  obtain ⟨k,hk,rfl,HS,HB⟩:=hrel;by_cases hkn:k < n
  ·obtain ⟨e,hek⟩:∃ e,l[k]?=some e:=⟨l[k]'(by have:=HN.out;omega),List.getElem?_eq_getElem _⟩
   obtain ⟨g,o,rfl,q1,q2⟩:=HE.out k e hek;have q1':=(HB.out.cell (p:=⟨g,o+k * 2,none⟩) (World.block_lt_of_cell? _ _ q1)).trans q1;have q2':=(HB.out.cell (p:=⟨g,o+k * 2+1,none⟩) (World.block_lt_of_cell? _ _ q2)).trans q2;have hsz:=HZ.out _ (List.mem_of_getElem? hek);obtain ⟨ek,ev⟩:=e;simp only at q1' q2' hsz;unfold maxLen at hsz;have HEK:=Za hek;have HBA:=Za (HB.out.alloc HB.out.size (.cells #[.string ek,.string ev] 47));clear q1 q2 hek;by_cases h1:ek.size<=60
   ·have d1:decide ((60:Int) < (ek.size:Int))=false:=by simp;omega
    have d1n:decide (60 < ek.size)=false:=by simp;omega
    by_cases h2:ev.size<=250
    ·have d2:decide ((250:Int) < (ev.size:Int))=false:=by simp;omega
     have d2n:decide (250 < ev.size)=false:=by simp;omega
     have HS2:Hid ((l.take (k+1)).all smallEn=true):=by
      refine Za ?_;rw [List.take_add_one,HEK.out,List.all_append,HS.out];simp [smallEn,h1,h2]
     go_wp2;go_roundw
     case rel=>exact ⟨k+1,by omega,by simp,HS2,HBA⟩
     case measure=>simp [intOf];omega
    ·have d2:decide ((250:Int) < (ev.size:Int))=true:=by simp;omega
     have d2n:decide (250 < ev.size)=true:=by simp;omega
     have HX:Hid (lightB l=false):=Za (by unfold lightB;rw [all_take_false HEK.out (by simp [smallEn,h2])];rfl)
     go_wp2;go_ret
     rw [HX.out];exact ⟨rfl,HBA.out⟩
   ·have d1:decide ((60:Int) < (ek.size:Int))=true:=by simp;omega
    have d1n:decide (60 < ek.size)=true:=by simp;omega
    have HX:Hid (lightB l=false):=Za (by unfold lightB;rw [all_take_false HEK.out (by simp [smallEn,h1])];rfl)
    go_wp2;go_ret
    rw [HX.out];exact ⟨rfl,HBA.out⟩
  ·obtain rfl:k=n:=by omega
   have HX:Hid (lightB l=decide (k<=60)):=by
    refine Za ?_;have q:=HS.out;rw [HN.out,List.take_length] at q;unfold lightB;rw [q,HN.out];simp
   have hdd:decide ((k:Int)<=60)=decide (k<=60):=by
    by_cases q:k<=60
    ·simp [q];omega
    ·simp [q];omega
   go_wp2;go_ret
   rw [HX.out];exact ⟨by rw [<- hdd];rfl,HB.out⟩
theorem rrises_any (w:World) (a:Option Addr) (c:Nat) (es:List En) (h:RdEn w a es) (hl:es.length<=1000000) :
  Calls Tryz.prog 40 #[.slice a es.length c] w (RsP es w):=by
 obtain ⟨n,hn⟩:∃ n,n=es.length:=⟨_,rfl⟩;have HN:=Za hn;have HR:=Za h;rw [<- hn] at hl ⊢;clear h hn;go_enter Tryz.func40,Tryz.ntmps40
 go_wp2;go_loopw [6] (fun v wr=>∃ i:Nat,i<=n/\v=.int .i64 i/\Hid (∀ t e f,t+1 < i->es[t]?=some e->es[t+1]?=some f->ZR e.k f.k=true)/\Hid (Below w.heap.size w wr)) (fun v _=>n - (intOf v).toNat)
 case atStart=>exact ⟨0,Nat.zero_le _,rfl,Za (fun t e f ht=>absurd ht (by omega)),Za (Below.refl _ _)⟩
 case round =>
  obtain ⟨i,hi2,rfl,HS,HB⟩:=hrel;by_cases hin:i < n
  ·by_cases hi0:i=0
   ·subst hi0;have HS3:Hid (∀ t e f,t+1 < 0+1->es[t]?=some e->es[t+1]?=some f->ZR e.k f.k=true):=Za (fun t e f ht=>absurd ht (by omega))
    clear HS;go_wp2;go_quiet (fail)
    go_wp2;go_roundw
    case rel=>exact ⟨1,by omega,by simp,HS3,Za (below_drewN HB.out _)⟩
    case measure=>simp [intOf];omega
   ·obtain ⟨i1,hi3⟩:∃ i1,i=i1+1:=⟨i - 1,by omega⟩
    obtain ⟨s1,hs1⟩:∃ s,es[i1]?=some s:=⟨es[i1]'(by have:=HN.out;omega),List.getElem?_eq_getElem _⟩
    obtain ⟨s2,hs2⟩:∃ s,es[i1+1]?=some s:=⟨es[i1+1]'(by have:=HN.out;omega),List.getElem?_eq_getElem _⟩
    obtain ⟨g,of,rfl,q1,_⟩:=(HR.out.below HB.out) i1 s1 hs1;obtain ⟨g2,of2,hgg,q2,_⟩:=(HR.out.below HB.out) (i1+1) s2 hs2;injection hgg with hgg
    injection hgg with e1 e2 _
    subst e1 e2;have hwi:IntKind.i64.wrap ((i:Int) - 1)=(i1:Int):=by rw [IntKind.wrap_i64];omega
    have hsub:(i:Int) - 1=(i1:Int):=by omega
    have hi1n:i1 < n:=by omega
    have hd0:decide ((0:Int) < (i:Int))=true:=decide_eq_true (by omega)
    have hd1:decide (0 < i)=true:=decide_eq_true (by omega)
    have hpos:0 < i:=by omega
    rw [<- hi3] at q2;have HI3:=Za hi3;have HS12:=Za (And.intro hs1 hs2);clear hs1 hs2 hi3;cases hb1:ZR s1.k s2.k
    ·have hbl:Op.bytesLess s1.k.toList s2.k.toList=false:=hb1
     have HX:Hid (¬ Rise (es.map En.k)):=Za (fun z=>by
      have q:=rise_getD z HS12.out.1 HS12.out.2;rw [hb1] at q;cases q)
     clear hb1;go_wp2;go_quiet (fail)
     go_wp2;go_ret
     exact ⟨false,rfl,⟨fun q=>(by cases q),fun q=>absurd q HX.out⟩,below_drewN HB.out _⟩
    ·have hbl:Op.bytesLess s1.k.toList s2.k.toList=true:=hb1
     have HS3:Hid (∀ t e f,t+1 < i+1->es[t]?=some e->es[t+1]?=some f->ZR e.k f.k=true):=by
      refine Za (fun t e f ht h1 h2=>?_)
      by_cases z:t+1 < i
      ·exact HS.out t e f z h1 h2
      ·obtain rfl:t=i1:=by have:=HI3.out;omega
       rw [HS12.out.1] at h1;rw [HS12.out.2] at h2;cases h1
       cases h2
       exact hb1
     clear hb1 HS;go_wp2;go_quiet (fail)
     go_wp2;go_roundw
     case rel=>exact ⟨i+1,by omega,by simp,HS3,Za (below_drewN HB.out _)⟩
     case measure=>simp [intOf];omega
  ·have HF:Hid (Rise (es.map En.k)):=Za (rise_all (fun t e f h1 h2=>HS.out t e f (by have:=(List.getElem?_eq_some_iff.1 h2).1;have:=HN.out;omega) h1 h2))
   clear HS;go_wp2;go_ret
   exact ⟨true,rfl,⟨fun _=>HF.out,fun _=>rfl⟩,HB.out⟩
def RrP (es:List En) (w:World) (e:Ending) (w':World):Prop:=e=.returned (.int .i64 (Z8 es))/\Below w.heap.size w w'
theorem rright_any (W:World) (ea:Option Addr) (ec:Nat) (es:List En) (hr:RdEn W ea es) (hel:es.length<=1000000) (hsz:∀ e ∈ es,e.k.size<=maxLen/\e.v.size<=maxLen) :
  Calls Tryz.prog 17 #[.slice ea es.length ec] W (RrP es W):=by
 have C2:∀ W',Below W.heap.size W W'->Calls Tryz.prog 40 #[.slice ea es.length ec] W' (RsP es W'):=fun W' b=>rrises_any W' ea ec es (hr.below b) hel
 obtain ⟨ne,hne⟩:∃ ne,ne=es.length:=⟨_,rfl⟩;have hmx:maxLen<=9223372036854775807:=by decide
 have HC2:=Za C2;have HNE:=Za hne;have HR:=Za hr;have HSZ:=Za hsz;rw [<- hne] at HC2 hel ⊢;clear C2 hne hr hsz;go_enter Tryz.func17,Tryz.ntmps17
 go_wp2;go_loopw [9] (fun i wr=>∃ k:Nat,k<=ne/\i=.int .i64 k/\Hid (∀ y ∈ es.take k,enE y=0)/\Hid (Below W.heap.size W wr)) (fun i _=>ne - (intOf i).toNat)
 case atStart=>exact ⟨0,Nat.zero_le _,rfl,Za (fun y hy=>by simp at hy),Za (Below.refl _ _)⟩
 case round =>
  obtain ⟨k,hk,rfl,HP,HB⟩:=hrel;by_cases hkn:k < ne
  ·obtain ⟨⟨ek,ev⟩,hx⟩:∃ x,es[k]?=some x:=⟨es[k]'(by have:=HNE.out;omega),List.getElem?_eq_getElem _⟩
   obtain ⟨g,of,rfl,q1,q2⟩:=(HR.out.below HB.out) k _ hx;simp only at q1 q2;have hz:=HSZ.out _ (List.mem_of_getElem? hx);simp only at hz;obtain ⟨W1,hW1⟩:∃ W1,W1=wr.alloc (.cells #[.string ek,.string ev] 47):=⟨_,rfl⟩;have kb:Ob W1 wr.heap.size 47 [.string ek,.string ev]:=by rw [hW1];exact Ob.new wr [.string ek,.string ev] 47
   have b1:Below W.heap.size W W1:=by rw [hW1];exact HB.out.alloc HB.out.size _
   have y0:=kb.cell 0;have y1:=kb.cell 1;simp only [List.getElem?_cons_zero,List.getElem?_cons_succ] at y0 y1
   have CK:=rkey_any ek W1 (by omega)
   have CV:=rval_any ev W1 (by omega)
   have HX:=Za hx;have HB1:=Za b1;have HCK:=Za CK;have HCV:=Za CV;clear hx kb b1 CK CV;by_cases hke:keyE ek=0
   ·rw [hke] at HCK;by_cases hve:valE ev=0
    ·rw [hve] at HCV;have HN:Hid (∀ y ∈ es.take (k+1),enE y=0):=Za (take_enE HX.out HP.out (by rw [enE_val hke];exact hve))
     clear hke hve HP;go_wp2_with fail
     rw [<- hW1];clear hW1;refine HCK.out.mono ?_;rintro e w2 ⟨rfl,rfl⟩;go_wp2_with fail
     refine HCV.out.mono ?_;rintro e w2 ⟨rfl,rfl⟩;go_wp2;go_roundw
     case rel=>exact ⟨k+1,by omega,by simp,HN,HB1⟩
     case measure=>simp [intOf];omega
    ·have HF:Hid (RrP es W (.returned (.int .i64 (valE ev))) W1):=by
      have hq:Z8 es=valE ev:=by rw [rightE_at HX.out HP.out (by rw [enE_val hke];exact hve),enE_val hke]
      exact Za ⟨by rw [hq],HB1.out⟩
     obtain ⟨er,her⟩:∃ er,er=valE ev:=⟨_,rfl⟩;rw [<- her] at HCV HF hve;have hb:(er != 0)=true:=by simpa using hve
     clear hke hve HP her;go_wp2_with fail
     rw [<- hW1];clear hW1;refine HCK.out.mono ?_;rintro e w2 ⟨rfl,rfl⟩;go_wp2_with fail
     refine HCV.out.mono ?_;rintro e w2 ⟨rfl,rfl⟩;go_wp2;go_ret
     exact HF.out
   ·have HF:Hid (RrP es W (.returned (.int .i64 (keyE ek))) W1):=by
     have hq:Z8 es=keyE ek:=by rw [rightE_at HX.out HP.out (by rw [enE_key hke];exact hke),enE_key hke]
     exact Za ⟨by rw [hq],HB1.out⟩
    obtain ⟨er,her⟩:∃ er,er=keyE ek:=⟨_,rfl⟩;rw [<- her] at HCK HF hke;have hb:(er != 0)=true:=by simpa using hke
    clear hke HP her;go_wp2_with fail
    rw [<- hW1];clear hW1;refine HCK.out.mono ?_;rintro e w2 ⟨rfl,rfl⟩;go_wp2;go_ret
    exact HF.out
  ·have hf0:ZX enE es=0:=firstE_none (fun y hy=>HP.out y (by rw [List.take_of_length_le (by have:=HNE.out;omega)];exact hy))
   have CR:=HC2.out wr HB.out;have HF0:=Za hf0;have HCR:=Za CR;clear hf0 CR HP;go_wp2_with fail
   refine HCR.out.mono ?_;rintro e w2 ⟨b,rfl,hb,b2⟩;have HBW:=Za (HB.out.trans (b2.mono HB.out.size));cases b with
   | false =>
    have HF:Hid (RrP es W (.returned (.int .i64 90)) w2):=by
     have hq:Z8 es=90:=by
      unfold Z8;rw [if_neg (by rw [HF0.out];simp),if_neg (fun q=>by have:=hb.2 q;cases this)]
     exact Za ⟨by rw [hq],HBW.out⟩
    clear hb b2;go_wp2;go_ret
    exact HF.out
   | true =>
    have HF:Hid (RrP es W (.returned (.int .i64 0)) w2):=by
     have hq:Z8 es=0:=by
      unfold Z8;rw [if_neg (by rw [HF0.out];simp),if_pos (hb.1 rfl)]
     exact Za ⟨by rw [hq],HBW.out⟩
    clear hb b2;go_wp2;go_ret
    exact HF.out
def RgP (es:List En) (key:ByteArray) (w:World) (e:Ending) (w':World):Prop:=∃ (v:ByteArray) (b:Bool),e=.returned (.agg #[.bool b,.string v])/\Gets es key v b/\Below w.heap.size w w'
theorem size_side:(Tryz.prog.info? 83).map (·.size)=some 2:=by kernel_rfl
theorem fin_rget {W:World} {g:Nat} {c0 c1:Value} {tmps:Array Value} {Q:Ending->World->Prop} (k:Ob W g 83 [c0,c1]) (h4:tmps.getD 4 undef=.pointer (some ⟨g,0,none⟩)) (hq:Q (.returned (.agg #[c0,c1])) W) :
  bodyPost Tryz.prog Tryz.f33 Q Exit.ret { tmps:=tmps,defers:=[] } W:=by
 have hl:=run_loadVar_row (P:=Tryz.prog) W g 83 83 #[c0,c1] (0,0) _ k Tryz.underlying83 rfl (by rw [size_side];rfl)
 have h4':tmps[4]?.getD undef=.pointer (some ⟨g,0,none⟩):=by simpa using h4
 refine bodyPost_ret (v:=.agg #[c0,c1]) ?_ rfl hq;simp [results,Tryz.results33,asAddr,h4',hl]
theorem rget_any (w:World) (a:Option Addr) (c:Nat) (es:List En) (key:ByteArray) (h:RdEn w a es) (hl:es.length<=1000000) :
  Calls Tryz.prog 33 #[.slice a es.length c,.string key] w (RgP es key w):=by
 obtain ⟨n,hn⟩:∃ n,n=es.length:=⟨_,rfl⟩;have HN:=Za hn;obtain ⟨W0,hW0⟩:∃ W0,W0=w.alloc (.cells #[.bool false,.string ⟨#[]⟩] 83):=⟨_,rfl⟩;have b0:Below w.heap.size w W0:=by rw [hW0];exact (Below.refl _ w).alloc (Nat.le_refl _) _
 have s0:W0.heap.size=w.heap.size+1:=by rw [hW0];simp
 have k0:Ob W0 w.heap.size 83 [.bool false,.string ⟨#[]⟩]:=by rw [hW0];exact Ob.new w [.bool false,.string ⟨#[]⟩] 83
 have HR:=Za (h.below b0);have HB0:=Za b0;have HK0:=Za k0;rw [<- hn] at hl ⊢;clear h hn b0 k0;go_enter Tryz.func33,Tryz.ntmps33
 go_wp2;rw [<- hW0];clear hW0;go_loopw [9] (fun v wr=>∃ i:Nat,i<=n/\v=.int .i64 i/\Hid (∀ e ∈ es.take i,e.k≠key)/\Hid (Below W0.heap.size W0 wr)) (fun v _=>n - (intOf v).toNat)
 case atStart=>exact ⟨0,Nat.zero_le _,rfl,Za (fun e he=>by simp at he),Za (Below.refl _ _)⟩
 case round =>
  obtain ⟨i,hi2,rfl,HS,HB⟩:=hrel;have kr:=HK0.out.old HB.out;have sr:=HB.out.size;by_cases hin:i < n
  ·obtain ⟨⟨ek,ev⟩,hx⟩:∃ x,es[i]?=some x:=⟨es[i]'(by have:=HN.out;omega),List.getElem?_eq_getElem _⟩
   obtain ⟨g,of,rfl,q1,q2⟩:=(HR.out.below HB.out) i _ hx;simp only at q1 q2;obtain ⟨W1,hW1⟩:∃ W1,W1=wr.alloc (.cells #[.string ek,.string ev] 47):=⟨_,rfl⟩;have b1:Below wr.heap.size wr W1:=by rw [hW1];exact (Below.refl _ wr).alloc (Nat.le_refl _) _
   have kb:Ob W1 wr.heap.size 47 [.string ek,.string ev]:=by rw [hW1];exact Ob.new wr [.string ek,.string ev] 47
   have kr1:=kr.old b1;have bW1:Below w.heap.size w W1:=HB0.out.trans ((HB.out.mono (by omega)).trans (b1.mono (by omega)))
   by_cases hk:ek=key
   ·have hd:(ek.toList == key.toList)=true:=by rw [hk];simp
    have y0:=kb.cell 0;have y1:=kb.cell 1;have z0:=kr1.cell 0;have z1:=kr1.cell 1;have f0:=kr1.frozen 0;have f1:=kr1.frozen 1;simp only [List.getElem?_cons_zero,List.getElem?_cons_succ] at y0 y1 z0 z1
    obtain ⟨W2,hW2⟩:∃ W2,W2=(W1.setCell ⟨w.heap.size,0,none⟩ (.bool true)).setCell ⟨w.heap.size,1,none⟩ (.string ev):=⟨_,rfl⟩;have o2:Onl (fun j=>j=w.heap.size) W1 W2:=by rw [hW2];exact ((Onl.refl (fun j=>j=w.heap.size) W1).set (p:=w.heap.size) (.inl rfl) _).set (p:=w.heap.size) (.inl rfl) _
    have k2:Ob W2 w.heap.size 83 [.bool true,.string ev]:=by rw [hW2];exact (kr1.set 0 _).set 1 _
    have HF:Hid (RgP es key w (.returned (.agg #[.bool true,.string ev])) W2):=Za ⟨ev,true,rfl,.inl ⟨rfl,_,List.mem_of_getElem? hx,hk,rfl⟩,Below.onl bW1 o2 (fun j q=>by omega) (Nat.le_refl _)⟩
    have HK2:=Za k2;rw [hW2] at HF HK2;rw [hW1] at y0 y1 z0 z1 f0 f1 HF HK2;clear hW2 hW1 o2 k2 kr kr1 kb b1 bW1 hx hk HS HB;go_wp2;exact fin_rget HK2.out rfl HF.out
   ·have hd:(ek.toList == key.toList)=false:=by
     cases q:(ek.toList == key.toList) with
     | false=>rfl
     | true=>exact absurd (ZG (by simpa using q)) hk
    have y0:=kb.cell 0;simp only [List.getElem?_cons_zero] at y0
    have HS2:Hid (∀ e ∈ es.take (i+1),e.k≠key):=Za (fun e he=>by
     rw [List.take_add_one,hx] at he;rcases List.mem_append.1 he with q | q
     ·exact HS.out e q
     ·simp at q;rw [q];exact hk)
    have HB2:=Za (HB.out.trans (b1.mono (by omega)))
    rw [hW1] at y0 HB2;clear hW1 kr kr1 kb b1 bW1 hx hk HS HB;go_wp2;go_roundw
    case rel=>exact ⟨i+1,by omega,by simp,HS2,HB2⟩
    case measure=>simp [intOf];omega
  ·have hall:∀ e ∈ es,e.k≠key:=fun e he=>HS.out e (by rw [List.take_of_length_le (by have:=HN.out;omega)];exact he)
   have z0:=kr.cell 0;have z1:=kr.cell 1;have f0:=kr.frozen 0;have f1:=kr.frozen 1;simp only [List.getElem?_cons_zero,List.getElem?_cons_succ] at z0 z1
   obtain ⟨W2,hW2⟩:∃ W2,W2=(wr.setCell ⟨w.heap.size,0,none⟩ (.bool false)).setCell ⟨w.heap.size,1,none⟩ (.string ⟨#[]⟩):=⟨_,rfl⟩;have o2:Onl (fun j=>j=w.heap.size) wr W2:=by rw [hW2];exact ((Onl.refl (fun j=>j=w.heap.size) wr).set (p:=w.heap.size) (.inl rfl) _).set (p:=w.heap.size) (.inl rfl) _
   have k2:Ob W2 w.heap.size 83 [.bool false,.string ⟨#[]⟩]:=by rw [hW2];exact (kr.set 0 _).set 1 _
   have HF:Hid (RgP es key w (.returned (.agg #[.bool false,.string ⟨#[]⟩])) W2):=Za ⟨_,false,rfl,.inr ⟨rfl,rfl,hall⟩,Below.onl (HB0.out.trans (HB.out.mono (by omega))) o2 (fun j q=>by omega) (Nat.le_refl _)⟩
   have HK2:=Za k2;rw [hW2] at HF HK2;clear hW2 o2 k2 kr hall HS HB;go_wp2;exact fin_rget HK2.out rfl HF.out
end Go.Proofs.YteopalkiebfioaaGreat
