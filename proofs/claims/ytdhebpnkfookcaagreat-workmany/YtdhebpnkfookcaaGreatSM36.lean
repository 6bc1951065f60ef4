import Derived.Test.YtdhebpnkfookcaaGreatSM35
set_option maxRecDepth 100000
set_option maxHeartbeats 8000000
namespace Go.Proofs.YtdhebpnkfookcaaGreat
open Go.RowKit Go.Shelf Apo
section
attribute [local go_sem] Oper.semAt_some
def RootT (T:List (List Int)) (root:Nat) (ls:List (Nat × List En)):Prop:=(root=0/\ls=[])\/(∃ l n,IsT T l root n ls)
section
variable {w:World} {s m:Nat} {O:Nat->Prop} {T:List (List Int)} {N:Nat} {it:Nat->Nat × List En} {lp:Nat} {J:Nat->(Nat->Prop)->World->Prop}
theorem leaves1_in (H:Hears w s m O T N it lp J) (hT:T.length<=16000) (hx:TxOk T) (nn:Nat) (W:World) (root Br Bl:Nat) (ls:List (Nat × List En)) (U:Nat->Prop) (ht:RootT T root ls) (hj:J 0 U W) (hr:W.cell? ⟨Br,0,none⟩=some (.int .u64 root)) (hl:W.cell? ⟨Bl,0,none⟩=some (ldV s)) (hit:∀ i p,ls[i]?=some p->it i=p) (hN:ls.length<=N) :
  CallsIn Fence.wide nn Tryz.prog 103 #[.func (.yield lp) #[] #[],.pointer (some ⟨Br,0,none⟩),.pointer (some ⟨Bl,0,none⟩)] W fun e W'=>(∃ v,e=.returned v)/\∃ U',J ls.length U' W'/\Onl U W W'/\∀ i,U' i->U i\/W.heap.size<=i:=by
 rcases ht with ⟨rfl,rfl⟩ | ⟨l,n,ht⟩
 ·have HJ:=Za hj;refine callsIn_of_wp Tryz.func103 rfl trivial ?_ rfl;simp only [Tryz.ntmps103,List.size_toArray,List.length_cons,List.length_nil,Nat.reduceAdd,Nat.reduceSub,Array.replicate_succ,Array.replicate_zero,List.push_toArray,List.append_toArray,List.nil_append,List.cons_append];gi_wp2
  refine bodyPost_ret (results_none rfl _ _ _) rfl ?_;exact ⟨⟨_,rfl⟩,U,HJ.out,Onl.refl _ _,fun i q=>.inl q⟩
 ·have hnod:=ht.nod;have hne:((root:Int) == 0)=false:=by have:=hnod.1.pos;simp;omega
  have C1:=tload_any (H.st _ _ _ hj) hT hx root hnod.1.lt;rw [hnod.1.ld] at C1;simp only at C1;have hul:=H.lt _ _ _ hj;have HC1:=Za C1;have HJ:=Za hj;have HH:=Za H;have HT:=Za ht;have HIT:=Za hit;have HN:=Za hN;have HUL:=Za hul;simp only [ldV] at HC1 hl;clear C1 hj H ht hit hN hul hnod;have hbr:=World.block_lt_of_cell? _ _ hr;have hbl:=World.block_lt_of_cell? _ _ hl;refine callsIn_of_wp Tryz.func103 rfl trivial ?_ rfl;simp only [Tryz.ntmps103,List.size_toArray,List.length_cons,List.length_nil,Nat.reduceAdd,Nat.reduceSub,Array.replicate_succ,Array.replicate_zero,List.push_toArray,List.append_toArray,List.nil_append,List.cons_append];gi_wp2_with fail
  refine ⟨trivial,fun q=>(by cases q),(callsIn_wide.2 HC1.out).mono ?_⟩;rintro e w3 ⟨x',hx'n,ok',nw',rfl,b3⟩;have s3:=b3.size;obtain ⟨w4,hw4⟩:∃ w4,w4=w3.alloc (.cells x'.cells.toArray 90):=⟨_,rfl⟩;have b4:Below w3.heap.size w3 w4:=by rw [hw4];exact (Below.refl _ w3).alloc (Nat.le_refl _) _
  have kx4:Ob w4 w3.heap.size 90 x'.cells:=by rw [hw4];exact Ob.new w3 x'.cells 90
  have b24:Below W.heap.size W w4:=b3.trans (b4.mono (by omega));have C5:=under_in HH.out hT hx l (nn - 1) w4 x' root ls 0 U (by rw [hx'n];exact HT.out) (HH.out.bel _ _ _ _ HJ.out b24) (ok'.below b4) ⟨fun y hy _ q=>by have:=nw'.1 y hy;have:=HUL.out _ q;omega,fun y hy _ q=>by have:=nw'.2 y hy;have:=HUL.out _ q;omega⟩ (fun y hy q=>by have:=nw'.1 y hy;have:=HUL.out _ q;omega) (fun i p hp=>by rw [Nat.zero_add];exact HIT.out i p hp) (by rw [Nat.zero_add];exact HN.out);rw [Nat.zero_add] at C5;have d0:=(b24.cell (p:=⟨Br,0,none⟩) hbr).trans hr;have d1:=(b24.cell (p:=⟨Bl,0,none⟩) hbl).trans hl;have x0:=kx4.cell 0;have x1:=kx4.cell 1;have x2:=kx4.cell 2;simp only [ldV] at C5;obtain ⟨⟨lv',es',ks'⟩,ea',ec',ka',kc'⟩:=x';simp only [NdA.cells,List.getElem?_cons_zero,List.getElem?_cons_succ] at x0 x1 x2 C5 hw4 ⊢;obtain ⟨ne',hne'⟩:∃ ne',ne'=es'.length:=⟨_,rfl⟩;obtain ⟨nk',hnk'⟩:∃ nk',nk'=ks'.length:=⟨_,rfl⟩;rw [<- hne'] at x1 C5 hw4 ⊢;rw [<- hnk'] at x2 C5 hw4 ⊢;have HC5:=Za C5;have HB24:=Za b24;have hw4':w4=w3.alloc (.cells #[.int .i64 lv',.slice ea' ne' ec',.slice ka' nk' kc'] 90):=hw4;clear C5 b24 kx4 b3 b4 ok' nw' hx'n hne' hnk' hw4 hr hl;rw [hw4'] at d0 d1 x0 x1 x2;gi_wp2_with fail
  rw [<- hw4'];clear hw4';refine ⟨trivial,fun q=>(by cases q),HC5.out.mono ?_⟩;rintro e w5 ⟨rfl,U5,j5,o5,u5⟩;have sb:=HB24.out.size;have HF:Hid (∃ U',J ls.length U' w5/\Onl U W w5/\∀ i,U' i->U i\/W.heap.size<=i):=Za ⟨U5,j5,(Onl.ofBelow HB24.out).trans o5,fun i q=>(u5 i q).imp (fun z=>z) (fun z=>by omega)⟩;clear j5 o5 u5 d0 d1 x0 x1 x2;gi_wp2
  go_end0
  exact ⟨⟨_,rfl⟩,HF.out⟩
end
theorem leaves_fn (s root:Nat) (W:World) :
  Calls Tryz.prog 62 #[ldV s,.int .u64 root] W fun e W'=>e=.returned (.func (.func 103) #[] #[.pointer (some ⟨W.heap.size+1,0,none⟩),.pointer (some ⟨W.heap.size,0,none⟩)])/\W'=(W.alloc (.cells #[ldV s] 84)).alloc (.cells #[.int .u64 root] 27):=by
 simp only [ldV];go_enter Tryz.func62,Tryz.ntmps62
 go_wp2;go_ret
 exact ⟨rfl,rfl⟩
theorem enter_leaves1:∀ args w,(callFunc 103 args).run Tryz.prog w=.ok (.enter 103 args) w:=fun _ _=>by kernel_rfl
end
section
attribute [local go_sem] Oper.semAt_some
attribute [local go_sem ↓] app_sem
def esK (it:Nat->Nat × List En) (k:Nat):List En:=(List.range k).flatMap (fun i=>(it i).2)
theorem esK_succ (it:Nat->Nat × List En) (k:Nat):esK it (k+1)=esK it k++(it k).2:=by simp [esK,List.range_succ]
theorem ecells_app (a b:List En):Zo (a++b)=Zo a++Zo b:=by simp [Zo]
theorem app_Es {O:Nat->Prop} {W:World} {v:Value} {l es:List En} (h:Row O W 43 2 v l.length (Zo l)) (hn:l.length+es.length<=1000000) {y:Addr} {c:Nat} (hr:RdEn W (some y) es) :
  ∃ v' w',(Builtin.append_ #[22,22] 22 #[v,.slice (some y) es.length c]).run Tryz.prog W=.ok v' w'/\Row (fun g=>O g\/g=W.heap.size) w' 43 2 v' (l++es).length (Zo (l++es))/\Onl (fun g=>v.ownBlock=some g) W w'/\∀ g,v'.ownBlock=some g->v.ownBlock=some g\/g=W.heap.size:=by
 obtain ⟨i0,hi,hz0,hz1,hz2⟩:=info_parts info_En;obtain ⟨v5,w5,RR,r5,g5,_,ho5⟩:=run_append_own_at (P:=Tryz.prog) W 0 22 22 43 i0 _ 2 32 Tryz.underlying22 hi hz0 hz1 hz2 rfl (by decide) v l.length (Zo l) h.1 y es.length c (Zo es) (ecells_len es) (RdEn.news hr) (by intro u hu;simp only [Zo,List.mem_flatMap] at hu;obtain ⟨e,_,hu⟩:=hu;simp at hu;rcases hu with rfl | rfl <;> rfl) (by unfold maxLen;omega) (by omega) (Nat.zero_le _);refine ⟨v5,w5,RR,⟨?_,fun g hg=>?_⟩,(Onl.refl _ W).grown g5 (fun k hk=>.inl hk),fun g hg=>?_⟩
 ·rw [List.length_append,ecells_app];exact r5
 ·rcases ho5 with q | q
  ·rw [q] at hg;exact .inl (h.2 g hg)
  ·rw [q] at hg;cases hg;exact .inr rfl
 ·rcases ho5 with q | q
  ·rw [q] at hg;exact .inl hg
  ·rw [q] at hg;cases hg;exact .inr rfl
theorem put_onl {A:World} {l:Nat} (o:Obj):Onl (fun i=>i=l) A (A.putObj l o):=(Onl.refl _ A).grown (grownBy_putObj' A l o) (fun k e=>.inl (by cases e;rfl))
theorem onl_back {U:Nat->Prop} {l:Nat} {A B:World} (h:Onl (fun i=>U i\/i=l) A B) (hb:B.heap[l]?=A.heap[l]?):Onl U A B :=
 ⟨h.os,h.tape,h.output,h.size,fun i hi hu=>by
  by_cases q:i=l
  ·rw [q];exact hb
  ·exact h.block i hi (fun z=>z.elim hu q)⟩
theorem cell_not {A:World} {a:Addr} {v:Value} {d:Nat} {o:Obj} (h:A.cell? a=some v) (hl:A.heap[d]?=some o) (ho:o.isCells=false):a.block≠d:=by
 intro q;obtain ⟨o2,h1,h2⟩:=cells_of_cell h;rw [q,hl] at h1;cases h1
 rw [ho] at h2;cases h2
theorem Row.noLoop {O:Nat->Prop} {A:World} {e:TypeId} {size n d:Nat} {v:Value} {xs:List Value} {o:Obj} (h:Row O A e size v n xs) (hl:A.heap[d]?=some o) (ho:o.isCells=false):v.ownBlock≠some d:=by
 intro q;rcases h.1.2 with ⟨rfl,_⟩ | ⟨g,cap,cur,rfl,_,hc,_⟩
 ·cases q
 ·simp only [Value.ownBlock,Option.some.injEq] at q;subst q;rw [hc] at hl;cases hl
  cases ho
structure LsJ (W W5:World) (r:Loop) (it:Nat->Nat × List En) (k:Nat) (U:Nat->Prop) (A:World):Prop where
 lp:LpAt W5.heap.size r A
 bel:Below W.heap.size W A
 k0:Ob A W.heap.size 22 [.slice none 0 0]
 k1:Ob A (W.heap.size+1) 28 [.int .i64 0]
 row:∃ v,Ob A (W.heap.size+2) 22 [v]/\Row (fun g=>W5.heap.size+2<=g) A 43 2 v (esK it k).length (Zo (esK it k))/\∀ i,U i↔(i=W.heap.size+2\/v.ownBlock=some i)
def LsR (W W5:World) (r:Loop) (it:Nat->Nat × List En) (k:Nat) (U:Nat->Prop) (A A':World):Prop:=∃ U',LsJ W W5 r it k U' A'/\Onl U A A'/\∀ i,U' i->U i\/A.heap.size<=i
def LsP (W:World) (es:List En) (e:Ending) (W':World):Prop:=∃ v,e=.returned (.tuple #[v,.int .i64 0])/\Row (fun g=>W.heap.size<=g) W' 43 2 v es.length (Zo es)/\Below W.heap.size W W'
theorem fin_list {W:World} {A0 A1:Nat} {a:Option Addr} {n c:Nat} {e:Int} {tmps:Array Value} (k0:Ob W A0 22 [.slice a n c]) (k1:Ob W A1 28 [.int .i64 e]) (h6:tmps.getD 4 undef=.pointer (some ⟨A0,0,none⟩)) (h7:tmps.getD 5 undef=.pointer (some ⟨A1,0,none⟩)) :
  (results Tryz.f35 tmps).run Tryz.prog W=.ok (.tuple #[.slice a n c,.int .i64 e]) W:=by
 have h6':tmps[4]?.getD undef=.pointer (some ⟨A0,0,none⟩):=by simpa using h6
 have h7':tmps[5]?.getD undef=.pointer (some ⟨A1,0,none⟩):=by simpa using h7
 have c0:=k0.cell 0;have c1:=k1.cell 0;simp only [List.getElem?_cons_zero] at c0 c1;simp [results,Tryz.results35,go_sem,h6',h7',c0,c1]
theorem tlist_any {w W:World} {s m:Nat} {O:Nat->Prop} {T:List (List Int)} (h:TSw w W s O T m) (hT:T.length<=16000) (hx:TxOk T) (root:Nat) (ls:List (Nat × List En)) (ht:RootT T root ls) (hpos:∀ p ∈ ls,0 < p.2.length) (hsz:(ls.flatMap (fun p=>p.2)).length<=1000) :
  Calls Tryz.prog 35 #[.pointer (some ⟨s,0,none⟩),.int .u64 root] W (LsP W (ls.flatMap (fun p=>p.2))):=by
 refine (callsIn_wide (n:=1)).1 ?_;obtain ⟨W5,hW5⟩:∃ W5,W5=((((W.alloc (.cells #[.slice none 0 0] 22)).alloc (.cells #[.int .i64 0] 28)).alloc (.cells #[.slice none 0 0] 22)).alloc (.cells #[ldV s] 84)).alloc (.cells #[.int .u64 root] 27):=⟨_,rfl⟩;have s5:W5.heap.size=W.heap.size+5:=by rw [hW5];simp
 have HC1:=Za (leaves_fn s root);have HH:=Za h;refine callsIn_of_wp_marks Tryz.func35 rfl trivial ?_ rfl;simp only [Tryz.ntmps35,List.size_toArray,List.length_cons,List.length_nil,Nat.reduceAdd,Nat.reduceSub,Array.replicate_succ,Array.replicate_zero,List.push_toArray,List.append_toArray,List.nil_append,List.cons_append];gi_wp2_with fail
 refine ⟨trivial,(callsIn_wide.2 (HC1.out _)).mono ?_⟩;rintro e w1 ⟨rfl,rfl⟩;gi_wp2
 rw [<- hW5];obtain ⟨it,hitd⟩:∃ it:Nat->Nat × List En,it=fun k=>ls.getD k (0,[]):=⟨_,rfl⟩
 have hit:∀ i p,ls[i]?=some p->it i=p:=fun i p hp=>by rw [hitd];simp [List.getD_eq_getElem?_getD,hp]
 clear hitd;have b5:Below W.heap.size W W5:=by rw [hW5];exact (((((Below.refl _ W).alloc (Nat.le_refl _) _).alloc (by simp) _).alloc (by simp;omega) _).alloc (by simp;omega) _).alloc (by simp;omega) _
 have k0:Ob W5 W.heap.size 22 [.slice none 0 0]:=by rw [hW5];exact ((((Ob.new W [.slice none 0 0] 22).alloc _).alloc _).alloc _).alloc _
 have k1:Ob W5 (W.heap.size+1) 28 [.int .i64 0]:=by
  have:=Ob.new (W.alloc (.cells #[.slice none 0 0] 22)) [.int .i64 0] 28;rw [World.size_alloc] at this;rw [hW5];exact ((this.alloc _).alloc _).alloc _
 have k2:Ob W5 (W.heap.size+2) 22 [.slice none 0 0]:=by
  have:=Ob.new ((W.alloc (.cells #[.slice none 0 0] 22)).alloc (.cells #[.int .i64 0] 28)) [.slice none 0 0] 22;rw [World.size_alloc,World.size_alloc] at this;rw [hW5];exact (this.alloc _).alloc _
 have k3:Ob W5 (W.heap.size+3) 84 [ldV s]:=by
  have:=Ob.new (((W.alloc (.cells #[.slice none 0 0] 22)).alloc (.cells #[.int .i64 0] 28)).alloc (.cells #[.slice none 0 0] 22)) [ldV s] 84;rw [World.size_alloc,World.size_alloc,World.size_alloc] at this;rw [hW5];exact this.alloc _
 have k4:Ob W5 (W.heap.size+4) 27 [.int .u64 root]:=by
  have:=Ob.new ((((W.alloc (.cells #[.slice none 0 0] 22)).alloc (.cells #[.int .i64 0] 28)).alloc (.cells #[.slice none 0 0] 22)).alloc (.cells #[ldV s] 84)) [.int .u64 root] 27;rw [World.size_alloc,World.size_alloc,World.size_alloc,World.size_alloc] at this;rw [hW5];exact this
 clear hW5
 have HPOS:Hid (∀ k pid es,k < ls.length->it k=(pid,es)->0 < es.length):=Za (fun k pid es hk e=>by
  have:=hit k _ (List.getElem?_eq_getElem hk);rw [e] at this;have h2:=hpos _ (List.getElem_mem hk);rw [<- this] at h2;exact h2)
 have hall:esK it ls.length=ls.flatMap (fun p=>p.2):=by
  have:(List.range ls.length).map it=ls:=List.ext_getElem? (fun i=>by
   rw [List.getElem?_map];by_cases q:i < ls.length
   ·rw [List.getElem?_range q,List.getElem?_eq_getElem q];simp only [Option.map_some];rw [hit i _ (List.getElem?_eq_getElem q)]
   ·rw [List.getElem?_eq_none (by simp;omega),List.getElem?_eq_none (by omega)];rfl)
  unfold esK;conv=>rhs;rw [<- this]
  rw [List.flatMap_map]
 have HLEN:Hid (∀ k,k<=ls.length->(esK it k).length<=1000):=Za (fun k hk=>by
  have h1:(esK it k).length<=(esK it ls.length).length:=by
   have hm:∀ d k,(esK it k).length<=(esK it (k+d)).length:=fun d=>by
    induction d with
    | zero=>exact fun k=>Nat.le_refl _
    | succ d ih=>exact fun k=>Nat.le_trans (ih k) (by rw [<- Nat.add_assoc,esK_succ];simp)
   have:=hm (ls.length - k) k;rw [show k+(ls.length - k)=ls.length by omega] at this;exact this
  rw [hall] at h1;omega)
 refine range_hear (gf:=103) (lb:=#[.pointer (some ⟨W.heap.size+4,0,none⟩),.pointer (some ⟨W.heap.size+3,0,none⟩)]) rfl enter_leaves1 (fun W2=>Below W.heap.size W W2/\Ob W2 W.heap.size 22 [.slice none 0 0]/\Ob W2 (W.heap.size+1) 28 [.int .i64 0]/\∃ v,Ob W2 (W.heap.size+2) 22 [v]/\Row (fun g=>W5.heap.size+2<=g) W2 43 2 v (esK it ls.length).length (Zo (esK it ls.length))) ?call ?done
 case call =>
  intro fn r W1 hr lp1 b1 s1
  have H:Hears w s m O T ls.length it (W5.heap.size+1) (LsJ W W5 r it):=by
   refine ⟨fun k U A B hj hb=>?_,fun k U A hj=>?_,fun k U A hj=>HH.out.below hj.bel,fun k U A ea ec hj hk okl off nn=>?_⟩
   ·obtain ⟨v,v1,v2,v3⟩:=hj.row;exact ⟨hj.lp.below hb,hj.bel.trans (hb.mono hj.bel.size),hj.k0.old hb,hj.k1.old hb,v,v1.old hb,v2.onl (F:=fun _=>False) (Onl.ofBelow hb) (fun _ _ q=>q),v3⟩
   ·obtain ⟨v,v1,v2,v3⟩:=hj.row;intro i q;rcases (v3 i).1 q with rfl | q
    ·exact v1.lt
    ·exact v2.lt i q
   ·obtain ⟨v,v1,v2,v3⟩:=hj.row;obtain ⟨⟨pid,es⟩,hpe⟩:∃ p,p=it k:=⟨_,rfl⟩;have hnx:=esK_succ it k;rw [<- hpe] at okl hnx ⊢;simp only at okl hnx ⊢;have hp:0 < es.length:=HPOS.out k pid es hk hpe.symm
    have hlen:(esK it k).length+es.length<=1000000:=by
     have:=HLEN.out (k+1) (by omega);rw [hnx,List.length_append] at this;omega
    obtain ⟨g,of,hea,hu1,hu2⟩:=okl.rd 0 _ (List.getElem?_eq_getElem hp);clear hu1 hu2;subst hea;have ha:=congrArg Loop.assign hr;have hb:=congrArg Loop.body hr;have hpa:=congrArg Loop.params hr;have htm:=congrArg Loop.tmps hr;show YieldAt Fence.wide nn Tryz.prog (W5.heap.size+1) _ A (fun e A'=>e=.returned (.bool true)/\LsR W W5 r it (k+1) U A A')
    obtain ⟨rb,hrb⟩:∃ rb,rb={ r with state:=.busy }:=⟨_,rfl⟩;refine yield_hear hrb (by rw [hr];rfl) (by rw [hr];rfl) ha hb hpa htm hj.lp rfl ?_;simp only [recL];obtain ⟨ne,hne⟩:∃ ne,ne=es.length:=⟨_,rfl⟩;have lp:=hj.lp;have hlA:=(Array.getElem?_eq_some_iff.1 lp.1).1;obtain ⟨A1,hA1⟩:∃ A1,A1=A.alloc (.cells #[.int .u64 pid,.slice (some ⟨g,of,none⟩) ne ec] 133):=⟨_,rfl⟩;have b1:Below A.heap.size A A1:=by rw [hA1];exact (Below.refl _ A).alloc (Nat.le_refl _) _
    have sA1:A1.heap.size=A.heap.size+1:=by rw [hA1];simp
    have kx1:Ob A1 A.heap.size 133 [.int .u64 pid,.slice (some ⟨g,of,none⟩) ne ec]:=by rw [hA1];exact Ob.new A [.int .u64 pid,.slice (some ⟨g,of,none⟩) ne ec] 133
    have lp1:=lp.below b1;obtain ⟨A2,hA2⟩:∃ A2,A2=A1.putObj (W5.heap.size+1) (.loop rb):=⟨_,rfl⟩;have o2:Onl (fun i=>i=W5.heap.size+1) A1 A2:=by rw [hA2];exact put_onl _
    have hlb2:A2.heap[W5.heap.size+1]?=some (.loop rb):=by rw [hA2];exact World.putObj_heap_same (by omega)
    have sA2:A1.heap.size<=A2.heap.size:=o2.size;have kx2:=kx1.onl o2 (by omega);have kv2:=(v1.old b1).onl o2 (by omega);have row1:=v2.onl (F:=fun _=>False) (Onl.ofBelow b1) (fun _ _ q=>q);have row2:=row1.onl o2 (fun i hi q=>Row.noLoop row1 lp1.1 rfl (by rw [hi,q]));have rd1:=okl.rd.below b1
    have rd2:=RdEn.off rd1 o2 (fun y hy _ q=>by
     cases hy
     obtain ⟨g2,of2,h1,h2,_⟩:=rd1 0 _ (List.getElem?_eq_getElem hp);injection h1 with h1
     injection h1 with h1 _ _
     exact cell_not h2 lp1.1 rfl (by rw [<- h1];exact q))
    obtain ⟨v8,w8,RR,r8,o8,ow8⟩:=app_Es (c:=ec) row2 hlen rd2;obtain ⟨va,vc,hva,_⟩:=row2.form;obtain ⟨va8,vc8,hva8,_⟩:=r8.form;obtain ⟨nk,hnk⟩:∃ nk,nk=(esK it k).length:=⟨_,rfl⟩;obtain ⟨n8,hn8⟩:∃ n8,n8=(esK it k++es).length:=⟨_,rfl⟩;rw [<- hnk] at hva;rw [<- hn8] at hva8;have hB2:v.ownBlock≠some (W.heap.size+2):=Row.apartOb row2 kv2 (by decide);have kv8:=kv2.onl o8 hB2;obtain ⟨w9,hw9⟩:∃ w9,w9=w8.setCell ⟨W.heap.size+2,0,none⟩ v8:=⟨_,rfl⟩;have o9:Onl (fun i=>i=W.heap.size+2) w8 w9:=by rw [hw9];exact (Onl.refl (fun i=>i=W.heap.size+2) w8).set (p:=W.heap.size+2) (.inl rfl) _
    have kv9:Ob w9 (W.heap.size+2) 22 [v8]:=by rw [hw9];exact kv8.set 0 _
    have hlb8:w8.heap[W5.heap.size+1]?=some (.loop rb):=(o8.block _ (by omega) (fun q=>Row.noLoop row2 hlb2 rfl q)).trans hlb2;have hlb9:w9.heap[W5.heap.size+1]?=some (.loop rb):=(o9.block _ (Array.getElem?_eq_some_iff.1 hlb8).1 (by omega)).trans hlb8;have row9:=r8.onl o9 (fun i hi q=>Row.apartOb r8 kv8 (by decide) (by rw [hi,q]));have o10:Onl (fun i=>i=W5.heap.size+1) w9 (w9.putObj (W5.heap.size+1) (.loop r)):=put_onl _;have kv10:=kv9.onl o10 (by omega);have row10:=row9.onl o10 (fun i hi q=>Row.noLoop row9 hlb9 rfl (by rw [hi,q]));have hl10:(w9.putObj (W5.heap.size+1) (.loop r)).heap[W5.heap.size+1]?=some (.loop r):=World.putObj_heap_same (Array.getElem?_eq_some_iff.1 hlb9).1;have s8:=o8.size;have s9:=o9.size;have s10:=o10.size
    have OA:Onl (fun i=>U i\/i=W5.heap.size+1) A (w9.putObj (W5.heap.size+1) (.loop r)) :=
     ((((Onl.ofBelow (O:=fun i=>U i\/i=W5.heap.size+1) b1).trans (o2.mono (fun i q=>.inr q))).trans (o8.mono (fun i q=>.inl ((v3 i).2 (.inr q))))).trans (o9.mono (fun i q=>.inl ((v3 i).2 (.inl q))))).trans (o10.mono (fun i q=>.inr q))
    have OB:Onl U A (w9.putObj (W5.heap.size+1) (.loop r)):=onl_back OA (hl10.trans lp.1.symm)
    have hUlo:∀ i,U i->W.heap.size<=i:=fun i q=>by
     rcases (v3 i).1 q with z | z
     ·omega
     ·have:=v2.2 i z;omega
    have HFIN:Hid (LsR W W5 r it (k+1) U A (w9.putObj (W5.heap.size+1) (.loop r))):=by
     refine Za ⟨fun i=>i=W.heap.size+2\/v8.ownBlock=some i,⟨?_,?_,?_,?_,v8,kv10,?_,fun i=>Iff.rfl⟩,OB,?_⟩
     ·refine ⟨hl10,(OB.block _ (Array.getElem?_eq_some_iff.1 lp.2).1 (fun q=>?_)).trans lp.2⟩;rcases (v3 _).1 q with z | z
      ·omega
      ·exact Row.noLoop v2 lp.2 rfl z
     ·exact Below.onl hj.bel OB hUlo (Nat.le_refl _)
     ·refine hj.k0.onl OB (fun q=>?_);rcases (v3 _).1 q with z | z
      ·omega
      ·exact Row.apartOb v2 hj.k0 (by decide) z
     ·refine hj.k1.onl OB (fun q=>?_);rcases (v3 _).1 q with z | z
      ·omega
      ·exact Row.apartOb v2 hj.k1 (by decide) z
     ·rw [hnx];refine row10.mono (fun i q=>?_);rcases q with q | q
      ·exact q
      ·omega
     ·rintro i (q | q)
      ·exact .inl ((v3 i).2 (.inl q))
      ·rcases ow8 i q with z | z
       ·exact .inl ((v3 i).2 (.inr z))
       ·exact .inr (by omega)
    have c0:=kx2.cell 0;have c1:=kx2.cell 1;have c2:=kv2.cell 0;have f8:=kv8.frozen 0;have c8:=kv8.cell 0;simp only [List.getElem?_cons_zero,List.getElem?_cons_succ] at c0 c1 c2 c8;rw [hva] at RR c2 c8;rw [hva8] at RR hw9;rw [<- hne] at RR;obtain ⟨x1,x2,x3⟩:=Zi RR;have HLB9:=Za hlb9;rw [hw9] at HFIN HLB9;have HLP1:=Za lp1;rw [<- hne];clear hr ha hb hpa htm hrb hne hj lp lp1 b1 kx1 kx2 kv2 kv8 kv9 kv10 row1 row2 row9 row10 r8 rd1 rd2 o2 o8 o9 o10 OA OB hlb2 hlb8 hlb9 hl10 RR hw9 hva hva8 hnk hn8 v1 v2 v3 okl off hnx hpe hp hlen ow8 hB2 hUlo s5;gi_wp2
    rw [<- hA1,<- hA2];refine ⟨HLP1.out,?_⟩;clear hA1 hA2;gi_wp2
    exact ⟨HLB9.out,HFIN.out⟩
  have hj0:LsJ W W5 r it 0 (fun i=>i=W.heap.size+2) W1:=⟨lp1,b5.trans (b1.mono b5.size),k0.old b1,k1.old b1,.slice none 0 0,k2.old b1,by simpa [esK,Zo] using Row.nil _ W1 43 2,fun i=>⟨fun q=>.inl q,fun q=>q.elim id (fun z=>by cases z)⟩⟩;have q3:=(k3.old b1).cell 0;have q4:=(k4.old b1).cell 0;simp only [List.getElem?_cons_zero] at q3 q4;refine (leaves1_in H hT hx _ W1 root (W.heap.size+4) (W.heap.size+3) ls _ ht hj0 q4 q3 hit (Nat.le_refl _)).mono ?_;rintro e W2 ⟨e1,U',j2,o2,u2⟩;obtain ⟨v,v1,v2,v3⟩:=j2.row;exact ⟨e1,j2.lp,j2.bel,j2.k0,j2.k1,v,v1,v2⟩
 case done =>
  rintro W2 o ⟨d1,d2,d3,v,d4,d5⟩ dd dl;rw [hall] at d5;obtain ⟨va,vc,hva,_⟩:=d5.form;obtain ⟨W3,hW3⟩:∃ W3,W3=W2.putObj (W5.heap.size+1) o:=⟨_,rfl⟩;have o3:Onl (fun i=>i=W5.heap.size+1) W2 W3:=by rw [hW3];exact put_onl _
  have e0:=d2.onl o3 (by omega);have e1:=d3.onl o3 (by omega);have e2:=d4.onl o3 (by omega);have e5:=d5.onl o3 (fun g hg q=>by have:=d5.2 g hg;omega);have ed:W3.heap[W5.heap.size]?=some (.deferred (some [])):=(o3.block _ (by omega) (by omega)).trans dd;have eb:Below W.heap.size W W3:=Below.onl d1 o3 (fun i q=>by omega) (Nat.le_refl _);obtain ⟨n,hn⟩:∃ n,n=(ls.flatMap (fun p=>p.2)).length:=⟨_,rfl⟩;rw [<- hn] at hva;subst hva;obtain ⟨W4,hW4⟩:∃ W4,W4=(W3.setCell ⟨W.heap.size,0,none⟩ (.slice va n vc)).setCell ⟨W.heap.size+1,0,none⟩ (.int .i64 0):=⟨_,rfl⟩;have o4:Onl (fun i=>i=W.heap.size\/i=W.heap.size+1) W3 W4:=by rw [hW4];exact ((Onl.refl (fun i=>i=W.heap.size\/i=W.heap.size+1) W3).set (p:=W.heap.size) (.inl (.inl rfl)) _).set (p:=W.heap.size+1) (.inl (.inr rfl)) _
  have g0:Ob W4 W.heap.size 22 [.slice va n vc]:=by rw [hW4];exact (e0.set 0 _).set_other (by omega) _
  have g1:Ob W4 (W.heap.size+1) 28 [.int .i64 0]:=by rw [hW4];exact (e1.set_other (by omega) _).set 0 _
  have e6:=e5.onl o4 (fun g hg q=>by have:=e5.2 g hg;omega);have ed4:W4.heap[W5.heap.size]?=some (.deferred (some [])):=(o4.block _ (Array.getElem?_eq_some_iff.1 ed).1 (by omega)).trans ed;have o5:Onl (fun i=>i=W5.heap.size) W4 (W4.putObj W5.heap.size (.deferred none)):=put_onl _;have g0':=g0.onl o5 (by omega);have g1':=g1.onl o5 (by omega);have e7:=e6.onl o5 (fun g hg q=>by have:=e6.2 g hg;omega)
  have HF:Hid (LsP W (ls.flatMap (fun p=>p.2)) (.returned (.tuple #[.slice va n vc,.int .i64 0])) (W4.putObj W5.heap.size (.deferred none))):=by
   refine Za ⟨_,rfl,e7.mono (fun i q=>by omega),Below.onl (Below.onl eb o4 (fun i q=>by omega) (Nat.le_refl _)) o5 (fun i q=>by omega) (Nat.le_refl _)⟩
  have c0:=e0.cell 0;have c1:=e1.cell 0;have c2:=e2.cell 0;have f0:=e0.frozen 0;have f1:=e1.frozen 0;simp only [List.getElem?_cons_zero] at c0 c1 c2;have c1':=((e1.set_other (i:=0) (show W.heap.size+1≠W.heap.size by omega) (.slice va n vc))).cell 0;simp only [List.getElem?_cons_zero] at c1';have HG:=Za (And.intro g0' g1');have HD4:=Za ed4;rw [<- hW3];clear hW3 d1 d2 d3 d4 d5 dd dl o3 e0 e1 e2 e5 ed eb o4 g0 g1 e6 ed4 o5 g0' g1' e7 hn k0 k1 k2 k3 k4 b5;rw [hW4] at HF HG HD4;clear hW4;obtain ⟨D,hD⟩:∃ D,D=W5.heap.size:=⟨_,rfl⟩;rw [<- hD] at HF HG HD4 ⊢;clear hD s5;gi_wp2
  refine ⟨by simp,.inl ⟨_,_,rfl,run_takeDeferred HD4.out,?_⟩⟩;exact ⟨_,fin_list HG.out.1 HG.out.2 rfl rfl,HF.out⟩
end
end Go.Proofs.YtdhebpnkfookcaaGreat
