import Derived.Test.YtdhebpnkfookcaaGreatRM39
set_option maxRecDepth 100000
set_option maxHeartbeats 4000000
namespace Apo
open Go Go.RowKit
def codeOf:Exit->Option Code
 | .ret=>some .ret
 | .exit id=>some (.exit id)
 | _=>none
def TwoP (d:Nat) (r rb:Loop) (rd:Code->Loop) (R Rx:World->Prop) (e:Exit) (_:Act) (w3:World):Prop:=(e=.normal/\w3.heap[d+1]?=some (.loop rb)/\R (w3.putObj (d+1) (.loop r)))\/(∃ c,codeOf e=some c/\w3.heap[d+1]?=some (.loop rb)/\Rx (w3.putObj (d+1) (.loop (rd c))))
theorem yield_two {P:Program} {nn d:Nat} {r rb:Loop} {rd:Code->Loop} {asg bdy:Code} {ps:Array Tmp} {tm:Array Value} {args:Array Value} {A:World} {R:World->Prop} {Rx:World->Prop} (hrb:rb={ r with state:=.busy }) (hrd:∀ c,rd c={ r with state:=.done,pending:=some c }) (hr1:r.state=.ready) (hr2:r.pending=none) (ha:r.assign=asg) (hb:r.body=bdy) (hpa:r.params=ps) (htm:r.tmps=tm) (hl:LpAt d r A) (hs:args.size=ps.size)
  (h:asg.wpIn (Fence.wide.inRound (d+1)) nn P (Exit.then (fun a1 w1=>LpAt d r w1/\bdy.wpIn (Fence.wide.inRound (d+1)) nn P (TwoP d r rb rd R Rx) a1 (w1.putObj (d+1) (.loop rb))) (fun _ _ _=>False))
    { tmps:=(ps.zip args).foldl (fun tmps (t,a)=>tmps.setIfInBounds t a) tm,defers:=[] } A) :
  YieldAt Fence.wide nn P (d+1) args A fun e A'=>(e=.returned (.bool true)/\R A')\/(e=.returned (.bool false)/\Rx A'):=by
 subst hrb ha hb hpa htm;refine ⟨r.fn,_,r.assign,r.body,run_yield hl.1 hs,roundIn_of_wpIn trivial (wpIn_mono h ?_)⟩;intro e a1 w1 q;cases e with
 | normal =>
  obtain ⟨q1,q2⟩:=q;refine ⟨_,run_beginRound q1.1 hr1,wpIn_mono q2 ?_⟩;rintro e2 a2 w3 (⟨rfl,z1,z2⟩ | ⟨c,zc,z1,z2⟩)
  ·refine ⟨_,_,run_endRound none z1,.inl ⟨rfl,?_⟩⟩
   have:({ { r with state:=.busy } with state:=if (none:Option Code).isNone then .ready else .done,pending:=none }:Loop)=r:=by
    obtain ⟨st,pe,fn,tm,pa,asg,bo,de⟩:=r;simp only at hr1 hr2;subst hr1 hr2;rfl
   rw [this];exact z2
  ·rw [hrd] at z2;cases e2 with
   | ret =>
    cases zc
    exact ⟨_,_,run_endRound (some .ret) z1,.inr ⟨rfl,z2⟩⟩
   | exit id =>
    cases zc
    exact ⟨_,_,run_endRound (some (.exit id)) z1,.inr ⟨rfl,z2⟩⟩
   | normal=>cases zc
   | goto t=>cases zc
   | panic ch=>cases zc
   | outgrown=>cases zc
 | exit id=>exact q.elim
 | goto t=>exact q.elim
 | ret=>exact q.elim
 | panic ch=>exact q.elim
 | outgrown=>exact q.elim
theorem range_two {P:Program} {n:Nat} {g:Operand} {ps:Array Tmp} {assign body:Code} {Q:Exit->Act->World->Prop} {a:Act} {w:World} {gf:Nat} {lb:Array Value} (hg:a.eval g=.func (.func gf) #[] lb) (eg:∀ args w,(callFunc gf args).run P w=.ok (.enter gf args) w) (R:World->Prop) (Rx:Code->World->Prop)
  (hcall:∀ (fn:FuncId) (r:Loop) (rd:Code->Loop) (W1:World),r=recL fn a.tmps ps assign body w.heap.size->(∀ c,rd c={ r with state:=.done,pending:=some c })->LpAt w.heap.size r W1->Below w.heap.size w W1->W1.heap.size=w.heap.size+2->CallsIn Fence.wide (n - 1) P gf (#[.func (.yield (w.heap.size+1)) #[] #[]]++lb) W1 fun e W2=>(∃ v,e=.returned v)/\((LpAt w.heap.size r W2/\R W2)\/(∃ c,LpAt w.heap.size (rd c) W2/\Rx c W2)))
  (hdone:∀ (W2:World) (o:Obj),R W2->W2.heap[w.heap.size]?=some (.deferred (some []))->w.heap.size+1 < W2.heap.size->Q .normal { a with defers:={ target:=.collected w.heap.size,args:=#[] } :: a.defers } (W2.putObj (w.heap.size+1) o))
  (hstop:∀ (c:Code) (W2:World) (o:Obj),Rx c W2->W2.heap[w.heap.size]?=some (.deferred (some []))->w.heap.size+1 < W2.heap.size->c.wpIn Fence.wide n P Q { a with defers:={ target:=.collected w.heap.size,args:=#[] } :: a.defers } (W2.putObj (w.heap.size+1) o)) :
  (Code.rangeFunc g ps assign body).wpIn Fence.wide n P Q a w:=by
 refine wpIn_rangeFunc (fun fn hfn=>?_);obtain ⟨r,hr⟩:∃ r,r=recL fn a.tmps ps assign body w.heap.size:=⟨_,rfl⟩;obtain ⟨rd,hrd⟩:∃ rd:Code->Loop,∀ c,rd c={ r with state:=.done,pending:=some c }:=⟨_,fun _=>rfl⟩;obtain ⟨W1,hW1⟩:∃ W1,W1=(w.alloc (.deferred (some []))).alloc (.loop r):=⟨_,rfl⟩
 have h1:W1.heap[w.heap.size+1]?=some (.loop r):=by
  rw [hW1];have:=World.alloc_heap_new (w.alloc (.deferred (some []))) (.loop r);rwa [World.size_alloc] at this
 have h2:W1.heap[w.heap.size]?=some (.deferred (some [])):=by
  rw [hW1];exact (Below.heap_alloc _ _ _ (by simp)).trans (World.alloc_heap_new w _)
 have b1:Below w.heap.size w W1:=by rw [hW1];exact ((Below.refl _ w).alloc (Nat.le_refl _) _).alloc (by simp) _
 have s1:W1.heap.size=w.heap.size+2:=by rw [hW1];simp
 refine ⟨w.heap.size+1,[{ target:=.collected w.heap.size,args:=#[] }],W1,{ target:=.fn (.func gf) lb,args:=#[.func (.yield (w.heap.size+1)) #[] #[]] },W1,gf,#[.func (.yield (w.heap.size+1)) #[] #[]]++lb,W1,?_,?_,fun f' _=>trivial,?_,fun q=>(by cases q),?_⟩
 ·rw [hW1,hr];exact run_enterLoop_outer _ _ _ _ _
 ·simp only [resolve,hg];simp [go_sem]
 ·simp [invoke,go_sem,eg]
 ·refine (hcall fn r rd W1 hr hrd ⟨h1,h2⟩ b1 s1).mono ?_;rintro e W2 ⟨⟨v,rfl⟩,⟨l2,r2⟩ | ⟨c,l2,r2⟩⟩
  ·refine ⟨none,_,(by have:=run_endLoop (P:=P) l2.1 (by rw [hr];simp [recL]);rw [show r.pending=none by rw [hr];rfl] at this;exact this),?_⟩;exact hdone W2 _ r2 l2.2 (Array.getElem?_eq_some_iff.1 l2.1).1
  ·refine ⟨some c,_,(by have:=run_endLoop (P:=P) l2.1 (by rw [hrd];simp);rw [show (rd c).pending=some c by rw [hrd]] at this;exact this),?_⟩;exact hstop c W2 _ r2 l2.2 (Array.getElem?_eq_some_iff.1 l2.1).1
end Apo
namespace Go.Proofs.YtdhebpnkfookcaaGreat
open Go.RowKit Go.Shelf Apo
section
attribute [local go_sem] Oper.semAt_some
structure TellsE (N:Nat) (it:Nat->En) (lp B:Nat) (X:Nat->Prop) (J Jx:Nat->(Nat->Prop)->World->Prop):Prop where
 bel:∀ k U A B,J k U A->Below A.heap.size A B->J k U B
 lt:∀ k U A,J k U A->∀ i,U i->i < A.heap.size
 put:∀ k U A l (o o':Obj),J k U A->B<=l->A.heap[l]?=some o->o.isCells=false->J k U (A.putObj l o')
 putx:∀ k U A l (o o':Obj),Jx k U A->B<=l->A.heap[l]?=some o->o.isCells=false->Jx k U (A.putObj l o')
 yield:∀ k U A,J k U A->k < N->∀ nn,YieldAt Fence.wide nn Tryz.prog lp #[.string (it k).k,.string (it k).v] A fun e A' =>
  (e=.returned (.bool true)/\∃ U',J (k+1) U' A'/\Onl U A A'/\∀ i,U' i->U i\/A.heap.size<=i)\/(e=.returned (.bool false)/\∃ U',Jx (k+1) U' A'/\Onl (fun i=>U i\/X i) A A'/\∀ i,U' i->U i\/A.heap.size<=i)
def Told2 (n:Nat) (X:Nat->Prop) (J Jx:Nat->(Nat->Prop)->World->Prop) (U:Nat->Prop) (W:World) (e:Ending) (W':World):Prop:=(∃ v,e=.returned v)/\((∃ U',J n U' W'/\Onl U W W'/\∀ i,U' i->U i\/W.heap.size<=i)\/(∃ k U',k<=n/\Jx k U' W'/\Onl (fun i=>U i\/X i) W W'/\∀ i,U' i->U i\/W.heap.size<=i))
theorem all1_in {it:Nat->En} {lp B:Nat} {X:Nat->Prop} {J Jx:Nat->(Nat->Prop)->World->Prop} (es:List En) (hlen:es.length<=1000000) (H:TellsE es.length it lp B X J Jx) (hit:∀ (i:Nat) e,es[i]?=some e->it i=e) (nn:Nat) (W:World) (Bs:Nat) (v:Value) (U:Nat->Prop) (hj:J 0 U W) (hb:Ob W Bs 22 [v]) (hr:Row (fun _=>True) W 43 2 v es.length (Zm es)) (hU:∀ i,v.ownBlock=some i->¬ U i) :
  CallsIn Fence.wide nn Tryz.prog 108 #[.func (.yield lp) #[] #[],.pointer (some ⟨Bs,0,none⟩)] W (Told2 es.length X J Jx U W):=by
 obtain ⟨va,vc,hva,_⟩:=hr.form;obtain ⟨n,hn⟩:∃ n,n=es.length:=⟨_,rfl⟩;rw [<- hn] at hva hlen;have x0:=hb.cell 0;simp only [List.getElem?_cons_zero] at x0;rw [hva] at x0
 have hcell:∀ (A:World),Onl U W A->∀ K,(hK:K < n)->∃ g of,va=some ⟨g,of,none⟩/\A.cell? ⟨g,of+K * 2,none⟩=some (.string (it K).k)/\A.cell? ⟨g,of+K * 2+1,none⟩=some (.string (it K).v):=by
  intro A oA K hK
  have hx:es[K]?=some (it K):=by
   have h1:=List.getElem?_eq_getElem (l:=es) (i:=K) (by omega)
   rw [h1,hit K _ h1]
  rcases row_ob hr with ⟨e,h1,_⟩ | ⟨g,cap,cur,e,_,bR,_,_,_,hr4⟩
  ·omega
  ·rw [hva] at e;cases e
   have kA:=bR.onl oA (fun q=>hU g (by rw [hva];rfl) q);obtain ⟨h1,h2⟩:=ecells_at es hx;rw [<- hr4,List.getElem?_take_of_lt (by omega)] at h1 h2;refine ⟨g,0,rfl,?_,?_⟩
   ·rw [Nat.zero_add];exact (kA.cell _).trans h1
   ·rw [Nat.zero_add];exact (kA.cell _).trans h2
 have HCELL:=Za hcell;have HH:=Za H;have HN:=Za hn;have HJ:=Za hj;rw [<- hn];clear hcell H hn hj hb hr hU hva hit;refine callsIn_of_wp Tryz.func108 rfl trivial ?_ rfl;simp only [Tryz.ntmps108,List.size_toArray,List.length_cons,List.length_nil,Nat.reduceAdd,Nat.reduceSub,Array.replicate_succ,Array.replicate_zero,List.push_toArray,List.append_toArray,List.nil_append,List.cons_append];gi_wp2
 gi_loopw [7] (fun i wr=>∃ (k:Nat) (U':Nat->Prop),k<=n/\i=.int .i64 k/\Hid (J k U' wr)/\Hid (Onl U W wr)/\Hid (∀ i,U' i->U i\/W.heap.size<=i)) (fun i _=>n - (intOf i).toNat)
 case atStart=>exact ⟨0,U,Nat.zero_le _,rfl,HJ,Za (Onl.refl _ _),Za (fun i q=>.inl q)⟩
 case round =>
  obtain ⟨k,U',hk,rfl,HJr,HOr,HUr⟩:=hrel;by_cases hlt:k < n
  ·obtain ⟨g,of,rfl,c1,c2⟩:=HCELL.out wr HOr.out k hlt;obtain ⟨K2,hK2⟩:∃ K2,K2=of+k * 2:=⟨_,rfl⟩;have hgw:g < wr.heap.size:=World.block_lt_of_cell? _ _ c1;have bA:Below wr.heap.size wr (wr.alloc (.cells #[.string (it k).k,.string (it k).v] 43)):=(Below.refl _ wr).alloc (Nat.le_refl _) _;obtain ⟨fn,tmps,assign,body,hy,hRR⟩:=HH.out.yield k U' _ (HH.out.bel _ _ _ _ HJr.out bA) (by rw [<- HN.out];exact hlt) (nn - 1);have HBA:=Za bA;obtain ⟨x,hx⟩:∃ x,x=it k:=⟨_,rfl⟩;rw [<- hx] at c1 c2 hy hRR HBA;clear bA hx hK2;gi_wp2
   refine ⟨fun q=>(by cases q),hRR.mono ?_⟩;rintro e W3 (⟨rfl,U3,j3,o3,u3⟩ | ⟨rfl,U3,j3,o3,u3⟩)
   ·have sb:=HBA.out.size
    have HF:Hid (J (k+1) U3 W3/\Onl U W W3/\∀ i,U3 i->U i\/W.heap.size<=i):=by
     have s0:=HOr.out.size;refine Za ⟨j3,(HOr.out.trans (Onl.ofBelow HBA.out)).more o3 (fun i q=>(HUr.out i q)),fun i q=>?_⟩;rcases u3 i q with z | z
     ·exact HUr.out i z
     ·exact .inr (by omega)
    clear j3 o3 u3 c1 c2 hy hRR;gi_wp2
    go_roundw
    case rel=>exact ⟨k+1,U3,by omega,by simp,Za HF.out.1,Za HF.out.2.1,Za HF.out.2.2⟩
    case measure=>simp [intOf];omega
   ·have sb:=HBA.out.size
    have HF:Hid (Jx (k+1) U3 W3/\Onl (fun i=>U i\/X i) W W3/\∀ i,U3 i->U i\/W.heap.size<=i):=by
     have s0:=HOr.out.size;refine Za ⟨j3,((HOr.out.trans (Onl.ofBelow HBA.out)).mono (fun i q=>.inl q)).more o3 (fun i q=>q.elim (fun z=>(HUr.out i z).imp .inl (fun z=>z)) (fun z=>.inl (.inr z))),fun i q=>?_⟩;rcases u3 i q with z | z
     ·exact HUr.out i z
     ·exact .inr (by omega)
    clear j3 o3 u3 c1 c2 hy hRR;gi_wp2
    refine bodyPost_ret (results_none rfl _ _ _) rfl ?_;exact ⟨⟨_,rfl⟩,.inr ⟨k+1,U3,by omega,HF.out.1,HF.out.2.1,HF.out.2.2⟩⟩
  ·obtain rfl:k=n:=by omega
   gi_wp2
   go_end0
   exact ⟨⟨_,rfl⟩,.inl ⟨U',HJr.out,HOr.out,HUr.out⟩⟩
theorem enter_all1:∀ args w,(callFunc 108 args).run Tryz.prog w=.ok (.enter 108 args) w:=fun _ _=>by kernel_rfl
def AlP (W:World) (es:List En) (e:Ending) (W':World):Prop:=∃ Bs v,W.heap.size<=Bs/\e=.returned (.func (.func 108) #[] #[.pointer (some ⟨Bs,0,none⟩)])/\Ob W' Bs 22 [v]/\Row (fun g=>W.heap.size<=g) W' 43 2 v es.length (Zm es)/\Below W.heap.size W W'
theorem tall_any {w W:World} {s m:Nat} {O:Nat->Prop} {T:List (List Int)} (h:TSw w W s O T m) (hT:T.length<=16000) (hx:TxOk T) (root:Nat) (ls:List (Nat × List En)) (ht:RootT T root ls) (hpos:∀ p ∈ ls,0 < p.2.length) (hsz:(ls.flatMap (fun p=>p.2)).length<=1000) :
  Calls Tryz.prog 65 #[.pointer (some ⟨s,0,none⟩),.int .u64 root] W (AlP W (ls.flatMap (fun p=>p.2))):=by
 have C:=tlist_any h hT hx root ls ht hpos hsz;obtain ⟨es,hes⟩:∃ es,es=ls.flatMap (fun p=>p.2):=⟨_,rfl⟩;rw [<- hes] at C ⊢;have HC:=Za C;clear C h hes hsz hpos ht;go_enter Tryz.func65,Tryz.ntmps65
 go_wp2_with fail
 refine HC.out.mono ?_;rintro e w3 ⟨v,rfl,r3,b3⟩;have hz:=b3.size;obtain ⟨va,vc,hva,_⟩:=r3.form;obtain ⟨n,hn⟩:∃ n,n=es.length:=⟨_,rfl⟩;rw [<- hn] at hva;have b4:Below w3.heap.size w3 (w3.alloc (.cells #[v] 22)):=(Below.refl _ w3).alloc (Nat.le_refl _) _
 have HF:Hid (AlP W es (.returned (.func (.func 108) #[] #[.pointer (some ⟨w3.heap.size,0,none⟩)])) (w3.alloc (.cells #[v] 22))):=by
  refine Za ⟨w3.heap.size,v,hz,rfl,Ob.new w3 [v] 22,r3.onl (F:=fun _=>False) (Onl.ofBelow b4) (fun _ _ q=>q),b3.trans (b4.mono hz)⟩
 rw [hva] at HF;rw [hva];clear r3 b3 hva hn b4 HC;go_wp2;go_ret
 exact HF.out
end
theorem rd_litW (W:World) (x:En):RdEn (W.alloc (.cells #[.string x.k,.string x.v] 43)) (some ⟨W.heap.size,0,none⟩) [x]:=by
 intro i e h;have hi:i=0:=by have:=(List.getElem?_eq_some_iff.1 h).1;simp at this;omega
 subst hi;simp only [List.getElem?_cons_zero,Option.some.injEq] at h;subst h;exact ⟨_,_,rfl,by simp,by simp⟩
theorem ob_loopW {A:World} {g l:Nat} {t:TypeId} {cs:List Value} {o:Obj} (kk:Ob A g t cs) (hA:A.heap[l]?=some o) (hc:o.isCells=false):¬ (g=l):=fun q=>by
 have:A.heap[g]?=_:=kk;rw [q,hA] at this;cases this
 cases hc
structure BxJ (d:Nat) (r:Loop) (bx:Nat) (B:List (Nat × Int)) (L:List En) (k:Nat) (U:Nat->Prop) (A:World):Prop where
 lp:LpAt d r A
 kl:k<=L.length
 got:∃ v,Ob A bx 22 [v]/\Row (fun g=>d+2<=g) A 43 2 v (L.take k).length (Zm (L.take k))/\∀ i,U i↔i=bx\/v.ownBlock=some i
 mb:∀ x ∈ B,Ob A x.1 3 [.int .i64 x.2]
theorem BxJ.below {d:Nat} {r:Loop} {bx:Nat} {B:List (Nat × Int)} {L:List En} {k:Nat} {U:Nat->Prop} {A A':World} (hj:BxJ d r bx B L k U A) (hb:Below A.heap.size A A'):BxJ d r bx B L k U A':=by
 obtain ⟨v,q1,q2,q3⟩:=hj.got;exact ⟨hj.lp.below hb,hj.kl,⟨v,q1.old hb,q2.onl (F:=fun _=>False) (Onl.ofBelow hb) (fun _ _ q=>q),q3⟩,fun x hx=>(hj.mb x hx).old hb⟩
theorem BxJ.lt {d:Nat} {r:Loop} {bx:Nat} {B:List (Nat × Int)} {L:List En} {k:Nat} {U:Nat->Prop} {A:World} (hj:BxJ d r bx B L k U A):∀ i,U i->i < A.heap.size:=fun i hi=>by
 obtain ⟨v,q1,q2,q3⟩:=hj.got;rcases (q3 i).1 hi with q | q
 ·rw [q];exact q1.lt
 ·exact q2.lt i q
theorem BxJ.put {d:Nat} {r:Loop} {bx:Nat} {B:List (Nat × Int)} {L:List En} {k:Nat} {U:Nat->Prop} {A:World} {l:Nat} {o o':Obj} (h:BxJ d r bx B L k U A) (hl:d+2<=l) (hA:A.heap[l]?=some o) (hc:o.isCells=false):BxJ d r bx B L k U (A.putObj l o'):=by
 have o2:Onl (fun i=>i=l) A (A.putObj l o'):=ZI _;obtain ⟨v,q1,q2,q3⟩:=h.got;exact ⟨h.lp.onl o2 (by omega) (by omega),h.kl,⟨v,q1.onl o2 (ob_loopW q1 hA hc),q2.onl o2 (fun g hg z=>Row.noLoop q2 hA hc (by rw [<- z];exact hg)),q3⟩,fun x hx=>(h.mb x hx).onl o2 (ob_loopW (h.mb x hx) hA hc)⟩
theorem bx_app {d:Nat} {r:Loop} {bx:Nat} {B:List (Nat × Int)} {L:List En} {k:Nat} {U:Nat->Prop} {A:World} {x:En} (hj:BxJ d r bx B L k U A) (hx:L[k]?=some x) (hB:∀ z ∈ B,z.1≠bx) (hL:L.length<=100000) (rb:Loop) (A2:World) (hA2:A2=A.putObj (d+1) (.loop rb)) :
  ∃ (va:Option Addr) (vc:Nat) (va8:Option Addr) (vc8:Nat) (w8:World),Ob A2 bx 22 [.slice va k vc]/\(∀ z ∈ B,Ob A2 z.1 3 [.int .i64 z.2]) /\
   (Builtin.append_ #[22,22] 22 #[.slice va k vc,.slice (some ⟨A2.heap.size,0,none⟩) 1 1]).run Tryz.prog (A2.alloc (.cells #[.string x.k,.string x.v] 43))=.ok (.slice va8 (k+1:Nat) vc8) w8 /\
   Ob w8 bx 22 [.slice va k vc]/\Ob (w8.setCell ⟨bx,0,none⟩ (.slice va8 (k+1:Nat) vc8)) bx 22 [.slice va8 (k+1:Nat) vc8]/\(∀ z ∈ B,Ob (w8.setCell ⟨bx,0,none⟩ (.slice va8 (k+1:Nat) vc8)) z.1 3 [.int .i64 z.2]) /\
   (w8.setCell ⟨bx,0,none⟩ (.slice va8 (k+1:Nat) vc8)).heap[d+1]?=some (.loop rb) /\
   ∀ r':Loop,∃ U',BxJ d r' bx B L (k+1) U' ((w8.setCell ⟨bx,0,none⟩ (.slice va8 (k+1:Nat) vc8)).putObj (d+1) (.loop r'))/\Onl (fun i=>U i\/i=d+1) A ((w8.setCell ⟨bx,0,none⟩ (.slice va8 (k+1:Nat) vc8)).putObj (d+1) (.loop r'))/\(r'=r->Onl U A ((w8.setCell ⟨bx,0,none⟩ (.slice va8 (k+1:Nat) vc8)).putObj (d+1) (.loop r')))/\∀ i,U' i->U i\/A.heap.size<=i:=by
 obtain ⟨v,q1,q2,q3⟩:=hj.got;have hk:k < L.length:=(List.getElem?_eq_some_iff.1 hx).1;have o1:Onl (fun i=>i=d+1) A A2:=by rw [hA2];exact ZI _
 have k2:=q1.onl o1 (fun q=>ob_loopW q1 hj.lp.1 rfl q);have m2:∀ z ∈ B,Ob A2 z.1 3 [.int .i64 z.2]:=fun z hz=>(hj.mb z hz).onl o1 (fun q=>ob_loopW (hj.mb z hz) hj.lp.1 rfl q)
 have row2:=q2.onl o1 (fun g hg z=>Row.noLoop q2 hj.lp.1 rfl (by rw [<- z];exact hg));have hkt:(L.take k).length=k:=by rw [List.length_take];omega
 obtain ⟨va2,vc2,hva2,_⟩:=row2.form;rw [hkt] at hva2;subst hva2;have bL:Below A2.heap.size A2 (A2.alloc (.cells #[.string x.k,.string x.v] 43)):=(Below.refl _ _).alloc (Nat.le_refl _) _;have rowL:=row2.onl (F:=fun _=>False) (Onl.ofBelow bL) (fun _ _ q=>q);have htk:L.take (k+1)=L.take k++[x]:=by rw [List.take_add_one,hx];rfl
 obtain ⟨v8,w8,RR,r8,o8,ow8⟩:=app_Es (es:=[x]) (c:=1) (y:=⟨A2.heap.size,0,none⟩) rowL (by simp;omega) (rd_litW _ x);rw [<- htk] at r8;have hkt1:(L.take (k+1)).length=k+1:=by rw [List.length_take];omega
 obtain ⟨va8,vc8,hva8,_⟩:=r8.form;rw [hkt1] at hva8;rw [show [x].length=1 from rfl] at RR;have hap1:(Value.slice va2 k vc2).ownBlock≠some bx:=rowL.apartOb (k2.old bL) (by decide);have k8:=(k2.old bL).onl o8 (fun q=>hap1 q);have m8:∀ z ∈ B,Ob w8 z.1 3 [.int .i64 z.2]:=fun z hz=>((m2 z hz).old bL).onl o8 (fun q=>rowL.apartOb ((m2 z hz).old bL) (by decide) q)
 subst hva8;obtain ⟨W9,hW9⟩:∃ W9,W9=w8.setCell ⟨bx,0,none⟩ (.slice va8 (k+1:Nat) vc8):=⟨_,rfl⟩;have o9:Onl (fun i=>i=bx) w8 W9:=by rw [hW9];exact (Onl.refl (fun i=>i=bx) w8).set (p:=bx) (.inl rfl) _
 have k9:Ob W9 bx 22 [.slice va8 (k+1:Nat) vc8]:=by rw [hW9];exact k8.set 0 _
 have hap3:(Value.slice va8 (k+1:Nat) vc8).ownBlock≠some bx:=r8.apartOb k8 (by decide);have r9:=r8.onl o9 (fun g hg z=>hap3 (by rw [<- z];exact hg));have m9:∀ z ∈ B,Ob W9 z.1 3 [.int .i64 z.2]:=fun z hz=>(m8 z hz).onl o9 (hB z hz)
 have hlpA:=hj.lp;have hA1:=(Array.getElem?_eq_some_iff.1 hlpA.1).1;have hszA:A2.heap.size=A.heap.size:=by rw [hA2];simp
 have r9':Row (fun g=>d+2<=g) W9 43 2 (.slice va8 (k+1:Nat) vc8) (L.take (k+1)).length (Zm (L.take (k+1))):=⟨r9.1,fun g hg=>(r9.2 g hg).elim (fun z=>z) (fun z=>by rw [z];simp;omega)⟩;have o29:Onl U A2 W9:=((Onl.ofBelow bL).trans (o8.mono (fun i q=>(q3 i).2 (.inr q)))).trans (o9.mono (fun i q=>(q3 i).2 (.inl q)))
 have hlo:∀ i,U i->¬ (i=d)/\¬ (i=d+1):=fun i hi=>by
  rcases (q3 i).1 hi with z | z
  ·rw [z];exact ⟨fun q=>ob_loopW q1 hlpA.2 rfl q,fun q=>ob_loopW q1 hlpA.1 rfl q⟩
  ·have:=q2.2 i z;omega
 have e1:A2.heap[d+1]?=some (.loop rb):=by rw [hA2];exact World.putObj_heap_same hA1
 have hd2:A2.heap[d]?=some (.deferred (some [])):=(o1.block d (Array.getElem?_eq_some_iff.1 hlpA.2).1 (by omega)).trans hlpA.2;have e3:W9.heap[d+1]?=some (.loop rb):=(o29.block _ (Array.getElem?_eq_some_iff.1 e1).1 (fun q=>(hlo _ q).2 rfl)).trans e1;have f3:W9.heap[d]?=some (.deferred (some [])):=(o29.block _ (Array.getElem?_eq_some_iff.1 hd2).1 (fun q=>(hlo _ q).1 rfl)).trans hd2;refine ⟨va2,vc2,va8,vc8,w8,k2,m2,RR,k8,?_,?_,?_,fun r'=>?_⟩
 ·rw [<- hW9];exact k9
 ·rw [<- hW9];exact m9
 ·rw [<- hW9];exact e3
 rw [<- hW9];have o4:Onl (fun i=>i=d+1) W9 (W9.putObj (d+1) (.loop r')):=ZI _;have e4:(W9.putObj (d+1) (.loop r')).heap[d+1]?=some (.loop r'):=World.putObj_heap_same (Array.getElem?_eq_some_iff.1 e3).1;have oo:Onl (fun i=>U i\/i=d+1) A (W9.putObj (d+1) (.loop r')):=((o1.mono (fun i q=>.inr q)).trans (o29.mono (fun i q=>.inl q))).trans (o4.mono (fun i q=>.inr q));refine ⟨fun i=>i=bx\/(Value.slice va8 (k+1:Nat) vc8).ownBlock=some i,⟨⟨e4,(o4.block _ (Array.getElem?_eq_some_iff.1 f3).1 (by omega)).trans f3⟩,hk,⟨_,k9.onl o4 (fun q=>ob_loopW k9 e3 rfl q),r9'.onl o4 (fun g hg z=>Row.noLoop r9' e3 rfl (by rw [<- z];exact hg)),fun i=>Iff.rfl⟩,fun z hz=>(m9 z hz).onl o4 (fun q=>ob_loopW (m9 z hz) e3 rfl q)⟩,oo,fun hr=>?_,fun i q=>?_⟩
 ·rw [hr] at e4 oo ⊢;exact onl_back oo (e4.trans hlpA.1.symm)
 ·rcases q with q | q
  ·exact .inl ((q3 i).2 (.inl q))
  ·rcases ow8 i q with z | z
   ·exact .inl ((q3 i).2 (.inr z))
   ·exact .inr (by rw [z];simp;omega)
end Go.Proofs.YtdhebpnkfookcaaGreat
namespace Apo
open Go Go.RowKit
def smallEn (e:En):Bool:=decide (e.k.size<=60) && decide (e.v.size<=250)
def lightB (l:List En):Bool:=l.all smallEn && decide (l.length<=60)
theorem all_take_false {α:Type} {p:α->Bool} {l:List α} {k:Nat} {x:α} (h:l[k]?=some x) (hx:p x=false):l.all p=false:=by
 rw [List.all_eq_false];exact ⟨x,List.mem_of_getElem? h,by rw [hx];simp⟩
end Apo
namespace Go.Proofs.YtdhebpnkfookcaaGreat
open Go.RowKit Apo
theorem light_any (w:World) (a:Option Addr) (c:Nat) (l:List En) (h:RdEn w a l) (hl:l.length<=9223372036854775807) (hz:∀ e ∈ l,e.k.size<=maxLen/\e.v.size<=maxLen) :
  Calls Tryz.prog 26 #[.slice a l.length c] w fun e w'=>e=.returned (.bool (lightB l))/\Below w.heap.size w w':=by
 obtain ⟨n,hn⟩:∃ n,n=l.length:=⟨_,rfl⟩;have HN:=Za hn;have HE:=Za h;have HZ:=Za hz;rw [<- hn] at hl ⊢;clear h hn hz;go_enter Tryz.func26,Tryz.ntmps26
 go_wp2;go_loopw [7] (fun i wr=>∃ k:Nat,k<=n/\i=.int .i64 k/\Hid ((l.take k).all smallEn=true)/\Hid (Below w.heap.size w wr)) (fun i _=>n - (intOf i).toNat)
 case atStart=>exact ⟨0,Nat.zero_le _,rfl,Za (by simp),Za (Below.refl _ _)⟩
 case round =>
  obtain ⟨k,hk,rfl,HS,HB⟩:=hrel;by_cases hkn:k < n
  ·obtain ⟨e,hek⟩:∃ e,l[k]?=some e:=⟨l[k]'(by have:=HN.out;omega),List.getElem?_eq_getElem _⟩;obtain ⟨g,o,rfl,q1,q2⟩:=HE.out k e hek;have q1':=(HB.out.cell (p:=⟨g,o+k * 2,none⟩) (World.block_lt_of_cell? _ _ q1)).trans q1;have q2':=(HB.out.cell (p:=⟨g,o+k * 2+1,none⟩) (World.block_lt_of_cell? _ _ q2)).trans q2;have hsz:=HZ.out _ (List.mem_of_getElem? hek);obtain ⟨ek,ev⟩:=e;simp only at q1' q2' hsz;unfold maxLen at hsz;have HEK:=Za hek;have HBA:=Za (HB.out.alloc HB.out.size (.cells #[.string ek,.string ev] 43));clear q1 q2 hek;by_cases h1:ek.size<=60
   ·have d1:decide ((60:Int) < (ek.size:Int))=false:=by simp;omega
    have d1n:decide (60 < ek.size)=false:=by simp;omega
    by_cases h2:ev.size<=250
    ·have d2:decide ((250:Int) < (ev.size:Int))=false:=by simp;omega
     have d2n:decide (250 < ev.size)=false:=by simp;omega
     have HS2:Hid ((l.take (k+1)).all smallEn=true):=by
      refine Za ?_;rw [List.take_add_one,HEK.out,List.all_append,HS.out];simp [smallEn,h1,h2]
     go_wp2;go_roundw
     case rel=>exact ⟨k+1,by omega,by simp,HS2,HBA⟩
     case measure=>simp [intOf];omega
    ·have d2:decide ((250:Int) < (ev.size:Int))=true:=by simp;omega
     have d2n:decide (250 < ev.size)=true:=by simp;omega
     have HX:Hid (lightB l=false):=Za (by unfold lightB;rw [all_take_false HEK.out (by simp [smallEn,h2])];rfl);go_wp2;go_ret
     rw [HX.out];exact ⟨rfl,HBA.out⟩
   ·have d1:decide ((60:Int) < (ek.size:Int))=true:=by simp;omega
    have d1n:decide (60 < ek.size)=true:=by simp;omega
    have HX:Hid (lightB l=false):=Za (by unfold lightB;rw [all_take_false HEK.out (by simp [smallEn,h1])];rfl);go_wp2;go_ret
    rw [HX.out];exact ⟨rfl,HBA.out⟩
  ·obtain rfl:k=n:=by omega
   have HX:Hid (lightB l=decide (k<=60)):=by
    refine Za ?_;have q:=HS.out;rw [HN.out,List.take_length] at q;unfold lightB;rw [q,HN.out];simp
   have hdd:decide ((k:Int)<=60)=decide (k<=60):=by
    by_cases q:k<=60
    ·simp [q];omega
    ·simp [q];omega
   go_wp2;go_ret
   rw [HX.out];exact ⟨by rw [<- hdd];rfl,HB.out⟩
end Go.Proofs.YtdhebpnkfookcaaGreat
