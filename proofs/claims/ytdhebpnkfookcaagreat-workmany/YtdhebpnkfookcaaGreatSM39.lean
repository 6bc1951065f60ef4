import Derived.Deep.Slices
import Derived.Test.YtdhebpnkfookcaaGreatSM38
set_option maxRecDepth 100000
set_option maxHeartbeats 1000000
namespace Go.Proofs.YtdhebpnkfookcaaGreat
open Go.RowKit Go.Shelf Apo
theorem rd_litW (W:World) (x:En):RdEn (W.alloc (.cells #[.string x.k,.string x.v] 43)) (some ⟨W.heap.size,0,none⟩) [x]:=by
 intro i e h;have hi:i=0:=by have:=(List.getElem?_eq_some_iff.1 h).1;simp at this;omega
 subst hi;simp only [List.getElem?_cons_zero,Option.some.injEq] at h;subst h;exact ⟨_,_,rfl,by simp,by simp⟩
theorem ob_loopW {A:World} {g l:Nat} {t:TypeId} {cs:List Value} {o:Obj} (kk:Ob A g t cs) (hA:A.heap[l]?=some o) (hc:o.isCells=false):¬ (g=l):=fun q=>by
 have:A.heap[g]?=_:=kk;rw [q,hA] at this;cases this
 cases hc
structure BxJ (d:Nat) (r:Loop) (bx:Nat) (B:List (Nat × Int)) (L:List En) (k:Nat) (U:Nat->Prop) (A:World):Prop where
 lp:LpAt d r A
 kl:k<=L.length
 got:∃ v,Ob A bx 22 [v]/\Row (fun g=>d+2<=g) A 43 2 v (L.take k).length (Zo (L.take k))/\∀ i,U i↔i=bx\/v.ownBlock=some i
 mb:∀ x ∈ B,Ob A x.1 3 [.int .i64 x.2]
theorem BxJ.below {d:Nat} {r:Loop} {bx:Nat} {B:List (Nat × Int)} {L:List En} {k:Nat} {U:Nat->Prop} {A A':World} (hj:BxJ d r bx B L k U A) (hb:Below A.heap.size A A'):BxJ d r bx B L k U A':=by
 obtain ⟨v,q1,q2,q3⟩:=hj.got;exact ⟨hj.lp.below hb,hj.kl,⟨v,q1.old hb,q2.onl (F:=fun _=>False) (Onl.ofBelow hb) (fun _ _ q=>q),q3⟩,fun x hx=>(hj.mb x hx).old hb⟩
theorem BxJ.lt {d:Nat} {r:Loop} {bx:Nat} {B:List (Nat × Int)} {L:List En} {k:Nat} {U:Nat->Prop} {A:World} (hj:BxJ d r bx B L k U A):∀ i,U i->i < A.heap.size:=fun i hi=>by
 obtain ⟨v,q1,q2,q3⟩:=hj.got;rcases (q3 i).1 hi with q | q
 ·rw [q];exact q1.lt
 ·exact q2.lt i q
theorem BxJ.put {d:Nat} {r:Loop} {bx:Nat} {B:List (Nat × Int)} {L:List En} {k:Nat} {U:Nat->Prop} {A:World} {l:Nat} {o o':Obj} (h:BxJ d r bx B L k U A) (hl:d+2<=l) (hA:A.heap[l]?=some o) (hc:o.isCells=false):BxJ d r bx B L k U (A.putObj l o'):=by
 have o2:Onl (fun i=>i=l) A (A.putObj l o'):=put_onl _;obtain ⟨v,q1,q2,q3⟩:=h.got;exact ⟨h.lp.onl o2 (by omega) (by omega),h.kl,⟨v,q1.onl o2 (ob_loopW q1 hA hc),q2.onl o2 (fun g hg z=>Row.noLoop q2 hA hc (by rw [<- z];exact hg)),q3⟩,fun x hx=>(h.mb x hx).onl o2 (ob_loopW (h.mb x hx) hA hc)⟩
theorem bx_app {d:Nat} {r:Loop} {bx:Nat} {B:List (Nat × Int)} {L:List En} {k:Nat} {U:Nat->Prop} {A:World} {x:En} (hj:BxJ d r bx B L k U A) (hx:L[k]?=some x) (hB:∀ z ∈ B,z.1≠bx) (hL:L.length<=100000) (rb:Loop) (A2:World) (hA2:A2=A.putObj (d+1) (.loop rb)) :
  ∃ (va:Option Addr) (vc:Nat) (va8:Option Addr) (vc8:Nat) (w8:World),Ob A2 bx 22 [.slice va k vc]/\(∀ z ∈ B,Ob A2 z.1 3 [.int .i64 z.2]) /\
   (Builtin.append_ #[22,22] 22 #[.slice va k vc,.slice (some ⟨A2.heap.size,0,none⟩) 1 1]).run Tryz.prog (A2.alloc (.cells #[.string x.k,.string x.v] 43))=.ok (.slice va8 (k+1:Nat) vc8) w8 /\
   Ob w8 bx 22 [.slice va k vc]/\Ob (w8.setCell ⟨bx,0,none⟩ (.slice va8 (k+1:Nat) vc8)) bx 22 [.slice va8 (k+1:Nat) vc8]/\(∀ z ∈ B,Ob (w8.setCell ⟨bx,0,none⟩ (.slice va8 (k+1:Nat) vc8)) z.1 3 [.int .i64 z.2]) /\
   (w8.setCell ⟨bx,0,none⟩ (.slice va8 (k+1:Nat) vc8)).heap[d+1]?=some (.loop rb) /\
   ∀ r':Loop,∃ U',BxJ d r' bx B L (k+1) U' ((w8.setCell ⟨bx,0,none⟩ (.slice va8 (k+1:Nat) vc8)).putObj (d+1) (.loop r'))/\Onl (fun i=>U i\/i=d+1) A ((w8.setCell ⟨bx,0,none⟩ (.slice va8 (k+1:Nat) vc8)).putObj (d+1) (.loop r'))/\(r'=r->Onl U A ((w8.setCell ⟨bx,0,none⟩ (.slice va8 (k+1:Nat) vc8)).putObj (d+1) (.loop r')))/\∀ i,U' i->U i\/A.heap.size<=i:=by
 obtain ⟨v,q1,q2,q3⟩:=hj.got;have hk:k < L.length:=(List.getElem?_eq_some_iff.1 hx).1;have o1:Onl (fun i=>i=d+1) A A2:=by rw [hA2];exact put_onl _
 have k2:=q1.onl o1 (fun q=>ob_loopW q1 hj.lp.1 rfl q);have m2:∀ z ∈ B,Ob A2 z.1 3 [.int .i64 z.2]:=fun z hz=>(hj.mb z hz).onl o1 (fun q=>ob_loopW (hj.mb z hz) hj.lp.1 rfl q)
 have row2:=q2.onl o1 (fun g hg z=>Row.noLoop q2 hj.lp.1 rfl (by rw [<- z];exact hg));have hkt:(L.take k).length=k:=by rw [List.length_take];omega
 obtain ⟨va2,vc2,hva2,_⟩:=row2.form;rw [hkt] at hva2;subst hva2;have bL:Below A2.heap.size A2 (A2.alloc (.cells #[.string x.k,.string x.v] 43)):=(Below.refl _ _).alloc (Nat.le_refl _) _;have rowL:=row2.onl (F:=fun _=>False) (Onl.ofBelow bL) (fun _ _ q=>q);have htk:L.take (k+1)=L.take k++[x]:=by rw [List.take_add_one,hx];rfl
 obtain ⟨v8,w8,RR,r8,o8,ow8⟩:=app_Es (es:=[x]) (c:=1) (y:=⟨A2.heap.size,0,none⟩) rowL (by simp;omega) (rd_litW _ x);rw [<- htk] at r8;have hkt1:(L.take (k+1)).length=k+1:=by rw [List.length_take];omega
 obtain ⟨va8,vc8,hva8,_⟩:=r8.form;rw [hkt1] at hva8;rw [show [x].length=1 from rfl] at RR;have hap1:(Value.slice va2 k vc2).ownBlock≠some bx:=rowL.apartOb (k2.old bL) (by decide);have k8:=(k2.old bL).onl o8 (fun q=>hap1 q);have m8:∀ z ∈ B,Ob w8 z.1 3 [.int .i64 z.2]:=fun z hz=>((m2 z hz).old bL).onl o8 (fun q=>rowL.apartOb ((m2 z hz).old bL) (by decide) q)
 subst hva8;obtain ⟨W9,hW9⟩:∃ W9,W9=w8.setCell ⟨bx,0,none⟩ (.slice va8 (k+1:Nat) vc8):=⟨_,rfl⟩;have o9:Onl (fun i=>i=bx) w8 W9:=by rw [hW9];exact (Onl.refl (fun i=>i=bx) w8).set (p:=bx) (.inl rfl) _
 have k9:Ob W9 bx 22 [.slice va8 (k+1:Nat) vc8]:=by rw [hW9];exact k8.set 0 _
 have hap3:(Value.slice va8 (k+1:Nat) vc8).ownBlock≠some bx:=r8.apartOb k8 (by decide);have r9:=r8.onl o9 (fun g hg z=>hap3 (by rw [<- z];exact hg));have m9:∀ z ∈ B,Ob W9 z.1 3 [.int .i64 z.2]:=fun z hz=>(m8 z hz).onl o9 (hB z hz)
 have hlpA:=hj.lp;have hA1:=(Array.getElem?_eq_some_iff.1 hlpA.1).1;have hszA:A2.heap.size=A.heap.size:=by rw [hA2];simp
 have r9':Row (fun g=>d+2<=g) W9 43 2 (.slice va8 (k+1:Nat) vc8) (L.take (k+1)).length (Zo (L.take (k+1))):=⟨r9.1,fun g hg=>(r9.2 g hg).elim (fun z=>z) (fun z=>by rw [z];simp;omega)⟩;have o29:Onl U A2 W9:=((Onl.ofBelow bL).trans (o8.mono (fun i q=>(q3 i).2 (.inr q)))).trans (o9.mono (fun i q=>(q3 i).2 (.inl q)))
 have hlo:∀ i,U i->¬ (i=d)/\¬ (i=d+1):=fun i hi=>by
  rcases (q3 i).1 hi with z | z
  ·rw [z];exact ⟨fun q=>ob_loopW q1 hlpA.2 rfl q,fun q=>ob_loopW q1 hlpA.1 rfl q⟩
  ·have:=q2.2 i z;omega
 have e1:A2.heap[d+1]?=some (.loop rb):=by rw [hA2];exact World.putObj_heap_same hA1
 have hd2:A2.heap[d]?=some (.deferred (some [])):=(o1.block d (Array.getElem?_eq_some_iff.1 hlpA.2).1 (by omega)).trans hlpA.2;have e3:W9.heap[d+1]?=some (.loop rb):=(o29.block _ (Array.getElem?_eq_some_iff.1 e1).1 (fun q=>(hlo _ q).2 rfl)).trans e1;have f3:W9.heap[d]?=some (.deferred (some [])):=(o29.block _ (Array.getElem?_eq_some_iff.1 hd2).1 (fun q=>(hlo _ q).1 rfl)).trans hd2;refine ⟨va2,vc2,va8,vc8,w8,k2,m2,RR,k8,?_,?_,?_,fun r'=>?_⟩
 ·rw [<- hW9];exact k9
 ·rw [<- hW9];exact m9
 ·rw [<- hW9];exact e3
 rw [<- hW9];have o4:Onl (fun i=>i=d+1) W9 (W9.putObj (d+1) (.loop r')):=put_onl _;have e4:(W9.putObj (d+1) (.loop r')).heap[d+1]?=some (.loop r'):=World.putObj_heap_same (Array.getElem?_eq_some_iff.1 e3).1;have oo:Onl (fun i=>U i\/i=d+1) A (W9.putObj (d+1) (.loop r')):=((o1.mono (fun i q=>.inr q)).trans (o29.mono (fun i q=>.inl q))).trans (o4.mono (fun i q=>.inr q));refine ⟨fun i=>i=bx\/(Value.slice va8 (k+1:Nat) vc8).ownBlock=some i,⟨⟨e4,(o4.block _ (Array.getElem?_eq_some_iff.1 f3).1 (by omega)).trans f3⟩,hk,⟨_,k9.onl o4 (fun q=>ob_loopW k9 e3 rfl q),r9'.onl o4 (fun g hg z=>Row.noLoop r9' e3 rfl (by rw [<- z];exact hg)),fun i=>Iff.rfl⟩,fun z hz=>(m9 z hz).onl o4 (fun q=>ob_loopW (m9 z hz) e3 rfl q)⟩,oo,fun hr=>?_,fun i q=>?_⟩
 ·rw [hr] at e4 oo ⊢;exact onl_back oo (e4.trans hlpA.1.symm)
 ·rcases q with q | q
  ·exact .inl ((q3 i).2 (.inl q))
  ·rcases ow8 i q with z | z
   ·exact .inl ((q3 i).2 (.inr z))
   ·exact .inr (by rw [z];simp;omega)
end Go.Proofs.YtdhebpnkfookcaaGreat
namespace Apo
open Go Go.RowKit
end Apo
namespace Go.Proofs.YtdhebpnkfookcaaGreat
section
open Go.RowKit Apo
theorem gets_uniq {es:List En} {key v v':ByteArray} {b b':Bool} (hr:Z1 es) (h:Gets es key v b) (h':Gets es key v' b'):v=v'/\b=b':=by
 rcases h with ⟨rfl,e,h1,h2,h3⟩ | ⟨rfl,rfl,h1⟩
 ·rcases h' with ⟨rfl,f,k1,k2,k3⟩ | ⟨rfl,rfl,k1⟩
  ·obtain ⟨i,hi,qi⟩:=List.mem_iff_getElem.1 h1;obtain ⟨j,hj,qj⟩:=List.mem_iff_getElem.1 k1;have hP:=List.pairwise_iff_getElem.1 hr;rcases Nat.lt_trichotomy i j with z | z | z
   ·have:=hP i j hi hj z;rw [qi,qj,h2,k2,ZM] at this;cases this
   ·subst z;rw [<- h3,<- k3,<- qi,<- qj];exact ⟨rfl,rfl⟩
   ·have:=hP j i hj hi z;rw [qi,qj,h2,k2,ZM] at this;cases this
  ·exact absurd h2 (k1 e h1)
 ·rcases h' with ⟨rfl,f,k1,k2,k3⟩ | ⟨rfl,rfl,k1⟩
  ·exact absurd k2 (h1 f k1)
  ·exact ⟨rfl,rfl⟩
theorem tstore_any (w:World):Calls Tryz.prog 9 #[] w fun e W'=>∃ s O,e=.returned (.pointer (some ⟨s,0,none⟩))/\TSw w W' s O [] 1:=by
 have h8:8<=lenOf 16384:=by decide
 have H8:=Za h8;clear h8;go_enter Tryz.func9,Tryz.ntmps9
 go_wp2_with fail
 refine (cnew_any 16384 w).mono ?_;rintro e w1 ⟨d,rfl,k1,b1⟩;have L1:LwD w w1 d (Zl 16384) (Fresh w w1):=⟨k1,fun i q=>q.1,fun i q=>q.2,b1⟩;have C2:=lopen_new L1 H8.out;have HC2:=Za C2;clear k1 b1 L1 C2;go_wp2_with fail
 refine HC2.out.mono ?_;rintro e w2 ⟨s,O2,rfl,L2⟩;have HF:=Za (show TSw w w2 s O2 [] 1 from ⟨d,_,L2,sta_new⟩);clear L2;go_wp2;go_ret
 exact ⟨s,O2,rfl,HF.out⟩
end
section
open Go.RowKit Apo Go.ChangeShapes Go.WideShapes Go.Deep
section
variable {H:Type} {enc:TypeId × Value->H} {w:World} {base:Nat} {spare:Nat->Bool} {held:Bool}
structure Tb where
 a:Option Addr
 c:Nat
 b:List Int
instance:Inhabited Tb:=⟨⟨none,0,[]⟩⟩
end
end
section
open Go.RowKit Apo Go.ChangeShapes Go.WideShapes Go.Deep
section
variable {H:Type} {enc:TypeId × Value->H} {w:World} {base:Nat} {spare:Nat->Bool} {held:Bool}
end
end
section
open Go.RowKit Apo
theorem TBld.good {w W W':World} {s m:Nat} {O:Nat->Prop} {T:List (List Int)} {es:List En} {e:Ending} (h:TBld w W s O T m es e W') (hr:rightE es=0):TRoot w W s O T m es e W':=by
 rcases h with ⟨q,_⟩ | ⟨_,q⟩
 ·exact absurd hr q
 ·exact q
theorem rightE_nil:rightE []=0:=by
 unfold rightE;rw [if_neg (by simp [ZE]),if_pos (show Rise (([]:List En).map En.k) from List.Pairwise.nil)]
end
end Go.Proofs.YtdhebpnkfookcaaGreat
namespace Apo
open Go Go.RowKit
structure Ed where
 k:ByteArray
 v:ByteArray
 g:Bool
def cEn (e:En):List Value:=[.string e.k,.string e.v]
def cEd (e:Ed):List Value:=[.string e.k,.string e.v,.bool e.g]
def cTx (s:ByteArray):List Value:=[.string s]
section
variable {α:Type} (c:α->List Value) (k:Nat)
def Zk (l:List α):List Value:=l.flatMap c
def RdG (w:World) (a:Option Addr) (l:List α):Prop :=
 ∀ i x,l[i]?=some x->∃ g o,a=some ⟨g,o,none⟩/\∀ j u,(c x)[j]?=some u->w.cell? ⟨g,o+i * k+j,none⟩=some u
variable {c:α->List Value} {k:Nat}
theorem gcells_app (a b:List α):Zk c (a++b)=Zk c a++Zk c b:=by simp [Zk]
theorem gcells_len (hk:∀ x,(c x).length=k):∀ l:List α,(Zk c l).length=l.length * k
 | []=>by simp [Zk]
 | x :: l=>by
  have:=gcells_len hk l;unfold Zk at this ⊢;rw [List.flatMap_cons,List.length_append,this,List.length_cons,hk,Nat.succ_mul];omega
theorem gcells_at (hk:∀ x,(c x).length=k):∀ (l:List α) {i j:Nat} {x:α} {u:Value},l[i]?=some x->(c x)[j]?=some u->(Zk c l)[i * k+j]?=some u
 | [],_,_,_,_,h,_=>by simp at h
 | y :: l,0,j,x,u,h,hu=>by
  simp at h
  subst h;have hj:=(List.getElem?_eq_some_iff.1 hu).1;unfold Zk;rw [List.flatMap_cons,Nat.zero_mul,Nat.zero_add,List.getElem?_append_left hj];exact hu
 | y :: l,i+1,j,x,u,h,hu=>by
  have:=gcells_at hk l (i:=i) (by simpa using h) hu;unfold Zk at this ⊢;rw [List.flatMap_cons,List.getElem?_append_right (by rw [hk,Nat.succ_mul];omega),hk,show (i+1) * k+j - k=i * k+j by rw [Nat.succ_mul];omega];exact this
theorem RdG.below {w w':World} {a:Option Addr} {l:List α} (h:RdG c k w a l) (b:Below w.heap.size w w'):RdG c k w' a l:=fun i e hi=>by
 obtain ⟨g,o,h1,h2⟩:=h i e hi;exact ⟨g,o,h1,fun j u hu=>(b.cell (p:=⟨g,o+i * k+j,none⟩) (World.block_lt_of_cell? _ _ (h2 j u hu))).trans (h2 j u hu)⟩
theorem RdG.onl {w w':World} {a:Option Addr} {l:List α} {O:Nat->Prop} (h:RdG c k w a l) (ho:Onl O w w') (hr:∀ x,a=some x->¬ O x.block):RdG c k w' a l:=fun i e hi=>by
 obtain ⟨g,o,h1,h2⟩:=h i e hi;refine ⟨g,o,h1,fun j u hu=>?_⟩;have hc:=h2 j u hu;exact (World.cell?_of_block (ho.block g (World.block_lt_of_cell? w _ hc) (hr ⟨g,o,none⟩ h1))).trans hc
theorem RdG.news (hk:∀ x,(c x).length=k) (hk0:0 < k) {w:World} {x:Addr} {l:List α} (h:RdG c k w (some x) l):∀ j u,(Zk c l)[j]?=some u->w.cell? (x.add j)=some u:=by
 intro j u hu;have hj:=(List.getElem?_eq_some_iff.1 hu).1;rw [gcells_len hk] at hj;have hi:j / k < l.length:=by rw [Nat.div_lt_iff_lt_mul hk0];exact hj
 have he:l[j / k]?=some (l[j / k]'hi):=List.getElem?_eq_getElem _
 obtain ⟨g,o,h1,h2⟩:=h _ _ he;injection h1 with h1
 subst h1;have hm:j % k < k:=Nat.mod_lt _ hk0;have hcu:(c (l[j / k]'hi))[j % k]?=some ((c (l[j / k]'hi))[j % k]'(by rw [hk];exact hm)):=List.getElem?_eq_getElem _
 have hat:=gcells_at hk l he hcu;have hjj:j / k * k+j % k=j:=Nat.div_add_mod' j k;rw [hjj] at hat;rw [hat] at hu;injection hu with hu
 have:=h2 _ _ hcu;rw [hu,Nat.add_assoc,hjj] at this;have hadd:(⟨g,o,none⟩:Addr).add j=⟨g,o+j,none⟩:=by unfold Addr.add;split <;> simp_all
 rw [hadd];exact this
theorem rd_gcells (hk:∀ x,(c x).length=k) {O:Nat->Prop} {W:World} {e:TypeId} {v:Value} {l:List α} (h:Row O W e k v l.length (Zk c l)) :
  ∃ a cp,v=.slice a l.length cp/\RdG c k W a l/\l.length<=cp/\cp<=maxLen/\(a=none->cp=0)/\∀ x,a=some x->∃ g,x=⟨g,0,none⟩/\O g:=by
 obtain ⟨a,cp,hv,h1,h2,h3,h4⟩:=h.form;refine ⟨a,cp,hv,fun i x hi=>?_,h1,h2,h3,h4⟩;have hil:=(List.getElem?_eq_some_iff.1 hi).1;obtain ⟨g,cap,hv2,_,_,_,_,hc,_⟩:=h.shape (by omega);rw [hv] at hv2;injection hv2 with e1 e2 e3
 refine ⟨g,0,e1,fun j u hu=>?_⟩;have hj:=(List.getElem?_eq_some_iff.1 hu).1;rw [hk] at hj
 rw [Nat.zero_add,hc (i * k+j) (by
  have:(i+1) * k<=l.length * k:=Nat.mul_le_mul_right k hil;rw [Nat.succ_mul] at this;omega)]
 exact gcells_at hk l hi hu
theorem rd_lit (t:TypeId) (W:World) (x:α):RdG c k (W.alloc (.cells (c x).toArray t)) (some ⟨W.heap.size,0,none⟩) [x]:=by
 intro i e h;have hi:i=0:=by have:=(List.getElem?_eq_some_iff.1 h).1;simp at this;omega
 subst hi;simp only [List.getElem?_cons_zero,Option.some.injEq] at h;subst h;refine ⟨_,_,rfl,fun j u hu=>?_⟩;have hob:Ob (W.alloc (.cells (c x).toArray t)) W.heap.size t (c x):=Ob.new W (c x) t;have:=hob.cell j;rw [hu] at this;simpa using this
theorem app_G {P:Program} (hk:∀ x,(c x).length=k) (hk0:0 < k) (h1:∀ x,∀ u ∈ c x,u.oneCell'=true) {t e:TypeId} {z:Value} {by':Nat} (hu:P.underlying t=some (.slice e)) (hi:(P.info? e).map (fun i=>(i.zero,i.size,i.bytes))=some (some z,k,by')) (hz:z.cells.size=k) (hby:by'<=1000)
  {O:Nat->Prop} {W:World} {v:Value} {l xs:List α} (h:Row O W e k v l.length (Zk c l)) (hn:l.length+xs.length<=100000000) {y:Addr} {cp:Nat} (hr:RdG c k W (some y) xs) :
  ∃ v' w',(Builtin.append_ #[t,t] t #[v,.slice (some y) xs.length cp]).run P W=.ok v' w'/\Row (fun g=>O g\/g=W.heap.size) w' e k v' (l++xs).length (Zk c (l++xs))/\Onl (fun g=>v.ownBlock=some g) W w'/\∀ g,v'.ownBlock=some g->v.ownBlock=some g\/g=W.heap.size:=by
 obtain ⟨i0,hi,hz0,hz1,hz2⟩:=info_parts hi
 obtain ⟨v5,w5,RR,r5,g5,_,ho5⟩:=run_append_own_at (P:=P) W 0 t t e i0 _ k by' hu hi hz0 hz1 hz2 hz hk0 v l.length (Zk c l) h.1 y xs.length cp (Zk c xs) (gcells_len hk xs) (RdG.news hk hk0 hr) (by intro u hu;simp only [Zk,List.mem_flatMap] at hu;obtain ⟨x,_,hu⟩:=hu;exact h1 x u hu) (by unfold maxLen;omega) (by
  have:(l.length+xs.length) * by'<=100000000 * 1000:=Nat.mul_le_mul hn hby
  omega) (Nat.zero_le _)
 refine ⟨v5,w5,RR,⟨?_,fun g hg=>?_⟩,(Onl.refl _ W).grown g5 (fun k hk=>.inl hk),fun g hg=>?_⟩
 ·rw [List.length_append,gcells_app];exact r5
 ·rcases ho5 with q | q
  ·rw [q] at hg;exact .inl (h.2 g hg)
  ·rw [q] at hg;cases hg;exact .inr rfl
 ·rcases ho5 with q | q
  ·rw [q] at hg;exact .inl hg
  ·rw [q] at hg;cases hg;exact .inr rfl
end
theorem cEn_len (x:En):(cEn x).length=2:=rfl
theorem cEd_len (x:Ed):(cEd x).length=3:=rfl
theorem cEn_one (x:En):∀ u ∈ cEn x,u.oneCell'=true:=by simp [cEn,Value.oneCell']
theorem cEd_one (x:Ed):∀ u ∈ cEd x,u.oneCell'=true:=by simp [cEd,Value.oneCell']
theorem RdG.en {w:World} {a:Option Addr} {l:List En}:RdG cEn 2 w a l↔RdEn w a l:=by
 constructor
 ·intro h i e hi;obtain ⟨g,o,h1,h2⟩:=h i e hi;exact ⟨g,o,h1,h2 0 _ rfl,h2 1 _ rfl⟩
 ·intro h i e hi;obtain ⟨g,o,h1,h2,h3⟩:=h i e hi;refine ⟨g,o,h1,fun j u hu=>?_⟩;match j with
  | 0=>simp [cEn] at hu;rw [<- hu];exact h2
  | 1=>simp [cEn] at hu;rw [<- hu];exact h3
  | j+2=>simp [cEn] at hu
theorem RdG.ed {w:World} {a:Option Addr} {l:List Ed} (h:RdG cEd 3 w a l) {i:Nat} {x:Ed} (hi:l[i]?=some x):∃ g o,a=some ⟨g,o,none⟩/\w.cell? ⟨g,o+i * 3,none⟩=some (.string x.k)/\w.cell? ⟨g,o+i * 3+1,none⟩=some (.string x.v)/\w.cell? ⟨g,o+i * 3+2,none⟩=some (.bool x.g):=by
 obtain ⟨g,o,h1,h2⟩:=h i x hi;exact ⟨g,o,h1,h2 0 _ rfl,h2 1 _ rfl,h2 2 _ rfl⟩
theorem RdG.tx {w:World} {a:Option Addr} {l:List ByteArray} (h:RdG cTx 1 w a l) {i:Nat} {x:ByteArray} (hi:l[i]?=some x):∃ g o,a=some ⟨g,o,none⟩/\w.cell? ⟨g,o+i,none⟩=some (.string x):=by
 obtain ⟨g,o,h1,h2⟩:=h i x hi;exact ⟨g,o,h1,by simpa using h2 0 _ rfl⟩
end Apo
namespace Go.Proofs.YtdhebpnkfookcaaGreat
open Go.RowKit Apo
section
theorem info_en:(Tryz.prog.info? 43).map (fun i=>(i.zero,i.size,i.bytes))=some (some (.agg #[.string ByteArray.empty,.string ByteArray.empty]),2,32):=by kernel_rfl
theorem info_ed:(Tryz.prog.info? 46).map (fun i=>(i.zero,i.size,i.bytes))=some (some (.agg #[.string ByteArray.empty,.string ByteArray.empty,.bool false]),3,40):=by kernel_rfl
section
variable {O:Nat->Prop} {W:World} {v:Value} {y:Addr} {cp:Nat}
theorem app_en {l xs:List En} (h:Row O W 43 2 v l.length (Zk cEn l)) (hn:l.length+xs.length<=100000000) (hr:RdG cEn 2 W (some y) xs) :
  ∃ v' w',(Builtin.append_ #[22,22] 22 #[v,.slice (some y) xs.length cp]).run Tryz.prog W=.ok v' w'/\Row (fun g=>O g\/g=W.heap.size) w' 43 2 v' (l++xs).length (Zk cEn (l++xs))/\Onl (fun g=>v.ownBlock=some g) W w'/\∀ g,v'.ownBlock=some g->v.ownBlock=some g\/g=W.heap.size :=
 app_G cEn_len (by decide) cEn_one Tryz.underlying22 info_en rfl (by decide) h hn hr
theorem app_ed {l xs:List Ed} (h:Row O W 46 3 v l.length (Zk cEd l)) (hn:l.length+xs.length<=100000000) (hr:RdG cEd 3 W (some y) xs) :
  ∃ v' w',(Builtin.append_ #[44,44] 44 #[v,.slice (some y) xs.length cp]).run Tryz.prog W=.ok v' w'/\Row (fun g=>O g\/g=W.heap.size) w' 46 3 v' (l++xs).length (Zk cEd (l++xs))/\Onl (fun g=>v.ownBlock=some g) W w'/\∀ g,v'.ownBlock=some g->v.ownBlock=some g\/g=W.heap.size :=
 app_G cEd_len (by decide) cEd_one Tryz.underlying44 info_ed rfl (by decide) h hn hr
end
end
def leK (a b:ByteArray):Prop:=ZQ b a=false
theorem leK_refl (a:ByteArray):leK a a:=ZM a
theorem leK_of {a b:ByteArray} (h:ZQ a b=true):leK a b:=by
 unfold leK;cases q:ZQ b a with
 | false=>rfl
 | true=>have:=ZL h q;rw [ZM] at this;cases this
theorem leK_trans {a b c:ByteArray} (h:leK a b) (k:leK b c):leK a c:=by
 unfold leK at h k ⊢;cases q:ZQ c a with
 | false=>rfl
 | true =>
  cases z:ZQ a b with
  | true=>have:=ZL q z;rw [k] at this;cases this
  | false=>rw [sLt_conn h z] at k;rw [k] at q;cases q
theorem lt_leK {a b c:ByteArray} (h:ZQ a b=true) (k:leK b c):ZQ a c=true:=by
 cases q:ZQ a c with
 | true=>rfl
 | false =>
  have:=leK_trans k (show leK c a from q);unfold leK at this;rw [h] at this;cases this
theorem leK_lt {a b c:ByteArray} (h:leK a b) (k:ZQ b c=true):ZQ a c=true:=by
 cases q:ZQ a c with
 | true=>rfl
 | false =>
  have:=leK_trans (show leK c a from q) h;unfold leK at this;rw [k] at this;cases this
def ZG (d:List Ed) (i:Nat):ByteArray:=((d[i]?).map Ed.k).getD ByteArray.empty
theorem ZS {d:List Ed} {i:Nat} {x:Ed} (h:d[i]?=some x):ZG d i=x.k:=by unfold ZG;rw [h];rfl
def SrtIn (d:List Ed) (a b:Nat):Prop:=∀ i j,a<=i->i < j->j < b->leK (ZG d i) (ZG d j)
theorem SrtIn.sub {d:List Ed} {a b a' b':Nat} (h:SrtIn d a b) (h1:a<=a') (h2:b'<=b):SrtIn d a' b':=fun i j q1 q2 q3=>h i j (by omega) q2 (by omega)
theorem SrtIn.le {d:List Ed} {a b:Nat} (h:SrtIn d a b) {i j:Nat} (h1:a<=i) (h2:i<=j) (h3:j < b):leK (ZG d i) (ZG d j):=by
 by_cases q:i=j
 ·rw [q];exact leK_refl _
 ·exact h i j h1 (by omega) h3
def Out (d d':List Ed) (a b:Nat):Prop:=∀ i,(i < a\/b<=i)->d'[i]?=d[i]?
theorem Out.refl (d:List Ed) (a b:Nat):Out d d a b:=fun _ _=>rfl
theorem Out.trans {d d' d'':List Ed} {a b a1 b1 a2 b2:Nat} (h:Out d d' a1 b1) (k:Out d' d'' a2 b2) (h1:a<=a1) (h2:b1<=b) (h3:a<=a2) (h4:b2<=b):Out d d'' a b:=fun i hi=>(k i (by omega)).trans (h i (by omega))
theorem Out.key {d d':List Ed} {a b:Nat} (h:Out d d' a b) {i:Nat} (hi:i < a\/b<=i):ZG d' i=ZG d i:=by unfold ZG;rw [h i hi]
theorem Out.srt {d d':List Ed} {a b x y:Nat} (h:Out d d' a b) (hs:SrtIn d x y) (hd:y<=a\/b<=x):SrtIn d' x y:=fun i j h1 h2 h3=>by
 rw [h.key (by omega),h.key (by omega)];exact hs i j h1 h2 h3
open Classical in
noncomputable def ofKey (d:List Ed) (k:ByteArray):List Ed:=d.filter (fun e=>decide (e.k=k))
def Stb (d d':List Ed):Prop:=d'.length=d.length/\∀ k,ofKey d' k=ofKey d k
theorem Stb.refl (d:List Ed):Stb d d:=⟨rfl,fun _=>rfl⟩
theorem Stb.trans {a b c:List Ed} (h:Stb a b) (k:Stb b c):Stb a c:=⟨k.1.trans h.1,fun q=>(k.2 q).trans (h.2 q)⟩
theorem ofK_app (a b:List Ed) (k:ByteArray):ofKey (a++b) k=ofKey a k++ofKey b k:=by simp [ofKey]
theorem Stb.swap {p a b s:List Ed} (h:∀ x ∈ a,∀ y ∈ b,x.k≠y.k):Stb (p++(a++(b++s))) (p++(b++(a++s))):=by
 refine ⟨by simp;omega,fun k=>?_⟩;simp only [ofK_app];by_cases q:∃ x ∈ a,x.k=k
 ·obtain ⟨x,hx,hk⟩:=q
  have:ofKey b k=[]:=by
   unfold ofKey;rw [List.filter_eq_nil_iff];intro y hy z;rw [decide_eq_true_eq] at z;exact h x hx y hy (hk.trans z.symm)
  rw [this];simp
 ·have:ofKey a k=[]:=by
   unfold ofKey;rw [List.filter_eq_nil_iff];intro y hy z;rw [decide_eq_true_eq] at z;exact q ⟨y,hy,z⟩
  rw [this];simp
def swL (d:List Ed) (i j:Nat):List Ed:=match d[i]?,d[j]? with
 | some x,some y=>(d.set i y).set j x
 | _,_=>d
theorem swL_len (d:List Ed) (i j:Nat):(swL d i j).length=d.length:=by
 unfold swL;split <;> simp
theorem swL_get {d:List Ed} {i j:Nat} (hi:i < d.length) (hj:j < d.length) (t:Nat):(swL d i j)[t]?=if t=j then d[i]? else if t=i then d[j]? else d[t]?:=by
 have e1:d[i]?=some d[i]:=List.getElem?_eq_getElem hi
 have e2:d[j]?=some d[j]:=List.getElem?_eq_getElem hj
 unfold swL;rw [e1,e2];simp only;rw [List.getElem?_set];by_cases h1:t=j
 ·subst h1;simp [hj]
 ·rw [if_neg h1,if_neg (Ne.symm h1),List.getElem?_set];by_cases h2:t=i
  ·subst h2;simp [hi]
  ·rw [if_neg h2,if_neg (Ne.symm h2)]
theorem swL_key {d:List Ed} {i j:Nat} (hi:i < d.length) (hj:j < d.length) (t:Nat):ZG (swL d i j) t=if t=j then ZG d i else if t=i then ZG d j else ZG d t:=by
 unfold ZG;rw [swL_get hi hj];split
 ·rfl
 ·split <;> rfl
theorem swL_comm {d:List Ed} {i j:Nat} (hi:i < d.length) (hj:j < d.length):swL d i j=swL d j i:=by
 refine List.ext_getElem? (fun t=>?_);rw [swL_get hi hj,swL_get hj hi];by_cases h1:t=j
 ·by_cases h2:t=i
  ·subst h1;subst h2;rfl
  ·simp [h1,show ¬ j=i by omega]
 ·simp [h1]
theorem swL_out {d:List Ed} {i j a b:Nat} (hi:i < d.length) (hj:j < d.length) (h1:a<=i) (h2:a<=j) (h3:i < b) (h4:j < b):Out d (swL d i j) a b:=fun t ht=>by
 rw [swL_get hi hj,if_neg (by omega),if_neg (by omega)]
theorem swL_stb {d:List Ed} {i:Nat} (hi:i+1 < d.length) (hk:ZG d i≠ZG d (i+1)):Stb d (swL d i (i+1)):=by
 have e1:d[i]?=some (d[i]'(by omega)):=List.getElem?_eq_getElem _
 have e2:d[i+1]?=some d[i+1]:=List.getElem?_eq_getElem hi
 have hd:d=d.take i++([d[i]'(by omega)]++([d[i+1]]++d.drop (i+2))):=by
  conv=>lhs;rw [<- List.take_append_drop i d]
  rw [List.drop_eq_getElem_cons (by omega),List.drop_eq_getElem_cons (by omega)];simp
 have hs:swL d i (i+1)=d.take i++([d[i+1]]++([d[i]'(by omega)]++d.drop (i+2))):=by
  refine List.ext_getElem? (fun t=>?_);rw [swL_get (by omega) hi];by_cases h0:t < i
  ·rw [if_neg (by omega),if_neg (by omega),List.getElem?_append_left (by simp;omega),List.getElem?_take,if_pos h0]
  ·rw [List.getElem?_append_right (by simp;omega),List.length_take,Nat.min_eq_left (by omega)];by_cases h1:t=i
   ·subst h1;rw [if_neg (by omega),if_pos rfl];simp [e2]
   ·by_cases h2:t=i+1
    ·subst h2;rw [if_pos rfl,e1];simp
    ·rw [if_neg h2,if_neg h1];obtain ⟨u,rfl⟩:∃ u,t=i+2+u:=⟨t - (i+2),by omega⟩;rw [show i+2+u - i=u+2 by omega];simp
 rw [hs];conv=>arg 1;rw [hd]
 refine Stb.swap (fun x hx y hy q=>hk ?_);rw [List.mem_singleton] at hx hy;rw [ZS e1,ZS e2,<- hx,<- hy];exact q
def Frm (d d':List Ed) (a b:Nat):Prop:=∀ i,a<=i->i < b->∃ j,a<=j/\j < b/\ZG d' i=ZG d j
theorem Frm.refl (d:List Ed) (a b:Nat):Frm d d a b:=fun i h1 h2=>⟨i,h1,h2,rfl⟩
theorem Frm.trans {d d' d'':List Ed} {a b:Nat} (h:Frm d d' a b) (k:Frm d' d'' a b):Frm d d'' a b:=fun i h1 h2=>by
 obtain ⟨j,q1,q2,q3⟩:=k i h1 h2;obtain ⟨t,z1,z2,z3⟩:=h j q1 q2;exact ⟨t,z1,z2,q3.trans z3⟩
theorem Frm.wide {d d':List Ed} {a b a' b':Nat} (h:Frm d d' a b) (o:Out d d' a b) (h1:a'<=a) (h2:b<=b'):Frm d d' a' b':=fun i q1 q2=>by
 by_cases z:a<=i/\i < b
 ·obtain ⟨j,y1,y2,y3⟩:=h i z.1 z.2;exact ⟨j,by omega,by omega,y3⟩
 ·exact ⟨i,q1,q2,o.key (by omega)⟩
theorem swL_frm {d:List Ed} {i j a b:Nat} (hi:i < d.length) (hj:j < d.length) (h1:a<=i) (h2:a<=j) (h3:i < b) (h4:j < b):Frm d (swL d i j) a b:=fun t q1 q2=>by
 rw [swL_key hi hj];split
 ·exact ⟨i,h1,h3,rfl⟩
 ·split
  ·exact ⟨j,h2,h4,rfl⟩
  ·exact ⟨t,q1,q2,rfl⟩
theorem neK_lt {a b:ByteArray} (h:ZQ a b=true):a≠b:=fun q=>by rw [q,ZM] at h;cases h
end Go.Proofs.YtdhebpnkfookcaaGreat
