import Derived.Test.YtdhebpnkfookcaaGreatQM39
set_option maxRecDepth 100000
set_option maxHeartbeats 4000000
namespace Apo
open Go Go.RowKit
structure Ed where
 k:ByteArray
 v:ByteArray
 g:Bool
def cEn (e:En):List Value:=[.string e.k,.string e.v]
def cEd (e:Ed):List Value:=[.string e.k,.string e.v,.bool e.g]
section
variable {α:Type} (c:α->List Value) (k:Nat)
def Zj (l:List α):List Value:=l.flatMap c
def RdG (w:World) (a:Option Addr) (l:List α):Prop :=
 ∀ i x,l[i]?=some x->∃ g o,a=some ⟨g,o,none⟩/\∀ j u,(c x)[j]?=some u->w.cell? ⟨g,o+i * k+j,none⟩=some u
variable {c:α->List Value} {k:Nat}
theorem gcells_app (a b:List α):Zj c (a++b)=Zj c a++Zj c b:=by simp [Zj]
theorem gcells_len (hk:∀ x,(c x).length=k):∀ l:List α,(Zj c l).length=l.length * k
 | []=>by simp [Zj]
 | x :: l=>by
  have:=gcells_len hk l;unfold Zj at this ⊢;rw [List.flatMap_cons,List.length_append,this,List.length_cons,hk,Nat.succ_mul];omega
theorem gcells_at (hk:∀ x,(c x).length=k):∀ (l:List α) {i j:Nat} {x:α} {u:Value},l[i]?=some x->(c x)[j]?=some u->(Zj c l)[i * k+j]?=some u
 | [],_,_,_,_,h,_=>by simp at h
 | y :: l,0,j,x,u,h,hu=>by
  simp at h
  subst h;have hj:=(List.getElem?_eq_some_iff.1 hu).1
  unfold Zj;rw [List.flatMap_cons,Nat.zero_mul,Nat.zero_add,List.getElem?_append_left hj]
  exact hu
 | y :: l,i+1,j,x,u,h,hu=>by
  have:=gcells_at hk l (i:=i) (by simpa using h) hu
  unfold Zj at this ⊢;rw [List.flatMap_cons,List.getElem?_append_right (by rw [hk,Nat.succ_mul];omega),hk,show (i+1) * k+j - k=i * k+j by rw [Nat.succ_mul];omega]
  exact this
theorem RdG.below {w w':World} {a:Option Addr} {l:List α} (h:RdG c k w a l) (b:Below w.heap.size w w'):RdG c k w' a l:=fun i e hi=>by
 obtain ⟨g,o,h1,h2⟩:=h i e hi;exact ⟨g,o,h1,fun j u hu=>(b.cell (p:=⟨g,o+i * k+j,none⟩) (World.block_lt_of_cell? _ _ (h2 j u hu))).trans (h2 j u hu)⟩
theorem RdG.onl {w w':World} {a:Option Addr} {l:List α} {O:Nat->Prop} (h:RdG c k w a l) (ho:Onl O w w') (hr:∀ x,a=some x->¬ O x.block):RdG c k w' a l:=fun i e hi=>by
 obtain ⟨g,o,h1,h2⟩:=h i e hi;refine ⟨g,o,h1,fun j u hu=>?_⟩
 have hc:=h2 j u hu;exact (World.cell?_of_block (ho.block g (World.block_lt_of_cell? w _ hc) (hr ⟨g,o,none⟩ h1))).trans hc
theorem RdG.news (hk:∀ x,(c x).length=k) (hk0:0 < k) {w:World} {x:Addr} {l:List α} (h:RdG c k w (some x) l):∀ j u,(Zj c l)[j]?=some u->w.cell? (x.add j)=some u:=by
 intro j u hu;have hj:=(List.getElem?_eq_some_iff.1 hu).1
 rw [gcells_len hk] at hj;have hi:j / k < l.length:=by rw [Nat.div_lt_iff_lt_mul hk0];exact hj
 have he:l[j / k]?=some (l[j / k]'hi):=List.getElem?_eq_getElem _
 obtain ⟨g,o,h1,h2⟩:=h _ _ he;injection h1 with h1
 subst h1;have hm:j % k < k:=Nat.mod_lt _ hk0;have hcu:(c (l[j / k]'hi))[j % k]?=some ((c (l[j / k]'hi))[j % k]'(by rw [hk];exact hm)):=List.getElem?_eq_getElem _
 have hat:=gcells_at hk l he hcu;have hjj:j / k * k+j % k=j:=Nat.div_add_mod' j k;rw [hjj] at hat;rw [hat] at hu;injection hu with hu
 have:=h2 _ _ hcu;rw [hu,Nat.add_assoc,hjj] at this;have hadd:(⟨g,o,none⟩:Addr).add j=⟨g,o+j,none⟩:=by unfold Addr.add;split <;> simp_all
 rw [hadd];exact this
theorem rd_gcells (hk:∀ x,(c x).length=k) {O:Nat->Prop} {W:World} {e:TypeId} {v:Value} {l:List α} (h:Row O W e k v l.length (Zj c l)) :
  ∃ a cp,v=.slice a l.length cp/\RdG c k W a l/\l.length<=cp/\cp<=maxLen/\(a=none->cp=0)/\∀ x,a=some x->∃ g,x=⟨g,0,none⟩/\O g:=by
 obtain ⟨a,cp,hv,h1,h2,h3,h4⟩:=h.form;refine ⟨a,cp,hv,fun i x hi=>?_,h1,h2,h3,h4⟩
 have hil:=(List.getElem?_eq_some_iff.1 hi).1
 obtain ⟨g,cap,hv2,_,_,_,_,hc,_⟩:=h.shape (by omega)
 rw [hv] at hv2;injection hv2 with e1 e2 e3
 refine ⟨g,0,e1,fun j u hu=>?_⟩
 have hj:=(List.getElem?_eq_some_iff.1 hu).1
 rw [hk] at hj
 rw [Nat.zero_add,hc (i * k+j) (by
  have:(i+1) * k<=l.length * k:=Nat.mul_le_mul_right k hil;rw [Nat.succ_mul] at this;omega)]
 exact gcells_at hk l hi hu
theorem rd_lit (t:TypeId) (W:World) (x:α):RdG c k (W.alloc (.cells (c x).toArray t)) (some ⟨W.heap.size,0,none⟩) [x]:=by
 intro i e h;have hi:i=0:=by have:=(List.getElem?_eq_some_iff.1 h).1;simp at this;omega
 subst hi;simp only [List.getElem?_cons_zero,Option.some.injEq] at h
 subst h;refine ⟨_,_,rfl,fun j u hu=>?_⟩
 have hob:Ob (W.alloc (.cells (c x).toArray t)) W.heap.size t (c x):=Ob.new W (c x) t;have:=hob.cell j;rw [hu] at this;simpa using this
theorem app_G {P:Program} (hk:∀ x,(c x).length=k) (hk0:0 < k) (h1:∀ x,∀ u ∈ c x,u.oneCell'=true) {t e:TypeId} {z:Value} {by':Nat} (hu:P.underlying t=some (.slice e)) (hi:(P.info? e).map (fun i=>(i.zero,i.size,i.bytes))=some (some z,k,by')) (hz:z.cells.size=k) (hby:by'<=1000)
  {O:Nat->Prop} {W:World} {v:Value} {l xs:List α} (h:Row O W e k v l.length (Zj c l)) (hn:l.length+xs.length<=100000000) {y:Addr} {cp:Nat} (hr:RdG c k W (some y) xs) :
  ∃ v' w',(Builtin.append_ #[t,t] t #[v,.slice (some y) xs.length cp]).run P W=.ok v' w'/\Row (fun g=>O g\/g=W.heap.size) w' e k v' (l++xs).length (Zj c (l++xs))/\Onl (fun g=>v.ownBlock=some g) W w'/\∀ g,v'.ownBlock=some g->v.ownBlock=some g\/g=W.heap.size:=by
 obtain ⟨i0,hi,hz0,hz1,hz2⟩:=info_parts hi
 obtain ⟨v5,w5,RR,r5,g5,_,ho5⟩:=run_append_own_at (P:=P) W 0 t t e i0 _ k by' hu hi hz0 hz1 hz2 hz hk0 v l.length (Zj c l) h.1 y xs.length cp (Zj c xs) (gcells_len hk xs) (RdG.news hk hk0 hr) (by intro u hu;simp only [Zj,List.mem_flatMap] at hu;obtain ⟨x,_,hu⟩:=hu;exact h1 x u hu) (by unfold maxLen;omega) (by
  have:(l.length+xs.length) * by'<=100000000 * 1000:=Nat.mul_le_mul hn hby
  omega) (Nat.zero_le _)
 refine ⟨v5,w5,RR,⟨?_,fun g hg=>?_⟩,(Onl.refl _ W).grown g5 (fun k hk=>.inl hk),fun g hg=>?_⟩
 ·rw [List.length_append,gcells_app];exact r5
 ·rcases ho5 with q | q
  ·rw [q] at hg;exact .inl (h.2 g hg)
  ·rw [q] at hg;cases hg;exact .inr rfl
 ·rcases ho5 with q | q
  ·rw [q] at hg;exact .inl hg
  ·rw [q] at hg;cases hg;exact .inr rfl
end
theorem cEn_len (x:En):(cEn x).length=2:=rfl
theorem cEd_len (x:Ed):(cEd x).length=3:=rfl
theorem cEn_one (x:En):∀ u ∈ cEn x,u.oneCell'=true:=by simp [cEn,Value.oneCell']
theorem cEd_one (x:Ed):∀ u ∈ cEd x,u.oneCell'=true:=by simp [cEd,Value.oneCell']
theorem RdG.en {w:World} {a:Option Addr} {l:List En}:RdG cEn 2 w a l↔RdEn w a l:=by
 constructor
 ·intro h i e hi;obtain ⟨g,o,h1,h2⟩:=h i e hi;exact ⟨g,o,h1,h2 0 _ rfl,h2 1 _ rfl⟩
 ·intro h i e hi;obtain ⟨g,o,h1,h2,h3⟩:=h i e hi;refine ⟨g,o,h1,fun j u hu=>?_⟩
  match j with
  | 0=>simp [cEn] at hu;rw [<- hu];exact h2
  | 1=>simp [cEn] at hu;rw [<- hu];exact h3
  | j+2=>simp [cEn] at hu
theorem RdG.ed {w:World} {a:Option Addr} {l:List Ed} (h:RdG cEd 3 w a l) {i:Nat} {x:Ed} (hi:l[i]?=some x):∃ g o,a=some ⟨g,o,none⟩/\w.cell? ⟨g,o+i * 3,none⟩=some (.string x.k)/\w.cell? ⟨g,o+i * 3+1,none⟩=some (.string x.v)/\w.cell? ⟨g,o+i * 3+2,none⟩=some (.bool x.g):=by
 obtain ⟨g,o,h1,h2⟩:=h i x hi;exact ⟨g,o,h1,h2 0 _ rfl,h2 1 _ rfl,h2 2 _ rfl⟩
end Apo
namespace Go.Proofs.YtdhebpnkfookcaaGreat
open Go.RowKit Apo
section
theorem info_en:(Tryz.prog.info? 43).map (fun i=>(i.zero,i.size,i.bytes))=some (some (.agg #[.string ByteArray.empty,.string ByteArray.empty]),2,32):=by kernel_rfl
theorem info_ed:(Tryz.prog.info? 46).map (fun i=>(i.zero,i.size,i.bytes))=some (some (.agg #[.string ByteArray.empty,.string ByteArray.empty,.bool false]),3,40):=by kernel_rfl
section
variable {O:Nat->Prop} {W:World} {v:Value} {y:Addr} {cp:Nat}
theorem app_en {l xs:List En} (h:Row O W 43 2 v l.length (Zj cEn l)) (hn:l.length+xs.length<=100000000) (hr:RdG cEn 2 W (some y) xs) :
  ∃ v' w',(Builtin.append_ #[22,22] 22 #[v,.slice (some y) xs.length cp]).run Tryz.prog W=.ok v' w'/\Row (fun g=>O g\/g=W.heap.size) w' 43 2 v' (l++xs).length (Zj cEn (l++xs))/\Onl (fun g=>v.ownBlock=some g) W w'/\∀ g,v'.ownBlock=some g->v.ownBlock=some g\/g=W.heap.size :=
 app_G cEn_len (by decide) cEn_one Tryz.underlying22 info_en rfl (by decide) h hn hr
theorem app_ed {l xs:List Ed} (h:Row O W 46 3 v l.length (Zj cEd l)) (hn:l.length+xs.length<=100000000) (hr:RdG cEd 3 W (some y) xs) :
  ∃ v' w',(Builtin.append_ #[44,44] 44 #[v,.slice (some y) xs.length cp]).run Tryz.prog W=.ok v' w'/\Row (fun g=>O g\/g=W.heap.size) w' 46 3 v' (l++xs).length (Zj cEd (l++xs))/\Onl (fun g=>v.ownBlock=some g) W w'/\∀ g,v'.ownBlock=some g->v.ownBlock=some g\/g=W.heap.size :=
 app_G cEd_len (by decide) cEd_one Tryz.underlying44 info_ed rfl (by decide) h hn hr
end
end
section
def leK (a b:ByteArray):Prop:=ZN b a=false
theorem leK_refl (a:ByteArray):leK a a:=ZQ a
theorem leK_of {a b:ByteArray} (h:ZN a b=true):leK a b:=by
 unfold leK;cases q:ZN b a with
 | false=>rfl
 | true=>have:=ZO h q;rw [ZQ] at this;cases this
theorem leK_trans {a b c:ByteArray} (h:leK a b) (k:leK b c):leK a c:=by
 unfold leK at h k ⊢;cases q:ZN c a with
 | false=>rfl
 | true =>
  cases z:ZN a b with
  | true=>have:=ZO q z;rw [k] at this;cases this
  | false=>rw [sLt_conn h z] at k;rw [k] at q;cases q
theorem lt_leK {a b c:ByteArray} (h:ZN a b=true) (k:leK b c):ZN a c=true:=by
 cases q:ZN a c with
 | true=>rfl
 | false =>
  have:=leK_trans k (show leK c a from q)
  unfold leK at this;rw [h] at this;cases this
theorem leK_lt {a b c:ByteArray} (h:leK a b) (k:ZN b c=true):ZN a c=true:=by
 cases q:ZN a c with
 | true=>rfl
 | false =>
  have:=leK_trans (show leK c a from q) h
  unfold leK at this;rw [k] at this;cases this
def ZF (d:List Ed) (i:Nat):ByteArray:=((d[i]?).map Ed.k).getD ByteArray.empty
theorem ZP {d:List Ed} {i:Nat} {x:Ed} (h:d[i]?=some x):ZF d i=x.k:=by unfold ZF;rw [h];rfl
def SrtIn (d:List Ed) (a b:Nat):Prop:=∀ i j,a<=i->i < j->j < b->leK (ZF d i) (ZF d j)
theorem SrtIn.sub {d:List Ed} {a b a' b':Nat} (h:SrtIn d a b) (h1:a<=a') (h2:b'<=b):SrtIn d a' b':=fun i j q1 q2 q3=>h i j (by omega) q2 (by omega)
theorem SrtIn.le {d:List Ed} {a b:Nat} (h:SrtIn d a b) {i j:Nat} (h1:a<=i) (h2:i<=j) (h3:j < b):leK (ZF d i) (ZF d j):=by
 by_cases q:i=j
 ·rw [q];exact leK_refl _
 ·exact h i j h1 (by omega) h3
def Out (d d':List Ed) (a b:Nat):Prop:=∀ i,(i < a\/b<=i)->d'[i]?=d[i]?
theorem Out.refl (d:List Ed) (a b:Nat):Out d d a b:=fun _ _=>rfl
theorem Out.trans {d d' d'':List Ed} {a b a1 b1 a2 b2:Nat} (h:Out d d' a1 b1) (k:Out d' d'' a2 b2) (h1:a<=a1) (h2:b1<=b) (h3:a<=a2) (h4:b2<=b):Out d d'' a b:=fun i hi=>(k i (by omega)).trans (h i (by omega))
theorem Out.key {d d':List Ed} {a b:Nat} (h:Out d d' a b) {i:Nat} (hi:i < a\/b<=i):ZF d' i=ZF d i:=by unfold ZF;rw [h i hi]
theorem Out.srt {d d':List Ed} {a b x y:Nat} (h:Out d d' a b) (hs:SrtIn d x y) (hd:y<=a\/b<=x):SrtIn d' x y:=fun i j h1 h2 h3=>by
 rw [h.key (by omega),h.key (by omega)]
 exact hs i j h1 h2 h3
open Classical in
noncomputable def Z7 (d:List Ed) (k:ByteArray):List Ed:=d.filter (fun e=>decide (e.k=k))
def Stb (d d':List Ed):Prop:=d'.length=d.length/\∀ k,Z7 d' k=Z7 d k
theorem Stb.refl (d:List Ed):Stb d d:=⟨rfl,fun _=>rfl⟩
theorem Stb.trans {a b c:List Ed} (h:Stb a b) (k:Stb b c):Stb a c:=⟨k.1.trans h.1,fun q=>(k.2 q).trans (h.2 q)⟩
theorem ofK_app (a b:List Ed) (k:ByteArray):Z7 (a++b) k=Z7 a k++Z7 b k:=by simp [Z7]
theorem Stb.swap {p a b s:List Ed} (h:∀ x ∈ a,∀ y ∈ b,x.k≠y.k):Stb (p++(a++(b++s))) (p++(b++(a++s))):=by
 refine ⟨by simp;omega,fun k=>?_⟩
 simp only [ofK_app];by_cases q:∃ x ∈ a,x.k=k
 ·obtain ⟨x,hx,hk⟩:=q
  have:Z7 b k=[]:=by
   unfold Z7;rw [List.filter_eq_nil_iff];intro y hy z;rw [decide_eq_true_eq] at z;exact h x hx y hy (hk.trans z.symm)
  rw [this];simp
 ·have:Z7 a k=[]:=by
   unfold Z7;rw [List.filter_eq_nil_iff];intro y hy z;rw [decide_eq_true_eq] at z;exact q ⟨y,hy,z⟩
  rw [this];simp
def swL (d:List Ed) (i j:Nat):List Ed:=match d[i]?,d[j]? with
 | some x,some y=>(d.set i y).set j x
 | _,_=>d
theorem swL_len (d:List Ed) (i j:Nat):(swL d i j).length=d.length:=by
 unfold swL;split <;> simp
theorem swL_get {d:List Ed} {i j:Nat} (hi:i < d.length) (hj:j < d.length) (t:Nat):(swL d i j)[t]?=if t=j then d[i]? else if t=i then d[j]? else d[t]?:=by
 have e1:d[i]?=some d[i]:=List.getElem?_eq_getElem hi
 have e2:d[j]?=some d[j]:=List.getElem?_eq_getElem hj
 unfold swL;rw [e1,e2];simp only;rw [List.getElem?_set]
 by_cases h1:t=j
 ·subst h1;simp [hj]
 ·rw [if_neg h1,if_neg (Ne.symm h1),List.getElem?_set]
  by_cases h2:t=i
  ·subst h2;simp [hi]
  ·rw [if_neg h2,if_neg (Ne.symm h2)]
theorem swL_key {d:List Ed} {i j:Nat} (hi:i < d.length) (hj:j < d.length) (t:Nat):ZF (swL d i j) t=if t=j then ZF d i else if t=i then ZF d j else ZF d t:=by
 unfold ZF;rw [swL_get hi hj];split
 ·rfl
 ·split <;> rfl
theorem swL_comm {d:List Ed} {i j:Nat} (hi:i < d.length) (hj:j < d.length):swL d i j=swL d j i:=by
 refine List.ext_getElem? (fun t=>?_)
 rw [swL_get hi hj,swL_get hj hi];by_cases h1:t=j
 ·by_cases h2:t=i
  ·subst h1;subst h2;rfl
  ·simp [h1,show ¬ j=i by omega]
 ·simp [h1]
theorem swL_out {d:List Ed} {i j a b:Nat} (hi:i < d.length) (hj:j < d.length) (h1:a<=i) (h2:a<=j) (h3:i < b) (h4:j < b):Out d (swL d i j) a b:=fun t ht=>by
 rw [swL_get hi hj,if_neg (by omega),if_neg (by omega)]
theorem swL_stb {d:List Ed} {i:Nat} (hi:i+1 < d.length) (hk:ZF d i≠ZF d (i+1)):Stb d (swL d i (i+1)):=by
 have e1:d[i]?=some (d[i]'(by omega)):=List.getElem?_eq_getElem _
 have e2:d[i+1]?=some d[i+1]:=List.getElem?_eq_getElem hi
 have hd:d=d.take i++([d[i]'(by omega)]++([d[i+1]]++d.drop (i+2))):=by
  conv=>lhs;rw [<- List.take_append_drop i d]
  rw [List.drop_eq_getElem_cons (by omega),List.drop_eq_getElem_cons (by omega)]
  simp
 have hs:swL d i (i+1)=d.take i++([d[i+1]]++([d[i]'(by omega)]++d.drop (i+2))):=by
  refine List.ext_getElem? (fun t=>?_)
  rw [swL_get (by omega) hi]
  by_cases h0:t < i
  ·rw [if_neg (by omega),if_neg (by omega),List.getElem?_append_left (by simp;omega),List.getElem?_take,if_pos h0]
  ·rw [List.getElem?_append_right (by simp;omega),List.length_take,Nat.min_eq_left (by omega)]
   by_cases h1:t=i
   ·subst h1;rw [if_neg (by omega),if_pos rfl];simp [e2]
   ·by_cases h2:t=i+1
    ·subst h2;rw [if_pos rfl,e1];simp
    ·rw [if_neg h2,if_neg h1];obtain ⟨u,rfl⟩:∃ u,t=i+2+u:=⟨t - (i+2),by omega⟩
     rw [show i+2+u - i=u+2 by omega]
     simp
 rw [hs];conv=>arg 1;rw [hd]
 refine Stb.swap (fun x hx y hy q=>hk ?_)
 rw [List.mem_singleton] at hx hy;rw [ZP e1,ZP e2,<- hx,<- hy];exact q
def Frm (d d':List Ed) (a b:Nat):Prop:=∀ i,a<=i->i < b->∃ j,a<=j/\j < b/\ZF d' i=ZF d j
theorem Frm.refl (d:List Ed) (a b:Nat):Frm d d a b:=fun i h1 h2=>⟨i,h1,h2,rfl⟩
theorem Frm.trans {d d' d'':List Ed} {a b:Nat} (h:Frm d d' a b) (k:Frm d' d'' a b):Frm d d'' a b:=fun i h1 h2=>by
 obtain ⟨j,q1,q2,q3⟩:=k i h1 h2;obtain ⟨t,z1,z2,z3⟩:=h j q1 q2;exact ⟨t,z1,z2,q3.trans z3⟩
theorem Frm.wide {d d':List Ed} {a b a' b':Nat} (h:Frm d d' a b) (o:Out d d' a b) (h1:a'<=a) (h2:b<=b'):Frm d d' a' b':=fun i q1 q2=>by
 by_cases z:a<=i/\i < b
 ·obtain ⟨j,y1,y2,y3⟩:=h i z.1 z.2;exact ⟨j,by omega,by omega,y3⟩
 ·exact ⟨i,q1,q2,o.key (by omega)⟩
theorem swL_frm {d:List Ed} {i j a b:Nat} (hi:i < d.length) (hj:j < d.length) (h1:a<=i) (h2:a<=j) (h3:i < b) (h4:j < b):Frm d (swL d i j) a b:=fun t q1 q2=>by
 rw [swL_key hi hj];split
 ·exact ⟨i,h1,h3,rfl⟩
 ·split
  ·exact ⟨j,h2,h4,rfl⟩
  ·exact ⟨t,q1,q2,rfl⟩
theorem neK_lt {a b:ByteArray} (h:ZN a b=true):a≠b:=fun q=>by rw [q,ZQ] at h;cases h
def RoE (w:World) (g:Nat) (d:List Ed) (ex:List Value):Prop:=Ob w g 46 (Zj cEd d++ex)
def aggE (x:Ed):Value:=.agg #[.string x.k,.string x.v,.bool x.g]
section
variable {w w':World} {g:Nat} {d:List Ed} {ex:List Value}
theorem RoE.old (h:RoE w g d ex) (b:Below w.heap.size w w'):RoE w' g d ex:=Ob.old h b
theorem RoE.drew (h:RoE w g d ex):RoE w.drew g d ex:=h.old (Below.refl _ _).drew
theorem RoE.at (h:RoE w g d ex) {i:Nat} {x:Ed} (hx:d[i]?=some x) (j:Nat) (u:Value) (hu:(cEd x)[j]?=some u):w.cell? ⟨g,i * 3+j,none⟩=some u:=by
 have hc:=Ob.cell h (i * 3+j);have:=gcells_at cEd_len d hx hu;rw [hc,List.getElem?_append_left (List.getElem?_eq_some_iff.1 this).1]
 exact this
theorem RoE.cells (h:RoE w g d ex) {i:Nat} {x:Ed} (hx:d[i]?=some x):w.cell? ⟨g,i * 3,none⟩=some (.string x.k)/\w.cell? ⟨g,i * 3+1,none⟩=some (.string x.v)/\w.cell? ⟨g,i * 3+2,none⟩=some (.bool x.g) :=
 ⟨h.at hx 0 _ rfl,h.at hx 1 _ rfl,h.at hx 2 _ rfl⟩
theorem gcells_set {α:Type} {c:α->List Value} {k:Nat} (hk:∀ x,(c x).length=k):∀ (l:List α) (i:Nat) (y:α),i < l.length->over (Zj c l) (i * k) (c y)=Zj c (l.set i y)
 | [],_,_,h=>by simp at h
 | x :: l,0,y,_=>by
  simp [over,Zj,hk]
 | x :: l,i+1,y,h=>by
  have ih:=gcells_set hk l i y (by simpa using h)
  have e1:Zj c ((x :: l).set (i+1) y)=c x++Zj c (l.set i y):=by simp [Zj]
  have e2:Zj c (x :: l)=c x++Zj c l:=by simp [Zj]
  rw [e1,e2,<- ih];unfold over;rw [show (i+1) * k=(c x).length+i * k by rw [hk,Nat.succ_mul];omega,Nat.add_assoc,List.take_length_add_append,List.drop_length_add_append]
  simp [List.append_assoc]
theorem size_ed:(Tryz.prog.info? 46).map (·.size)=some 3:=by kernel_rfl
theorem RoE.load (h:RoE w g d ex) {i:Nat} {x:Ed} (hx:d[i]?=some x):(Instr.loadAt 46 (.pointer (some ⟨g,i * 3,none⟩))).run Tryz.prog w=.ok (aggE x) w:=by
 refine run_loadAt_cells (P:=Tryz.prog) 46 _ Tryz.underlying46 rfl (cEd x) size_ed ⟨g,i * 3,none⟩ (fun j v hv=>?_)
 rw [show (⟨g,i * 3,none⟩:Addr).add j=⟨g,i * 3+j,none⟩ by unfold Addr.add;split <;> simp_all]
 exact h.at hx j v hv
theorem RoE.store (h:RoE w g d ex) {i:Nat} (hi:i < d.length) (y:Ed):∃ w',(Instr.storeAt 46 (.pointer (some ⟨g,i * 3,none⟩)) (aggE y)).run Tryz.prog w=.ok () w'/\RoE w' g (d.set i y) ex/\Onl (fun k=>k=g) w w':=by
 have hle:i * 3+3<=d.length * 3:=by omega
 obtain ⟨w',h1,h2,h3⟩:=run_storeAt_cells (P:=Tryz.prog) (w:=w) 46 46 g (i * 3) (Zj cEd d++ex) (cEd y) size_ed (cEd_one y) h (by rw [List.length_append,gcells_len cEd_len,cEd_len];omega)
 refine ⟨w',h1,?_,h3⟩;unfold RoE;rw [<- gcells_set cEd_len d i y hi]
 have:over (Zj cEd d++ex) (i * 3) (cEd y)=over (Zj cEd d) (i * 3) (cEd y)++ex:=by
  unfold over;rw [List.take_append_of_le_length (by rw [gcells_len cEd_len];omega),List.drop_append_of_le_length (by rw [gcells_len cEd_len,cEd_len];omega)]
  simp
 rw [<- this];exact h2
structure SwE (W:World) (g:Nat) (d:List Ed) (ex:List Value) (i j:Nat) (x y:Ed) (S1 S2:World):Prop where
 l1:LdRuns Tryz.prog W 46 (.pointer (some ⟨g,i * 3,none⟩))
 l2:ldVal Tryz.prog W 46 (.pointer (some ⟨g,i * 3,none⟩))=aggE x
 l3:LdRuns Tryz.prog W 46 (.pointer (some ⟨g,j * 3,none⟩))
 l4:ldVal Tryz.prog W 46 (.pointer (some ⟨g,j * 3,none⟩))=aggE y
 s1:StRuns Tryz.prog W 46 (.pointer (some ⟨g,i * 3,none⟩)) (aggE y)
 s2:stWld Tryz.prog W 46 (.pointer (some ⟨g,i * 3,none⟩)) (aggE y)=S1
 s3:StRuns Tryz.prog S1 46 (.pointer (some ⟨g,j * 3,none⟩)) (aggE x)
 s4:stWld Tryz.prog S1 46 (.pointer (some ⟨g,j * 3,none⟩)) (aggE x)=S2
 ro:RoE S2 g (swL d i j) ex
 on:Onl (fun k=>k=g) W S2
theorem RoE.swap (h:RoE w g d ex) {i j:Nat} (hi:i < d.length) (hj:j < d.length):∃ x y S1 S2,SwE w g d ex i j x y S1 S2:=by
 have e1:d[i]?=some d[i]:=List.getElem?_eq_getElem hi
 have e2:d[j]?=some d[j]:=List.getElem?_eq_getElem hj
 obtain ⟨S1,a1,r1,o1⟩:=h.store hi d[j];obtain ⟨S2,a2,r2,o2⟩:=r1.store (i:=j) (by simpa using hj) d[i]
 obtain ⟨b1,b2⟩:=ld_runs (h.load e1);obtain ⟨b3,b4⟩:=ld_runs (h.load e2);obtain ⟨c1,c2⟩:=st_runs a1;obtain ⟨c3,c4⟩:=st_runs a2;refine ⟨d[i],d[j],S1,S2,b1,b2,b3,b4,c1,c2,c3,c4,?_,o1.trans o2⟩;have:swL d i j=(d.set i d[j]).set j d[i]:=by unfold swL;rw [e1,e2]
 rw [this];exact r2
end
theorem ldE_exec {P:Program} {w:World} {ρ:Operand->Value} {dst:Option Tmp} {x:Operand} {ty:TypeId} {pos:String} {after:Array Edge} {guard:Option (Nat × Bool)} (h:LdRuns P w 46 (ρ x)) :
  (execOp ρ { dst,op:=.load 46 x,type:=ty,pos,after,guard }).run P w=.ok (.value (ldVal P w 46 (ρ x))) w:=ld_exec h
theorem stE_exec {P:Program} {w:World} {ρ:Operand->Value} {dst:Option Tmp} {x y:Operand} {ty:TypeId} {pos:String} {after:Array Edge} {guard:Option (Nat × Bool)} (h:StRuns P w 46 (ρ x) (ρ y)) :
  (execOp ρ { dst,op:=.store 46 x y,type:=ty,pos,after,guard }).run P w=.ok .skip (stWld P w 46 (ρ x) (ρ y)):=st_exec h
attribute [local go_sem ↓] ldE_exec stE_exec
def SoP (w:World) (g:Nat) (ex:List Value) (R:List Ed->Prop) (e:Ending) (w':World):Prop:=e=.returned (.tuple #[])/\∃ d',RoE w' g d' ex/\R d'/\Onl (fun j=>j=g) w w'
def swR (d:List Ed) (a b:Nat):Nat->List Ed
 | 0=>d
 | n+1=>swL (swR d a b n) (a+n) (b+n)
theorem swR_len (d:List Ed) (a b:Nat):∀ n,(swR d a b n).length=d.length
 | 0=>rfl
 | n+1=>by unfold swR;rw [swL_len,swR_len d a b n]
theorem swr_any (w:World) (g cap:Nat) (d:List Ed) (ex:List Value) (F:Value) (h:RoE w g d ex) (hl:d.length<=1000000) (a b n:Nat) (ha:a+n<=d.length) (hb:b+n<=d.length) :
  Calls Tryz.prog 219 #[.slice (some ⟨g,0,none⟩) d.length cap,.int .i64 a,.int .i64 b,.int .i64 n,F] w (SoP w g ex (fun d'=>d'=swR d a b n)):=by
 have HR:=Za h;obtain ⟨ln,hln⟩:∃ ln,ln=d.length:=⟨_,rfl⟩;have HLN:=Za hln;rw [<- hln] at ha hb hl ⊢;clear h hln;go_enter Tryz.func219,Tryz.ntmps219
 go_wp2;go_loopw [10] (fun v wr=>∃ i:Nat,i<=n/\v=.int .i64 i/\Hid (RoE wr g (swR d a b i) ex)/\Hid (Onl (fun j=>j=g) w wr)) (fun v _=>n - (intOf v).toNat)
 case atStart=>exact ⟨0,Nat.zero_le _,rfl,HR,Za (Onl.refl _ _)⟩
 case round =>
  obtain ⟨i,hi,rfl,HRo,HO⟩:=hrel;by_cases hin:i < n
  ·obtain ⟨x,y,S1,S2,sw⟩:=(HRo.out.drew).swap (i:=a+i) (j:=b+i) (by rw [swR_len];have:=HLN.out;omega) (by rw [swR_len];have:=HLN.out;omega)
   obtain ⟨l1,l2,l3,l4,s1,s2,s3,s4,ro,on⟩:=sw;have HF:Hid (RoE S2 g (swR d a b (i+1)) ex):=Za ro;have HO2:Hid (Onl (fun j=>j=g) w S2):=Za ((HO.out.drew).trans on)
   unfold aggE at l2 l4 s1 s2 s3 s4;obtain ⟨ai,hai⟩:∃ ai,ai=a+i:=⟨_,rfl⟩;obtain ⟨bi,hbi⟩:∃ bi,bi=b+i:=⟨_,rfl⟩;rw [<- hai] at l1 l2 s1 s2;rw [<- hbi] at l3 l4 s3 s4;have w1:IntKind.i64.wrap ((a:Int)+(i:Int))=(ai:Int):=by rw [IntKind.wrap_i64];omega
   have w2:IntKind.i64.wrap ((b:Int)+(i:Int))=(bi:Int):=by rw [IntKind.wrap_i64];omega
   have w3:(a:Int)+(i:Int)=(ai:Int):=by omega
   have w4:(b:Int)+(i:Int)=(bi:Int):=by omega
   have h1:ai < ln:=by omega
   have h2:bi < ln:=by omega
   clear ro on HR HRo HO hai hbi;go_wp2;go_region
   go_wp2;go_roundw
   case rel=>exact ⟨i+1,by omega,by simp,HF,HO2⟩
   case measure=>simp [intOf];omega
  ·obtain rfl:i=n:=by omega
   go_wp2;go_end0
   exact ⟨rfl,_,HRo.out,rfl,HO.out⟩
end
def exL (d:List Ed) (s m e:Nat):List Ed:=d.take s++((d.take e).drop m++((d.take m).drop s++d.drop e))
theorem exL_get {d:List Ed} {s m e:Nat} (h1:s<=m) (h2:m<=e) (h3:e<=d.length) (t:Nat):(exL d s m e)[t]?=if t < s then d[t]? else if t < s+(e - m) then d[t - s+m]? else if t < e then d[t - (e - m)]? else d[t]?:=by
 unfold exL;have l1:(d.take s).length=s:=by simp;omega
 have l2:((d.take e).drop m).length=e - m:=by simp;omega
 have l3:((d.take m).drop s).length=m - s:=by simp;omega
 by_cases q1:t < s
 ·rw [if_pos q1,List.getElem?_append_left (by omega),List.getElem?_take,if_pos q1]
 ·rw [if_neg q1,List.getElem?_append_right (by omega),l1]
  by_cases q2:t < s+(e - m)
  ·rw [if_pos q2,List.getElem?_append_left (by omega),List.getElem?_drop,List.getElem?_take,if_pos (by omega)]
   congr 1
   omega
  ·rw [if_neg q2,List.getElem?_append_right (by omega),l2]
   by_cases q3:t < e
   ·rw [if_pos q3,List.getElem?_append_left (by omega),List.getElem?_drop,List.getElem?_take,if_pos (by omega)]
    congr 1
    omega
   ·rw [if_neg q3,List.getElem?_append_right (by omega),l3,List.getElem?_drop]
    congr 1
    omega
theorem swR_get {d:List Ed} {a b:Nat}:∀ {n:Nat},a+n<=b->b+n<=d.length->∀ t,(swR d a b n)[t]?=if a<=t/\t < a+n then d[t - a+b]? else if b<=t/\t < b+n then d[t - b+a]? else d[t]?
 | 0,_,_,t=>by
  rw [if_neg (by omega),if_neg (by omega)]
  rfl
 | n+1,h1,h2,t=>by
  have ih:=swR_get (d:=d) (a:=a) (b:=b) (n:=n) (by omega) (by omega)
  unfold swR;rw [swL_get (by rw [swR_len];omega) (by rw [swR_len];omega)]
  by_cases q1:t=b+n
  ·rw [if_pos q1,ih,if_neg (by omega),if_neg (by omega),if_neg (by omega),if_pos (by omega)]
   congr 1
   omega
  ·rw [if_neg q1];by_cases q2:t=a+n
   ·rw [if_pos q2,ih,if_neg (by omega),if_neg (by omega),if_pos (by omega)]
    congr 1
    omega
   ·rw [if_neg q2,ih];by_cases q3:a<=t/\t < a+n
    ·rw [if_pos q3,if_pos (by omega)]
    ·rw [if_neg q3,if_neg (show ¬ (a<=t/\t < a+(n+1)) by omega)]
     by_cases q4:b<=t/\t < b+n
     ·rw [if_pos q4,if_pos (by omega)]
     ·rw [if_neg q4,if_neg (by omega)]
theorem rot_more {d:List Ed} {m i j:Nat} (hi:i<=m) (hj:m+j<=d.length) (h:j < i):exL (swR d (m - i) m j) (m - (i - j)) m (m+j)=exL d (m - i) m (m+j):=by
 refine List.ext_getElem? (fun t=>?_)
 rw [exL_get (by omega) (by omega) (by rw [swR_len];exact hj),exL_get (by omega) (by omega) hj]
 simp only [swR_get (show m - i+j<=m by omega) hj]
 repeat' split
 all_goals first | rfl | (exfalso;omega) | (congr 1;omega)
theorem rot_less {d:List Ed} {m i j:Nat} (hi:i<=m) (hj:m+j<=d.length) (h:i < j):exL (swR d (m - i) (m+j - i) i) (m - i) m (m+(j - i))=exL d (m - i) m (m+j):=by
 refine List.ext_getElem? (fun t=>?_)
 rw [exL_get (by omega) (by omega) (by rw [swR_len];omega),exL_get (by omega) (by omega) hj]
 simp only [swR_get (show m - i+i<=m+j - i by omega) (show m+j - i+i<=d.length by omega)]
 repeat' split
 all_goals first | rfl | (exfalso;omega) | (congr 1;omega)
theorem rot_same {d:List Ed} {m i:Nat} (hi:i<=m) (hj:m+i<=d.length):swR d (m - i) m i=exL d (m - i) m (m+i):=by
 refine List.ext_getElem? (fun t=>?_)
 rw [exL_get (by omega) (by omega) hj]
 simp only [swR_get (show m - i+i<=m by omega) hj]
 repeat' split
 all_goals first | rfl | (exfalso;omega) | (congr 1;omega)
theorem rot_any (w:World) (g cap:Nat) (d:List Ed) (ex:List Value) (F:Value) (h:RoE w g d ex) (hl:d.length<=1000000) (a m b:Nat) (ham:a < m) (hmb:m < b) (hb:b<=d.length) :
  Calls Tryz.prog 212 #[.slice (some ⟨g,0,none⟩) d.length cap,.int .i64 a,.int .i64 m,.int .i64 b,F] w (SoP w g ex (fun d'=>d'=exL d a m b)):=by
 have CS:∀ W d' a' b' n',RoE W g d' ex->d'.length=d.length->a'+n'<=d.length->b'+n'<=d.length->Calls Tryz.prog 219 #[.slice (some ⟨g,0,none⟩) d.length cap,.int .i64 ((a':Nat):Int),.int .i64 ((b':Nat):Int),.int .i64 ((n':Nat):Int),F] W (SoP W g ex (fun d''=>d''=swR d' a' b' n')):=fun W d' a' b' n' hr he h1 h2=>by
  have:=swr_any W g cap d' ex F hr (by omega) a' b' n' (by omega) (by omega)
  rwa [he] at this
 have HR:=Za h;obtain ⟨ln,hln⟩:∃ ln,ln=d.length:=⟨_,rfl⟩;have HLN:=Za hln;have HCS:=Za CS;rw [<- hln] at hb hl HCS ⊢;clear h hln CS;have w1:IntKind.i64.wrap ((m:Int) - (a:Int))=((m - a:Nat):Int):=by rw [IntKind.wrap_i64];omega
 have w2:IntKind.i64.wrap ((b:Int) - (m:Int))=((b - m:Nat):Int):=by rw [IntKind.wrap_i64];omega
 go_enter Tryz.func212,Tryz.ntmps212
 go_wp2;clear w1 w2;go_loopw [10,11] (fun v u wr=>∃ (i j:Nat) (d':List Ed),0 < i/\0 < j/\i<=m/\m+j<=ln/\v=.int .i64 i/\u=.int .i64 j/\Hid (RoE wr g d' ex/\d'.length=ln/\exL d' (m - i) m (m+j)=exL d a m b)/\Hid (Onl (fun j=>j=g) w wr)) (fun v u _=>(intOf v).toNat+(intOf u).toNat)
 case atStart=>exact ⟨m - a,b - m,d,by omega,by omega,by omega,by omega,rfl,rfl,Za ⟨HR.out,HLN.out.symm,by rw [show m - (m - a)=a by omega,show m+(b - m)=b by omega]⟩,Za (Onl.refl _ _)⟩
 case round =>
  obtain ⟨i,j,d',hi0,hj0,him,hjl,rfl,rfl,HRo,HO⟩:=hrel;have w3:IntKind.i64.wrap ((m:Int) - (i:Int))=((m - i:Nat):Int):=by rw [IntKind.wrap_i64];omega
  by_cases hij:i=j
  ·subst hij;have C:=HCS.out wr d' (m - i) m i HRo.out.1 HRo.out.2.1 (by omega) (by omega)
   have HC:=Za C;clear C;have hz:((i:Int) != (i:Int))=false:=by simp
   go_wp2_with fail
   refine HC.out.mono ?_;rintro e w2 ⟨rfl,d2,r2,rfl,o2⟩
   have HF:Hid (RoE w2 g (exL d a m b) ex):=by
    have h1:=rot_same (d:=d') (m:=m) (i:=i) him (by rw [HRo.out.2.1];exact hjl)
    rw [h1,HRo.out.2.2] at r2;exact Za r2
   have HO2:=Za (HO.out.trans o2);clear r2 o2;go_wp2;go_end0
   exact ⟨rfl,_,HF.out,rfl,HO2.out⟩
  ·have hz:((i:Int) != (j:Int))=true:=by simp;omega
   by_cases hlt:j < i
   ·have hd:decide ((j:Int) < (i:Int))=true:=decide_eq_true (by omega)
    have C:=HCS.out wr d' (m - i) m j HRo.out.1 HRo.out.2.1 (by omega) (by omega)
    have HC:=Za C;clear C;have w4:IntKind.i64.wrap ((i:Int) - (j:Int))=((i - j:Nat):Int):=by rw [IntKind.wrap_i64];omega
    go_wp2_with fail
    refine HC.out.mono ?_;rintro e w2 ⟨rfl,d2,r2,rfl,o2⟩;have HF:Hid (RoE w2 g (swR d' (m - i) m j) ex/\(swR d' (m - i) m j).length=ln/\exL (swR d' (m - i) m j) (m - (i - j)) m (m+j)=exL d a m b):=Za ⟨r2,by rw [swR_len];exact HRo.out.2.1,by rw [rot_more him (by rw [HRo.out.2.1];exact hjl) hlt];exact HRo.out.2.2⟩
    have HO2:=Za (HO.out.trans o2);clear r2 o2;go_wp2;go_roundw
    case rel=>exact ⟨i - j,j,_,by omega,by omega,by omega,by omega,rfl,rfl,HF,HO2⟩
    case measure=>simp [intOf];omega
   ·have hd:decide ((j:Int) < (i:Int))=false:=decide_eq_false (by omega)
    have C:=HCS.out wr d' (m - i) (m+j - i) i HRo.out.1 HRo.out.2.1 (by omega) (by omega)
    have HC:=Za C;clear C;have w4:IntKind.i64.wrap ((j:Int) - (i:Int))=((j - i:Nat):Int):=by rw [IntKind.wrap_i64];omega
    have w5:IntKind.i64.wrap ((m:Int)+(j:Int) - (i:Int))=((m+j - i:Nat):Int):=by rw [IntKind.wrap_i64];omega
    have w6:IntKind.i64.wrap ((m:Int)+(j:Int))=((m+j:Nat):Int):=by rw [IntKind.wrap_i64];omega
    go_wp2_with fail
    refine HC.out.mono ?_;rintro e w2 ⟨rfl,d2,r2,rfl,o2⟩;have HF:Hid (RoE w2 g (swR d' (m - i) (m+j - i) i) ex/\(swR d' (m - i) (m+j - i) i).length=ln/\exL (swR d' (m - i) (m+j - i) i) (m - i) m (m+(j - i))=exL d a m b):=Za ⟨r2,by rw [swR_len];exact HRo.out.2.1,by rw [rot_less him (by rw [HRo.out.2.1];exact hjl) (by omega)];exact HRo.out.2.2⟩
    have HO2:=Za (HO.out.trans o2);clear r2 o2;go_wp2;go_roundw
    case rel=>exact ⟨i,j - i,_,by omega,by omega,by omega,by omega,rfl,rfl,HF,HO2⟩
    case measure=>simp [intOf];omega
end Go.Proofs.YtdhebpnkfookcaaGreat
