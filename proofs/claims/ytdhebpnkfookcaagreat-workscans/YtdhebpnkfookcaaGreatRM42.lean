import Derived.Test.YtdhebpnkfookcaaGreatRM41
set_option maxRecDepth 100000
set_option maxHeartbeats 8000000
namespace Go.Proofs.YtdhebpnkfookcaaGreat
section
open Go.RowKit Apo
def leK (a b:ByteArray):Prop:=Z2 b a=false
theorem leK_refl (a:ByteArray):leK a a:=ZM a
theorem leK_of {a b:ByteArray} (h:Z2 a b=true):leK a b:=by
 unfold leK;cases q:Z2 b a with
 | false=>rfl
 | true=>have:=ZV h q;rw [ZM] at this;cases this
theorem leK_trans {a b c:ByteArray} (h:leK a b) (k:leK b c):leK a c:=by
 unfold leK at h k ⊢;cases q:Z2 c a with
 | false=>rfl
 | true =>
  cases z:Z2 a b with
  | true=>have:=ZV q z;rw [k] at this;cases this
  | false=>rw [sLt_conn h z] at k;rw [k] at q;cases q
def kAt (d:List Ed) (i:Nat):ByteArray:=((d[i]?).map Ed.k).getD ByteArray.empty
theorem kAt_some {d:List Ed} {i:Nat} {x:Ed} (h:d[i]?=some x):kAt d i=x.k:=by unfold kAt;rw [h];rfl
def SrtIn (d:List Ed) (a b:Nat):Prop:=∀ i j,a<=i->i < j->j < b->leK (kAt d i) (kAt d j)
theorem SrtIn.sub {d:List Ed} {a b a' b':Nat} (h:SrtIn d a b) (h1:a<=a') (h2:b'<=b):SrtIn d a' b':=fun i j q1 q2 q3=>h i j (by omega) q2 (by omega)
theorem SrtIn.le {d:List Ed} {a b:Nat} (h:SrtIn d a b) {i j:Nat} (h1:a<=i) (h2:i<=j) (h3:j < b):leK (kAt d i) (kAt d j):=by
 by_cases q:i=j
 ·rw [q];exact leK_refl _
 ·exact h i j h1 (by omega) h3
def Out (d d':List Ed) (a b:Nat):Prop:=∀ i,(i < a\/b<=i)->d'[i]?=d[i]?
theorem Out.refl (d:List Ed) (a b:Nat):Out d d a b:=fun _ _=>rfl
theorem Out.trans {d d' d'':List Ed} {a b a1 b1 a2 b2:Nat} (h:Out d d' a1 b1) (k:Out d' d'' a2 b2) (h1:a<=a1) (h2:b1<=b) (h3:a<=a2) (h4:b2<=b):Out d d'' a b:=fun i hi=>(k i (by omega)).trans (h i (by omega))
theorem Out.key {d d':List Ed} {a b:Nat} (h:Out d d' a b) {i:Nat} (hi:i < a\/b<=i):kAt d' i=kAt d i:=by unfold kAt;rw [h i hi]
theorem Out.srt {d d':List Ed} {a b x y:Nat} (h:Out d d' a b) (hs:SrtIn d x y) (hd:y<=a\/b<=x):SrtIn d' x y:=fun i j h1 h2 h3=>by
 rw [h.key (by omega),h.key (by omega)];exact hs i j h1 h2 h3
open Classical in
noncomputable def ofKey (d:List Ed) (k:ByteArray):List Ed:=d.filter (fun e=>decide (e.k=k))
def Stb (d d':List Ed):Prop:=d'.length=d.length/\∀ k,ofKey d' k=ofKey d k
theorem Stb.refl (d:List Ed):Stb d d:=⟨rfl,fun _=>rfl⟩
theorem Stb.trans {a b c:List Ed} (h:Stb a b) (k:Stb b c):Stb a c:=⟨k.1.trans h.1,fun q=>(k.2 q).trans (h.2 q)⟩
theorem ofK_app (a b:List Ed) (k:ByteArray):ofKey (a++b) k=ofKey a k++ofKey b k:=by simp [ofKey]
theorem Stb.swap {p a b s:List Ed} (h:∀ x ∈ a,∀ y ∈ b,x.k≠y.k):Stb (p++(a++(b++s))) (p++(b++(a++s))):=by
 refine ⟨by simp;omega,fun k=>?_⟩;simp only [ofK_app];by_cases q:∃ x ∈ a,x.k=k
 ·obtain ⟨x,hx,hk⟩:=q
  have:ofKey b k=[]:=by
   unfold ofKey;rw [List.filter_eq_nil_iff];intro y hy z;rw [decide_eq_true_eq] at z;exact h x hx y hy (hk.trans z.symm)
  rw [this];simp
 ·have:ofKey a k=[]:=by
   unfold ofKey;rw [List.filter_eq_nil_iff];intro y hy z;rw [decide_eq_true_eq] at z;exact q ⟨y,hy,z⟩
  rw [this];simp
def swL (d:List Ed) (i j:Nat):List Ed:=match d[i]?,d[j]? with
 | some x,some y=>(d.set i y).set j x
 | _,_=>d
theorem swL_get {d:List Ed} {i j:Nat} (hi:i < d.length) (hj:j < d.length) (t:Nat):(swL d i j)[t]?=if t=j then d[i]? else if t=i then d[j]? else d[t]?:=by
 have e1:d[i]?=some d[i]:=List.getElem?_eq_getElem hi
 have e2:d[j]?=some d[j]:=List.getElem?_eq_getElem hj
 unfold swL;rw [e1,e2];simp only;rw [List.getElem?_set];by_cases h1:t=j
 ·subst h1;simp [hj]
 ·rw [if_neg h1,if_neg (Ne.symm h1),List.getElem?_set];by_cases h2:t=i
  ·subst h2;simp [hi]
  ·rw [if_neg h2,if_neg (Ne.symm h2)]
theorem swL_key {d:List Ed} {i j:Nat} (hi:i < d.length) (hj:j < d.length) (t:Nat):kAt (swL d i j) t=if t=j then kAt d i else if t=i then kAt d j else kAt d t:=by
 unfold kAt;rw [swL_get hi hj];split
 ·rfl
 ·split <;> rfl
theorem swL_comm {d:List Ed} {i j:Nat} (hi:i < d.length) (hj:j < d.length):swL d i j=swL d j i:=by
 refine List.ext_getElem? (fun t=>?_);rw [swL_get hi hj,swL_get hj hi];by_cases h1:t=j
 ·by_cases h2:t=i
  ·subst h1;subst h2;rfl
  ·simp [h1,show ¬ j=i by omega]
 ·simp [h1]
theorem swL_out {d:List Ed} {i j a b:Nat} (hi:i < d.length) (hj:j < d.length) (h1:a<=i) (h2:a<=j) (h3:i < b) (h4:j < b):Out d (swL d i j) a b:=fun t ht=>by
 rw [swL_get hi hj,if_neg (by omega),if_neg (by omega)]
theorem swL_stb {d:List Ed} {i:Nat} (hi:i+1 < d.length) (hk:kAt d i≠kAt d (i+1)):Stb d (swL d i (i+1)):=by
 have e1:d[i]?=some (d[i]'(by omega)):=List.getElem?_eq_getElem _
 have e2:d[i+1]?=some d[i+1]:=List.getElem?_eq_getElem hi
 have hd:d=d.take i++([d[i]'(by omega)]++([d[i+1]]++d.drop (i+2))):=by
  conv=>lhs;rw [<- List.take_append_drop i d]
  rw [List.drop_eq_getElem_cons (by omega),List.drop_eq_getElem_cons (by omega)];simp
 have hs:swL d i (i+1)=d.take i++([d[i+1]]++([d[i]'(by omega)]++d.drop (i+2))):=by
  refine List.ext_getElem? (fun t=>?_);rw [swL_get (by omega) hi];by_cases h0:t < i
  ·rw [if_neg (by omega),if_neg (by omega),List.getElem?_append_left (by simp;omega),List.getElem?_take,if_pos h0]
  ·rw [List.getElem?_append_right (by simp;omega),List.length_take,Nat.min_eq_left (by omega)];by_cases h1:t=i
   ·subst h1;rw [if_neg (by omega),if_pos rfl];simp [e2]
   ·by_cases h2:t=i+1
    ·subst h2;rw [if_pos rfl,e1];simp
    ·rw [if_neg h2,if_neg h1];obtain ⟨u,rfl⟩:∃ u,t=i+2+u:=⟨t - (i+2),by omega⟩;rw [show i+2+u - i=u+2 by omega];simp
 rw [hs];conv=>arg 1;rw [hd]
 refine Stb.swap (fun x hx y hy q=>hk ?_);rw [List.mem_singleton] at hx hy;rw [kAt_some e1,kAt_some e2,<- hx,<- hy];exact q
def Frm (d d':List Ed) (a b:Nat):Prop:=∀ i,a<=i->i < b->∃ j,a<=j/\j < b/\kAt d' i=kAt d j
theorem Frm.refl (d:List Ed) (a b:Nat):Frm d d a b:=fun i h1 h2=>⟨i,h1,h2,rfl⟩
theorem Frm.trans {d d' d'':List Ed} {a b:Nat} (h:Frm d d' a b) (k:Frm d' d'' a b):Frm d d'' a b:=fun i h1 h2=>by
 obtain ⟨j,q1,q2,q3⟩:=k i h1 h2;obtain ⟨t,z1,z2,z3⟩:=h j q1 q2;exact ⟨t,z1,z2,q3.trans z3⟩
theorem Frm.wide {d d':List Ed} {a b a' b':Nat} (h:Frm d d' a b) (o:Out d d' a b) (h1:a'<=a) (h2:b<=b'):Frm d d' a' b':=fun i q1 q2=>by
 by_cases z:a<=i/\i < b
 ·obtain ⟨j,y1,y2,y3⟩:=h i z.1 z.2;exact ⟨j,by omega,by omega,y3⟩
 ·exact ⟨i,q1,q2,o.key (by omega)⟩
theorem swL_frm {d:List Ed} {i j a b:Nat} (hi:i < d.length) (hj:j < d.length) (h1:a<=i) (h2:a<=j) (h3:i < b) (h4:j < b):Frm d (swL d i j) a b:=fun t q1 q2=>by
 rw [swL_key hi hj];split
 ·exact ⟨i,h1,h3,rfl⟩
 ·split
  ·exact ⟨j,h2,h4,rfl⟩
  ·exact ⟨t,q1,q2,rfl⟩
theorem neK_lt {a b:ByteArray} (h:Z2 a b=true):a≠b:=fun q=>by rw [q,ZM] at h;cases h
def RoE (w:World) (g:Nat) (d:List Ed) (ex:List Value):Prop:=Ob w g 46 (Zf cEd d++ex)
def aggE (x:Ed):Value:=.agg #[.string x.k,.string x.v,.bool x.g]
section
variable {w w':World} {g:Nat} {d:List Ed} {ex:List Value}
theorem RoE.old (h:RoE w g d ex) (b:Below w.heap.size w w'):RoE w' g d ex:=Ob.old h b
theorem RoE.drew (h:RoE w g d ex):RoE w.drew g d ex:=h.old (Below.refl _ _).drew
theorem RoE.at (h:RoE w g d ex) {i:Nat} {x:Ed} (hx:d[i]?=some x) (j:Nat) (u:Value) (hu:(cEd x)[j]?=some u):w.cell? ⟨g,i * 3+j,none⟩=some u:=by
 have hc:=Ob.cell h (i * 3+j);have:=gcells_at cEd_len d hx hu;rw [hc,List.getElem?_append_left (List.getElem?_eq_some_iff.1 this).1];exact this
theorem RoE.cells (h:RoE w g d ex) {i:Nat} {x:Ed} (hx:d[i]?=some x):w.cell? ⟨g,i * 3,none⟩=some (.string x.k)/\w.cell? ⟨g,i * 3+1,none⟩=some (.string x.v)/\w.cell? ⟨g,i * 3+2,none⟩=some (.bool x.g) :=
 ⟨h.at hx 0 _ rfl,h.at hx 1 _ rfl,h.at hx 2 _ rfl⟩
theorem gcells_set {α:Type} {c:α->List Value} {k:Nat} (hk:∀ x,(c x).length=k):∀ (l:List α) (i:Nat) (y:α),i < l.length->over (Zf c l) (i * k) (c y)=Zf c (l.set i y)
 | [],_,_,h=>by simp at h
 | x :: l,0,y,_=>by
  simp [over,Zf,hk]
 | x :: l,i+1,y,h=>by
  have ih:=gcells_set hk l i y (by simpa using h);have e1:Zf c ((x :: l).set (i+1) y)=c x++Zf c (l.set i y):=by simp [Zf]
  have e2:Zf c (x :: l)=c x++Zf c l:=by simp [Zf]
  rw [e1,e2,<- ih];unfold over;rw [show (i+1) * k=(c x).length+i * k by rw [hk,Nat.succ_mul];omega,Nat.add_assoc,List.take_length_add_append,List.drop_length_add_append];simp [List.append_assoc]
theorem size_ed:(Tryz.prog.info? 46).map (·.size)=some 3:=by kernel_rfl
theorem RoE.load (h:RoE w g d ex) {i:Nat} {x:Ed} (hx:d[i]?=some x):(Instr.loadAt 46 (.pointer (some ⟨g,i * 3,none⟩))).run Tryz.prog w=.ok (aggE x) w:=by
 refine run_loadAt_cells (P:=Tryz.prog) 46 _ Tryz.underlying46 rfl (cEd x) size_ed ⟨g,i * 3,none⟩ (fun j v hv=>?_);rw [show (⟨g,i * 3,none⟩:Addr).add j=⟨g,i * 3+j,none⟩ by unfold Addr.add;split <;> simp_all];exact h.at hx j v hv
theorem RoE.store (h:RoE w g d ex) {i:Nat} (hi:i < d.length) (y:Ed):∃ w',(Instr.storeAt 46 (.pointer (some ⟨g,i * 3,none⟩)) (aggE y)).run Tryz.prog w=.ok () w'/\RoE w' g (d.set i y) ex/\Onl (fun k=>k=g) w w':=by
 have hle:i * 3+3<=d.length * 3:=by omega
 obtain ⟨w',h1,h2,h3⟩:=run_storeAt_cells (P:=Tryz.prog) (w:=w) 46 46 g (i * 3) (Zf cEd d++ex) (cEd y) size_ed (cEd_one y) h (by rw [List.length_append,gcells_len cEd_len,cEd_len];omega);refine ⟨w',h1,?_,h3⟩;unfold RoE;rw [<- gcells_set cEd_len d i y hi]
 have:over (Zf cEd d++ex) (i * 3) (cEd y)=over (Zf cEd d) (i * 3) (cEd y)++ex:=by
  unfold over;rw [List.take_append_of_le_length (by rw [gcells_len cEd_len];omega),List.drop_append_of_le_length (by rw [gcells_len cEd_len,cEd_len];omega)];simp
 rw [<- this];exact h2
structure SwE (W:World) (g:Nat) (d:List Ed) (ex:List Value) (i j:Nat) (x y:Ed) (S1 S2:World):Prop where
 l1:LdRuns Tryz.prog W 46 (.pointer (some ⟨g,i * 3,none⟩))
 l2:ldVal Tryz.prog W 46 (.pointer (some ⟨g,i * 3,none⟩))=aggE x
 l3:LdRuns Tryz.prog W 46 (.pointer (some ⟨g,j * 3,none⟩))
 l4:ldVal Tryz.prog W 46 (.pointer (some ⟨g,j * 3,none⟩))=aggE y
 s1:StRuns Tryz.prog W 46 (.pointer (some ⟨g,i * 3,none⟩)) (aggE y)
 s2:stWld Tryz.prog W 46 (.pointer (some ⟨g,i * 3,none⟩)) (aggE y)=S1
 s3:StRuns Tryz.prog S1 46 (.pointer (some ⟨g,j * 3,none⟩)) (aggE x)
 s4:stWld Tryz.prog S1 46 (.pointer (some ⟨g,j * 3,none⟩)) (aggE x)=S2
 ro:RoE S2 g (swL d i j) ex
 on:Onl (fun k=>k=g) W S2
theorem RoE.swap (h:RoE w g d ex) {i j:Nat} (hi:i < d.length) (hj:j < d.length):∃ x y S1 S2,SwE w g d ex i j x y S1 S2:=by
 have e1:d[i]?=some d[i]:=List.getElem?_eq_getElem hi
 have e2:d[j]?=some d[j]:=List.getElem?_eq_getElem hj
 obtain ⟨S1,a1,r1,o1⟩:=h.store hi d[j];obtain ⟨S2,a2,r2,o2⟩:=r1.store (i:=j) (by simpa using hj) d[i];obtain ⟨b1,b2⟩:=ld_runs (h.load e1);obtain ⟨b3,b4⟩:=ld_runs (h.load e2);obtain ⟨c1,c2⟩:=st_runs a1;obtain ⟨c3,c4⟩:=st_runs a2;refine ⟨d[i],d[j],S1,S2,b1,b2,b3,b4,c1,c2,c3,c4,?_,o1.trans o2⟩;have:swL d i j=(d.set i d[j]).set j d[i]:=by unfold swL;rw [e1,e2]
 rw [this];exact r2
end
theorem ldE_exec {P:Program} {w:World} {ρ:Operand->Value} {dst:Option Tmp} {x:Operand} {ty:TypeId} {pos:String} {after:Array Edge} {guard:Option (Nat × Bool)} (h:LdRuns P w 46 (ρ x)) :
  (execOp ρ { dst,op:=.load 46 x,type:=ty,pos,after,guard }).run P w=.ok (.value (ldVal P w 46 (ρ x))) w:=ld_exec h
theorem stE_exec {P:Program} {w:World} {ρ:Operand->Value} {dst:Option Tmp} {x y:Operand} {ty:TypeId} {pos:String} {after:Array Edge} {guard:Option (Nat × Bool)} (h:StRuns P w 46 (ρ x) (ρ y)) :
  (execOp ρ { dst,op:=.store 46 x y,type:=ty,pos,after,guard }).run P w=.ok .skip (stWld P w 46 (ρ x) (ρ y)):=st_exec h
attribute [local go_sem ↓] ldE_exec stE_exec
def SoP (w:World) (g:Nat) (ex:List Value) (R:List Ed->Prop) (e:Ending) (w':World):Prop:=e=.returned (.tuple #[])/\∃ d',RoE w' g d' ex/\R d'/\Onl (fun j=>j=g) w w'
end
section
open Go.RowKit Apo
end
section
open Go.RowKit Apo Go.Sort
attribute [local go_sem ↓] ldE_exec stE_exec
def InI (d:List Ed) (a i j:Nat):Prop:=∀ p q,a<=p->p < q->q<=i->q≠j->leK (kAt d p) (kAt d q)
theorem InI.stop {d:List Ed} {a i j:Nat} (h:InI d a i j) (hji:j<=i) (hs:j<=a\/leK (kAt d (j - 1)) (kAt d j)):SrtIn d a (i+1):=fun p q h1 h2 h3=>by
 by_cases z:q=j
 ·subst z;rcases hs with y | y
  ·omega
  ·by_cases x:p=q - 1
   ·rw [x];exact y
   ·exact leK_trans (h p (q - 1) h1 (by omega) (by omega) (by omega)) y
 ·exact h p q h1 h2 (by omega) z
theorem InI.step {d:List Ed} {a i j:Nat} (h:InI d a i j) (haj:a < j) (hji:j<=i) (hil:i < d.length) (hlt:Z2 (kAt d j) (kAt d (j - 1))=true):InI (swL d j (j - 1)) a i (j - 1):=fun p q h1 h2 h3 h4=>by
 rw [swL_key (by omega) (by omega),swL_key (by omega) (by omega)];rw [if_neg h4];by_cases z:q=j
 ·rw [if_pos z];by_cases x:p=j - 1
  ·rw [if_pos x];exact leK_of hlt
  ·rw [if_neg x,if_neg (by omega)];exact h p (j - 1) h1 (by omega) (by omega) (by omega)
 ·rw [if_neg z];by_cases x:p=j - 1
  ·rw [if_pos x];exact h j q (by omega) (by omega) h3 z
  ·rw [if_neg x];by_cases y:p=j
   ·rw [if_pos y];exact h (j - 1) q (by omega) (by omega) h3 z
   ·rw [if_neg y];exact h p q h1 h2 h3 z
structure CmpE (cf:Nat):Prop where
 en:∀ args w,(callFunc cf args).run Tryz.prog w=.ok (.enter cf args) w
 gives:∀ (x y:Ed) (W:World),Calls Tryz.prog cf #[aggE x,aggE y] W fun e w'=>e=.returned (.int .i64 (cmpS x.k y.k))/\∃ q os,w'=grow (W.drewN q) os
structure Kee (w:World) (g:Nat) (ex:List Value) (d0:List Ed) (a b:Nat) (d:List Ed) (W:World):Prop where
 ro:RoE W g d ex
 stb:Stb d0 d
 out:Out d0 d a b
 frm:Frm d0 d a b
 on:Onl (fun j=>j=g) w W
theorem Kee.len {w:World} {g:Nat} {ex:List Value} {d0:List Ed} {a b:Nat} {d:List Ed} {W:World} (h:Kee w g ex d0 a b d W):d.length=d0.length:=h.stb.1
theorem Kee.grown {w:World} {g:Nat} {ex:List Value} {d0:List Ed} {a b:Nat} {d:List Ed} {W W':World} (h:Kee w g ex d0 a b d W) (hb:Below W.heap.size W W'):Kee w g ex d0 a b d W':=⟨h.ro.old hb,h.stb,h.out,h.frm,h.on.trans (Onl.ofBelow hb)⟩
theorem Kee.swap {w:World} {g:Nat} {ex:List Value} {d0:List Ed} {a b:Nat} {d:List Ed} {W S2:World} {i:Nat} (h:Kee w g ex d0 a b d W) (hr:RoE S2 g (swL d (i+1) i) ex) (ho:Onl (fun j=>j=g) W S2) (hi:i+1 < d.length) (ha:a<=i) (hb:i+1 < b) (hk:kAt d i≠kAt d (i+1)):Kee w g ex d0 a b (swL d (i+1) i) S2 :=
 ⟨hr,h.stb.trans (by rw [swL_comm hi (by omega)];exact swL_stb hi hk),Out.trans h.out (swL_out (a:=a) (b:=b) hi (by omega) (by omega) ha hb (by omega)) (Nat.le_refl _) (Nat.le_refl _) (Nat.le_refl _) (Nat.le_refl _),h.frm.trans (swL_frm hi (by omega) (by omega) ha hb (by omega)),h.on.trans ho⟩
theorem RoE.grown {w:World} {g:Nat} {d:List Ed} {ex:List Value} (h:RoE w g d ex) {i:Nat} {x:Ed} (hx:d[i]?=some x):(∀ n os,(grow (w.drewN n) os).cell? ⟨g,i * 3,none⟩=some (.string x.k))/\(∀ n os,(grow (w.drewN n) os).cell? ⟨g,i * 3+1,none⟩=some (.string x.v))/\∀ n os,(grow (w.drewN n) os).cell? ⟨g,i * 3+2,none⟩=some (.bool x.g) :=
 ⟨fun n os=>(h.old (below_grown_sl _ w n os (Nat.le_refl _))).at hx 0 _ rfl,fun n os=>(h.old (below_grown_sl _ w n os (Nat.le_refl _))).at hx 1 _ rfl,fun n os=>(h.old (below_grown_sl _ w n os (Nat.le_refl _))).at hx 2 _ rfl⟩
def InP (w:World) (g:Nat) (ex:List Value) (d:List Ed) (a b:Nat) (e:Ending) (w':World):Prop:=SoP w g ex (fun d'=>Stb d d'/\Out d d' a b/\Frm d d' a b/\SrtIn d' a b) e w'
theorem ins_any (cf:Nat) (hcf:CmpE cf) (w:World) (g cap:Nat) (d:List Ed) (ex:List Value) (h:RoE w g d ex) (hl:d.length<=1000000) (a b:Nat) (hab:a<=b) (hb:b<=d.length) :
  Calls Tryz.prog 193 #[.slice (some ⟨g,0,none⟩) d.length cap,.int .i64 a,.int .i64 b,.func (.func cf) #[] #[]] w (InP w g ex d a b):=by
 have eg:=hcf.en;have HC:=Za hcf;obtain ⟨ln,hln⟩:∃ ln,ln=d.length:=⟨_,rfl⟩;have HLN:=Za hln;have HK0:Hid (Kee w g ex d a b d w):=Za ⟨h,Stb.refl _,Out.refl _ _ _,Frm.refl _ _ _,Onl.refl _ _⟩;rw [<- hln] at hb hl ⊢;clear h hln hcf;have mixed:Tryz.prog.follows .mixedOrders=true:=by kernel_rfl
 go_enter Tryz.func193,Tryz.ntmps193
 go_wp2;go_loopw [8] (fun v wr=>∃ (i:Nat) (d':List Ed),a < i/\(i<=b\/i=a+1)/\v=.int .i64 i/\Hid (Kee w g ex d a b d' wr/\SrtIn d' a i)) (fun v _=>b+1 - (intOf v).toNat)
 case atStart=>exact ⟨a+1,d,by omega,.inr rfl,by go_num,Za ⟨HK0.out,fun i j h1 h2 h3=>by omega⟩⟩
 case round =>
  obtain ⟨i,d1,hai,hib,rfl,HK1⟩:=hrel;by_cases hlt:i < b
  ·have hltz:decide ((i:Int) < (b:Int))=true:=decide_eq_true (by omega);obtain ⟨w1,rfl⟩:∃ w1,w1=wr:=⟨_,rfl⟩;go_wp2;go_loopw [9] (fun v wr=>∃ (j:Nat) (d':List Ed),a<=j/\j<=i/\v=.int .i64 j/\Hid (Kee w g ex d a b d' wr/\InI d' a i j)) (fun v _=>(intOf v).toNat)
   case atStart=>exact ⟨i,d1,by omega,Nat.le_refl _,rfl,Za ⟨HK1.out.1,fun p q h1 h2 h3 h4=>HK1.out.2 p q h1 h2 (by omega)⟩⟩
   case round =>
    clear HK1;obtain ⟨j,d2,haj,hji,rfl,HK2⟩:=hrel;have hlen2:=HK2.out.1.len;have hlen3:=HLN.out;by_cases hja:a < j
    ·obtain ⟨jp,hjp⟩:∃ jp,jp=j - 1:=⟨_,rfl⟩;have hjaz:decide ((a:Int) < (j:Int))=true:=decide_eq_true (by omega);have hjaz2:(a:Int) < (j:Int):=by omega
     obtain ⟨xj,hxj⟩:∃ x,d2[j]?=some x:=⟨d2[j]'(by omega),List.getElem?_eq_getElem _⟩;obtain ⟨xp,hxp⟩:∃ x,d2[jp]?=some x:=⟨d2[jp]'(by omega),List.getElem?_eq_getElem _⟩;obtain ⟨j1,j2,j3⟩:=HK2.out.1.ro.grown hxj;obtain ⟨p1,p2,p3⟩:=HK2.out.1.ro.grown hxp;have HX:=Za (And.intro (kAt_some hxj) (kAt_some hxp));have hcg:∀ n os,Calls Tryz.prog cf #[aggE xj,aggE xp] (grow (wr.drewN n) os) fun e w'=>e=.returned (.int .i64 (cmpS xj.k xp.k))/\∃ q os',w'=grow ((grow (wr.drewN n) os).drewN q) os':=fun n os=>HC.out.gives xj xp _
     have HLE:Hid (cmpS xj.k xp.k < 0↔Z2 xj.k xp.k=true):=Za cmpS_lt;obtain ⟨z,hz⟩:∃ z,z=cmpS xj.k xp.k:=⟨_,rfl⟩;rw [<- hz] at hcg HLE;unfold aggE at hcg;have wj:IntKind.i64.wrap ((j:Int) - 1)=(jp:Int):=by rw [IntKind.wrap_i64];omega
     have wj2:(j:Int) - 1=(jp:Int):=by omega
     have wj3:IntKind.i64.wrap (jp:Int)=(jp:Int):=by rw [IntKind.wrap_i64];omega
     have g1:j < ln:=by omega
     have g2:jp < ln:=by omega
     have HG:Hid (∀ n os,Below wr.heap.size wr (grow (wr.drewN n) os)):=Za (fun n os=>below_grown_sl _ wr n os (Nat.le_refl _));have HJP:=Za hjp;clear hxj hxp hz hlen2 hlen3 hjp;by_cases hneg:z < 0
     ·have hd:decide (z < 0)=true:=decide_eq_true hneg;go_wp2_with fail
      go_quiet_grown (first | (go_at_fn cf;refine Calls.grown_of (hcg _ _)))
      go_wp2_with fail
      obtain ⟨W3,hW3⟩:∃ W3,W3=grow (wr.drewN nq) osq:=⟨_,rfl⟩;have b3:Below wr.heap.size wr W3:=by rw [hW3];exact HG.out nq osq
      rw [<- hW3];have K3:=HK2.out.1.grown b3;have hl3:=K3.len;obtain ⟨x,y,S1,S2,sw⟩:=(K3.ro.drew).swap (i:=j) (j:=jp) (by have:=HLN.out;omega) (by have:=HLN.out;omega);obtain ⟨l1,l2,l3,l4,s1,s2,s3,s4,ro,on⟩:=sw;have hjj:=HJP.out;have hslt:Z2 (kAt d2 j) (kAt d2 jp)=true:=by rw [HX.out.1,HX.out.2];exact HLE.out.1 hneg
      have HF:Hid (Kee w g ex d a b (swL d2 j jp) S2/\InI (swL d2 j jp) a i jp):=by
       obtain rfl:j=jp+1:=by omega
       refine Za ⟨K3.swap ro ((Onl.refl _ W3).drew.trans on) (by have:=HLN.out;omega) (by omega) (by omega) (fun q=>neK_lt hslt q.symm),?_⟩;have:=HK2.out.2.step (by omega) hji (by have:=HLN.out;omega) hslt;exact this
      unfold aggE at l2 l4 s1 s2 s3 s4;clear hW3 b3 K3 hl3 ro on hjj hslt j1 j2 j3 p1 p2 p3 hcg HK2 HG;go_region
      go_wp2;go_roundw
      case rel=>exact ⟨jp,_,by have:=HJP.out;omega,by have:=HJP.out;omega,rfl,HF⟩
      case measure=>have:=HJP.out;simp [intOf];omega
     ·have hd:decide (z < 0)=false:=decide_eq_false hneg
      have HS:Hid (SrtIn d2 a (i+1)):=by
       refine Za (HK2.out.2.stop hji (.inr ?_));rw [<- HJP.out,HX.out.1,HX.out.2];cases q:Z2 xj.k xp.k with
       | false=>exact q
       | true=>exact absurd (HLE.out.2 q) hneg
      go_wp2_with fail
      go_quiet_grown (first | (go_at_fn cf;refine Calls.grown_of (hcg _ _)))
      go_wp2;go_roundw
      case rel=>exact ⟨i+1,d2,by omega,.inl (by omega),by go_num,Za ⟨HK2.out.1.grown (HG.out nq osq),HS.out⟩⟩
      case measure=>simp [intOf];omega
    ·have hjaz:decide ((a:Int) < (j:Int))=false:=decide_eq_false (by omega);have HS:Hid (SrtIn d2 a (i+1)):=Za (HK2.out.2.stop hji (.inl (by omega)));clear hlen2 hlen3;go_wp2;go_quiet (fail)
     go_wp2;go_roundw
     case rel=>exact ⟨i+1,d2,by omega,.inl (by omega),by go_num,Za ⟨HK2.out.1.grown (below_drewN (Below.refl _ _) _),HS.out⟩⟩
     case measure=>simp [intOf];omega
  ·have hltz:decide ((i:Int) < (b:Int))=false:=decide_eq_false (by omega);have HF:Hid (InP w g ex d a b (.returned (.tuple #[])) wr):=Za ⟨rfl,d1,HK1.out.1.ro,⟨HK1.out.1.stb,HK1.out.1.out,HK1.out.1.frm,HK1.out.2.sub (Nat.le_refl _) (by omega)⟩,HK1.out.1.on⟩;go_wp2;go_end0
   exact HF.out
theorem SoP.kee {w W:World} {g:Nat} {ex:List Value} {d d':List Ed} {a b:Nat} (h:Kee w g ex d a b d' W) (hs:SrtIn d' a b):InP w g ex d a b (.returned (.tuple #[])) W:=⟨rfl,d',h.ro,⟨h.stb,h.out,h.frm,hs⟩,h.on⟩
section
variable {d:List Ed} {a m b mid s en:Nat}
end
end
section
open Go.RowKit Apo Go.Sort
attribute [local go_sem ↓] ldE_exec stE_exec
end
section
open Go.RowKit Apo Go.Sort
def Blk (d:List Ed) (n bs:Nat):Prop:=∀ k,SrtIn d (k * bs) (min (k * bs+bs) n)
def Don (d:List Ed) (bs c:Nat):Prop:=∀ k,k < c->SrtIn d (k * bs) (k * bs+bs)
theorem don_step {d d':List Ed} {bs c:Nat} (h:Don d bs c) (o:Out d d' (c * bs) (c * bs+bs)) (s:SrtIn d' (c * bs) (c * bs+bs)):Don d' bs (c+1):=fun k hk=>by
 by_cases q:k=c
 ·rw [q];exact s
 ·have:(k+1) * bs<=c * bs:=Nat.mul_le_mul_right bs (by omega);rw [Nat.succ_mul] at this;exact o.srt (h k (by omega)) (.inl this)
theorem don_last {d d':List Ed} {bs c n:Nat} (h:Don d bs c) (h1:n < c * bs+bs) (h2:c * bs<=n) (o:Out d d' (c * bs) n) (s:SrtIn d' (c * bs) n):Blk d' n bs:=fun k=>by
 by_cases q:k < c
 ·have:(k+1) * bs<=c * bs:=Nat.mul_le_mul_right bs (by omega);rw [Nat.succ_mul] at this;rw [Nat.min_eq_left (by omega)];exact o.srt (h k q) (.inl this)
 ·by_cases z:k=c
  ·rw [z,Nat.min_eq_right (by omega)];exact s
  ·have:(c+1) * bs<=k * bs:=Nat.mul_le_mul_right bs (by omega);rw [Nat.succ_mul] at this;intro i j q1 q2 q3;omega
theorem blk_all {d:List Ed} {n bs:Nat} (h:Blk d n bs) (hn:n<=bs):SrtIn d 0 n:=by
 have:=h 0;rwa [Nat.zero_mul,Nat.zero_add,Nat.min_eq_right hn] at this
theorem Kee.more {w:World} {g:Nat} {ex:List Value} {d0:List Ed} {n:Nat} {d d':List Ed} {W W':World} {a b:Nat} (h:Kee w g ex d0 0 n d W) (hb:b<=n) (hr:RoE W' g d' ex) (hs:Stb d d') (ho:Out d d' a b) (hf:Frm d d' a b) (hon:Onl (fun j=>j=g) W W'):Kee w g ex d0 0 n d' W' :=
 ⟨hr,h.stb.trans hs,Out.trans h.out ho (Nat.le_refl _) (Nat.le_refl _) (Nat.zero_le _) hb,h.frm.trans (hf.wide ho (Nat.zero_le _) hb),h.on.trans hon⟩
end
end Go.Proofs.YtdhebpnkfookcaaGreat
