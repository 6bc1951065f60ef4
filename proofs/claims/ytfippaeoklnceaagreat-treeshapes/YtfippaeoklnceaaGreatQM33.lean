import Derived.Test.YtfippaeoklnceaaGreatQM32
import Derived.Test.YtfippaeoklnceaaGreatQM31
namespace Go.Proofs.YtfippaeoklnceaaGreat
set_option maxRecDepth 100000
set_option maxHeartbeats 2000000
open Go.RowKit Apo
def runC {α:Type} (p:α→Bool):List (List α) × List α→List α→List (List α) × List α
 | s,[]=>s
 | s,x :: l=>runC p (if p x=true then (s.1++[s.2++[x]],[]) else (s.1,s.2++[x])) l
def endC {α:Type} (s:List (List α) × List α):List (List α):=s.1++(if s.2.length=0 then [] else [s.2])
theorem runC_app {α:Type} (p:α→Bool):∀ (l m:List α) (s:List (List α) × List α),runC p s (l++m)=runC p (runC p s l) m
 | [],_,_=>rfl
 | _ :: l,m,_=>runC_app p l m _
theorem runC_pre {α:Type} (p:α→Bool):∀ (l:List α) (a:List (List α)) (s:List (List α) × List α),runC p (a++s.1,s.2) l=(a++(runC p s l).1,(runC p s l).2)
 | [],_,_=>rfl
 | x :: l,a,s=>by
  show runC p (if p x=true then (a++s.1++[s.2++[x]],[]) else (a++s.1,s.2++[x])) l=(a++(runC p (if p x=true then (s.1++[s.2++[x]],[]) else (s.1,s.2++[x])) l).1,(runC p (if p x=true then (s.1++[s.2++[x]],[]) else (s.1,s.2++[x])) l).2)
  split
  ·rw [← runC_pre p l a (s.1++[s.2++[x]],[]),List.append_assoc]
  ·rw [← runC_pre p l a (s.1,s.2++[x])]
theorem runC_cut {α:Type} (p:α→Bool) (l:List α):∀ k,k≤l.length→cutK p l k=runC p ([],[]) (l.take k)
 | 0,_=>by simp [cutK,runC]
 | k+1,hk=>by
  have h1:l[k]?=some (l[k]'(by omega)):=List.getElem?_eq_getElem _
  have h2:l.take (k+1)=l.take k++[l[k]'(by omega)]:=by rw [List.take_add_one,h1]; rfl
  rw [cutK_step h1,h2,runC_app,← runC_cut p l k (by omega)]
  rfl
theorem split_run {α:Type} (p:α→Bool) (l:List α):splitN p l=endC (runC p ([],[]) l):=by
 rw [cut_split,runC_cut p l l.length (Nat.le_refl _),List.take_length]
 rfl
def NearR {α:Type} (key:α→ByteArray) (L L':List α):Prop :=
 ∃ P M M' S,L=P++M++S∧L'=P++M'++S∧M.length≤2∧M'.length≤2∧(S=[]∨∃ x y,M.getLast?=some x∧M'.getLast?=some y∧key x=key y)
theorem run_begun {α:Type} (p:α→Bool):∀ (l:List α) (c:List α),(∀ x ∈ l,p x=false)→runC p ([],c) l=([],c++l)
 | [],c,_=>by simp [runC]
 | x :: l,c,h=>by
  show runC p (if p x=true then ([]++[c++[x]],[]) else ([],c++[x])) l=_
  rw [if_neg (by rw [h x (by simp)]; simp),run_begun p l (c++[x]) (fun y hy=>h y (by simp [hy]))]
  simp
theorem first_end {α:Type} (p:α→Bool):∀ S:List α,(∀ x ∈ S,p x=false)∨∃ A z B,S=A++z :: B∧(∀ x ∈ A,p x=false)∧p z=true
 | []=>.inl (by simp)
 | x :: S=>by
  cases hx:p x with
  | true=>exact .inr ⟨[],x,S,rfl,by simp,hx⟩
  | false =>
   rcases first_end p S with h | ⟨A,z,B,h1,h2,h3⟩
   ·exact .inl (fun y hy=>by rcases List.mem_cons.1 hy with rfl | q; exact hx; exact h y q)
   ·exact .inr ⟨x :: A,z,B,by rw [h1]; rfl,fun y hy=>by rcases List.mem_cons.1 hy with rfl | q; exact hx; exact h2 y q,h3⟩
theorem run_len {α:Type} (p:α→Bool):∀ (l:List α) (s:List (List α) × List α),(runC p s l).1.length≤s.1.length+l.length
 | [],_=>by simp [runC]
 | x :: l,s=>by
  have h:=run_len p l (if p x=true then (s.1++[s.2++[x]],[]) else (s.1,s.2++[x]))
  have h2:(if p x=true then (s.1++[s.2++[x]],[]) else (s.1,s.2++[x])).1.length≤s.1.length+1:=by split <;> simp
  show (runC p (if p x=true then (s.1++[s.2++[x]],[]) else (s.1,s.2++[x])) l).1.length≤_
  rw [List.length_cons]
  omega
theorem run_from {α:Type} (p:α→Bool) (R:List (List α)) (c l:List α):runC p (R,c) l=(R++(runC p ([],c) l).1,(runC p ([],c) l).2):=by
 have:=runC_pre p l R ([],c)
 simpa using this
theorem endC_pre {α:Type} (R A:List (List α)) (c:List α):endC (R++A,c)=R++endC (A,c):=by simp [endC]
theorem run_last {α:Type} (p:α→Bool) {M:List α} {m:α} (h:M.getLast?=some m) (c:List α) :
  (p m=true→∃ Q e,runC p ([],c) M=(Q++[e++[m]],[])∧Q.length+1≤M.length)∧(p m=false→∃ Q e,runC p ([],c) M=(Q,e++[m])∧Q.length+1≤M.length):=by
 obtain ⟨N,rfl⟩:=List.getLast?_eq_some_iff.1 h
 have hl:=run_len p N ([],c)
 rw [runC_app]
 generalize runC p ([],c) N=q at hl
 obtain ⟨Q,d⟩:=q
 simp only [List.length_nil,Nat.zero_add] at hl
 constructor
 ·intro hm
  refine ⟨Q,d,?_,by simp; omega⟩
  show (if p m=true then (Q++[d++[m]],[]) else (Q,d++[m]))=_
  rw [if_pos hm]
 ·intro hm
  refine ⟨Q,d,?_,by simp; omega⟩
  show (if p m=true then (Q++[d++[m]],[]) else (Q,d++[m]))=_
  rw [if_neg (by rw [hm]; simp)]
def keyRow {α:Type} (key:α→ByteArray) (r:List α):ByteArray:=match r.getLast? with
 | some x=>key x
 | none=>ByteArray.empty
theorem keyRow_snoc {α:Type} (key:α→ByteArray) (r:List α) (x:α):keyRow key (r++[x])=key x:=by simp [keyRow]
theorem run_end {α:Type} (p:α→Bool) (c M:List α) (h:M.length≤2):(endC (runC p ([],c) M)).length≤2:=by
 cases hq:M.getLast? with
 | none =>
  have:M=[]:=by simpa using hq
  subst this
  unfold runC endC
  simp only [List.nil_append]
  split <;> simp
 | some m =>
  obtain ⟨h1,h2⟩:=run_last p hq c
  cases hm:p m with
  | true =>
   obtain ⟨Q,e,e1,e2⟩:=h1 hm
   rw [e1]
   simp [endC]
   omega
  | false =>
   obtain ⟨Q,e,e1,e2⟩:=h2 hm
   rw [e1]
   simp [endC]
   omega
theorem NearR.split {α:Type} {key:α→ByteArray} {p:α→Bool} (hp:∀ x y,key x=key y→p x=p y) {L L':List α} (h:NearR key L L'):NearR (keyRow key) (splitN p L) (splitN p L'):=by
 obtain ⟨P,M,M',S,rfl,rfl,hM,hM',hS⟩:=h
 have hsp:∀ X:List α,splitN p (P++X++S)=(runC p ([],[]) P).1++endC (runC p ([],(runC p ([],[]) P).2) (X++S)):=fun X=>by
  rw [split_run,List.append_assoc,runC_app]
  generalize runC p ([],[]) P=q
  obtain ⟨R,c⟩:=q
  rw [run_from,endC_pre]
 rw [hsp,hsp]
 generalize (runC p ([],[]) P).1=R
 generalize (runC p ([],[]) P).2=c
 rcases hS with rfl | ⟨x,y,hx,hy,hxy⟩
 ·rw [List.append_nil,List.append_nil]
  exact ⟨R,_,_,[],by simp,by simp,run_end p c M hM,run_end p c M' hM',.inl rfl⟩
 ·obtain ⟨a1,a2⟩:=run_last p hx c
  obtain ⟨b1,b2⟩:=run_last p hy c
  have hpe:=hp x y hxy
  cases hpx:p x with
  | true =>
   obtain ⟨Q,e,e1,e2⟩:=a1 hpx
   obtain ⟨Q',e',e1',e2'⟩:=b1 (by rw [← hpe]; exact hpx)
   rw [runC_app,runC_app,e1,e1',run_from p (Q++[e++[x]]),run_from p (Q'++[e'++[y]]),endC_pre,endC_pre]
   refine ⟨R,Q++[e++[x]],Q'++[e'++[y]],endC (runC p ([],[]) S),by simp,by simp,by simp; omega,by simp; omega,.inr ⟨e++[x],e'++[y],by simp,by simp,?_⟩⟩
   rw [keyRow_snoc,keyRow_snoc]
   exact hxy
  | false =>
   obtain ⟨Q,e,e1,e2⟩:=a2 hpx
   obtain ⟨Q',e',e1',e2'⟩:=b2 (by rw [← hpe]; exact hpx)
   rw [runC_app,runC_app,e1,e1',run_from p Q,run_from p Q']
   rcases first_end p S with hn | ⟨A,z,B,rfl,hA,hz⟩
   ·rw [run_begun p S _ hn,run_begun p S _ hn]
    refine ⟨R,endC (Q++[],e++[x]++S),endC (Q'++[],e'++[y]++S),[],by simp,by simp,?_,?_,.inl rfl⟩
    ·simp [endC]; omega
    ·simp [endC]; omega
   ·have hrun:∀ d:List α,runC p ([],d) (A++z :: B)=([d++A++[z]]++(runC p ([],[]) B).1,(runC p ([],[]) B).2):=fun d=>by
     rw [runC_app,run_begun p A d hA]
     show runC p (if p z=true then ([]++[d++A++[z]],[]) else ([],d++A++[z])) B=_
     rw [if_pos hz,List.nil_append,run_from]
    rw [hrun,hrun]
    simp only
    rw [← List.append_assoc,← List.append_assoc,endC_pre,endC_pre]
    refine ⟨R,Q++[e++[x]++A++[z]],Q'++[e'++[y]++A++[z]],endC ((runC p ([],[]) B).1,(runC p ([],[]) B).2),by simp,by simp,by simp; omega,by simp; omega,.inr ⟨e++[x]++A++[z],e'++[y]++A++[z],by simp,by simp,?_⟩⟩
    rw [keyRow_snoc,keyRow_snoc]
theorem NearR.map {α β:Type} {key:α→ByteArray} {key':β→ByteArray} (f:α→β) (hf:∀ x,key' (f x)=key x) {L L':List α} (h:NearR key L L'):NearR key' (L.map f) (L'.map f):=by
 obtain ⟨P,M,M',S,rfl,rfl,hM,hM',hS⟩:=h
 refine ⟨P.map f,M.map f,M'.map f,S.map f,by simp,by simp,by simpa using hM,by simpa using hM',?_⟩
 rcases hS with rfl | ⟨x,y,hx,hy,hxy⟩
 ·exact .inl rfl
 ·exact .inr ⟨f x,f y,by rw [List.getLast?_map,hx]; rfl,by rw [List.getLast?_map,hy]; rfl,by rw [hf,hf]; exact hxy⟩
theorem NearR.count {α:Type} {key:α→ByteArray} (q:α→Bool) {L L':List α} (h:NearR key L L'):L'.countP q≤L.countP q+2:=by
 obtain ⟨P,M,M',S,rfl,rfl,hM,hM',_⟩:=h
 simp only [List.countP_append]
 have:=List.countP_le_length (p:=q) (l:=M')
 omega
theorem NearR.len {α:Type} {key:α→ByteArray} {L L':List α} (h:NearR key L L'):L'.length≤L.length+2:=by
 obtain ⟨P,M,M',S,rfl,rfl,hM,hM',_⟩:=h
 simp only [List.length_append]
 omega
end Go.Proofs.YtfippaeoklnceaaGreat
namespace Go.Proofs.YtfippaeoklnceaaGreat
set_option maxRecDepth 100000
set_option maxHeartbeats 2000000
open Go.RowKit Apo
inductive Tre where
 | lf (r:List En)
 | nd (k:ByteArray) (ts:List Tre)
def Tre.key:Tre→ByteArray
 | .lf r=>keyRow En.k r
 | .nd k _=>k
def mkT (ts:List Tre):Tre:=.nd (keyRow Tre.key ts) ts
def ctL (es:List En):Nat→List Tre
 | 0=>(splitN (fun e:En=>endsN 0 e.k) es).map Tre.lf
 | l+1=>(splitN (fun t:Tre=>endsN ((l+1:Nat):Int) t.key) (ctL es l)).map mkT
def InT (T:List (List Int)):Nat→Tre→Ki→Prop
 | 0,.lf r,k=>k.k=lastK ⟨0,r,[]⟩∧T[k.i - 1]?=some (ndB ⟨0,r,[]⟩)∧1≤k.i
 | l+1,.nd kk ts,k=>kk=keyRow Tre.key ts∧∃ zs:List (Tre × Ki),ts=zs.map Prod.fst∧(∀ z ∈ zs,InT T l z.1 z.2)∧k.k=lastK ⟨((l+1:Nat):Int),[],zs.map Prod.snd⟩∧T[k.i - 1]?=some (ndB ⟨((l+1:Nat):Int),[],zs.map Prod.snd⟩)∧1≤k.i
 | _,_,_=>False
theorem InT.sub {T T':List (List Int)} (s:Sub T T'):∀ {l:Nat} {t:Tre} {k:Ki},InT T l t k→InT T' l t k
 | 0,.lf _,_,⟨h1,h2,h3⟩=>⟨h1,s _ _ h2,h3⟩
 | _+1,.nd _ _,_,⟨h0,zs,h1,h2,h3,h4,h5⟩=>⟨h0,zs,h1,fun z hz=>InT.sub s (h2 z hz),h3,s _ _ h4,h5⟩
 | 0,.nd _ _,_,h=>h.elim
 | _+1,.lf _,_,h=>h.elim
theorem at_one {T:List (List Int)} (h:T.Nodup) {i j:Nat} {t:List Int} (h1:T[i]?=some t) (h2:T[j]?=some t):i=j:=(idx_at h h1).symm.trans (idx_at h h2)
theorem ki_ext {k k':Ki} (h1:k.k=k'.k) (h2:k.i=k'.i):k=k':=by
 obtain ⟨a,b⟩:=k
 obtain ⟨c,d⟩:=k'
 simp only at h1 h2
 rw [h1,h2]
theorem pair_uniq {R:Tre→Ki→Prop} (hu:∀ t k k',R t k→R t k'→k=k'):∀ {zs ys:List (Tre × Ki)},zs.map Prod.fst=ys.map Prod.fst→(∀ z ∈ zs,R z.1 z.2)→(∀ z ∈ ys,R z.1 z.2)→zs.map Prod.snd=ys.map Prod.snd
 | [],[],_,_,_=>rfl
 | [],_ :: _,h,_,_=>by simp at h
 | _ :: _,[],h,_,_=>by simp at h
 | z :: zs,y :: ys,h,h1,h2=>by
  simp only [List.map_cons,List.cons.injEq] at h ⊢
  refine ⟨hu z.1 _ _ (h1 z (by simp)) (by rw [h.1]; exact h2 y (by simp)),pair_uniq hu h.2 (fun x hx=>h1 x (by simp [hx])) (fun x hx=>h2 x (by simp [hx]))⟩
theorem InT.one {T:List (List Int)} (hT:T.Nodup):∀ {l:Nat} {t:Tre} {k k':Ki},InT T l t k→InT T l t k'→k=k'
 | 0,.lf _,k,k',⟨h1,h2,h3⟩,⟨g1,g2,g3⟩=>by
  have:=at_one hT h2 g2
  exact ki_ext (h1.trans g1.symm) (by omega)
 | l+1,.nd _ _,k,k',⟨_,zs,h1,h2,h3,h4,h5⟩,⟨_,ys,g1,g2,g3,g4,g5⟩=>by
  have e:=pair_uniq (R:=fun t k=>InT T l t k) (fun t a b x y=>InT.one hT x y) (h1.symm.trans g1) h2 g2
  rw [← e] at g3 g4
  have:=at_one hT h4 g4
  exact ki_ext (h3.trans g3.symm) (by omega)
 | 0,.nd _ _,_,_,h,_=>h.elim
 | _+1,.lf _,_,_,h,_=>h.elim
theorem lastK_lf0 (r:List En):lastK ⟨0,r,[]⟩=keyRow En.k r:=by
 unfold lastK Nd.keys keyRow
 cases h:r.getLast? with
 | none=>simp [List.getLast?_map,h]
 | some x=>simp [List.getLast?_map,h]
theorem lastK_kd0 (lv:Int) (r:List Ki):lastK ⟨lv,[],r⟩=keyRow Ki.k r:=by
 unfold lastK Nd.keys keyRow
 cases h:r.getLast? with
 | none=>simp [List.getLast?_map,h]
 | some x=>simp [List.getLast?_map,h]
theorem keyRow_pair:∀ {zs:List (Tre × Ki)},(∀ z ∈ zs,z.2.k=z.1.key)→keyRow Ki.k (zs.map Prod.snd)=keyRow Tre.key (zs.map Prod.fst):=by
 intro zs h
 unfold keyRow
 rw [List.getLast?_map,List.getLast?_map]
 cases hq:zs.getLast? with
 | none=>rfl
 | some z=>exact h z (List.mem_of_getLast? hq)
theorem InT.keys {T:List (List Int)}:∀ {l:Nat} {t:Tre} {k:Ki},InT T l t k→k.k=t.key
 | 0,.lf _,_,⟨h1,_,_⟩=>by rw [h1,lastK_lf0]; rfl
 | l+1,.nd kk ts,k,⟨h0,zs,h1,h2,h3,_,_⟩=>by
  rw [h3,lastK_kd0,keyRow_pair (fun z hz=>InT.keys (h2 z hz)),← h1]
  exact h0.symm
 | 0,.nd _ _,_,h=>h.elim
 | _+1,.lf _,_,h=>h.elim
theorem runC_map {α β:Type} (f:α→β) (p:β→Bool):∀ (l:List α) (s:List (List α) × List α),runC p (s.1.map (List.map f),s.2.map f) (l.map f)=((runC (fun x=>p (f x)) s l).1.map (List.map f),(runC (fun x=>p (f x)) s l).2.map f)
 | [],_=>rfl
 | x :: l,s=>by
  show runC p (if p (f x)=true then (s.1.map (List.map f)++[s.2.map f++[f x]],[]) else (s.1.map (List.map f),s.2.map f++[f x])) (l.map f)=_
  have e:(if p (f x)=true then (s.1.map (List.map f)++[s.2.map f++[f x]],[]) else (s.1.map (List.map f),s.2.map f++[f x]))=((if p (f x)=true then (s.1++[s.2++[x]],[]) else (s.1,s.2++[x])).1.map (List.map f),(if p (f x)=true then (s.1++[s.2++[x]],[]) else (s.1,s.2++[x])).2.map f):=by
   split <;> simp
  rw [e]
  exact runC_map f p l _
theorem split_map {α β:Type} (f:α→β) (p:β→Bool) (l:List α):splitN p (l.map f)=(splitN (fun x=>p (f x)) l).map (List.map f):=by
 rw [split_run,split_run]
 have h:=runC_map f p l ([],[])
 simp only [List.map_nil] at h
 rw [h]
 unfold endC
 simp only [List.length_map,List.map_append]
 split <;> simp
theorem runC_congr {α:Type} {p q:α→Bool}:∀ (l:List α) (s:List (List α) × List α),(∀ x ∈ l,p x=q x)→runC p s l=runC q s l
 | [],_,_=>rfl
 | x :: l,s,h=>by
  show runC p (if p x=true then (s.1++[s.2++[x]],[]) else (s.1,s.2++[x])) l=runC q (if q x=true then (s.1++[s.2++[x]],[]) else (s.1,s.2++[x])) l
  rw [h x (by simp)]
  exact runC_congr l _ (fun y hy=>h y (by simp [hy]))
theorem split_congr {α:Type} {p q:α→Bool} {l:List α} (h:∀ x ∈ l,p x=q x):splitN p l=splitN q l:=by rw [split_run,split_run,runC_congr l _ h]
def Prs (T:List (List Int)) (l:Nat) (ts:List Tre) (ks:List Ki):Prop:=∃ zs:List (Tre × Ki),ts=zs.map Prod.fst∧ks=zs.map Prod.snd∧∀ z ∈ zs,InT T l z.1 z.2
theorem Prs.len {T:List (List Int)} {l:Nat} {ts:List Tre} {ks:List Ki} (h:Prs T l ts ks):ts.length=ks.length:=by
 obtain ⟨zs,rfl,rfl,_⟩:=h
 simp
theorem prs_kids {T:List (List Int)} {l:Nat} {α:Type} (R:List α) (f:α→Tre) (g:α→Nd) (ks:List Ki) (hk:Kids T (R.map g) ks) (hin:∀ x ∈ R,∀ k:Ki,k.k=lastK (g x)→T[k.i - 1]?=some (ndB (g x))→1≤k.i→InT T l (f x) k):Prs T l (R.map f) ks:=by
 have hl:R.length=ks.length:=by have:=hk.1; simpa using this.symm
 refine ⟨(R.map f).zip ks,?_,?_,fun z hz=>?_⟩
 ·rw [List.map_fst_zip (by simp [hl])]
 ·rw [List.map_snd_zip (by simp [hl])]
 ·obtain ⟨i,hi,e⟩:=List.mem_iff_getElem.1 hz
  rw [List.length_zip] at hi
  have h1:i < R.length:=by simp at hi; omega
  have h2:i < ks.length:=by omega
  rw [List.getElem_zip] at e
  obtain ⟨a,b,c⟩:=hk.2 i (g R[i]) ks[i] (by rw [List.getElem?_map,List.getElem?_eq_getElem h1]; rfl) (List.getElem?_eq_getElem h2)
  rw [← e]
  simp only [List.getElem_map]
  exact hin _ (List.getElem_mem h1) _ a b c
theorem can_prs {T:List (List Int)} {es:List En}:∀ {l:Nat} {ks:List Ki},Can T es l ks→Prs T l (ctL es l) ks
 | 0,ks,h=>by
  refine prs_kids (splitN (fun e:En=>endsN 0 e.k) es) Tre.lf (fun r=>⟨0,r,[]⟩) ks h (fun r _ k h1 h2 h3=>?_)
  exact ⟨h1,h2,h3⟩
 | l+1,ks,⟨ks0,h1,_,h3⟩=>by
  obtain ⟨zs,z1,z2,z3⟩:=can_prs h1
  have e1:splitN (fun t:Tre=>endsN ((l+1:Nat):Int) t.key) (ctL es l)=(splitN (fun z:Tre × Ki=>endsN ((l+1:Nat):Int) z.1.key) zs).map (List.map Prod.fst):=by rw [z1,split_map]
  have e2:splitN (fun e:Ki=>endsN ((l+1:Nat):Int) e.k) ks0=(splitN (fun z:Tre × Ki=>endsN ((l+1:Nat):Int) z.1.key) zs).map (List.map Prod.snd):=by
   rw [z2,split_map]
   congr 1
   exact split_congr (fun z hz=>by rw [InT.keys (z3 z hz)])
  have e3:ctL es (l+1)=(splitN (fun z:Tre × Ki=>endsN ((l+1:Nat):Int) z.1.key) zs).map (fun R=>mkT (R.map Prod.fst)):=by
   show (splitN (fun t:Tre=>endsN ((l+1:Nat):Int) t.key) (ctL es l)).map mkT=_
   rw [e1,List.map_map]
   rfl
  rw [e3]
  have hk:Kids T ((splitN (fun z:Tre × Ki=>endsN ((l+1:Nat):Int) z.1.key) zs).map (fun R=>(⟨((l+1:Nat):Int),[],R.map Prod.snd⟩:Nd))) ks:=by
   have:=h3
   rw [e2] at this
   unfold abns at this
   rw [List.map_map] at this
   exact this
  refine prs_kids _ (fun R:List (Tre × Ki)=>mkT (R.map Prod.fst)) (fun R:List (Tre × Ki)=>(⟨((l+1:Nat):Int),[],R.map Prod.snd⟩:Nd)) ks hk (fun R hR k a1 a2 a3=>?_)
  exact ⟨rfl,R,rfl,fun z hz=>z3 z (by
   have:=split_flat (p:=fun z:Tre × Ki=>endsN ((l+1:Nat):Int) z.1.key) (l:=zs)
   rw [← this]
   exact List.mem_flatten.2 ⟨R,hR,hz⟩),a1,a2,a3⟩
theorem near_lv {es fs:List En} (h:NearR En.k es fs):∀ l,NearR Tre.key (ctL es l) (ctL fs l)
 | 0=>(h.split (p:=fun e:En=>endsN 0 e.k) (fun x y e=>by rw [e])).map Tre.lf (fun _=>rfl)
 | l+1=>((near_lv h l).split (p:=fun t:Tre=>endsN ((l+1:Nat):Int) t.key) (fun x y e=>by rw [e])).map mkT (fun _=>rfl)
def ChN:Nat→List En→List En→Prop
 | 0,a,b=>a=b
 | n+1,a,b=>∃ c,ChN n a c∧NearR En.k c b∧b.length≤c.length+1
theorem ChN.len:∀ {n:Nat} {a b:List En},ChN n a b→b.length≤a.length+n
 | 0,_,_,h=>by have:_=_:=h; rw [this]; omega
 | n+1,a,b,⟨c,h1,_,h3⟩=>by have:=ChN.len h1; omega
theorem ChN.count {l:Nat} (q:Tre→Bool):∀ {n:Nat} {a b:List En},ChN n a b→(ctL b l).countP q≤(ctL a l).countP q+2 * n
 | 0,_,_,h=>by have:_=_:=h; rw [this]; omega
 | n+1,a,b,⟨c,h1,h2,_⟩=>by
  have i1:=ChN.count (l:=l) q h1
  have i2:=(near_lv h2 l).count q
  omega
theorem ChN.lv {l:Nat}:∀ {n:Nat} {a b:List En},ChN n a b→(ctL b l).length≤(ctL a l).length+2 * n
 | 0,_,_,h=>by have:_=_:=h; rw [this]; omega
 | n+1,a,b,⟨c,h1,h2,_⟩=>by
  have i1:=ChN.lv (l:=l) h1
  have i2:=(near_lv h2 l).len
  omega
end Go.Proofs.YtfippaeoklnceaaGreat
namespace Go.Proofs.YtfippaeoklnceaaGreat
set_option maxRecDepth 100000
set_option maxHeartbeats 2000000
open Go.RowKit Apo
theorem can_down {T:List (List Int)} {es:List En}:∀ {l:Nat} {ks:List Ki},Can T es l ks→∀ j,j≤l→∃ ks',Can T es j ks'
 | 0,ks,h,j,hj=>by
  obtain rfl:j=0:=by omega
  exact ⟨ks,h⟩
 | l+1,ks,h,j,hj=>by
  by_cases q:j=l+1
  ·subst q; exact ⟨ks,h⟩
  ·obtain ⟨ks0,h1,_,_⟩:=h
   exact can_down h1 j (by omega)
theorem ctL_less (es:List En) (l:Nat):(ctL es (l+1)).length≤(ctL es l).length:=by
 show ((splitN (fun t:Tre=>endsN ((l+1:Nat):Int) t.key) (ctL es l)).map mkT).length≤_
 rw [List.length_map]
 exact split_len _ _
theorem ctL_top {es:List En} {l:Nat} (h:(ctL es l).length≤1):∀ d,(ctL es (l+d)).length≤1
 | 0=>h
 | d+1=>Nat.le_trans (ctL_less es (l+d)) (ctL_top h d)
def newP (U:List (List Int)) (ns:List Nd):Nat:=(ns.map (fun n=>if ndB n ∈ U then 0 else needP ((ndB n).length:Int))).sum
theorem newP_mono {U V:List (List Int)} (h:∀ t ∈ U,t ∈ V):∀ ns:List Nd,newP V ns≤newP U ns
 | []=>by simp [newP]
 | n :: ns=>by
  have ih:=newP_mono h ns
  have e1:∀ W:List (List Int),newP W (n :: ns)=(if ndB n ∈ W then 0 else needP ((ndB n).length:Int))+newP W ns:=fun W=>by simp [newP]
  rw [e1,e1]
  by_cases q:ndB n ∈ U
  ·rw [if_pos q,if_pos (h _ q)]; omega
  ·rw [if_neg q]
   split <;> omega
theorem pgT_newP (ns:List Nd):∀ U:List (List Int),pgT (putNs U ns)≤pgT U+newP U ns:=by
 induction ns with
 | nil=>intro U; simp [putNs,newP]
 | cons n ns ih =>
  intro U
  have e1:newP U (n :: ns)=(if ndB n ∈ U then 0 else needP ((ndB n).length:Int))+newP U ns:=by simp [newP]
  have e2:putNs U (n :: ns)=putNs (putT U (ndB n)) ns:=rfl
  have h1:=ih (putT U (ndB n))
  have h2:=newP_mono (U:=U) (V:=putT U (ndB n)) (fun t ht=>putT_mem ht) ns
  rw [e1,e2]
  by_cases q:ndB n ∈ U
  ·have e3:putT U (ndB n)=U:=by unfold putT; rw [if_pos q]
   rw [e3] at h1 ⊢
   rw [if_pos q]
   omega
  ·rw [if_neg q]
   have:=pgT_new q
   omega
theorem newP_rows {α:Type} {U:List (List Int)} (g:List α→Nd) (c:List α→Bool):∀ {Z:List (List α)},(∀ R ∈ Z,2 * needP ((ndB (g R)).length:Int)≤R.length+1)→(∀ R ∈ Z,c R=false→ndB (g R) ∈ U)→2 * newP U (Z.map g)≤Z.flatten.length+Z.countP c
 | [],_,_=>by simp [newP]
 | R :: Z,h1,h2=>by
  have ih:=newP_rows (U:=U) g c (Z:=Z) (fun x hx=>h1 x (by simp [hx])) (fun x hx=>h2 x (by simp [hx]))
  have a1:=h1 R (by simp)
  have e1:newP U ((R :: Z).map g)=(if ndB (g R) ∈ U then 0 else needP ((ndB (g R)).length:Int))+newP U (Z.map g):=by simp [newP]
  rw [e1,List.flatten_cons,List.length_append,List.countP_cons]
  cases hc:c R with
  | false =>
   rw [if_pos (h2 R (by simp) hc),if_neg (by simp)]
   omega
  | true =>
   rw [if_pos rfl]
   by_cases q:ndB (g R) ∈ U
   ·rw [if_pos q]; omega
   ·rw [if_neg q]; omega
open Classical in
theorem near_lvs {T:List (List Int)} {es fs:List En} {n id:Nat} (hT:T.Nodup) (hroot:RootOf T es id) (hch:ChN n es fs) (hok:MapOk fs) (hl:fs.length≤600) (hb:(fs.flatMap enB).length≤40000) (hTl:T.length≤4096) :
  ∀ l,l≤20→2 * pgT (lvT T fs l).1≤2 * pgT T+4 * fs.length+l * (fs.length+2 * n+1)
 | 0,_=>by
  have h1:=(hok.leaves hl hb).2
  have h2:∀ (ns:List Nd),newP T ns≤pagesN ns:=fun ns=>by
   induction ns with
   | nil=>simp [newP]
   | cons n ns ih =>
    have e1:newP T (n :: ns)=(if ndB n ∈ T then 0 else needP ((ndB n).length:Int))+newP T ns:=by simp [newP]
    have e2:pagesN (n :: ns)=needP (ndB n).length+pagesN ns:=by simp [pagesN]
    rw [e1,e2]
    split <;> omega
  have h3:=pgT_newP (lvN0 fs) T
  have h4:=h2 (lvN0 fs)
  rw [lvT_zero]
  unfold lvN0 at h3 h4 ⊢
  simp only
  omega
 | l+1,h20=>by
  have ih:=near_lvs hT hroot hch hok hl hb hTl l (by omega)
  have e1:(l+1) * (fs.length+2 * n+1)=l * (fs.length+2 * n+1)+(fs.length+2 * n+1):=by rw [Nat.add_mul,Nat.one_mul]
  by_cases q:(lvT T fs l).2.length≤1
  ·rw [lvT_stop q]
   omega
  ·obtain ⟨k,hk,hc,he⟩:=lvT_can (T:=T) (es:=fs) l
   have hkl:k=l:=by rcases he with he | he; exact he; exact absurd he q
   subst hkl
   obtain ⟨_,hlen⟩:=lvT_pages (T:=T) hok hl hb (by omega) k (by omega)
   have hm:(1+k) * fs.length≤21 * fs.length:=Nat.mul_le_mul_right _ (by omega)
   have hrow:=(hc.up hok hl (by omega) (by omega)).2.2
   have hnd:=lvT_nodup (es:=fs) hT k
   have hsub:=lvT_sub (T:=T) (es:=fs) k
   have hkl2:=hc.len
   rw [lvT_go (by omega)]
   simp only
   obtain ⟨zs,z1,z2,z3⟩:=can_prs hc
   generalize (lvT T fs k).1=U at *
   generalize (lvT T fs k).2=ks at *
   have e2:splitN (fun e:Ki=>endsN ((k+1:Nat):Int) e.k) ks=(splitN (fun z:Tre × Ki=>endsN ((k+1:Nat):Int) z.1.key) zs).map (List.map Prod.snd):=by
    rw [z2,split_map]
    congr 1
    exact split_congr (fun z hz=>by rw [InT.keys (z3 z hz)])
   have e3:ctL fs (k+1)=(splitN (fun z:Tre × Ki=>endsN ((k+1:Nat):Int) z.1.key) zs).map (fun R=>mkT (R.map Prod.fst)):=by
    show (splitN (fun t:Tre=>endsN ((k+1:Nat):Int) t.key) (ctL fs k)).map mkT=_
    rw [z1,split_map,List.map_map]
    rfl
   obtain ⟨Z,hZ⟩:∃ Z,Z=splitN (fun z:Tre × Ki=>endsN ((k+1:Nat):Int) z.1.key) zs:=⟨_,rfl⟩
   have hflat:Z.flatten.length=ks.length:=by rw [hZ,split_flat,z2]; simp
   have hmem:∀ R ∈ Z,∀ z ∈ R,z ∈ zs:=fun R hR z hz=>by
    have:=split_flat (p:=fun z:Tre × Ki=>endsN ((k+1:Nat):Int) z.1.key) (l:=zs)
    rw [← this]
    exact List.mem_flatten.2 ⟨R,by rw [← hZ]; exact hR,hz⟩
   rw [← hZ] at e2 e3
   have hns:lvNk (k+1) ks=Z.map (fun R=>(⟨((k+1:Nat):Int),[],R.map Prod.snd⟩:Nd)):=by
    unfold lvNk abns
    rw [e2,List.map_map]
    rfl
   rw [hns]
   have hp:=pgT_newP (Z.map (fun R=>(⟨((k+1:Nat):Int),[],R.map Prod.snd⟩:Nd))) U
   have hneed:∀ R ∈ Z,2 * needP ((ndB (⟨((k+1:Nat):Int),[],R.map Prod.snd⟩:Nd)).length:Int)≤R.length+1:=fun R hR=>by
    have:=hrow (R.map Prod.snd) (by rw [e2]; exact List.mem_map.2 ⟨R,hR,rfl⟩)
    rw [List.length_map] at this
    exact this
   obtain ⟨l0,ks0,c1,c2,c3,_⟩:=hroot
   have hfin:∃ c:List (Tre × Ki)→Bool,(∀ R ∈ Z,c R=false→ndB (⟨((k+1:Nat):Int),[],R.map Prod.snd⟩:Nd) ∈ U)∧Z.countP c≤2 * n+1:=by
    by_cases hlev:k+1≤l0
    ·obtain ⟨ksE,hE⟩:=can_down c1 (k+1) hlev
     obtain ⟨ys,y1,y2,y3⟩:=can_prs hE
     refine ⟨fun R=>decide (mkT (R.map Prod.fst) ∉ ctL es (k+1)),fun R hR hc2=>?_,?_⟩
     ·have hin:mkT (R.map Prod.fst) ∈ ctL es (k+1):=by simpa using hc2
      rw [y1] at hin
      obtain ⟨y,hy,hye⟩:=List.mem_map.1 hin
      have hI:=y3 y hy
      rw [hye] at hI
      obtain ⟨_,ws,w1,w2,_,w4,_⟩:=hI
      have e:=pair_uniq (R:=fun t k2=>InT U k t k2) (fun t a b x y=>InT.one hnd x y) w1 (fun z hz=>z3 z (hmem R hR z hz)) (fun z hz=>InT.sub hsub (w2 z hz))
      rw [e]
      exact List.mem_of_getElem? (hsub _ _ w4)
     ·have h1:=hch.count (l:=k+1) (fun t=>decide (t ∉ ctL es (k+1)))
      have h2:(ctL es (k+1)).countP (fun t=>decide (t ∉ ctL es (k+1)))=0:=by
       rw [List.countP_eq_zero]
       intro t ht
       simp [ht]
      have h3:Z.countP (fun R=>decide (mkT (R.map Prod.fst) ∉ ctL es (k+1)))=(ctL fs (k+1)).countP (fun t=>decide (t ∉ ctL es (k+1))):=by
       rw [e3,List.countP_map]
       rfl
      omega
    ·refine ⟨fun _=>true,(fun R _ h=>absurd h (by simp)),?_⟩
     have h1:=hch.lv (l:=k+1)
     have h2:(ctL es l0).length≤1:=by
      have:=(can_prs c1).len
      omega
     have h3:=ctL_top h2 (k+1 - l0)
     rw [show l0+(k+1 - l0)=k+1 by omega] at h3
     have h4:Z.length=(ctL fs (k+1)).length:=by rw [e3,List.length_map]
     have h5:=List.countP_le_length (p:=fun _:List (Tre × Ki)=>true) (l:=Z)
     omega
   obtain ⟨c,hc1,hc2⟩:=hfin
   have hfl:=newP_rows (U:=U) (fun R:List (Tre × Ki)=>(⟨((k+1:Nat):Int),[],R.map Prod.snd⟩:Nd)) c hneed hc1
   omega
theorem near_pages {T:List (List Int)} {es fs:List En} {n id:Nat} (hT:T.Nodup) (hroot:RootOf T es id) (hch:ChN n es fs) (hok:MapOk fs) (hl:fs.length≤600) (hb:(fs.flatMap enB).length≤40000) (hTl:T.length≤4096):pgT (treeT T fs)≤pgT T+2 * fs.length+10 * (fs.length+2 * n+1):=by
 have:=near_lvs hT hroot hch hok hl hb hTl 20 (Nat.le_refl _)
 unfold treeT
 omega
end Go.Proofs.YtfippaeoklnceaaGreat
namespace Go.Proofs.YtfippaeoklnceaaGreat
set_option maxRecDepth 100000
set_option maxHeartbeats 2000000
open Go.RowKit Apo
def TRoot (w W:World) (s:Nat) (O:Nat→Prop) (T:List (List Int)) (m:Nat) (es:List En) (e:Ending) (W':World):Prop :=
 ∃ (id:Nat) (O':Nat→Prop) (T':List (List Int)),e=.returned (.tuple #[.int .u64 id,.int .i64 0])∧RootOf T' es id∧Sub T T'∧(TxOk T→TxOk T')∧(T'=treeT T es∧id=rootT T es)∧TSw w W' s O' T' m∧(∀ i,O' i→O i∨W.heap.size≤i)∧Onl O W W'
end Go.Proofs.YtfippaeoklnceaaGreat
namespace Go.Proofs.YtfippaeoklnceaaGreat
set_option maxRecDepth 100000
set_option maxHeartbeats 2000000
open Go.RowKit Apo
def RsP (es:List En) (w:World) (e:Ending) (w':World):Prop:=∃ b:Bool,e=.returned (.bool b)∧(b=true↔Rise (es.map En.k))∧Below w.heap.size w w'
theorem rise_getD {es:List En} {i:Nat} {e f:En} (h:Rise (es.map En.k)) (h1:es[i]?=some e) (h2:es[i+1]?=some f):sLt e.k f.k=true:=by
 have hl:=(List.getElem?_eq_some_iff.1 h2).1
 have:=h.at (i:=i) (by simpa using hl)
 simpa [List.getD_eq_getElem?_getD,h1,h2] using this
theorem rise_all {es:List En} (h:∀ i e f,es[i]?=some e→es[i+1]?=some f→sLt e.k f.k=true):Rise (es.map En.k):=by
 refine rise_of (fun i hi=>?_)
 simp only [List.length_map] at hi
 have h1:es[i]?=some (es[i]'(by omega)):=List.getElem?_eq_getElem _
 have h2:es[i+1]?=some (es[i+1]'hi):=List.getElem?_eq_getElem _
 simpa [List.getD_eq_getElem?_getD,h1,h2] using h i _ _ h1 h2
theorem trise_any (w:World) (a:Option Addr) (c:Nat) (es:List En) (h:RdEn w a es) (hl:es.length≤1000000) :
  Calls Tryz.prog 22 #[.slice a es.length c] w (RsP es w):=by
 obtain ⟨n,hn⟩:∃ n,n=es.length:=⟨_,rfl⟩
 have HN:=hide hn
 have HR:=hide h
 rw [← hn] at hl ⊢
 clear h hn
 go_enter Tryz.func22,Tryz.ntmps22
 go_wp2
 go_loopw [3] (fun v wr=>∃ i:Nat,1≤i∧(i≤n∨i=1)∧v=.int .i64 i∧Hid (∀ t e f,t+1 < i→es[t]?=some e→es[t+1]?=some f→sLt e.k f.k=true)∧Hid (Below w.heap.size w wr)) (fun v _=>n+1 - (intOf v).toNat)
 case atStart=>exact ⟨1,Nat.le_refl _,Or.inr rfl,rfl,hide (fun t e f ht=>absurd ht (by omega)),hide (Below.refl _ _)⟩
 case round =>
  obtain ⟨i,hi1,hi2,rfl,HS,HB⟩:=hrel
  by_cases hin:i < n
  ·obtain ⟨i1,hi3⟩:∃ i1,i=i1+1:=⟨i - 1,by omega⟩
   obtain ⟨s1,hs1⟩:∃ s,es[i1]?=some s:=⟨es[i1]'(by have:=HN.out; omega),List.getElem?_eq_getElem _⟩
   obtain ⟨s2,hs2⟩:∃ s,es[i1+1]?=some s:=⟨es[i1+1]'(by have:=HN.out; omega),List.getElem?_eq_getElem _⟩
   obtain ⟨g,of,rfl,q1,_⟩:=(HR.out.below HB.out) i1 s1 hs1
   obtain ⟨g2,of2,hgg,q2,_⟩:=(HR.out.below HB.out) (i1+1) s2 hs2
   injection hgg with hgg
   injection hgg with e1 e2 _
   subst e1 e2
   have hwi:IntKind.i64.wrap ((i:Int) - 1)=(i1:Int):=by rw [IntKind.wrap_i64]; omega
   have hsub:(i:Int) - 1=(i1:Int):=by omega
   have hi1n:i1 < n:=by omega
   rw [← hi3] at q2
   have HI3:=hide hi3
   have HS12:=hide (And.intro hs1 hs2)
   clear hs1 hs2 hi3
   cases hb1:sLt s1.k s2.k
   ·have hbl:Op.bytesLess s1.k.toList s2.k.toList=false:=hb1
    have HX:Hid (¬ Rise (es.map En.k)):=hide (fun z=>by
     have q:=rise_getD z HS12.out.1 HS12.out.2
     rw [hb1] at q
     cases q)
    clear hb1
    go_wp2
    go_quiet (fail)
    go_wp2
    go_ret
    exact ⟨false,rfl,⟨fun q=>(by cases q),fun q=>absurd q HX.out⟩,below_drewN HB.out _⟩
   ·have hbl:Op.bytesLess s1.k.toList s2.k.toList=true:=hb1
    have HS3:Hid (∀ t e f,t+1 < i+1→es[t]?=some e→es[t+1]?=some f→sLt e.k f.k=true):=by
     refine hide (fun t e f ht h1 h2=>?_)
     by_cases z:t+1 < i
     ·exact HS.out t e f z h1 h2
     ·obtain rfl:t=i1:=by have:=HI3.out; omega
      rw [HS12.out.1] at h1
      rw [HS12.out.2] at h2
      cases h1
      cases h2
      exact hb1
    have hwi2:IntKind.i64.wrap ((i:Int)+1)=((i+1:Nat):Int):=by rw [IntKind.wrap_i64]; omega
    clear hb1 HS
    go_wp2
    go_quiet (fail)
    go_wp2
    go_roundw
    case rel=>exact ⟨i+1,by omega,by omega,by simp,HS3,hide (below_drewN HB.out _)⟩
    case measure=>simp [intOf]; omega
  ·have HF:Hid (Rise (es.map En.k)):=hide (rise_all (fun t e f h1 h2=>HS.out t e f (by have:=(List.getElem?_eq_some_iff.1 h2).1; have:=HN.out; omega) h1 h2))
   clear HS
   go_wp2
   go_ret
   exact ⟨true,rfl,⟨fun _=>HF.out,fun _=>rfl⟩,HB.out⟩
open Classical in
noncomputable def rightE (es:List En):Int:=if firstE enE es≠0 then firstE enE es else if Rise (es.map En.k) then 0 else 90
theorem rightE_map {es:List En} (h:rightE es=0):MapOk es:=by
 unfold rightE at h
 by_cases h1:firstE enE es≠0
 ·rw [if_pos h1] at h; exact absurd h h1
 ·rw [if_neg h1] at h
  by_cases h2:Rise (es.map En.k)
  ·have h3:firstE enE es=0:=by simpa using h1
   have h4:∀ e ∈ es,keyE e.k=0∧valE e.v=0:=fun e he=>by
    have:=firstE_zero h3 e he
    by_cases q:keyE e.k=0
    ·rw [enE_val q] at this; exact ⟨q,this⟩
    ·rw [enE_key q] at this; exact absurd this q
   refine ⟨h2,fun e he=>keyE_ok (h4 e he).1,fun e he=>?_⟩
   have:=(h4 e he).2
   unfold valE at this
   split at this
   ·simp at this
   ·omega
  ·rw [if_neg h2] at h; simp at h
end Go.Proofs.YtfippaeoklnceaaGreat
namespace Go.Proofs.YtfippaeoklnceaaGreat
set_option maxRecDepth 100000
set_option maxHeartbeats 2000000
open Go.RowKit Apo
open Classical in
theorem slEq_any (a:Option Addr) (acap:Nat) (l:List En) (b:Option Addr) (bcap:Nat) (m:List En) (w:World) (ha:RdEn w a l) (hb:RdEn w b m) (hl:l.length≤9223372036854775807) :
  Calls Tryz.prog 125 #[.slice a l.length acap,.slice b m.length bcap] w fun e w'=>e=.returned (.bool (decide (l=m)))∧Below w.heap.size w w':=by
 have hA:=hide ha
 have hB:=hide hb
 clear ha hb
 by_cases hlen:l.length=m.length
 ·rw [← hlen]
  have HL:=hide hlen
  clear hlen
  go_enter Tryz.func125,Tryz.ntmps125
  go_wp2
  go_loopw [13] (fun i wr=>∃ k:Nat,k≤l.length∧i=.int .i64 k∧Hid (l.take k=m.take k)∧Below w.heap.size w wr) (fun i _=>l.length - (intOf i).toNat)
  case atStart=>exact ⟨0,Nat.zero_le _,rfl,rfl,Below.refl _ _⟩
  case round =>
   obtain ⟨k,hk,rfl,hE,hbr⟩:=hrel
   by_cases hlt:k < l.length
   ·have hz:l[k]?=some l[k]:=List.getElem?_eq_getElem hlt
    have hlt2:k < m.length:=by rw [← HL.out]; exact hlt
    have hy:m[k]?=some m[k]:=List.getElem?_eq_getElem hlt2
    generalize l[k]=f at hz
    generalize m[k]=g at hy
    obtain ⟨p,off,rfl,c0,c1⟩:=(hA.out.below hbr) k f hz
    obtain ⟨p',off',rfl,d0,d1⟩:=(hB.out.below hbr) k g hy
    have HZ:=hide hz
    have HY:=hide hy
    clear hz hy
    have hm:Tryz.prog.eqGuardType Tryz.prog.depth 40=false:=by kernel_rfl
    have hcmp:=neqEn f g
    by_cases hfg:f=g
    ·subst hfg
     simp only [decide_true,Bool.not_true] at hcmp
     have hE':Hid (l.take (k+1)=m.take (k+1)):=by
      show _=_
      rw [List.take_add_one,List.take_add_one,HZ.out,HY.out,hE.out]
     go_wp2
     go_quiet (fail)
     go_wp2
     go_roundw
     case rel=>exact ⟨k+1,by omega,by go_num,hE',below_drewN hbr _⟩
     case measure=>simp [intOf]; omega
    ·have hd:decide (f=g)=false:=by simp [hfg]
     simp only [hd,Bool.not_false] at hcmp
     have hE':Hid (l≠m):=by
      intro e
      have h1:=HZ.out
      rw [e,HY.out] at h1
      exact hfg (by cases h1; rfl)
     go_wp2
     go_quiet (fail)
     go_wp2
     go_ret
     exact ⟨by simp [hE'.out],below_drewN hbr _⟩
   ·have hE':Hid (l=m):=by
     have h1:=hE.out
     rw [List.take_of_length_le (by omega),List.take_of_length_le (by rw [← HL.out]; omega)] at h1
     exact h1
    go_wp2
    go_ret
    exact ⟨by simp [hE'.out],hbr⟩
 ·have hne:l≠m:=fun e=>hlen (by rw [e])
  have hN:=hide hne
  have hlb:((l.length:Int) == (m.length:Int))=false:=by simp; omega
  clear hne
  go_enter Tryz.func125,Tryz.ntmps125
  go_wp2
  go_ret
  exact ⟨by simp [hN.out],Below.refl _ _⟩
end Go.Proofs.YtfippaeoklnceaaGreat
