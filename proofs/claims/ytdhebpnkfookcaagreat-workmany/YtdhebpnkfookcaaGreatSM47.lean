import Derived.Test.YtdhebpnkfookcaaGreatSM46
namespace Go.Proofs.YtdhebpnkfookcaaGreat
open Go.RowKit Apo
def Z5 {α:Type} (p:α->Bool):List (List α) × List α->List α->List (List α) × List α
 | s,[]=>s
 | s,x :: l=>Z5 p (if p x=true then (s.1++[s.2++[x]],[]) else (s.1,s.2++[x])) l
def endC {α:Type} (s:List (List α) × List α):List (List α):=s.1++(if s.2.length=0 then [] else [s.2])
theorem runC_app {α:Type} (p:α->Bool):∀ (l m:List α) (s:List (List α) × List α),Z5 p s (l++m)=Z5 p (Z5 p s l) m
 | [],_,_=>rfl
 | _ :: l,m,_=>runC_app p l m _
theorem runC_pre {α:Type} (p:α->Bool):∀ (l:List α) (a:List (List α)) (s:List (List α) × List α),Z5 p (a++s.1,s.2) l=(a++(Z5 p s l).1,(Z5 p s l).2)
 | [],_,_=>rfl
 | x :: l,a,s=>by
  show Z5 p (if p x=true then (a++s.1++[s.2++[x]],[]) else (a++s.1,s.2++[x])) l=(a++(Z5 p (if p x=true then (s.1++[s.2++[x]],[]) else (s.1,s.2++[x])) l).1,(Z5 p (if p x=true then (s.1++[s.2++[x]],[]) else (s.1,s.2++[x])) l).2)
  split
  ·rw [<- runC_pre p l a (s.1++[s.2++[x]],[]),List.append_assoc]
  ·rw [<- runC_pre p l a (s.1,s.2++[x])]
theorem runC_cut {α:Type} (p:α->Bool) (l:List α):∀ k,k<=l.length->ZN p l k=Z5 p ([],[]) (l.take k)
 | 0,_=>by simp [ZN,Z5]
 | k+1,hk=>by
  have h1:l[k]?=some (l[k]'(by omega)):=List.getElem?_eq_getElem _
  have h2:l.take (k+1)=l.take k++[l[k]'(by omega)]:=by rw [List.take_add_one,h1];rfl
  rw [ZZ h1,h2,runC_app,<- runC_cut p l k (by omega)];rfl
theorem split_run {α:Type} (p:α->Bool) (l:List α):Zd p l=endC (Z5 p ([],[]) l):=by
 rw [cut_split,runC_cut p l l.length (Nat.le_refl _),List.take_length];rfl
def NearR {α:Type} (key:α->ByteArray) (L L':List α):Prop :=
 ∃ P M M' S,L=P++M++S/\L'=P++M'++S/\M.length<=2/\M'.length<=2/\(S=[]\/∃ x y,M.getLast?=some x/\M'.getLast?=some y/\key x=key y)
theorem run_begun {α:Type} (p:α->Bool):∀ (l:List α) (c:List α),(∀ x ∈ l,p x=false)->Z5 p ([],c) l=([],c++l)
 | [],c,_=>by simp [Z5]
 | x :: l,c,h=>by
  show Z5 p (if p x=true then ([]++[c++[x]],[]) else ([],c++[x])) l=_
  rw [if_neg (by rw [h x (by simp)];simp),run_begun p l (c++[x]) (fun y hy=>h y (by simp [hy]))];simp
theorem first_end {α:Type} (p:α->Bool):∀ S:List α,(∀ x ∈ S,p x=false)\/∃ A z B,S=A++z :: B/\(∀ x ∈ A,p x=false)/\p z=true
 | []=>.inl (by simp)
 | x :: S=>by
  cases hx:p x with
  | true=>exact .inr ⟨[],x,S,rfl,by simp,hx⟩
  | false =>
   rcases first_end p S with h | ⟨A,z,B,h1,h2,h3⟩
   ·exact .inl (fun y hy=>by rcases List.mem_cons.1 hy with rfl | q;exact hx;exact h y q)
   ·exact .inr ⟨x :: A,z,B,by rw [h1];rfl,fun y hy=>by rcases List.mem_cons.1 hy with rfl | q;exact hx;exact h2 y q,h3⟩
theorem run_len {α:Type} (p:α->Bool):∀ (l:List α) (s:List (List α) × List α),(Z5 p s l).1.length<=s.1.length+l.length
 | [],_=>by simp [Z5]
 | x :: l,s=>by
  have h:=run_len p l (if p x=true then (s.1++[s.2++[x]],[]) else (s.1,s.2++[x]));have h2:(if p x=true then (s.1++[s.2++[x]],[]) else (s.1,s.2++[x])).1.length<=s.1.length+1:=by split <;> simp
  show (Z5 p (if p x=true then (s.1++[s.2++[x]],[]) else (s.1,s.2++[x])) l).1.length<=_
  rw [List.length_cons];omega
theorem run_from {α:Type} (p:α->Bool) (R:List (List α)) (c l:List α):Z5 p (R,c) l=(R++(Z5 p ([],c) l).1,(Z5 p ([],c) l).2):=by
 have:=runC_pre p l R ([],c);simpa using this
theorem endC_pre {α:Type} (R A:List (List α)) (c:List α):endC (R++A,c)=R++endC (A,c):=by simp [endC]
theorem run_last {α:Type} (p:α->Bool) {M:List α} {m:α} (h:M.getLast?=some m) (c:List α) :
  (p m=true->∃ Q e,Z5 p ([],c) M=(Q++[e++[m]],[])/\Q.length+1<=M.length)/\(p m=false->∃ Q e,Z5 p ([],c) M=(Q,e++[m])/\Q.length+1<=M.length):=by
 obtain ⟨N,rfl⟩:=List.getLast?_eq_some_iff.1 h
 have hl:=run_len p N ([],c);rw [runC_app];generalize Z5 p ([],c) N=q at hl;obtain ⟨Q,d⟩:=q;simp only [List.length_nil,Nat.zero_add] at hl;constructor
 ·intro hm;refine ⟨Q,d,?_,by simp;omega⟩;show (if p m=true then (Q++[d++[m]],[]) else (Q,d++[m]))=_
  rw [if_pos hm]
 ·intro hm;refine ⟨Q,d,?_,by simp;omega⟩;show (if p m=true then (Q++[d++[m]],[]) else (Q,d++[m]))=_
  rw [if_neg (by rw [hm];simp)]
def keyRow {α:Type} (key:α->ByteArray) (r:List α):ByteArray:=match r.getLast? with
 | some x=>key x
 | none=>ByteArray.empty
theorem keyRow_snoc {α:Type} (key:α->ByteArray) (r:List α) (x:α):keyRow key (r++[x])=key x:=by simp [keyRow]
theorem run_end {α:Type} (p:α->Bool) (c M:List α) (h:M.length<=2):(endC (Z5 p ([],c) M)).length<=2:=by
 cases hq:M.getLast? with
 | none =>
  have:M=[]:=by simpa using hq
  subst this;unfold Z5 endC;simp only [List.nil_append];split <;> simp
 | some m =>
  obtain ⟨h1,h2⟩:=run_last p hq c;cases hm:p m with
  | true =>
   obtain ⟨Q,e,e1,e2⟩:=h1 hm;rw [e1];simp [endC]
   omega
  | false =>
   obtain ⟨Q,e,e1,e2⟩:=h2 hm;rw [e1];simp [endC]
   omega
theorem NearR.split {α:Type} {key:α->ByteArray} {p:α->Bool} (hp:∀ x y,key x=key y->p x=p y) {L L':List α} (h:NearR key L L'):NearR (keyRow key) (Zd p L) (Zd p L'):=by
 obtain ⟨P,M,M',S,rfl,rfl,hM,hM',hS⟩:=h
 have hsp:∀ X:List α,Zd p (P++X++S)=(Z5 p ([],[]) P).1++endC (Z5 p ([],(Z5 p ([],[]) P).2) (X++S)):=fun X=>by
  rw [split_run,List.append_assoc,runC_app];generalize Z5 p ([],[]) P=q;obtain ⟨R,c⟩:=q;rw [run_from,endC_pre]
 rw [hsp,hsp];generalize (Z5 p ([],[]) P).1=R;generalize (Z5 p ([],[]) P).2=c;rcases hS with rfl | ⟨x,y,hx,hy,hxy⟩
 ·rw [List.append_nil,List.append_nil];exact ⟨R,_,_,[],by simp,by simp,run_end p c M hM,run_end p c M' hM',.inl rfl⟩
 ·obtain ⟨a1,a2⟩:=run_last p hx c;obtain ⟨b1,b2⟩:=run_last p hy c;have hpe:=hp x y hxy;cases hpx:p x with
  | true =>
   obtain ⟨Q,e,e1,e2⟩:=a1 hpx;obtain ⟨Q',e',e1',e2'⟩:=b1 (by rw [<- hpe];exact hpx);rw [runC_app,runC_app,e1,e1',run_from p (Q++[e++[x]]),run_from p (Q'++[e'++[y]]),endC_pre,endC_pre];refine ⟨R,Q++[e++[x]],Q'++[e'++[y]],endC (Z5 p ([],[]) S),by simp,by simp,by simp;omega,by simp;omega,.inr ⟨e++[x],e'++[y],by simp,by simp,?_⟩⟩;rw [keyRow_snoc,keyRow_snoc];exact hxy
  | false =>
   obtain ⟨Q,e,e1,e2⟩:=a2 hpx;obtain ⟨Q',e',e1',e2'⟩:=b2 (by rw [<- hpe];exact hpx);rw [runC_app,runC_app,e1,e1',run_from p Q,run_from p Q'];rcases first_end p S with hn | ⟨A,z,B,rfl,hA,hz⟩
   ·rw [run_begun p S _ hn,run_begun p S _ hn];refine ⟨R,endC (Q++[],e++[x]++S),endC (Q'++[],e'++[y]++S),[],by simp,by simp,?_,?_,.inl rfl⟩
    ·simp [endC];omega
    ·simp [endC];omega
   ·have hrun:∀ d:List α,Z5 p ([],d) (A++z :: B)=([d++A++[z]]++(Z5 p ([],[]) B).1,(Z5 p ([],[]) B).2):=fun d=>by
     rw [runC_app,run_begun p A d hA];show Z5 p (if p z=true then ([]++[d++A++[z]],[]) else ([],d++A++[z])) B=_
     rw [if_pos hz,List.nil_append,run_from]
    rw [hrun,hrun];simp only;rw [<- List.append_assoc,<- List.append_assoc,endC_pre,endC_pre];refine ⟨R,Q++[e++[x]++A++[z]],Q'++[e'++[y]++A++[z]],endC ((Z5 p ([],[]) B).1,(Z5 p ([],[]) B).2),by simp,by simp,by simp;omega,by simp;omega,.inr ⟨e++[x]++A++[z],e'++[y]++A++[z],by simp,by simp,?_⟩⟩;rw [keyRow_snoc,keyRow_snoc]
theorem NearR.map {α β:Type} {key:α->ByteArray} {key':β->ByteArray} (f:α->β) (hf:∀ x,key' (f x)=key x) {L L':List α} (h:NearR key L L'):NearR key' (L.map f) (L'.map f):=by
 obtain ⟨P,M,M',S,rfl,rfl,hM,hM',hS⟩:=h;refine ⟨P.map f,M.map f,M'.map f,S.map f,by simp,by simp,by simpa using hM,by simpa using hM',?_⟩;rcases hS with rfl | ⟨x,y,hx,hy,hxy⟩
 ·exact .inl rfl
 ·exact .inr ⟨f x,f y,by rw [List.getLast?_map,hx];rfl,by rw [List.getLast?_map,hy];rfl,by rw [hf,hf];exact hxy⟩
theorem NearR.count {α:Type} {key:α->ByteArray} (q:α->Bool) {L L':List α} (h:NearR key L L'):L'.countP q<=L.countP q+2:=by
 obtain ⟨P,M,M',S,rfl,rfl,hM,hM',_⟩:=h;simp only [List.countP_append];have:=List.countP_le_length (p:=q) (l:=M');omega
theorem NearR.len {α:Type} {key:α->ByteArray} {L L':List α} (h:NearR key L L'):L'.length<=L.length+2:=by
 obtain ⟨P,M,M',S,rfl,rfl,hM,hM',_⟩:=h;simp only [List.length_append];omega
inductive Tre where
 | lf (r:List En)
 | nd (k:ByteArray) (ts:List Tre)
def Tre.key:Tre->ByteArray
 | .lf r=>keyRow En.k r
 | .nd k _=>k
def mkT (ts:List Tre):Tre:=.nd (keyRow Tre.key ts) ts
def ctL (es:List En):Nat->List Tre
 | 0=>(Zd (fun e:En=>Zf 0 e.k) es).map Tre.lf
 | l+1=>(Zd (fun t:Tre=>Zf ((l+1:Nat):Int) t.key) (ctL es l)).map mkT
def InT (T:List (List Int)):Nat->Tre->Ki->Prop
 | 0,.lf r,k=>k.k=Zz ⟨0,r,[]⟩/\T[k.i - 1]?=some (ZW ⟨0,r,[]⟩)/\1<=k.i
 | l+1,.nd kk ts,k=>kk=keyRow Tre.key ts/\∃ zs:List (Tre × Ki),ts=zs.map Prod.fst/\(∀ z ∈ zs,InT T l z.1 z.2)/\k.k=Zz ⟨((l+1:Nat):Int),[],zs.map Prod.snd⟩/\T[k.i - 1]?=some (ZW ⟨((l+1:Nat):Int),[],zs.map Prod.snd⟩)/\1<=k.i
 | _,_,_=>False
theorem lastK_lf0 (r:List En):Zz ⟨0,r,[]⟩=keyRow En.k r:=by
 unfold Zz Nd.keys keyRow;cases h:r.getLast? with
 | none=>simp [List.getLast?_map,h]
 | some x=>simp [List.getLast?_map,h]
theorem lastK_kd0 (lv:Int) (r:List Ki):Zz ⟨lv,[],r⟩=keyRow Ki.k r:=by
 unfold Zz Nd.keys keyRow;cases h:r.getLast? with
 | none=>simp [List.getLast?_map,h]
 | some x=>simp [List.getLast?_map,h]
theorem keyRow_pair:∀ {zs:List (Tre × Ki)},(∀ z ∈ zs,z.2.k=z.1.key)->keyRow Ki.k (zs.map Prod.snd)=keyRow Tre.key (zs.map Prod.fst):=by
 intro zs h;unfold keyRow;rw [List.getLast?_map,List.getLast?_map];cases hq:zs.getLast? with
 | none=>rfl
 | some z=>exact h z (List.mem_of_getLast? hq)
theorem InT.keys {T:List (List Int)}:∀ {l:Nat} {t:Tre} {k:Ki},InT T l t k->k.k=t.key
 | 0,.lf _,_,⟨h1,_,_⟩=>by rw [h1,lastK_lf0];rfl
 | l+1,.nd kk ts,k,⟨h0,zs,h1,h2,h3,_,_⟩=>by
  rw [h3,lastK_kd0,keyRow_pair (fun z hz=>InT.keys (h2 z hz)),<- h1];exact h0.symm
 | 0,.nd _ _,_,h=>h.elim
 | _+1,.lf _,_,h=>h.elim
theorem runC_map {α β:Type} (f:α->β) (p:β->Bool):∀ (l:List α) (s:List (List α) × List α),Z5 p (s.1.map (List.map f),s.2.map f) (l.map f)=((Z5 (fun x=>p (f x)) s l).1.map (List.map f),(Z5 (fun x=>p (f x)) s l).2.map f)
 | [],_=>rfl
 | x :: l,s=>by
  show Z5 p (if p (f x)=true then (s.1.map (List.map f)++[s.2.map f++[f x]],[]) else (s.1.map (List.map f),s.2.map f++[f x])) (l.map f)=_
  have e:(if p (f x)=true then (s.1.map (List.map f)++[s.2.map f++[f x]],[]) else (s.1.map (List.map f),s.2.map f++[f x]))=((if p (f x)=true then (s.1++[s.2++[x]],[]) else (s.1,s.2++[x])).1.map (List.map f),(if p (f x)=true then (s.1++[s.2++[x]],[]) else (s.1,s.2++[x])).2.map f):=by
   split <;> simp
  rw [e];exact runC_map f p l _
theorem split_mapT {α β:Type} (f:α->β) (p:β->Bool) (l:List α):Zd p (l.map f)=(Zd (fun x=>p (f x)) l).map (List.map f):=by
 rw [split_run,split_run];have h:=runC_map f p l ([],[]);simp only [List.map_nil] at h;rw [h];unfold endC;simp only [List.length_map,List.map_append];split <;> simp
theorem runC_congr {α:Type} {p q:α->Bool}:∀ (l:List α) (s:List (List α) × List α),(∀ x ∈ l,p x=q x)->Z5 p s l=Z5 q s l
 | [],_,_=>rfl
 | x :: l,s,h=>by
  show Z5 p (if p x=true then (s.1++[s.2++[x]],[]) else (s.1,s.2++[x])) l=Z5 q (if q x=true then (s.1++[s.2++[x]],[]) else (s.1,s.2++[x])) l
  rw [h x (by simp)];exact runC_congr l _ (fun y hy=>h y (by simp [hy]))
theorem split_congr {α:Type} {p q:α->Bool} {l:List α} (h:∀ x ∈ l,p x=q x):Zd p l=Zd q l:=by rw [split_run,split_run,runC_congr l _ h]
def Prs (T:List (List Int)) (l:Nat) (ts:List Tre) (ks:List Ki):Prop:=∃ zs:List (Tre × Ki),ts=zs.map Prod.fst/\ks=zs.map Prod.snd/\∀ z ∈ zs,InT T l z.1 z.2
theorem prs_kids {T:List (List Int)} {l:Nat} {α:Type} (R:List α) (f:α->Tre) (g:α->Nd) (ks:List Ki) (hk:Kids T (R.map g) ks) (hin:∀ x ∈ R,∀ k:Ki,k.k=Zz (g x)->T[k.i - 1]?=some (ZW (g x))->1<=k.i->InT T l (f x) k):Prs T l (R.map f) ks:=by
 have hl:R.length=ks.length:=by have:=hk.1;simpa using this.symm
 refine ⟨(R.map f).zip ks,?_,?_,fun z hz=>?_⟩
 ·rw [List.map_fst_zip (by simp [hl])]
 ·rw [List.map_snd_zip (by simp [hl])]
 ·obtain ⟨i,hi,e⟩:=List.mem_iff_getElem.1 hz;rw [List.length_zip] at hi;have h1:i < R.length:=by simp at hi;omega
  have h2:i < ks.length:=by omega
  rw [List.getElem_zip] at e;obtain ⟨a,b,c⟩:=hk.2 i (g R[i]) ks[i] (by rw [List.getElem?_map,List.getElem?_eq_getElem h1];rfl) (List.getElem?_eq_getElem h2);rw [<- e];simp only [List.getElem_map];exact hin _ (List.getElem_mem h1) _ a b c
theorem can_prs {T:List (List Int)} {es:List En}:∀ {l:Nat} {ks:List Ki},Can T es l ks->Prs T l (ctL es l) ks
 | 0,ks,h=>by
  refine prs_kids (Zd (fun e:En=>Zf 0 e.k) es) Tre.lf (fun r=>⟨0,r,[]⟩) ks h (fun r _ k h1 h2 h3=>?_);exact ⟨h1,h2,h3⟩
 | l+1,ks,⟨ks0,h1,_,h3⟩=>by
  obtain ⟨zs,z1,z2,z3⟩:=can_prs h1;have e1:Zd (fun t:Tre=>Zf ((l+1:Nat):Int) t.key) (ctL es l)=(Zd (fun z:Tre × Ki=>Zf ((l+1:Nat):Int) z.1.key) zs).map (List.map Prod.fst):=by rw [z1,split_mapT]
  have e2:Zd (fun e:Ki=>Zf ((l+1:Nat):Int) e.k) ks0=(Zd (fun z:Tre × Ki=>Zf ((l+1:Nat):Int) z.1.key) zs).map (List.map Prod.snd):=by
   rw [z2,split_mapT];congr 1
   exact split_congr (fun z hz=>by rw [InT.keys (z3 z hz)])
  have e3:ctL es (l+1)=(Zd (fun z:Tre × Ki=>Zf ((l+1:Nat):Int) z.1.key) zs).map (fun R=>mkT (R.map Prod.fst)):=by
   show (Zd (fun t:Tre=>Zf ((l+1:Nat):Int) t.key) (ctL es l)).map mkT=_
   rw [e1,List.map_map];rfl
  rw [e3]
  have hk:Kids T ((Zd (fun z:Tre × Ki=>Zf ((l+1:Nat):Int) z.1.key) zs).map (fun R=>(⟨((l+1:Nat):Int),[],R.map Prod.snd⟩:Nd))) ks:=by
   have:=h3;rw [e2] at this;unfold abns at this;rw [List.map_map] at this;exact this
  refine prs_kids _ (fun R:List (Tre × Ki)=>mkT (R.map Prod.fst)) (fun R:List (Tre × Ki)=>(⟨((l+1:Nat):Int),[],R.map Prod.snd⟩:Nd)) ks hk (fun R hR k a1 a2 a3=>?_)
  exact ⟨rfl,R,rfl,fun z hz=>z3 z (by
   have:=ZP (p:=fun z:Tre × Ki=>Zf ((l+1:Nat):Int) z.1.key) (l:=zs);rw [<- this];exact List.mem_flatten.2 ⟨R,hR,hz⟩),a1,a2,a3⟩
theorem near_lv {es fs:List En} (h:NearR En.k es fs):∀ l,NearR Tre.key (ctL es l) (ctL fs l)
 | 0=>(h.split (p:=fun e:En=>Zf 0 e.k) (fun x y e=>by rw [e])).map Tre.lf (fun _=>rfl)
 | l+1=>((near_lv h l).split (p:=fun t:Tre=>Zf ((l+1:Nat):Int) t.key) (fun x y e=>by rw [e])).map mkT (fun _=>rfl)
def ChN:Nat->List En->List En->Prop
 | 0,a,b=>a=b
 | n+1,a,b=>∃ c,ChN n a c/\NearR En.k c b/\b.length<=c.length+1
theorem ChN.len:∀ {n:Nat} {a b:List En},ChN n a b->b.length<=a.length+n
 | 0,_,_,h=>by have:_=_:=h;rw [this];omega
 | n+1,a,b,⟨c,h1,_,h3⟩=>by have:=ChN.len h1;omega
theorem ChN.lv {l:Nat}:∀ {n:Nat} {a b:List En},ChN n a b->(ctL b l).length<=(ctL a l).length+2 * n
 | 0,_,_,h=>by have:_=_:=h;rw [this];omega
 | n+1,a,b,⟨c,h1,h2,_⟩=>by
  have i1:=ChN.lv (l:=l) h1;have i2:=(near_lv h2 l).len;omega
theorem ctL_less (es:List En) (l:Nat):(ctL es (l+1)).length<=(ctL es l).length:=by
 show ((Zd (fun t:Tre=>Zf ((l+1:Nat):Int) t.key) (ctL es l)).map mkT).length<=_
 rw [List.length_map];exact split_len _ _
def newP (U:List (List Int)) (ns:List Nd):Nat:=(ns.map (fun n=>if ZW n ∈ U then 0 else Zc ((ZW n).length:Int))).sum
theorem newP_mono {U V:List (List Int)} (h:∀ t ∈ U,t ∈ V):∀ ns:List Nd,newP V ns<=newP U ns
 | []=>by simp [newP]
 | n :: ns=>by
  have ih:=newP_mono h ns;have e1:∀ W:List (List Int),newP W (n :: ns)=(if ZW n ∈ W then 0 else Zc ((ZW n).length:Int))+newP W ns:=fun W=>by simp [newP]
  rw [e1,e1];by_cases q:ZW n ∈ U
  ·rw [if_pos q,if_pos (h _ q)];omega
  ·rw [if_neg q];split <;> omega
theorem pgT_newP (ns:List Nd):∀ U:List (List Int),pgT (Zp U ns)<=pgT U+newP U ns:=by
 induction ns with
 | nil=>intro U;simp [Zp,newP]
 | cons n ns ih =>
  intro U;have e1:newP U (n :: ns)=(if ZW n ∈ U then 0 else Zc ((ZW n).length:Int))+newP U ns:=by simp [newP]
  have e2:Zp U (n :: ns)=Zp (Z3 U (ZW n)) ns:=rfl;have h1:=ih (Z3 U (ZW n));have h2:=newP_mono (U:=U) (V:=Z3 U (ZW n)) (fun t ht=>putT_mem ht) ns;rw [e1,e2];by_cases q:ZW n ∈ U
  ·have e3:Z3 U (ZW n)=U:=by unfold Z3;rw [if_pos q]
   rw [e3] at h1 ⊢;rw [if_pos q];omega
  ·rw [if_neg q];have:=pgT_new q;omega
theorem newP_rows {α:Type} {U:List (List Int)} (g:List α->Nd) (c:List α->Bool):∀ {Z:List (List α)},(∀ R ∈ Z,2 * Zc ((ZW (g R)).length:Int)<=R.length+1)->(∀ R ∈ Z,c R=false->ZW (g R) ∈ U)->2 * newP U (Z.map g)<=Z.flatten.length+Z.countP c
 | [],_,_=>by simp [newP]
 | R :: Z,h1,h2=>by
  have ih:=newP_rows (U:=U) g c (Z:=Z) (fun x hx=>h1 x (by simp [hx])) (fun x hx=>h2 x (by simp [hx]));have a1:=h1 R (by simp);have e1:newP U ((R :: Z).map g)=(if ZW (g R) ∈ U then 0 else Zc ((ZW (g R)).length:Int))+newP U (Z.map g):=by simp [newP]
  rw [e1,List.flatten_cons,List.length_append,List.countP_cons];cases hc:c R with
  | false =>
   rw [if_pos (h2 R (by simp) hc),if_neg (by simp)];omega
  | true =>
   rw [if_pos rfl];by_cases q:ZW (g R) ∈ U
   ·rw [if_pos q];omega
   ·rw [if_neg q];omega
theorem Can.trees2 {T:List (List Int)} {es:List En} (hok:MapOk es) (hel:es.length<=100) (hT:T.length<=16000):∀ {l:Nat} {ks:List Ki},l<=20->Can T es l ks->∃ L:List (Nd × List (Nat × List En)),L.length=ks.length/\(∀ (i:Nat) (k:Ki) (x:Nd × List (Nat × List En)),ks[i]?=some k->L[i]?=some x->k.k=Zz x.1/\IsT T l k.i x.1 x.2)/\((L.map Prod.snd).flatten.map Prod.snd=Zd (fun e:En=>Zf 0 e.k) es/\∀ p ∈ (L.map Prod.snd).flatten,T[p.1 - 1]?=some (ZW ⟨0,p.2,[]⟩)/\1<=p.1)
 | 0,ks,_,h=>by
  obtain ⟨g1,_⟩:=hok.leaves (by omega) (hok.bytes (by omega));obtain ⟨rows,hrows⟩:∃ rows,rows=Zd (fun e:En=>Zf 0 e.k) es:=⟨_,rfl⟩;have h':Kids T (lvns rows) ks:=by rw [hrows];exact h
  rw [<- hrows] at g1;have hlen:ks.length=rows.length:=by have:=h'.1;simpa [lvns] using this
  refine ⟨(ks.zip rows).map (fun x=>(⟨0,x.2,[]⟩,[(x.1.i,x.2)])),by simp;omega,fun i k x hk hx=>?_,?_⟩
  ·rw [List.getElem?_map] at hx;cases hz:(ks.zip rows)[i]? with
   | none=>rw [hz] at hx;cases hx
   | some y =>
    rw [hz] at hx;simp only [Option.map_some,Option.some.injEq] at hx;rw [List.getElem?_zip_eq_some] at hz;obtain ⟨z1,z2⟩:=hz;rw [hk] at z1;have hy1:y.1=k:=by cases z1;rfl
    have hn:(lvns rows)[i]?=some ⟨0,y.2,[]⟩:=by simp [lvns,z2]
    obtain ⟨c1,c2,c3⟩:=h'.2 i _ k hn hk;subst hx;rw [hy1];have gn:=g1 _ (List.mem_of_getElem? hn);exact ⟨c1,gn.nod c3 c2 hT (fun k hk=>by simp at hk),rfl,rfl⟩
  ·have hfl:(((ks.zip rows).map (fun x=>((⟨0,x.2,[]⟩:Nd),[(x.1.i,x.2)]))).map Prod.snd).flatten=(ks.zip rows).map (fun x=>(x.1.i,x.2)):=by
    rw [List.map_map];generalize ks.zip rows=z;induction z with
    | nil=>rfl
    | cons y z ih=>simp only [List.map_cons,List.flatten_cons,ih];rfl
   rw [hfl];refine ⟨?_,fun p hp=>?_⟩
   ·rw [List.map_map,<- hrows];have h2:(Prod.snd ∘ fun x:Ki × List En=>(x.1.i,x.2))=Prod.snd:=rfl;rw [h2,List.map_snd_zip (by omega)]
   ·obtain ⟨y,hy,rfl⟩:=List.mem_map.1 hp;obtain ⟨i,hi,q⟩:=List.mem_iff_getElem.1 hy;have hz:(ks.zip rows)[i]?=some y:=by rw [List.getElem?_eq_getElem hi,q]
    rw [List.getElem?_zip_eq_some] at hz;have hn:(lvns rows)[i]?=some ⟨0,y.2,[]⟩:=by simp [lvns,hz.2]
    obtain ⟨c1,c2,c3⟩:=h'.2 i _ y.1 hn hz.1;exact ⟨c2,c3⟩
 | l+1,ks,hl,⟨ks0,h1,h2,h3⟩=>by
  obtain ⟨L0,p1,p2,p3⟩:=Can.trees2 hok hel hT (by omega) h1;obtain ⟨g1,_⟩:=h1.up hok (by omega) (by omega) (show l < 20 by omega);obtain ⟨lv,hlv⟩:∃ lv:Int,lv=((l+1:Nat):Int):=⟨_,rfl⟩;rw [<- hlv] at h3 g1;obtain ⟨R,hR⟩:∃ R,R=Zd (fun x:Ki × (Nd × List (Nat × List En))=>Zf lv x.1.k) (ks0.zip L0):=⟨_,rfl⟩;have hfst:(ks0.zip L0).map Prod.fst=ks0:=List.map_fst_zip (by omega)
  have hrows:Zd (fun e:Ki=>Zf lv e.k) ks0=R.map (List.map Prod.fst):=by
   rw [hR,<- split_map (f:=Prod.fst) (p:=fun e:Ki=>Zf lv e.k),hfst]
  have hRf:R.flatten=ks0.zip L0:=by rw [hR];exact ZP
  rw [hrows] at h3 g1;have hlen:ks.length=R.length:=by have:=h3.1;simpa [abns] using this
  refine ⟨R.map (fun r=>(⟨lv,[],r.map Prod.fst⟩,(r.map (fun y=>y.2.2)).flatten)),by simp;omega,fun i k x hk hx=>?_,?_⟩
  ·rw [List.getElem?_map] at hx;cases hz:R[i]? with
   | none=>rw [hz] at hx;cases hx
   | some r =>
    rw [hz] at hx;simp only [Option.map_some,Option.some.injEq] at hx;have hn:(abns lv (R.map (List.map Prod.fst)))[i]?=some ⟨lv,[],r.map Prod.fst⟩:=by simp [abns,hz]
    obtain ⟨c1,c2,c3⟩:=h3.2 i _ k hn hk;have gn:=g1 _ (List.mem_of_getElem? hn);subst hx;have hmem:∀ y ∈ r,y ∈ ks0.zip L0:=fun y hy=>by rw [<- hRf];exact List.mem_flatten.2 ⟨r,List.mem_of_getElem? hz,hy⟩
    have hpair:∀ y ∈ r,y.1.k=Zz y.2.1/\IsT T l y.1.i y.2.1 y.2.2:=fun y hy=>by
     obtain ⟨t,ht,q⟩:=List.mem_iff_getElem.1 (hmem y hy);have hq:(ks0.zip L0)[t]?=some y:=by rw [List.getElem?_eq_getElem ht,q]
     rw [List.getElem?_zip_eq_some] at hq;exact p2 t y.1 y.2 hq.1 hq.2
    refine ⟨c1,gn.nod c3 c2 hT (fun k hk'=>?_),hlv,by omega,r.map (fun y=>y.2.1),r.map (fun y=>y.2.2),by simp,by simp,fun j k' n' x' hk' hn' hx'=>?_,rfl⟩
    ·simp only [List.mem_map] at hk';obtain ⟨y,hy,rfl⟩:=hk';exact (hpair y hy).2.nod.1.lt
    ·rw [List.getElem?_map] at hk' hn' hx';cases hy:r[j]? with
     | none=>rw [hy] at hk';cases hk'
     | some y =>
      rw [hy] at hk' hn' hx';simp only [Option.map_some,Option.some.injEq] at hk' hn' hx';subst hk' hn' hx';exact hpair y (List.mem_of_getElem? hy)
  ·have hsnd:(ks0.zip L0).map Prod.snd=L0:=List.map_snd_zip (by omega)
   have h5:((R.map (fun r=>((⟨lv,[],r.map Prod.fst⟩:Nd),(r.map (fun y=>y.2.2)).flatten))).map Prod.snd).flatten=(L0.map Prod.snd).flatten:=by
    rw [List.map_map,<- hsnd,<- hRf,List.map_map]
    have:∀ R:List (List (Ki × (Nd × List (Nat × List En)))),(R.map (Prod.snd ∘ fun r=>((⟨lv,[],r.map Prod.fst⟩:Nd),(r.map (fun y=>y.2.2)).flatten))).flatten=(R.flatten.map (Prod.snd ∘ Prod.snd)).flatten:=by
     intro R;induction R with
     | nil=>rfl
     | cons r R ih =>
      simp only [List.map_cons,List.flatten_cons,List.map_append,List.flatten_append,ih];rfl
    exact this R
   rw [h5];exact p3
theorem RootOf.tree2 {T:List (List Int)} {es:List En} {id:Nat} (hok:MapOk es) (hel:es.length<=100) (hT:T.length<=16000) (h:RootOf T es id):∃ ls,RootT T id ls/\ls.map Prod.snd=Zd (fun e:En=>Zf 0 e.k) es/\∀ p ∈ ls,T[p.1 - 1]?=some (ZW ⟨0,p.2,[]⟩)/\1<=p.1/\p.1<=T.length:=by
 obtain ⟨l,ks,h1,h2,h3,h4⟩:=h;obtain ⟨L,p1,p2,p3,p4⟩:=h1.trees2 hok hel hT h2
 have lt:∀ p:Nat × List En,T[p.1 - 1]?=some (ZW ⟨0,p.2,[]⟩)/\1<=p.1->p.1<=T.length:=fun p q=>by
  have:=(List.getElem?_eq_some_iff.1 q.1).1;omega
 match ks,L,p1 with
 | [],[],_=>exact ⟨[],.inl ⟨h4,rfl⟩,p3,fun p hp=>by simp at hp⟩
 | [k],[x],_ =>
  obtain ⟨c1,c2⟩:=p2 0 k x rfl rfl;have hid:id=k.i:=h4;rw [<- hid] at c2;simp only [List.map_cons,List.map_nil,List.flatten_cons,List.flatten_nil,List.append_nil] at p3 p4;exact ⟨x.2,.inr ⟨l,x.1,c2⟩,p3,fun p hp=>⟨(p4 p hp).1,(p4 p hp).2,lt p (p4 p hp)⟩⟩
 | _ :: _ :: _,_,_=>simp at h3
def goS {α:Type} (p:α->Bool):List α->List α->List (List α)
 | cur,[]=>if cur.length=0 then [] else [cur]
 | cur,z :: l=>if p z=true then (cur++[z]) :: goS p [] l else goS p (cur++[z]) l
theorem goS_cut {α:Type} (p:α->Bool):∀ (b a:List α),Zd p (a++b)=(ZN p (a++b) a.length).1++goS p (ZN p (a++b) a.length).2 b
 | [],a=>by
  rw [List.append_nil,cut_split];rfl
 | z :: b,a=>by
  have h:=goS_cut p b (a++[z]);rw [List.append_assoc,List.singleton_append] at h;have hz:(a++z :: b)[a.length]?=some z:=by simp
  rw [h,List.length_append,List.length_singleton,ZZ hz];simp only [goS];split
  ·simp
  ·rfl
theorem rise_parts (key:ByteArray):∀ {es:List En},Z1 es->∃ A X B,es=A++(X++B)/\X.length<=1/\(∀ e ∈ A,ZQ e.k key=true)/\(∀ e ∈ X,e.k=key)/\∀ e ∈ B,ZQ key e.k=true
 | [],_=>⟨[],[],[],rfl,by simp,by simp,by simp,by simp⟩
 | e :: es,h=>by
  unfold Z1 at h;rw [List.pairwise_cons] at h;cases h1:ZQ e.k key with
  | true =>
   obtain ⟨A,X,B,q1,q2,q3,q4,q5⟩:=rise_parts key h.2;refine ⟨e :: A,X,B,by rw [q1];rfl,q2,fun f hf=>?_,q4,q5⟩;rcases List.mem_cons.1 hf with z | z
   ·rw [z];exact h1
   ·exact q3 f z
  | false =>
   cases h2:ZQ key e.k with
   | true =>
    refine ⟨[],[],e :: es,rfl,by simp,by simp,by simp,fun f hf=>?_⟩;rcases List.mem_cons.1 hf with z | z
    ·rw [z];exact h2
    ·exact ZL h2 (h.1 f z)
   | false =>
    have hk:=sLt_conn h1 h2;exact ⟨[],[e],es,rfl,by simp,by simp,fun f hf=>by rw [List.mem_singleton.1 hf];exact hk,fun f hf=>by rw [<- hk];exact h.1 f hf⟩
theorem setC_near {es:List En} {x:Ed} (hr:Z1 es):∃ A X Y B,es=A++(X++B)/\SetC es x (A++(Y++B))/\X.length<=1/\Y.length<=1/\∀ e ∈ Y,e=⟨x.k,x.v⟩/\x.g=false:=by
 obtain ⟨A,X,B,q1,q2,q3,q4,q5⟩:=rise_parts x.k hr;obtain ⟨Y,hY⟩:∃ Y,Y=(if x.g=true then [] else [(⟨x.k,x.v⟩:En)]):=⟨_,rfl⟩;have hYl:Y.length<=1:=by rw [hY];split <;> simp
 have hYk:∀ e ∈ Y,e.k=x.k:=fun e he=>by
  rw [hY] at he;split at he
  ·simp at he
  ·rw [List.mem_singleton.1 he]
 have hrA:Z1 A/\Z1 B/\∀ a ∈ A,∀ b ∈ B,ZQ a.k b.k=true:=by
  unfold Z1 at hr ⊢;rw [q1,List.pairwise_append,List.pairwise_append] at hr;exact ⟨hr.1,hr.2.1.2.1,fun a ha b hb=>hr.2.2 a ha b (by simp [hb])⟩
 have hset:SetC es x (A++(Y++B)):=by
  refine ⟨?_,fun key v b hk hg=>?_,fun hg=>?_,fun hg=>?_⟩
  ·unfold Z1;rw [List.pairwise_append,List.pairwise_append];refine ⟨hrA.1,⟨?_,hrA.2.1,fun a ha b hb=>by rw [hYk a ha];exact q5 b hb⟩,fun a ha b hb=>?_⟩
   ·match Y,hYl with
    | [],_=>exact List.Pairwise.nil
    | [y],_=>exact List.pairwise_singleton _ _
   ·rcases List.mem_append.1 hb with z | z
    ·rw [hYk b z];exact q3 a ha
    ·exact hrA.2.2 a ha b z
  ·rcases hg with ⟨g1,e,g2,g3,g4⟩ | ⟨g1,g2,g3⟩
   ·refine .inl ⟨g1,e,?_,g3,g4⟩;rw [q1] at g2;simp only [List.mem_append] at g2 ⊢;rcases g2 with z | z | z
    ·exact .inl z
    ·exact absurd ((q4 e z).symm.trans g3).symm hk
    ·exact .inr (.inr z)
   ·refine .inr ⟨g1,g2,fun e he=>?_⟩;simp only [List.mem_append] at he;rcases he with z | z | z
    ·exact g3 e (by rw [q1];simp [z])
    ·exact fun q=>hk (q.symm.trans (hYk e z))
    ·exact g3 e (by rw [q1];simp [z])
  ·refine .inl ⟨rfl,⟨x.k,x.v⟩,?_,rfl,rfl⟩;rw [hY,hg];simp
  ·refine .inr ⟨rfl,rfl,fun e he q=>?_⟩;rw [hY,hg] at he;simp only [List.mem_append] at he;rcases he with z | z | z
   ·have:=q3 e z;rw [q,ZM] at this;cases this
   ·simp at z
   ·have:=q5 e z;rw [q,ZM] at this;cases this
 refine ⟨A,X,Y,B,q1,hset,q2,hYl,fun e he=>?_⟩;rw [hY] at he;split at he
 ·simp at he
 ·exact ⟨List.mem_singleton.1 he,by simpa using ‹¬ x.g=true›⟩
def edE (x:Ed):Int:=if Z2 x.k≠0 then Z2 x.k else if x.g=true then 0 else valE x.v
theorem edE_ok {x:Ed} (h:edE x=0):Z2 x.k=0/\(x.g=true\/valE x.v=0):=by
 unfold edE at h;by_cases h1:Z2 x.k=0
 ·rw [if_neg (by simp [h1])] at h;by_cases h2:x.g=true
  ·exact ⟨h1,.inl h2⟩
  ·rw [if_neg h2] at h;exact ⟨h1,.inr h⟩
 ·rw [if_pos h1] at h;exact absurd h h1
theorem near_place {A X Y B:List En} (hX:X.length<=1) (hY:Y.length<=1):NearR En.k (A++(X++B)) (A++(Y++B)):=by
 cases B with
 | nil=>exact ⟨A,X,Y,[],by simp,by simp,by omega,by omega,.inl rfl⟩
 | cons b B=>exact ⟨A,X++[b],Y++[b],B,by simp,by simp,by simp;omega,by simp;omega,.inr ⟨b,b,by simp,by simp,rfl⟩⟩
theorem keyE_okT {k:ByteArray} (h:Z2 k=0):1<=k.size/\k.size<=40:=by
 unfold Z2 at h;split at h
 ·simp at h
 ·omega
theorem valE_okT {v:ByteArray} (h:valE v=0):v.size<=200:=by
 unfold valE at h;split at h
 ·simp at h
 ·omega
theorem apr_chain {es:List En} (hok:MapOk es):∀ (n:Nat) (l:List Ed),l.length=n->(∀ x ∈ l,edE x=0)->∃ fs,ApR es l fs/\ChN n es fs/\MapOk fs
 | 0,l,hl,_=>by
  have:l=[]:=List.eq_nil_of_length_eq_zero hl;subst this;exact ⟨es,ApR.nil (riseE_iff.2 hok.rise),rfl,hok⟩
 | n+1,l,hl,he=>by
  obtain ⟨l0,x,rfl⟩:∃ l0 x,l=l0++[x]:=by
   cases hq:l.getLast? with
   | none =>
    have:l=[]:=by simpa using hq
    subst this;simp at hl
   | some x =>
    obtain ⟨l0,h⟩:=List.getLast?_eq_some_iff.1 hq
    exact ⟨l0,x,h⟩
  obtain ⟨c,h1,h2,h3⟩:=apr_chain hok n l0 (by simpa using hl) (fun y hy=>he y (by simp [hy]));obtain ⟨A,X,Y,B,q1,q2,q3,q4,q5⟩:=setC_near (x:=x) h1.1;obtain ⟨k1,k2⟩:=edE_ok (he x (by simp));refine ⟨A++(Y++B),h1.snoc q2,⟨c,h2,by rw [q1];exact near_place q3 q4,by rw [q1];simp;omega⟩,⟨riseE_iff.1 q2.1,fun e hm=>?_,fun e hm=>?_⟩⟩
  ·simp only [List.mem_append] at hm;rcases hm with z | z | z
   ·exact h3.key e (by rw [q1];simp [z])
   ·rw [(q5 e z).1];exact keyE_okT k1
   ·exact h3.key e (by rw [q1];simp [z])
  ·simp only [List.mem_append] at hm;rcases hm with z | z | z
   ·exact h3.val e (by rw [q1];simp [z])
   ·rcases k2 with y | y
    ·rw [(q5 e z).2] at y;cases y
    ·rw [(q5 e z).1];exact valE_okT y
   ·exact h3.val e (by rw [q1];simp [z])
theorem ApR.chain {es fs:List En} {l:List Ed} (hok:MapOk es) (he:∀ x ∈ l,edE x=0) (h:ApR es l fs):ChN l.length es fs/\MapOk fs/\fs.length<=es.length+l.length:=by
 obtain ⟨gs,h1,h2,h3⟩:=apr_chain hok l.length l rfl he;have:=h.uniq h1;subst this;exact ⟨h2,h3,h2.len⟩
theorem split_entT {ls:List (Nat × List En)} {es:List En} (h:ls.map Prod.snd=Zd (fun e:En=>Zf 0 e.k) es):ls.flatMap (fun p=>p.2)=es:=by
 have h1:ls.flatMap (fun p=>p.2)=(ls.map Prod.snd).flatten:=by rw [List.flatMap_def]
 rw [h1,h];exact ZP
theorem rows_lenT {rows:List (List En)} (h:∀ r ∈ rows,0 < r.length):rows.length<=rows.flatten.length:=by
 induction rows with
 | nil=>simp
 | cons r rows ih =>
  have:=h r (by simp);have:=ih (fun q hq=>h q (by simp [hq]));simp only [List.length_cons,List.flatten_cons,List.length_append];omega
theorem tedit_map {w W:World} {s m:Nat} {O:Nat->Prop} {T:List (List Int)} (h:TSw w W s O T m) (hp:pgT T<=4096) (hx:TxOk T) {es:List En} {id:Nat} (hr:RootOf T es id) (hok:MapOk es) (hle:es.length<=100) (ea:Option Addr) (ec:Nat) (l:List Ed) (hl:RdG cEd 3 W ea l) (hll:l.length<=400) (hE:∀ x ∈ l,edE x=0) (hz:∀ x ∈ l,x.k.size<=maxLen/\x.v.size<=maxLen)
  (hroom:∀ fs,ApR es l fs->ChN l.length es fs->MapOk fs->fs.length<=es.length+l.length->(fs.flatMap enB).length<=40000/\pgT (treeT T fs)<=4096) :
  Calls Tryz.prog 36 #[.pointer (some ⟨s,0,none⟩),.int .u64 id,.slice ea l.length ec] W fun e W'=>∃ fs,ApR es l fs/\ChN l.length es fs/\MapOk fs/\fs.length<=es.length+l.length/\TRoot w W s O T m fs e W':=by
 have hT:T.length<=4095:=by have:=h.len;omega
 have hml:maxLen<=9223372036854775807:=by decide
 obtain ⟨ls,q1,q2,q3⟩:=hr.tree2 hok hle (by omega);have q4:ls.flatMap (fun p=>p.2)=es:=split_entT q2
 have q5:∀ p ∈ ls,0 < p.2.length:=by
  rcases q1 with ⟨_,rfl⟩ | ⟨l,nn,q1⟩
  ·intro p hp;simp at hp
  ·exact q1.leaves
 have q6:ls.length<=1000:=by
  have h3:=rows_lenT (rows:=ls.map Prod.snd) (fun r hr=>by obtain ⟨p,q,rfl⟩:=List.mem_map.1 hr;exact q5 p q);rw [q2] at h3;rw [ZP,<- q2,List.length_map] at h3;omega
 have C:=tedit_any h (by omega) hx id ls q1 q5 (by rw [q4];omega) q6 q3 (by rw [q4];exact hok.rise) ea ec l hl (by omega) (fun y hy=>by have h1:=edE_ok (hE y hy);have h2:=hz y hy;exact ⟨h1.1,h1.2,by omega,by omega⟩) (fun fs hf=>by
  rw [q4] at hf;obtain ⟨c1,c2,c3⟩:=hf.chain hok hE;obtain ⟨r1,r2⟩:=hroom fs hf c1 c2 c3;exact ⟨by omega,c2,r1,r2⟩)
 rw [q4] at C;refine C.mono ?_;rintro e W' ⟨fs,hf,ht⟩;obtain ⟨c1,c2,c3⟩:=hf.chain hok hE;exact ⟨fs,hf,c1,c2,c3,ht⟩
def edsE (l:List Ed):Int:=ZE edE l
end Go.Proofs.YtdhebpnkfookcaaGreat
