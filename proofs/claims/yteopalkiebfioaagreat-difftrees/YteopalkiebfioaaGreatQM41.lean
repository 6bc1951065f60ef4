import Derived.Test.YteopalkiebfioaaGreatQM40
namespace Go.Proofs.YteopalkiebfioaaGreat
open Go.RowKit Apo
inductive Tre where
 | lf (r:List En)
 | nd (k:ByteArray) (ts:List Tre)
def Tre.key:Tre->ByteArray
 | .lf r=>keyRow En.k r
 | .nd k _=>k
def mkT (ts:List Tre):Tre:=.nd (keyRow Tre.key ts) ts
def ctL (es:List En):Nat->List Tre
 | 0=>(Ze (fun e:En=>Zk 0 e.k) es).map Tre.lf
 | l+1=>(Ze (fun t:Tre=>Zk ((l+1:Nat):Int) t.key) (ctL es l)).map mkT
def InT (T:List (List Int)):Nat->Tre->Ki->Prop
 | 0,.lf r,k=>k.k=ZC ⟨0,r,[]⟩/\T[k.i - 1]?=some (Z4 ⟨0,r,[]⟩)/\1<=k.i
 | l+1,.nd kk ts,k=>kk=keyRow Tre.key ts/\∃ zs:List (Tre × Ki),ts=zs.map Prod.fst/\(∀ z ∈ zs,InT T l z.1 z.2)/\k.k=ZC ⟨((l+1:Nat):Int),[],zs.map Prod.snd⟩/\T[k.i - 1]?=some (Z4 ⟨((l+1:Nat):Int),[],zs.map Prod.snd⟩)/\1<=k.i
 | _,_,_=>False
theorem InT.sub {T T':List (List Int)} (s:Sub T T'):∀ {l:Nat} {t:Tre} {k:Ki},InT T l t k->InT T' l t k
 | 0,.lf _,_,⟨h1,h2,h3⟩=>⟨h1,s _ _ h2,h3⟩
 | _+1,.nd _ _,_,⟨h0,zs,h1,h2,h3,h4,h5⟩=>⟨h0,zs,h1,fun z hz=>InT.sub s (h2 z hz),h3,s _ _ h4,h5⟩
 | 0,.nd _ _,_,h=>h.elim
 | _+1,.lf _,_,h=>h.elim
theorem at_one {T:List (List Int)} (h:T.Nodup) {i j:Nat} {t:List Int} (h1:T[i]?=some t) (h2:T[j]?=some t):i=j:=(idx_at h h1).symm.trans (idx_at h h2)
theorem ki_ext {k k':Ki} (h1:k.k=k'.k) (h2:k.i=k'.i):k=k':=by
 obtain ⟨a,b⟩:=k;obtain ⟨c,d⟩:=k';simp only at h1 h2;rw [h1,h2]
theorem pair_uniq {R:Tre->Ki->Prop} (hu:∀ t k k',R t k->R t k'->k=k'):∀ {zs ys:List (Tre × Ki)},zs.map Prod.fst=ys.map Prod.fst->(∀ z ∈ zs,R z.1 z.2)->(∀ z ∈ ys,R z.1 z.2)->zs.map Prod.snd=ys.map Prod.snd
 | [],[],_,_,_=>rfl
 | [],_ :: _,h,_,_=>by simp at h
 | _ :: _,[],h,_,_=>by simp at h
 | z :: zs,y :: ys,h,h1,h2=>by
  simp only [List.map_cons,List.cons.injEq] at h ⊢;refine ⟨hu z.1 _ _ (h1 z (by simp)) (by rw [h.1];exact h2 y (by simp)),pair_uniq hu h.2 (fun x hx=>h1 x (by simp [hx])) (fun x hx=>h2 x (by simp [hx]))⟩
theorem InT.one {T:List (List Int)} (hT:T.Nodup):∀ {l:Nat} {t:Tre} {k k':Ki},InT T l t k->InT T l t k'->k=k'
 | 0,.lf _,k,k',⟨h1,h2,h3⟩,⟨g1,g2,g3⟩=>by
  have:=at_one hT h2 g2;exact ki_ext (h1.trans g1.symm) (by omega)
 | l+1,.nd _ _,k,k',⟨_,zs,h1,h2,h3,h4,h5⟩,⟨_,ys,g1,g2,g3,g4,g5⟩=>by
  have e:=pair_uniq (R:=fun t k=>InT T l t k) (fun t a b x y=>InT.one hT x y) (h1.symm.trans g1) h2 g2
  rw [<- e] at g3 g4;have:=at_one hT h4 g4;exact ki_ext (h3.trans g3.symm) (by omega)
 | 0,.nd _ _,_,_,h,_=>h.elim
 | _+1,.lf _,_,_,h,_=>h.elim
theorem lastK_lf0 (r:List En):ZC ⟨0,r,[]⟩=keyRow En.k r:=by
 unfold ZC Nd.keys keyRow;cases h:r.getLast? with
 | none=>simp [List.getLast?_map,h]
 | some x=>simp [List.getLast?_map,h]
theorem lastK_kd0 (lv:Int) (r:List Ki):ZC ⟨lv,[],r⟩=keyRow Ki.k r:=by
 unfold ZC Nd.keys keyRow;cases h:r.getLast? with
 | none=>simp [List.getLast?_map,h]
 | some x=>simp [List.getLast?_map,h]
theorem keyRow_pair:∀ {zs:List (Tre × Ki)},(∀ z ∈ zs,z.2.k=z.1.key)->keyRow Ki.k (zs.map Prod.snd)=keyRow Tre.key (zs.map Prod.fst):=by
 intro zs h;unfold keyRow;rw [List.getLast?_map,List.getLast?_map]
 cases hq:zs.getLast? with
 | none=>rfl
 | some z=>exact h z (List.mem_of_getLast? hq)
theorem InT.keys {T:List (List Int)}:∀ {l:Nat} {t:Tre} {k:Ki},InT T l t k->k.k=t.key
 | 0,.lf _,_,⟨h1,_,_⟩=>by rw [h1,lastK_lf0];rfl
 | l+1,.nd kk ts,k,⟨h0,zs,h1,h2,h3,_,_⟩=>by
  rw [h3,lastK_kd0,keyRow_pair (fun z hz=>InT.keys (h2 z hz)),<- h1]
  exact h0.symm
 | 0,.nd _ _,_,h=>h.elim
 | _+1,.lf _,_,h=>h.elim
theorem runC_map {α β:Type} (f:α->β) (p:β->Bool):∀ (l:List α) (s:List (List α) × List α),runC p (s.1.map (List.map f),s.2.map f) (l.map f)=((runC (fun x=>p (f x)) s l).1.map (List.map f),(runC (fun x=>p (f x)) s l).2.map f)
 | [],_=>rfl
 | x :: l,s=>by
  show runC p (if p (f x)=true then (s.1.map (List.map f)++[s.2.map f++[f x]],[]) else (s.1.map (List.map f),s.2.map f++[f x])) (l.map f)=_
  have e:(if p (f x)=true then (s.1.map (List.map f)++[s.2.map f++[f x]],[]) else (s.1.map (List.map f),s.2.map f++[f x]))=((if p (f x)=true then (s.1++[s.2++[x]],[]) else (s.1,s.2++[x])).1.map (List.map f),(if p (f x)=true then (s.1++[s.2++[x]],[]) else (s.1,s.2++[x])).2.map f):=by
   split <;> simp
  rw [e];exact runC_map f p l _
theorem split_mapT {α β:Type} (f:α->β) (p:β->Bool) (l:List α):Ze p (l.map f)=(Ze (fun x=>p (f x)) l).map (List.map f):=by
 rw [split_run,split_run];have h:=runC_map f p l ([],[]);simp only [List.map_nil] at h;rw [h];unfold endC;simp only [List.length_map,List.map_append];split <;> simp
theorem runC_congr {α:Type} {p q:α->Bool}:∀ (l:List α) (s:List (List α) × List α),(∀ x ∈ l,p x=q x)->runC p s l=runC q s l
 | [],_,_=>rfl
 | x :: l,s,h=>by
  show runC p (if p x=true then (s.1++[s.2++[x]],[]) else (s.1,s.2++[x])) l=runC q (if q x=true then (s.1++[s.2++[x]],[]) else (s.1,s.2++[x])) l
  rw [h x (by simp)]
  exact runC_congr l _ (fun y hy=>h y (by simp [hy]))
theorem split_congr {α:Type} {p q:α->Bool} {l:List α} (h:∀ x ∈ l,p x=q x):Ze p l=Ze q l:=by rw [split_run,split_run,runC_congr l _ h]
def Prs (T:List (List Int)) (l:Nat) (ts:List Tre) (ks:List Ki):Prop:=∃ zs:List (Tre × Ki),ts=zs.map Prod.fst/\ks=zs.map Prod.snd/\∀ z ∈ zs,InT T l z.1 z.2
theorem Prs.len {T:List (List Int)} {l:Nat} {ts:List Tre} {ks:List Ki} (h:Prs T l ts ks):ts.length=ks.length:=by
 obtain ⟨zs,rfl,rfl,_⟩:=h;simp
theorem prs_kids {T:List (List Int)} {l:Nat} {α:Type} (R:List α) (f:α->Tre) (g:α->Nd) (ks:List Ki) (hk:Kids T (R.map g) ks) (hin:∀ x ∈ R,∀ k:Ki,k.k=ZC (g x)->T[k.i - 1]?=some (Z4 (g x))->1<=k.i->InT T l (f x) k):Prs T l (R.map f) ks:=by
 have hl:R.length=ks.length:=by have:=hk.1;simpa using this.symm
 refine ⟨(R.map f).zip ks,?_,?_,fun z hz=>?_⟩
 ·rw [List.map_fst_zip (by simp [hl])]
 ·rw [List.map_snd_zip (by simp [hl])]
 ·obtain ⟨i,hi,e⟩:=List.mem_iff_getElem.1 hz;rw [List.length_zip] at hi;have h1:i < R.length:=by simp at hi;omega
  have h2:i < ks.length:=by omega
  rw [List.getElem_zip] at e;obtain ⟨a,b,c⟩:=hk.2 i (g R[i]) ks[i] (by rw [List.getElem?_map,List.getElem?_eq_getElem h1];rfl) (List.getElem?_eq_getElem h2)
  rw [<- e];simp only [List.getElem_map];exact hin _ (List.getElem_mem h1) _ a b c
theorem can_prs {T:List (List Int)} {es:List En}:∀ {l:Nat} {ks:List Ki},Can T es l ks->Prs T l (ctL es l) ks
 | 0,ks,h=>by
  refine prs_kids (Ze (fun e:En=>Zk 0 e.k) es) Tre.lf (fun r=>⟨0,r,[]⟩) ks h (fun r _ k h1 h2 h3=>?_)
  exact ⟨h1,h2,h3⟩
 | l+1,ks,⟨ks0,h1,_,h3⟩=>by
  obtain ⟨zs,z1,z2,z3⟩:=can_prs h1;have e1:Ze (fun t:Tre=>Zk ((l+1:Nat):Int) t.key) (ctL es l)=(Ze (fun z:Tre × Ki=>Zk ((l+1:Nat):Int) z.1.key) zs).map (List.map Prod.fst):=by rw [z1,split_mapT]
  have e2:Ze (fun e:Ki=>Zk ((l+1:Nat):Int) e.k) ks0=(Ze (fun z:Tre × Ki=>Zk ((l+1:Nat):Int) z.1.key) zs).map (List.map Prod.snd):=by
   rw [z2,split_mapT];congr 1
   exact split_congr (fun z hz=>by rw [InT.keys (z3 z hz)])
  have e3:ctL es (l+1)=(Ze (fun z:Tre × Ki=>Zk ((l+1:Nat):Int) z.1.key) zs).map (fun R=>mkT (R.map Prod.fst)):=by
   show (Ze (fun t:Tre=>Zk ((l+1:Nat):Int) t.key) (ctL es l)).map mkT=_
   rw [e1,List.map_map];rfl
  rw [e3]
  have hk:Kids T ((Ze (fun z:Tre × Ki=>Zk ((l+1:Nat):Int) z.1.key) zs).map (fun R=>(⟨((l+1:Nat):Int),[],R.map Prod.snd⟩:Nd))) ks:=by
   have:=h3;rw [e2] at this;unfold abns at this;rw [List.map_map] at this;exact this
  refine prs_kids _ (fun R:List (Tre × Ki)=>mkT (R.map Prod.fst)) (fun R:List (Tre × Ki)=>(⟨((l+1:Nat):Int),[],R.map Prod.snd⟩:Nd)) ks hk (fun R hR k a1 a2 a3=>?_)
  exact ⟨rfl,R,rfl,fun z hz=>z3 z (by
   have:=Z6 (p:=fun z:Tre × Ki=>Zk ((l+1:Nat):Int) z.1.key) (l:=zs)
   rw [<- this];exact List.mem_flatten.2 ⟨R,hR,hz⟩),a1,a2,a3⟩
theorem near_lv {es fs:List En} (h:NearR En.k es fs):∀ l,NearR Tre.key (ctL es l) (ctL fs l)
 | 0=>(h.split (p:=fun e:En=>Zk 0 e.k) (fun x y e=>by rw [e])).map Tre.lf (fun _=>rfl)
 | l+1=>((near_lv h l).split (p:=fun t:Tre=>Zk ((l+1:Nat):Int) t.key) (fun x y e=>by rw [e])).map mkT (fun _=>rfl)
def ChN:Nat->List En->List En->Prop
 | 0,a,b=>a=b
 | n+1,a,b=>∃ c,ChN n a c/\NearR En.k c b/\b.length<=c.length+1
theorem ChN.len:∀ {n:Nat} {a b:List En},ChN n a b->b.length<=a.length+n
 | 0,_,_,h=>by have:_=_:=h;rw [this];omega
 | n+1,a,b,⟨c,h1,_,h3⟩=>by have:=ChN.len h1;omega
theorem ChN.count {l:Nat} (q:Tre->Bool):∀ {n:Nat} {a b:List En},ChN n a b->(ctL b l).countP q<=(ctL a l).countP q+2 * n
 | 0,_,_,h=>by have:_=_:=h;rw [this];omega
 | n+1,a,b,⟨c,h1,h2,_⟩=>by
  have i1:=ChN.count (l:=l) q h1;have i2:=(near_lv h2 l).count q;omega
theorem ChN.lv {l:Nat}:∀ {n:Nat} {a b:List En},ChN n a b->(ctL b l).length<=(ctL a l).length+2 * n
 | 0,_,_,h=>by have:_=_:=h;rw [this];omega
 | n+1,a,b,⟨c,h1,h2,_⟩=>by
  have i1:=ChN.lv (l:=l) h1;have i2:=(near_lv h2 l).len;omega
theorem can_down {T:List (List Int)} {es:List En}:∀ {l:Nat} {ks:List Ki},Can T es l ks->∀ j,j<=l->∃ ks',Can T es j ks'
 | 0,ks,h,j,hj=>by
  obtain rfl:j=0:=by omega
  exact ⟨ks,h⟩
 | l+1,ks,h,j,hj=>by
  by_cases q:j=l+1
  ·subst q;exact ⟨ks,h⟩
  ·obtain ⟨ks0,h1,_,_⟩:=h;exact can_down h1 j (by omega)
theorem ctL_less (es:List En) (l:Nat):(ctL es (l+1)).length<=(ctL es l).length:=by
 show ((Ze (fun t:Tre=>Zk ((l+1:Nat):Int) t.key) (ctL es l)).map mkT).length<=_
 rw [List.length_map];exact split_len _ _
theorem ctL_top {es:List En} {l:Nat} (h:(ctL es l).length<=1):∀ d,(ctL es (l+d)).length<=1
 | 0=>h
 | d+1=>Nat.le_trans (ctL_less es (l+d)) (ctL_top h d)
def newP (U:List (List Int)) (ns:List Nd):Nat:=(ns.map (fun n=>if Z4 n ∈ U then 0 else Zc ((Z4 n).length:Int))).sum
theorem newP_mono {U V:List (List Int)} (h:∀ t ∈ U,t ∈ V):∀ ns:List Nd,newP V ns<=newP U ns
 | []=>by simp [newP]
 | n :: ns=>by
  have ih:=newP_mono h ns;have e1:∀ W:List (List Int),newP W (n :: ns)=(if Z4 n ∈ W then 0 else Zc ((Z4 n).length:Int))+newP W ns:=fun W=>by simp [newP]
  rw [e1,e1];by_cases q:Z4 n ∈ U
  ·rw [if_pos q,if_pos (h _ q)];omega
  ·rw [if_neg q];split <;> omega
theorem pgT_newP (ns:List Nd):∀ U:List (List Int),pgT (Zp U ns)<=pgT U+newP U ns:=by
 induction ns with
 | nil=>intro U;simp [Zp,newP]
 | cons n ns ih =>
  intro U;have e1:newP U (n :: ns)=(if Z4 n ∈ U then 0 else Zc ((Z4 n).length:Int))+newP U ns:=by simp [newP]
  have e2:Zp U (n :: ns)=Zp (putT U (Z4 n)) ns:=rfl;have h1:=ih (putT U (Z4 n));have h2:=newP_mono (U:=U) (V:=putT U (Z4 n)) (fun t ht=>putT_mem ht) ns
  rw [e1,e2];by_cases q:Z4 n ∈ U
  ·have e3:putT U (Z4 n)=U:=by unfold putT;rw [if_pos q]
   rw [e3] at h1 ⊢;rw [if_pos q];omega
  ·rw [if_neg q];have:=pgT_new q;omega
theorem newP_rows {α:Type} {U:List (List Int)} (g:List α->Nd) (c:List α->Bool):∀ {Z:List (List α)},(∀ R ∈ Z,2 * Zc ((Z4 (g R)).length:Int)<=R.length+1)->(∀ R ∈ Z,c R=false->Z4 (g R) ∈ U)->2 * newP U (Z.map g)<=Z.flatten.length+Z.countP c
 | [],_,_=>by simp [newP]
 | R :: Z,h1,h2=>by
  have ih:=newP_rows (U:=U) g c (Z:=Z) (fun x hx=>h1 x (by simp [hx])) (fun x hx=>h2 x (by simp [hx]))
  have a1:=h1 R (by simp)
  have e1:newP U ((R :: Z).map g)=(if Z4 (g R) ∈ U then 0 else Zc ((Z4 (g R)).length:Int))+newP U (Z.map g):=by simp [newP]
  rw [e1,List.flatten_cons,List.length_append,List.countP_cons];cases hc:c R with
  | false =>
   rw [if_pos (h2 R (by simp) hc),if_neg (by simp)]
   omega
  | true =>
   rw [if_pos rfl];by_cases q:Z4 (g R) ∈ U
   ·rw [if_pos q];omega
   ·rw [if_neg q];omega
open Classical in
theorem near_lvs {T:List (List Int)} {es fs:List En} {n id:Nat} (hT:T.Nodup) (hroot:RootOf T es id) (hch:ChN n es fs) (hok:MapOk fs) (hl:fs.length<=600) (hb:(fs.flatMap enB).length<=40000) (hTl:T.length<=4096) :
  ∀ l,l<=20->2 * pgT (lvT T fs l).1<=2 * pgT T+4 * fs.length+l * (fs.length+2 * n+1)
 | 0,_=>by
  have h1:=(hok.leaves hl hb).2
  have h2:∀ (ns:List Nd),newP T ns<=Zw ns:=fun ns=>by
   induction ns with
   | nil=>simp [newP]
   | cons n ns ih =>
    have e1:newP T (n :: ns)=(if Z4 n ∈ T then 0 else Zc ((Z4 n).length:Int))+newP T ns:=by simp [newP]
    have e2:Zw (n :: ns)=Zc (Z4 n).length+Zw ns:=by simp [Zw]
    rw [e1,e2];split <;> omega
  have h3:=pgT_newP (lvN0 fs) T;have h4:=h2 (lvN0 fs);rw [lvT_zero];unfold lvN0 at h3 h4 ⊢;simp only;omega
 | l+1,h20=>by
  have ih:=near_lvs hT hroot hch hok hl hb hTl l (by omega)
  have e1:(l+1) * (fs.length+2 * n+1)=l * (fs.length+2 * n+1)+(fs.length+2 * n+1):=by rw [Nat.add_mul,Nat.one_mul]
  by_cases q:(lvT T fs l).2.length<=1
  ·rw [lvT_stop q];omega
  ·obtain ⟨k,hk,hc,he⟩:=lvT_can (T:=T) (es:=fs) l;have hkl:k=l:=by rcases he with he | he;exact he;exact absurd he q
   subst hkl;obtain ⟨_,hlen⟩:=lvT_pages (T:=T) hok hl hb (by omega) k (by omega)
   have hm:(1+k) * fs.length<=21 * fs.length:=Nat.mul_le_mul_right _ (by omega)
   have hrow:=(hc.up hok hl (by omega) (by omega)).2.2
   have hnd:=lvT_nodup (es:=fs) hT k;have hsub:=lvT_sub (T:=T) (es:=fs) k;have hkl2:=hc.len;rw [lvT_go (by omega)]
   simp only;obtain ⟨zs,z1,z2,z3⟩:=can_prs hc;generalize (lvT T fs k).1=U at *;generalize (lvT T fs k).2=ks at *
   have e2:Ze (fun e:Ki=>Zk ((k+1:Nat):Int) e.k) ks=(Ze (fun z:Tre × Ki=>Zk ((k+1:Nat):Int) z.1.key) zs).map (List.map Prod.snd):=by
    rw [z2,split_mapT];congr 1
    exact split_congr (fun z hz=>by rw [InT.keys (z3 z hz)])
   have e3:ctL fs (k+1)=(Ze (fun z:Tre × Ki=>Zk ((k+1:Nat):Int) z.1.key) zs).map (fun R=>mkT (R.map Prod.fst)):=by
    show (Ze (fun t:Tre=>Zk ((k+1:Nat):Int) t.key) (ctL fs k)).map mkT=_
    rw [z1,split_mapT,List.map_map];rfl
   obtain ⟨Z,hZ⟩:∃ Z,Z=Ze (fun z:Tre × Ki=>Zk ((k+1:Nat):Int) z.1.key) zs:=⟨_,rfl⟩
   have hflat:Z.flatten.length=ks.length:=by rw [hZ,Z6,z2];simp
   have hmem:∀ R ∈ Z,∀ z ∈ R,z ∈ zs:=fun R hR z hz=>by
    have:=Z6 (p:=fun z:Tre × Ki=>Zk ((k+1:Nat):Int) z.1.key) (l:=zs)
    rw [<- this];exact List.mem_flatten.2 ⟨R,by rw [<- hZ];exact hR,hz⟩
   rw [<- hZ] at e2 e3
   have hns:lvNk (k+1) ks=Z.map (fun R=>(⟨((k+1:Nat):Int),[],R.map Prod.snd⟩:Nd)):=by
    unfold lvNk abns;rw [e2,List.map_map];rfl
   rw [hns];have hp:=pgT_newP (Z.map (fun R=>(⟨((k+1:Nat):Int),[],R.map Prod.snd⟩:Nd))) U
   have hneed:∀ R ∈ Z,2 * Zc ((Z4 (⟨((k+1:Nat):Int),[],R.map Prod.snd⟩:Nd)).length:Int)<=R.length+1:=fun R hR=>by
    have:=hrow (R.map Prod.snd) (by rw [e2];exact List.mem_map.2 ⟨R,hR,rfl⟩)
    rw [List.length_map] at this;exact this
   obtain ⟨l0,ks0,c1,c2,c3,_⟩:=hroot
   have hfin:∃ c:List (Tre × Ki)->Bool,(∀ R ∈ Z,c R=false->Z4 (⟨((k+1:Nat):Int),[],R.map Prod.snd⟩:Nd) ∈ U)/\Z.countP c<=2 * n+1:=by
    by_cases hlev:k+1<=l0
    ·obtain ⟨ksE,hE⟩:=can_down c1 (k+1) hlev;obtain ⟨ys,y1,y2,y3⟩:=can_prs hE;refine ⟨fun R=>decide (mkT (R.map Prod.fst) ∉ ctL es (k+1)),fun R hR hc2=>?_,?_⟩
     ·have hin:mkT (R.map Prod.fst) ∈ ctL es (k+1):=by simpa using hc2
      rw [y1] at hin;obtain ⟨y,hy,hye⟩:=List.mem_map.1 hin;have hI:=y3 y hy;rw [hye] at hI;obtain ⟨_,ws,w1,w2,_,w4,_⟩:=hI;have e:=pair_uniq (R:=fun t k2=>InT U k t k2) (fun t a b x y=>InT.one hnd x y) w1 (fun z hz=>z3 z (hmem R hR z hz)) (fun z hz=>InT.sub hsub (w2 z hz))
      rw [e];exact List.mem_of_getElem? (hsub _ _ w4)
     ·have h1:=hch.count (l:=k+1) (fun t=>decide (t ∉ ctL es (k+1)))
      have h2:(ctL es (k+1)).countP (fun t=>decide (t ∉ ctL es (k+1)))=0:=by
       rw [List.countP_eq_zero];intro t ht;simp [ht]
      have h3:Z.countP (fun R=>decide (mkT (R.map Prod.fst) ∉ ctL es (k+1)))=(ctL fs (k+1)).countP (fun t=>decide (t ∉ ctL es (k+1))):=by
       rw [e3,List.countP_map];rfl
      omega
    ·refine ⟨fun _=>true,(fun R _ h=>absurd h (by simp)),?_⟩
     have h1:=hch.lv (l:=k+1)
     have h2:(ctL es l0).length<=1:=by
      have:=(can_prs c1).len;omega
     have h3:=ctL_top h2 (k+1 - l0);rw [show l0+(k+1 - l0)=k+1 by omega] at h3
     have h4:Z.length=(ctL fs (k+1)).length:=by rw [e3,List.length_map]
     have h5:=List.countP_le_length (p:=fun _:List (Tre × Ki)=>true) (l:=Z)
     omega
   obtain ⟨c,hc1,hc2⟩:=hfin;have hfl:=newP_rows (U:=U) (fun R:List (Tre × Ki)=>(⟨((k+1:Nat):Int),[],R.map Prod.snd⟩:Nd)) c hneed hc1
   omega
theorem near_pages {T:List (List Int)} {es fs:List En} {n id:Nat} (hT:T.Nodup) (hroot:RootOf T es id) (hch:ChN n es fs) (hok:MapOk fs) (hl:fs.length<=600) (hb:(fs.flatMap enB).length<=40000) (hTl:T.length<=4096):pgT (treeT T fs)<=pgT T+2 * fs.length+10 * (fs.length+2 * n+1):=by
 have:=near_lvs hT hroot hch hok hl hb hTl 20 (Nat.le_refl _);unfold treeT;omega
def leK (a b:ByteArray):Prop:=ZR b a=false
theorem leK_refl (a:ByteArray):leK a a:=Zr a
theorem leK_of {a b:ByteArray} (h:ZR a b=true):leK a b:=by
 unfold leK;cases q:ZR b a with
 | false=>rfl
 | true=>have:=ZQ h q;rw [Zr] at this;cases this
theorem leK_trans {a b c:ByteArray} (h:leK a b) (k:leK b c):leK a c:=by
 unfold leK at h k ⊢;cases q:ZR c a with
 | false=>rfl
 | true =>
  cases z:ZR a b with
  | true=>have:=ZQ q z;rw [k] at this;cases this
  | false=>rw [sLt_conn h z] at k;rw [k] at q;cases q
theorem lt_leK {a b c:ByteArray} (h:ZR a b=true) (k:leK b c):ZR a c=true:=by
 cases q:ZR a c with
 | true=>rfl
 | false =>
  have:=leK_trans k (show leK c a from q)
  unfold leK at this;rw [h] at this;cases this
theorem leK_lt {a b c:ByteArray} (h:leK a b) (k:ZR b c=true):ZR a c=true:=by
 cases q:ZR a c with
 | true=>rfl
 | false =>
  have:=leK_trans (show leK c a from q) h
  unfold leK at this;rw [k] at this;cases this
def ZL (d:List Ed) (i:Nat):ByteArray:=((d[i]?).map Ed.k).getD ByteArray.empty
theorem ZW {d:List Ed} {i:Nat} {x:Ed} (h:d[i]?=some x):ZL d i=x.k:=by unfold ZL;rw [h];rfl
def SrtIn (d:List Ed) (a b:Nat):Prop:=∀ i j,a<=i->i < j->j < b->leK (ZL d i) (ZL d j)
theorem SrtIn.sub {d:List Ed} {a b a' b':Nat} (h:SrtIn d a b) (h1:a<=a') (h2:b'<=b):SrtIn d a' b':=fun i j q1 q2 q3=>h i j (by omega) q2 (by omega)
theorem SrtIn.le {d:List Ed} {a b:Nat} (h:SrtIn d a b) {i j:Nat} (h1:a<=i) (h2:i<=j) (h3:j < b):leK (ZL d i) (ZL d j):=by
 by_cases q:i=j
 ·rw [q];exact leK_refl _
 ·exact h i j h1 (by omega) h3
def Out (d d':List Ed) (a b:Nat):Prop:=∀ i,(i < a\/b<=i)->d'[i]?=d[i]?
theorem Out.refl (d:List Ed) (a b:Nat):Out d d a b:=fun _ _=>rfl
theorem Out.trans {d d' d'':List Ed} {a b a1 b1 a2 b2:Nat} (h:Out d d' a1 b1) (k:Out d' d'' a2 b2) (h1:a<=a1) (h2:b1<=b) (h3:a<=a2) (h4:b2<=b):Out d d'' a b:=fun i hi=>(k i (by omega)).trans (h i (by omega))
theorem Out.key {d d':List Ed} {a b:Nat} (h:Out d d' a b) {i:Nat} (hi:i < a\/b<=i):ZL d' i=ZL d i:=by unfold ZL;rw [h i hi]
theorem Out.srt {d d':List Ed} {a b x y:Nat} (h:Out d d' a b) (hs:SrtIn d x y) (hd:y<=a\/b<=x):SrtIn d' x y:=fun i j h1 h2 h3=>by
 rw [h.key (by omega),h.key (by omega)]
 exact hs i j h1 h2 h3
open Classical in
noncomputable def ofKey (d:List Ed) (k:ByteArray):List Ed:=d.filter (fun e=>decide (e.k=k))
def Stb (d d':List Ed):Prop:=d'.length=d.length/\∀ k,ofKey d' k=ofKey d k
theorem Stb.refl (d:List Ed):Stb d d:=⟨rfl,fun _=>rfl⟩
theorem Stb.trans {a b c:List Ed} (h:Stb a b) (k:Stb b c):Stb a c:=⟨k.1.trans h.1,fun q=>(k.2 q).trans (h.2 q)⟩
theorem ofK_app (a b:List Ed) (k:ByteArray):ofKey (a++b) k=ofKey a k++ofKey b k:=by simp [ofKey]
theorem Stb.swap {p a b s:List Ed} (h:∀ x ∈ a,∀ y ∈ b,x.k≠y.k):Stb (p++(a++(b++s))) (p++(b++(a++s))):=by
 refine ⟨by simp;omega,fun k=>?_⟩
 simp only [ofK_app];by_cases q:∃ x ∈ a,x.k=k
 ·obtain ⟨x,hx,hk⟩:=q
  have:ofKey b k=[]:=by
   unfold ofKey;rw [List.filter_eq_nil_iff];intro y hy z;rw [decide_eq_true_eq] at z;exact h x hx y hy (hk.trans z.symm)
  rw [this];simp
 ·have:ofKey a k=[]:=by
   unfold ofKey;rw [List.filter_eq_nil_iff];intro y hy z;rw [decide_eq_true_eq] at z;exact q ⟨y,hy,z⟩
  rw [this];simp
def swL (d:List Ed) (i j:Nat):List Ed:=match d[i]?,d[j]? with
 | some x,some y=>(d.set i y).set j x
 | _,_=>d
theorem swL_len (d:List Ed) (i j:Nat):(swL d i j).length=d.length:=by
 unfold swL;split <;> simp
theorem swL_get {d:List Ed} {i j:Nat} (hi:i < d.length) (hj:j < d.length) (t:Nat):(swL d i j)[t]?=if t=j then d[i]? else if t=i then d[j]? else d[t]?:=by
 have e1:d[i]?=some d[i]:=List.getElem?_eq_getElem hi
 have e2:d[j]?=some d[j]:=List.getElem?_eq_getElem hj
 unfold swL;rw [e1,e2];simp only;rw [List.getElem?_set]
 by_cases h1:t=j
 ·subst h1;simp [hj]
 ·rw [if_neg h1,if_neg (Ne.symm h1),List.getElem?_set]
  by_cases h2:t=i
  ·subst h2;simp [hi]
  ·rw [if_neg h2,if_neg (Ne.symm h2)]
theorem swL_key {d:List Ed} {i j:Nat} (hi:i < d.length) (hj:j < d.length) (t:Nat):ZL (swL d i j) t=if t=j then ZL d i else if t=i then ZL d j else ZL d t:=by
 unfold ZL;rw [swL_get hi hj];split
 ·rfl
 ·split <;> rfl
theorem swL_comm {d:List Ed} {i j:Nat} (hi:i < d.length) (hj:j < d.length):swL d i j=swL d j i:=by
 refine List.ext_getElem? (fun t=>?_)
 rw [swL_get hi hj,swL_get hj hi];by_cases h1:t=j
 ·by_cases h2:t=i
  ·subst h1;subst h2;rfl
  ·simp [h1,show ¬ j=i by omega]
 ·simp [h1]
theorem swL_out {d:List Ed} {i j a b:Nat} (hi:i < d.length) (hj:j < d.length) (h1:a<=i) (h2:a<=j) (h3:i < b) (h4:j < b):Out d (swL d i j) a b:=fun t ht=>by
 rw [swL_get hi hj,if_neg (by omega),if_neg (by omega)]
theorem swL_stb {d:List Ed} {i:Nat} (hi:i+1 < d.length) (hk:ZL d i≠ZL d (i+1)):Stb d (swL d i (i+1)):=by
 have e1:d[i]?=some (d[i]'(by omega)):=List.getElem?_eq_getElem _
 have e2:d[i+1]?=some d[i+1]:=List.getElem?_eq_getElem hi
 have hd:d=d.take i++([d[i]'(by omega)]++([d[i+1]]++d.drop (i+2))):=by
  conv=>lhs;rw [<- List.take_append_drop i d]
  rw [List.drop_eq_getElem_cons (by omega),List.drop_eq_getElem_cons (by omega)]
  simp
 have hs:swL d i (i+1)=d.take i++([d[i+1]]++([d[i]'(by omega)]++d.drop (i+2))):=by
  refine List.ext_getElem? (fun t=>?_)
  rw [swL_get (by omega) hi]
  by_cases h0:t < i
  ·rw [if_neg (by omega),if_neg (by omega),List.getElem?_append_left (by simp;omega),List.getElem?_take,if_pos h0]
  ·rw [List.getElem?_append_right (by simp;omega),List.length_take,Nat.min_eq_left (by omega)]
   by_cases h1:t=i
   ·subst h1;rw [if_neg (by omega),if_pos rfl];simp [e2]
   ·by_cases h2:t=i+1
    ·subst h2;rw [if_pos rfl,e1];simp
    ·rw [if_neg h2,if_neg h1];obtain ⟨u,rfl⟩:∃ u,t=i+2+u:=⟨t - (i+2),by omega⟩
     rw [show i+2+u - i=u+2 by omega]
     simp
 rw [hs];conv=>arg 1;rw [hd]
 refine Stb.swap (fun x hx y hy q=>hk ?_)
 rw [List.mem_singleton] at hx hy;rw [ZW e1,ZW e2,<- hx,<- hy];exact q
def Frm (d d':List Ed) (a b:Nat):Prop:=∀ i,a<=i->i < b->∃ j,a<=j/\j < b/\ZL d' i=ZL d j
theorem Frm.refl (d:List Ed) (a b:Nat):Frm d d a b:=fun i h1 h2=>⟨i,h1,h2,rfl⟩
theorem Frm.trans {d d' d'':List Ed} {a b:Nat} (h:Frm d d' a b) (k:Frm d' d'' a b):Frm d d'' a b:=fun i h1 h2=>by
 obtain ⟨j,q1,q2,q3⟩:=k i h1 h2;obtain ⟨t,z1,z2,z3⟩:=h j q1 q2;exact ⟨t,z1,z2,q3.trans z3⟩
theorem Frm.wide {d d':List Ed} {a b a' b':Nat} (h:Frm d d' a b) (o:Out d d' a b) (h1:a'<=a) (h2:b<=b'):Frm d d' a' b':=fun i q1 q2=>by
 by_cases z:a<=i/\i < b
 ·obtain ⟨j,y1,y2,y3⟩:=h i z.1 z.2;exact ⟨j,by omega,by omega,y3⟩
 ·exact ⟨i,q1,q2,o.key (by omega)⟩
theorem swL_frm {d:List Ed} {i j a b:Nat} (hi:i < d.length) (hj:j < d.length) (h1:a<=i) (h2:a<=j) (h3:i < b) (h4:j < b):Frm d (swL d i j) a b:=fun t q1 q2=>by
 rw [swL_key hi hj];split
 ·exact ⟨i,h1,h3,rfl⟩
 ·split
  ·exact ⟨j,h2,h4,rfl⟩
  ·exact ⟨t,q1,q2,rfl⟩
theorem neK_lt {a b:ByteArray} (h:ZR a b=true):a≠b:=fun q=>by rw [q,Zr] at h;cases h
section
attribute [local go_sem ↓] app_exec
def EnP (R:List En->Prop) (w:World) (e:Ending) (w':World):Prop:=∃ (es:List En) (va:Option Addr) (vc:Nat),e=.returned (.slice va es.length vc)/\R es/\Row (fun g=>w.heap.size<=g) w' 47 2 (.slice va es.length vc) es.length (Zg cEn es)/\Below w.heap.size w w'
end
end Go.Proofs.YteopalkiebfioaaGreat
