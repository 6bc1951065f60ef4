import Derived.Test.YtdhebpnkfookcaaGreatSM31
set_option maxRecDepth 100000
set_option maxHeartbeats 2000000
namespace Apo
open Go Go.RowKit
theorem bl_irr:∀ x:List UInt8,Op.bytesLess x x=false
 | []=>rfl
 | a :: x=>by simp [Op.bytesLess,bl_irr x]
theorem bl_trans:∀ x y z:List UInt8,Op.bytesLess x y=true->Op.bytesLess y z=true->Op.bytesLess x z=true
 | _,[],_,h,_=>by simp [Op.bytesLess] at h
 | _,_ :: _,[],_,h=>by simp [Op.bytesLess] at h
 | [],_ :: _,_ :: _,_,_=>by simp [Op.bytesLess]
 | a :: x,b :: y,c :: z,h,k=>by
  simp only [Op.bytesLess,Bool.or_eq_true,Bool.and_eq_true,decide_eq_true_eq,beq_iff_eq] at h k ⊢;rcases h with h | ⟨rfl,h⟩
  ·rcases k with k | ⟨rfl,k⟩
   ·exact .inl (UInt8.lt_trans h k)
   ·exact .inl h
  ·rcases k with k | ⟨rfl,k⟩
   ·exact .inl k
   ·exact .inr ⟨rfl,bl_trans x y z h k⟩
theorem bl_conn:∀ x y:List UInt8,Op.bytesLess x y=false->Op.bytesLess y x=false->x=y
 | [],[],_,_=>rfl
 | [],_ :: _,h,_=>by simp [Op.bytesLess] at h
 | _ :: _,[],_,h=>by simp [Op.bytesLess] at h
 | a :: x,b :: y,h,k=>by
  simp only [Op.bytesLess,Bool.or_eq_false_iff,decide_eq_false_iff_not,Bool.and_eq_false_iff] at h k
  have hab:a=b:=by
   have h1:=h.1;have h2:=k.1;rw [UInt8.not_lt] at h1 h2;exact UInt8.le_antisymm h2 h1
  subst hab;have h2:=h.2;have k2:=k.2;simp at h2 k2
  rw [bl_conn x y h2 k2]
theorem ZL {a b c:ByteArray} (h:ZQ a b=true) (k:ZQ b c=true):ZQ a c=true:=bl_trans _ _ _ h k
theorem ZM (a:ByteArray):ZQ a a=false:=bl_irr _
end Apo
namespace Go.Proofs.YtdhebpnkfookcaaGreat
open Go.RowKit Apo
section
theorem sLt_conn {a b:ByteArray} (h:ZQ a b=false) (k:ZQ b a=false):a=b:=bytes_of_list (bl_conn _ _ h k)
def Rise (l:List ByteArray):Prop:=l.Pairwise (fun a b=>ZQ a b=true)
theorem rise_of {l:List ByteArray} (h:∀ i,i+1 < l.length->ZQ (l.getD i ByteArray.empty) (l.getD (i+1) ByteArray.empty)=true):Rise l:=by
 induction l with
 | nil=>exact List.Pairwise.nil
 | cons x l ih =>
  have hl:Rise l:=ih (fun i hi=>by have:=h (i+1) (by simp;omega);simpa using this);refine List.Pairwise.cons (fun y hy=>?_) hl;cases l with
  | nil=>simp at hy
  | cons z l =>
   have h0:ZQ x z=true:=by have:=h 0 (by simp);simpa using this
   rcases List.mem_cons.1 hy with rfl | q
   ·exact h0
   ·exact ZL h0 (List.rel_of_pairwise_cons hl q)
theorem Rise.at {l:List ByteArray} (h:Rise l) {i:Nat} (hi:i+1 < l.length):ZQ (l.getD i ByteArray.empty) (l.getD (i+1) ByteArray.empty)=true:=by
 have:=List.pairwise_iff_getElem.1 h i (i+1) (by omega) hi (by omega);rw [List.getD_eq_getElem?_getD,List.getD_eq_getElem?_getD,List.getElem?_eq_getElem (by omega),List.getElem?_eq_getElem hi];exact this
structure MapOk (es:List En):Prop where
 rise:Rise (es.map En.k)
 key:∀ e ∈ es,1<=e.k.size/\e.k.size<=40
 val:∀ e ∈ es,e.v.size<=200
section
variable {α:Type} {p:α->Bool} {l:List α}
theorem cut_left {α:Type} (p:α->Bool) (l m:List α):∀ k,k<=l.length->ZN p (l++m) k=ZN p l k:=by
 intro k hk;induction k with
 | zero=>rfl
 | succ k ih =>
  have h1:l[k]?=some (l[k]'(by omega)):=List.getElem?_eq_getElem _
  have h2:(l++m)[k]?=some (l[k]'(by omega)):=by rw [List.getElem?_append_left (by omega)];exact h1
  rw [ZZ h1,ZZ h2,ih (by omega)]
theorem cut_flat (k:Nat) (hk:k<=l.length):(ZN p l k).1.flatten++(ZN p l k).2=l.take k:=by
 induction k with
 | zero=>simp [ZN]
 | succ k ih =>
  have h1:l[k]?=some (l[k]'(by omega)):=List.getElem?_eq_getElem _
  have h2:l.take (k+1)=l.take k++[l[k]'(by omega)]:=by rw [List.take_add_one,h1];rfl
  rw [ZZ h1,h2,<- ih (by omega)];split <;> simp
theorem ZP:(Zd p l).flatten=l:=by
 have h:=cut_flat (p:=p) (l:=l) l.length (Nat.le_refl _);rw [List.take_length] at h;rw [cut_split];by_cases q:(ZN p l l.length).2.length=0
 ·rw [if_pos q];have:(ZN p l l.length).2=[]:=List.eq_nil_of_length_eq_zero q;rw [this] at h;simpa using h
 ·rw [if_neg q];simpa using h
def RowOk (p:α->Bool) (r:List α):Prop:=r≠[]/\∀ x ∈ r.dropLast,p x=false
theorem cut_ok (k:Nat):(∀ r ∈ (ZN p l k).1,RowOk p r)/\∀ x ∈ (ZN p l k).2,p x=false:=by
 induction k with
 | zero=>exact ⟨fun r hr=>by simp [ZN] at hr,fun x hx=>by simp [ZN] at hx⟩
 | succ k ih =>
  cases h:l[k]? with
  | none=>unfold ZN;rw [h];exact ih
  | some x =>
   rw [ZZ h];split
   ·refine ⟨fun r hr=>?_,fun y hy=>by simp at hy⟩;rcases List.mem_append.1 hr with q | q
    ·exact ih.1 r q
    ·simp only [List.mem_singleton] at q;subst q;exact ⟨by simp,fun y hy=>by rw [List.dropLast_concat] at hy;exact ih.2 y hy⟩
   ·next hp =>
    refine ⟨ih.1,fun y hy=>?_⟩;rcases List.mem_append.1 hy with q | q
    ·exact ih.2 y q
    ·simp only [List.mem_singleton] at q;rw [q];simpa using hp
theorem split_ok:∀ r ∈ Zd p l,RowOk p r:=by
 intro r hr;rw [cut_split] at hr;have h:=cut_ok (p:=p) (l:=l) l.length;rcases List.mem_append.1 hr with q | q
 ·exact h.1 r q
 ·by_cases z:(ZN p l l.length).2.length=0
  ·rw [if_pos z] at q;simp at q
  ·rw [if_neg z] at q;simp only [List.mem_singleton] at q;subst q;refine ⟨fun e=>z (by rw [e];rfl),fun x hx=>h.2 x (List.dropLast_subset _ hx)⟩
theorem split_one (h:∀ x ∈ l,p x=false) (hl:l≠[]):Zd p l=[l]:=by
 have hc:∀ k,k<=l.length->ZN p l k=([],l.take k):=by
  intro k hk;induction k with
  | zero=>simp [ZN]
  | succ k ih =>
   have h1:l[k]?=some (l[k]'(by omega)):=List.getElem?_eq_getElem _
   rw [ZZ h1,ih (by omega),if_neg (by rw [h _ (List.getElem_mem _)];simp),List.take_add_one,h1];rfl
 rw [cut_split,hc _ (Nat.le_refl _)];simp only [List.take_length,List.nil_append];rw [if_neg (fun q=>hl (List.eq_nil_of_length_eq_zero q))]
end
def Can (T:List (List Int)) (es:List En):Nat->List Ki->Prop
 | 0,ks=>Kids T (lvns (Zd (fun e:En=>Zf 0 e.k) es)) ks
 | l+1,ks=>∃ ks0,Can T es l ks0/\1 < ks0.length/\Kids T (abns ((l+1:Nat):Int) (Zd (fun e:Ki=>Zf ((l+1:Nat):Int) e.k) ks0)) ks
def Sub (T T':List (List Int)):Prop:=∀ (i:Nat) (t:List Int),T[i]?=some t->T'[i]?=some t
theorem Sub.trans {A B C:List (List Int)} (h:Sub A B) (k:Sub B C):Sub A C:=fun i t q=>k i t (h i t q)
theorem Sub.put (T:List (List Int)) (ns:List Nd):Sub T (Zp T ns):=fun _ _ h=>putNs_keeps h ns
theorem Kids.sub {T T':List (List Int)} {ns:List Nd} {ks:List Ki} (h:Kids T ns ks) (s:Sub T T'):Kids T' ns ks:=⟨h.1,fun i n k hn hk=>by obtain ⟨a,b,c⟩:=h.2 i n k hn hk;exact ⟨a,s _ _ b,c⟩⟩
theorem Can.sub {T T':List (List Int)} {es:List En} (s:Sub T T'):∀ {l:Nat} {ks:List Ki},Can T es l ks->Can T' es l ks
 | 0,_,h=>Kids.sub h s
 | _+1,_,⟨ks0,h1,h2,h3⟩=>⟨ks0,Can.sub s h1,h2,h3.sub s⟩
theorem Kids.keys {T:List (List Int)} {ns:List Nd} {ks:List Ki} (h:Kids T ns ks):ks.map Ki.k=ns.map Zz:=by
 refine List.ext_getElem? (fun i=>?_);rw [List.getElem?_map,List.getElem?_map];by_cases q:i < ks.length
 ·have q2:i < ns.length:=by rw [<- h.1];exact q
  rw [List.getElem?_eq_getElem q,List.getElem?_eq_getElem q2];obtain ⟨a,_,_⟩:=h.2 i _ _ (List.getElem?_eq_getElem q2) (List.getElem?_eq_getElem q);simp [a]
 ·rw [List.getElem?_eq_none (by omega),List.getElem?_eq_none (by rw [<- h.1];omega)];rfl
theorem lastK_lf {r:List En} (h:r≠[]):∃ e,r.getLast?=some e/\Zz ⟨0,r,[]⟩=e.k:=by
 refine ⟨r.getLast h,List.getLast?_eq_some_getLast h,?_⟩;unfold Zz Nd.keys;simp [List.getLast?_map,List.getLast?_eq_some_getLast h]
theorem lastK_kd {lv:Int} {r:List Ki} (h:r≠[]):∃ e,r.getLast?=some e/\Zz ⟨lv,[],r⟩=e.k:=by
 refine ⟨r.getLast h,List.getLast?_eq_some_getLast h,?_⟩;unfold Zz Nd.keys;simp [List.getLast?_map,List.getLast?_eq_some_getLast h]
theorem sub_lf:∀ {R:List (List En)},(∀ r ∈ R,r≠[])->((lvns R).map Zz).Sublist (R.flatten.map En.k)
 | [],_=>by simp [lvns]
 | r :: R,h=>by
  obtain ⟨e,h1,h2⟩:=lastK_lf (h r (by simp));have ih:=sub_lf (R:=R) (fun x hx=>h x (by simp [hx]));have:(lvns (r :: R)).map Zz=[e.k]++(lvns R).map Zz:=by simp [lvns,h2]
  rw [this,List.flatten_cons,List.map_append];exact List.Sublist.append (List.singleton_sublist.2 (List.mem_map.2 ⟨e,List.mem_of_getLast? h1,rfl⟩)) ih
theorem sub_kd {lv:Int}:∀ {R:List (List Ki)},(∀ r ∈ R,r≠[])->((abns lv R).map Zz).Sublist (R.flatten.map Ki.k)
 | [],_=>by simp [abns]
 | r :: R,h=>by
  obtain ⟨e,h1,h2⟩:=lastK_kd (lv:=lv) (h r (by simp));have ih:=sub_kd (lv:=lv) (R:=R) (fun x hx=>h x (by simp [hx]));have:(abns lv (r :: R)).map Zz=[e.k]++(abns lv R).map Zz:=by simp [abns,h2]
  rw [this,List.flatten_cons,List.map_append];exact List.Sublist.append (List.singleton_sublist.2 (List.mem_map.2 ⟨e,List.mem_of_getLast? h1,rfl⟩)) ih
theorem Can.keys {T:List (List Int)} {es:List En}:∀ {l:Nat} {ks:List Ki},Can T es l ks->(ks.map Ki.k).Sublist (es.map En.k)
 | 0,ks,h=>by
  rw [Kids.keys h];have:=sub_lf (R:=Zd (fun e:En=>Zf 0 e.k) es) (fun r hr=>(split_ok r hr).1);rw [ZP] at this;exact this
 | l+1,ks,⟨ks0,h1,h2,h3⟩=>by
  rw [h3.keys];have:=sub_kd (lv:=((l+1:Nat):Int)) (R:=Zd (fun e:Ki=>Zf ((l+1:Nat):Int) e.k) ks0) (fun r hr=>(split_ok r hr).1);rw [ZP] at this;exact this.trans (Can.keys h1)
theorem Can.len {T:List (List Int)} {es:List En} {l:Nat} {ks:List Ki} (h:Can T es l ks):ks.length<=es.length:=by
 have:=h.keys.length_le;simpa using this
theorem Can.ids {T:List (List Int)} {es:List En}:∀ {l:Nat} {ks:List Ki},Can T es l ks->∀ k ∈ ks,1<=k.i/\k.i<=T.length
 | 0,_,h=>Kids.id_le h
 | _+1,_,⟨_,_,_,h3⟩=>h3.id_le
theorem Can.top {T:List (List Int)} {es:List En} {ks:List Ki} (h:Can T es 20 ks):ks.length<=1:=by
 obtain ⟨ks0,h1,h2,h3⟩:=h;rw [h3.1];have:Zd (fun e:Ki=>Zf ((19+1:Nat):Int) e.k) ks0=[ks0]:=split_one (fun x _=>by simp [Zf]) (by intro q;rw [q] at h2;simp at h2);rw [this];simp [abns]
end
section
theorem bad_none {lv:Int} {l:List ByteArray} (hr:Rise l) (he:∀ x ∈ l.dropLast,Zf lv x=false):∀ i,i < l.length->badAt lv l i=false:=by
 intro i hi;refine badAt_of (fun h0=>?_) (fun h1=>?_)
 ·have:=hr.at (i:=i - 1) (by omega);rw [show i - 1+1=i by omega] at this;exact this
 ·refine he _ ?_;rw [List.getD_eq_getElem?_getD,List.getElem?_eq_getElem hi];simp only [Option.getD_some];have:l.dropLast[i]?=some l[i]:=by rw [List.getElem?_dropLast,if_pos (by omega)];exact List.getElem?_eq_getElem hi
  exact List.mem_of_getElem? this
theorem nodeE_zero {n:Nd} (h1:∀ e ∈ n.es,Z2 e.k=0/\valE e.v=0) (h2:∀ k ∈ n.ks,Z2 k.k=0) (h3:(n.leaf || n.inner)=true) (h4:∀ i,i < n.keys.length->badAt n.lv n.keys i=false) (h5:∀ k ∈ n.ks,k.i≠0):nodeE n=0:=by
 have ht:textsE n=0:=by
  unfold textsE;have f1:ZE enE n.es=0:=firstE_none (fun e he=>by rw [enE_val (h1 e he).1];exact (h1 e he).2);have f2:ZE kiE n.ks=0:=firstE_none (fun k hk=>h2 k hk);rw [f1,f2];simp
 rw [nodeE_rest ht,if_neg (by rw [h3];simp),if_neg (fun ⟨i,q1,q2⟩=>by rw [h4 i q1] at q2;cases q2),if_neg (fun ⟨k,q1,q2⟩=>h5 k q1 q2)]
theorem keyE_zero {k:ByteArray} (h:1<=k.size/\k.size<=40):Z2 k=0:=by unfold Z2;rw [if_neg (by omega)]
theorem valE_zero {k:ByteArray} (h:k.size<=200):valE k=0:=by unfold valE;rw [if_neg (by omega)]
theorem enc_len1 {n:Nat} (h:n < 128):(enc n).length=1:=by rw [enc_lt h];rfl
theorem enc_len2 {n:Nat} (h:n < 16384):(enc n).length<=2:=by
 by_cases q:n < 128
 ·rw [enc_len1 q];omega
 ·rw [enc_ge (by omega) (by unfold top;omega),List.length_cons,enc_len1 (by omega)];omega
theorem enc_len3 {n:Nat} (h:n < 2097152):(enc n).length<=3:=by
 by_cases q:n < 128
 ·rw [enc_len1 q];omega
 ·rw [enc_ge (by omega) (by unfold top;omega),List.length_cons];have:=enc_len2 (n:=n / 128) (by omega);omega
theorem enB_small {e:En} (h:e.k.size<=40) (h2:e.v.size<=200):(enB e).length<=243:=by
 unfold enB;simp only [List.length_append,ZU,enc_len1 (show e.k.size < 128 by omega)];have:=enc_len2 (n:=e.v.size) (by omega);omega
theorem kiB_small {k:Ki} (h:k.k.size<=40) (h2:k.i < 2097152):(kiB k).length<=44:=by
 unfold kiB;simp only [List.length_append,ZU,enc_len1 (show k.k.size < 128 by omega)];have:=enc_len3 h2;omega
theorem inB_ndB {n:Nd} (h1:∀ e ∈ n.es,e.k.size<=40/\e.v.size<=200) (h2:∀ k ∈ n.ks,k.k.size<=40/\k.i < 18446744073709551616) (hl:0<=n.lv/\n.lv<=20) (hc:n.es.length+n.ks.length<=1000000):InB (ZW n):=by
 have ht:∀ m:Nat,m<=1000000->m < top:=fun m hm=>by unfold top;omega
 intro z hz;unfold ZW at hz;simp only [List.mem_append,List.mem_flatMap] at hz;rcases hz with ((hz | hz) | ⟨e,he,hz⟩) | ⟨k,hk,hz⟩
 ·exact enc_byte (ht _ (by omega)) z hz
 ·exact enc_byte (ht _ hc) z hz
 ·unfold enB at hz;simp only [List.mem_append] at hz;rcases hz with (hz | hz) | (hz | hz)
  ·exact enc_byte (ht _ (by have:=h1 e he;omega)) z hz
  ·exact nums_byte _ z hz
  ·exact enc_byte (ht _ (by have:=h1 e he;omega)) z hz
  ·exact nums_byte _ z hz
 ·unfold kiB at hz;simp only [List.mem_append] at hz;rcases hz with (hz | hz) | hz
  ·exact enc_byte (ht _ (by have:=h2 k hk;omega)) z hz
  ·exact nums_byte _ z hz
  ·exact enc_byte (by have:=(h2 k hk).2;unfold top;omega) z hz
theorem need_of {n:Nat} (h:n<=131072) (h1:1<=n):Zc (n:Int)=(n+123) / 124:=by
 unfold Zc;rw [if_neg (by omega),if_neg (by omega)];omega
theorem good_leaf {r:List En} (hr:Rise (r.map En.k)) (hk:∀ e ∈ r,1<=e.k.size/\e.k.size<=40) (hv:∀ e ∈ r,e.v.size<=200) (h0:RowOk (fun e:En=>Zf 0 e.k) r) (hl:r.length<=600) (hb:(r.flatMap enB).length<=40000):GoodN ⟨0,r,[]⟩/\Zc (ZW ⟨0,r,[]⟩).length<=2 * r.length:=by
 have hpos:0 < r.length:=List.length_pos_iff.2 h0.1
 have hlen:(ZW ⟨0,r,[]⟩).length<=3+243 * r.length/\(ZW ⟨0,r,[]⟩).length<=40003:=by
  unfold ZW;simp only [List.length_append,List.length_nil,List.flatMap_nil,Nat.add_zero];have:=flat_lenN (f:=enB) (c:=243) (l:=r) (fun e he=>enB_small (hk e he).2 (hv e he));have h2:=enc_len2 (n:=r.length) (by omega);rw [enc_len1 (show (0:Int).toNat < 128 by decide)];omega
 have hone:1<=(ZW ⟨0,r,[]⟩).length:=by
  unfold ZW;simp only [List.length_append];have:=enc_len ((0:Int).toNat);omega
 refine ⟨⟨nodeE_zero (fun e he=>⟨keyE_zero (hk e he),valE_zero (hv e he)⟩) (fun k hk=>by simp at hk) ?_ ?_ (fun k hk=>by simp at hk),by omega,inB_ndB (fun e he=>⟨(hk e he).2,hv e he⟩) (fun k hk=>by simp at hk) ⟨Int.le_refl 0,by show (0:Int)<=20;decide⟩ (by simp;omega)⟩,?_⟩
 ·simp [Nd.leaf];omega
 ·have:(⟨0,r,[]⟩:Nd).keys=r.map En.k:=by simp [Nd.keys]
  rw [this];refine bad_none hr (fun x hx=>?_);rw [<- List.map_dropLast] at hx;obtain ⟨e,he,rfl⟩:=List.mem_map.1 hx;exact h0.2 e he
 ·rw [need_of (by omega) hone];omega
theorem good_inner {lv:Int} {r:List Ki} (hlv:1<=lv/\lv<=20) (hr:Rise (r.map Ki.k)) (hk:∀ e ∈ r,1<=e.k.size/\e.k.size<=40) (hi:∀ e ∈ r,1<=e.i/\e.i < 2097152) (h0:RowOk (fun e:Ki=>Zf lv e.k) r) (hl:r.length<=600):GoodN ⟨lv,[],r⟩/\2 * Zc (ZW ⟨lv,[],r⟩).length<=r.length+1:=by
 have hpos:0 < r.length:=List.length_pos_iff.2 h0.1
 have hlen:(ZW ⟨lv,[],r⟩).length<=3+44 * r.length:=by
  unfold ZW;simp only [List.length_append,List.length_nil,List.flatMap_nil,Nat.zero_add];have:=flat_lenN (f:=kiB) (c:=44) (l:=r) (fun e he=>kiB_small (hk e he).2 (hi e he).2);have h2:=enc_len2 (n:=r.length) (by omega);rw [enc_len1 (show lv.toNat < 128 by omega)];omega
 have hone:1<=(ZW ⟨lv,[],r⟩).length:=by
  unfold ZW;simp only [List.length_append];have:=enc_len lv.toNat;omega
 refine ⟨⟨nodeE_zero (fun e he=>by simp at he) (fun k hk'=>keyE_zero (hk k hk')) ?_ ?_ (fun k hk'=>by have:=(hi k hk').1;omega),by omega,inB_ndB (fun e he=>by simp at he) (fun k hk'=>⟨(hk k hk').2,by have:=(hi k hk').2;omega⟩) ⟨by simp only;omega,hlv.2⟩ (by simp;omega)⟩,?_⟩
 ·simp [Nd.inner];omega
 ·have:(⟨lv,[],r⟩:Nd).keys=r.map Ki.k:=by simp [Nd.keys]
  rw [this];refine bad_none hr (fun x hx=>?_);rw [<- List.map_dropLast] at hx;obtain ⟨e,he,rfl⟩:=List.mem_map.1 hx;exact h0.2 e he
 ·rw [need_of (by omega) hone];omega
theorem row_sub {α:Type} {r:List α}:∀ {R:List (List α)},r ∈ R->r.Sublist R.flatten
 | x :: R,h=>by
  rw [List.flatten_cons];rcases List.mem_cons.1 h with rfl | q
  ·exact List.sublist_append_left _ _
  ·exact (row_sub q).trans (List.sublist_append_right _ _)
theorem pages_lv:∀ {R:List (List En)},(∀ r ∈ R,Zc (ZW ⟨0,r,[]⟩).length<=2 * r.length)->Zy (lvns R)<=2 * R.flatten.length
 | [],_=>by simp [lvns,Zy]
 | r :: R,h=>by
  have h1:=h r (by simp);have h2:=pages_lv (R:=R) (fun x hx=>h x (by simp [hx]));have:Zy (lvns (r :: R))=Zc (ZW ⟨0,r,[]⟩).length+Zy (lvns R):=by simp [lvns,Zy]
  rw [this,List.flatten_cons,List.length_append];omega
theorem pages_ab {lv:Int}:∀ {R:List (List Ki)},(∀ r ∈ R,Zc (ZW ⟨lv,[],r⟩).length<=r.length)->Zy (abns lv R)<=R.flatten.length
 | [],_=>by simp [abns,Zy]
 | r :: R,h=>by
  have h1:=h r (by simp);have h2:=pages_ab (lv:=lv) (R:=R) (fun x hx=>h x (by simp [hx]));have:Zy (abns lv (r :: R))=Zc (ZW ⟨lv,[],r⟩).length+Zy (abns lv R):=by simp [abns,Zy]
  rw [this,List.flatten_cons,List.length_append];omega
theorem flat_sub {α:Type} (f:α->List Int) {l m:List α} (h:l.Sublist m):(l.flatMap f).length<=(m.flatMap f).length:=by
 induction h with
 | slnil=>exact Nat.le_refl _
 | cons a _ ih=>rw [List.flatMap_cons,List.length_append];omega
 | cons_cons a _ ih=>rw [List.flatMap_cons,List.flatMap_cons,List.length_append,List.length_append];omega
theorem MapOk.leaves {es:List En} (h:MapOk es) (hl:es.length<=600) (hb:(es.flatMap enB).length<=40000):(∀ n ∈ lvns (Zd (fun e:En=>Zf 0 e.k) es),GoodN n)/\Zy (lvns (Zd (fun e:En=>Zf 0 e.k) es))<=2 * es.length:=by
 have hrow:∀ r ∈ Zd (fun e:En=>Zf 0 e.k) es,GoodN ⟨0,r,[]⟩/\Zc (ZW ⟨0,r,[]⟩).length<=2 * r.length:=fun r hr=>by
  have hs:r.Sublist es:=by have:=row_sub hr;rw [ZP] at this;exact this
  exact good_leaf (List.Pairwise.sublist (hs.map _) h.rise) (fun e he=>h.key e (hs.subset he)) (fun e he=>h.val e (hs.subset he)) (split_ok r hr) (Nat.le_trans hs.length_le hl) (Nat.le_trans (flat_sub enB hs) hb)
 constructor
 ·intro n hn;obtain ⟨r,hr,rfl⟩:=List.mem_map.1 hn;exact (hrow r hr).1
 ·have:=pages_lv (R:=Zd (fun e:En=>Zf 0 e.k) es) (fun r hr=>(hrow r hr).2);rw [ZP] at this;exact this
theorem Can.up {T:List (List Int)} {es:List En} {l:Nat} {ks:List Ki} (hc:Can T es l ks) (h:MapOk es) (hl:es.length<=600) (hT:T.length < 2097152) (h20:l < 20):(∀ n ∈ abns ((l+1:Nat):Int) (Zd (fun e:Ki=>Zf ((l+1:Nat):Int) e.k) ks),GoodN n)/\Zy (abns ((l+1:Nat):Int) (Zd (fun e:Ki=>Zf ((l+1:Nat):Int) e.k) ks))<=es.length/\∀ r ∈ Zd (fun e:Ki=>Zf ((l+1:Nat):Int) e.k) ks,2 * Zc (ZW ⟨((l+1:Nat):Int),[],r⟩).length<=r.length+1:=by
 have hkey:∀ k ∈ ks,1<=k.k.size/\k.k.size<=40:=fun k hk=>by
  have:=hc.keys.subset (List.mem_map.2 ⟨k,hk,rfl⟩);obtain ⟨e,he,q⟩:=List.mem_map.1 this;rw [<- q];exact h.key e he
 have hrise:Rise (ks.map Ki.k):=List.Pairwise.sublist hc.keys h.rise
 have hrow:∀ r ∈ Zd (fun e:Ki=>Zf ((l+1:Nat):Int) e.k) ks,GoodN ⟨((l+1:Nat):Int),[],r⟩/\2 * Zc (ZW ⟨((l+1:Nat):Int),[],r⟩).length<=r.length+1:=fun r hr=>by
  have hs:r.Sublist ks:=by have:=row_sub hr;rw [ZP] at this;exact this
  exact good_inner ⟨by omega,by omega⟩ (List.Pairwise.sublist (hs.map _) hrise) (fun e he=>hkey e (hs.subset he)) (fun e he=>by have:=hc.ids e (hs.subset he);omega) (split_ok r hr) (by have:=hs.length_le;have:=hc.len;omega)
 refine ⟨?_,?_,fun r hr=>(hrow r hr).2⟩
 ·intro n hn;obtain ⟨r,hr,rfl⟩:=List.mem_map.1 hn;exact (hrow r hr).1
 ·have:=pages_ab (lv:=((l+1:Nat):Int)) (R:=Zd (fun e:Ki=>Zf ((l+1:Nat):Int) e.k) ks) (fun r hr=>by have h1:=(hrow r hr).2;have h2:=List.length_pos_iff.2 (split_ok r hr).1;omega);rw [ZP] at this;have:=hc.len;omega
def topI:List Ki->Nat
 | []=>0
 | k :: _=>k.i
def RootOf (T:List (List Int)) (es:List En) (id:Nat):Prop:=∃ l ks,Can T es l ks/\l<=20/\ks.length<=1/\id=topI ks
theorem idx_at {T:List (List Int)} {t:List Int} (h:T.Nodup):∀ {i:Nat},T[i]?=some t->T.idxOf t=i:=by
 induction T with
 | nil=>intro i hi;simp at hi
 | cons y T ih =>
  intro i hi;obtain ⟨h1,h2⟩:=List.nodup_cons.1 h;cases i with
  | zero =>
   simp only [List.getElem?_cons_zero,Option.some.injEq] at hi;subst hi;simp
  | succ i =>
   simp only [List.getElem?_cons_succ] at hi;have hm:t ∈ T:=List.mem_of_getElem? hi;have hne:¬ y=t:=fun e=>h1 (by rw [e];exact hm)
   rw [List.idxOf_cons,ih h2 hi];have:(y == t)=false:=by simpa using hne
   rw [this];rfl
def kidsT (T:List (List Int)) (ns:List Nd):List Ki:=ns.map (fun n=>⟨Zz n,T.idxOf (ZW n)+1⟩)
theorem Kids.is {T:List (List Int)} {ns:List Nd} {ks:List Ki} (hT:T.Nodup) (h:Kids T ns ks):ks=kidsT T ns:=by
 refine List.ext_getElem? (fun i=>?_);unfold kidsT;rw [List.getElem?_map];by_cases q:i < ks.length
 ·have q2:i < ns.length:=by rw [<- h.1];exact q
  rw [List.getElem?_eq_getElem q,List.getElem?_eq_getElem q2];obtain ⟨a,b,c⟩:=h.2 i _ _ (List.getElem?_eq_getElem q2) (List.getElem?_eq_getElem q);have hi:=idx_at hT b;simp only [Option.map_some,Option.some.injEq];generalize ks[i]=k at a b c hi;obtain ⟨kk,ki⟩:=k;simp only at a b c hi;rw [hi,a,show ki - 1+1=ki by omega]
 ·rw [List.getElem?_eq_none (by omega),List.getElem?_eq_none (by rw [<- h.1];omega)];rfl
theorem putT_nodup {T:List (List Int)} (h:T.Nodup) (b:List Int):(Z3 T b).Nodup:=by
 unfold Z3;split
 ·exact h
 ·rename_i q
  rw [List.nodup_append];exact ⟨h,by simp,fun a ha c hc e=>by simp at hc;rw [hc] at e;exact q (by rw [<- e];exact ha)⟩
theorem putNs_nodup {T:List (List Int)} (h:T.Nodup) (ns:List Nd):(Zp T ns).Nodup:=by
 induction ns generalizing T with
 | nil=>exact h
 | cons n ns ih=>exact ih (putT_nodup h (ZW n))
theorem putT_mem {T:List (List Int)} {b t:List Int} (h:t ∈ T):t ∈ Z3 T b:=by unfold Z3;split;exact h;simp [h]
theorem putNs_mem {T:List (List Int)} {t:List Int} (h:t ∈ T) (ns:List Nd):t ∈ Zp T ns:=by
 induction ns generalizing T with
 | nil=>exact h
 | cons n ns ih=>exact ih (putT_mem h)
theorem putNs_has {T:List (List Int)} {ns:List Nd} {n:Nd} (h:n ∈ ns):ZW n ∈ Zp T ns:=by
 induction ns generalizing T with
 | nil=>simp at h
 | cons m ns ih =>
  rcases List.mem_cons.1 h with rfl | q
  ·exact putNs_mem (putT_has T (ZW n)) ns
  ·exact ih q
theorem kids_T {T:List (List Int)} {ns:List Nd} (h:∀ n ∈ ns,ZW n ∈ T):Kids T ns (kidsT T ns):=by
 refine ⟨by simp [kidsT],fun i n k hn hk=>?_⟩;unfold kidsT at hk;rw [List.getElem?_map,hn] at hk;simp only [Option.map_some,Option.some.injEq] at hk;subst hk;refine ⟨rfl,?_,by simp⟩;have hm:=h n (List.mem_of_getElem? hn);simp only [Nat.add_sub_cancel];obtain ⟨j,hj,e⟩:=List.mem_iff_getElem.1 hm;have:T.idxOf (ZW n) < T.length:=List.idxOf_lt_length_iff.2 hm;rw [List.getElem?_eq_getElem this,List.getElem_idxOf this]
def lvN0 (es:List En):List Nd:=lvns (Zd (fun e:En=>Zf 0 e.k) es)
def lvNk (l:Nat) (ks:List Ki):List Nd:=abns (l:Int) (Zd (fun e:Ki=>Zf (l:Int) e.k) ks)
def lvT (T:List (List Int)) (es:List En):Nat->List (List Int) × List Ki
 | 0=>(Zp T (lvN0 es),kidsT (Zp T (lvN0 es)) (lvN0 es))
 | l+1=>if (lvT T es l).2.length<=1 then lvT T es l else (Zp (lvT T es l).1 (lvNk (l+1) (lvT T es l).2),kidsT (Zp (lvT T es l).1 (lvNk (l+1) (lvT T es l).2)) (lvNk (l+1) (lvT T es l).2))
def treeT (T:List (List Int)) (es:List En):List (List Int):=(lvT T es 20).1
def rootT (T:List (List Int)) (es:List En):Nat:=topI (lvT T es 20).2
section
variable {T:List (List Int)} {es:List En}
theorem lvT_zero:lvT T es 0=(Zp T (lvN0 es),kidsT (Zp T (lvN0 es)) (lvN0 es)):=rfl
theorem lvT_stop {l:Nat} (h:(lvT T es l).2.length<=1):lvT T es (l+1)=lvT T es l:=by
 show (if (lvT T es l).2.length<=1 then lvT T es l else _)=_
 rw [if_pos h]
theorem lvT_go {l:Nat} (h:1 < (lvT T es l).2.length):lvT T es (l+1)=(Zp (lvT T es l).1 (lvNk (l+1) (lvT T es l).2),kidsT (Zp (lvT T es l).1 (lvNk (l+1) (lvT T es l).2)) (lvNk (l+1) (lvT T es l).2)):=by
 show (if (lvT T es l).2.length<=1 then lvT T es l else _)=_
 rw [if_neg (by omega)]
theorem lvT_rest {l:Nat} (h:(lvT T es l).2.length<=1):∀ d,lvT T es (l+d)=lvT T es l
 | 0=>rfl
 | d+1=>by
  have ih:=lvT_rest h d;rw [<- Nat.add_assoc,lvT_stop (by rw [ih];exact h),ih]
theorem lvT_end {l:Nat} (h:(lvT T es l).2.length<=1) (hl:l<=20):lvT T es 20=lvT T es l:=by
 have:=lvT_rest h (20 - l);rwa [show l+(20 - l)=20 by omega] at this
theorem lvT_nodup (h:T.Nodup):∀ l,(lvT T es l).1.Nodup
 | 0=>putNs_nodup h _
 | l+1=>by
  by_cases q:(lvT T es l).2.length<=1
  ·rw [lvT_stop q];exact lvT_nodup h l
  ·rw [lvT_go (by omega)];exact putNs_nodup (lvT_nodup h l) _
theorem lvT_can:∀ l,∃ k,k<=l/\Can (lvT T es l).1 es k (lvT T es l).2/\(k=l\/(lvT T es l).2.length<=1)
 | 0=>⟨0,Nat.le_refl _,kids_T (fun _ hn=>putNs_has hn),.inl rfl⟩
 | l+1=>by
  obtain ⟨k,hk,hc,he⟩:=lvT_can l;by_cases q:(lvT T es l).2.length<=1
  ·rw [lvT_stop q];exact ⟨k,by omega,hc,.inr q⟩
  ·have hkl:k=l:=by rcases he with he | he;exact he;exact absurd he q
   subst hkl;rw [lvT_go (by omega)];exact ⟨k+1,Nat.le_refl _,⟨_,Can.sub (Sub.put _ _) hc,by omega,kids_T (fun _ hn=>putNs_has hn)⟩,.inl rfl⟩
theorem lvT_up (l:Nat):pgT (lvT T es l).1<=pgT (lvT T es (l+1)).1:=by
 by_cases q:(lvT T es l).2.length<=1
 ·rw [lvT_stop q];exact Nat.le_refl _
 ·rw [lvT_go (by omega)];exact pgT_puts _ _
theorem lvT_mono {l:Nat}:∀ d,pgT (lvT T es l).1<=pgT (lvT T es (l+d)).1
 | 0=>Nat.le_refl _
 | d+1=>Nat.le_trans (lvT_mono d) (lvT_up _)
theorem lvT_room {l:Nat} (hl:l<=20):pgT (lvT T es l).1<=pgT (treeT T es):=by
 have:=lvT_mono (T:=T) (es:=es) (l:=l) (20 - l);rwa [show l+(20 - l)=20 by omega] at this
theorem RootOf.sub {T':List (List Int)} {id:Nat} (h:RootOf T es id) (s:Sub T T'):RootOf T' es id:=by
 obtain ⟨l,ks,h1,h2⟩:=h;exact ⟨l,ks,Can.sub s h1,h2⟩
theorem lvT_pages (hok:MapOk es) (hl:es.length<=600) (hb:(es.flatMap enB).length<=40000) (hT:T.length+21 * es.length < 2097152):∀ l,l<=20->pgT (lvT T es l).1<=pgT T+(2+l) * es.length/\(lvT T es l).1.length<=T.length+(1+l) * es.length
 | 0,_=>by
  have h1:=(hok.leaves hl hb).2
  have h2:∀ (ns:List Nd) (U:List (List Int)),pgT (Zp U ns)<=pgT U+Zy ns:=fun ns=>by
   induction ns with
   | nil=>intro U;simp [Zp,Zy]
   | cons n ns ih =>
    intro U;have a1:=ih (Z3 U (ZW n));have a2:=(pgT_put U (ZW n)).2;have a3:Zy (n :: ns)=Zc (ZW n).length+Zy ns:=by simp [Zy]
    have a4:Zp U (n :: ns)=Zp (Z3 U (ZW n)) ns:=rfl;rw [a3,a4];omega
  have h3:=h2 (lvN0 es) T;have h4:=putNs_len T (lvN0 es);have h5:(lvN0 es).length<=es.length:=by simp only [lvN0,lvns,List.length_map];exact split_len _ _
  rw [lvT_zero];unfold lvN0 at h3 h4 h5 ⊢;simp only;omega
 | l+1,h20=>by
  obtain ⟨i1,i2⟩:=lvT_pages hok hl hb hT l (by omega);have e1:(2+(l+1)) * es.length=(2+l) * es.length+es.length:=by rw [show 2+(l+1)=(2+l)+1 by omega,Nat.add_mul,Nat.one_mul]
  have e2:(1+(l+1)) * es.length=(1+l) * es.length+es.length:=by rw [show 1+(l+1)=(1+l)+1 by omega,Nat.add_mul,Nat.one_mul]
  by_cases q:(lvT T es l).2.length<=1
  ·rw [lvT_stop q];omega
  ·obtain ⟨k,hk,hc,he⟩:=lvT_can (T:=T) (es:=es) l;have hkl:k=l:=by rcases he with he | he;exact he;exact absurd he q
   subst hkl;have hm:(1+k) * es.length<=21 * es.length:=Nat.mul_le_mul_right _ (by omega);have h1:=(hc.up hok hl (by omega) (by omega)).2.1
   have h2:∀ (ns:List Nd) (U:List (List Int)),pgT (Zp U ns)<=pgT U+Zy ns:=fun ns=>by
    induction ns with
    | nil=>intro U;simp [Zp,Zy]
    | cons n ns ih =>
     intro U;have a1:=ih (Z3 U (ZW n));have a2:=(pgT_put U (ZW n)).2;have a3:Zy (n :: ns)=Zc (ZW n).length+Zy ns:=by simp [Zy]
     have a4:Zp U (n :: ns)=Zp (Z3 U (ZW n)) ns:=rfl;rw [a3,a4];omega
   have h3:=h2 (lvNk (k+1) (lvT T es k).2) (lvT T es k).1;have h4:=putNs_len (lvT T es k).1 (lvNk (k+1) (lvT T es k).2);have h5:(lvNk (k+1) (lvT T es k).2).length<=(lvT T es k).2.length:=by simp only [lvNk,abns,List.length_map];exact split_len _ _
   have h6:=hc.len;rw [lvT_go (by omega)];unfold lvNk at h3 h4 h5 ⊢;simp only;omega
theorem MapOk.bytes (h:MapOk es) (hl:es.length<=160):(es.flatMap enB).length<=40000:=by
 have:=flat_lenN (f:=enB) (c:=243) (l:=es) (fun e he=>enB_small (h.key e he).2 (h.val e he));omega
theorem tree_pages (hok:MapOk es) (hl:es.length<=600) (hb:(es.flatMap enB).length<=40000) (hT:T.length<=4096):pgT (treeT T es)<=pgT T+22 * es.length:=by
 have:=(lvT_pages (T:=T) hok hl hb (by omega) 20 (Nat.le_refl _)).1;exact this
end
end
def TRoot (w W:World) (s:Nat) (O:Nat->Prop) (T:List (List Int)) (m:Nat) (es:List En) (e:Ending) (W':World):Prop :=
 ∃ (id:Nat) (O':Nat->Prop) (T':List (List Int)),e=.returned (.tuple #[.int .u64 id,.int .i64 0])/\RootOf T' es id/\Sub T T'/\(TxOk T->TxOk T')/\(T'=treeT T es/\id=rootT T es)/\TSw w W' s O' T' m/\(∀ i,O' i->O i\/W.heap.size<=i)/\Onl O W W'
def RsP (es:List En) (w:World) (e:Ending) (w':World):Prop:=∃ b:Bool,e=.returned (.bool b)/\(b=true↔Rise (es.map En.k))/\Below w.heap.size w w'
theorem rise_getD {es:List En} {i:Nat} {e f:En} (h:Rise (es.map En.k)) (h1:es[i]?=some e) (h2:es[i+1]?=some f):ZQ e.k f.k=true:=by
 have hl:=(List.getElem?_eq_some_iff.1 h2).1;have:=h.at (i:=i) (by simpa using hl);simpa [List.getD_eq_getElem?_getD,h1,h2] using this
theorem rise_all {es:List En} (h:∀ i e f,es[i]?=some e->es[i+1]?=some f->ZQ e.k f.k=true):Rise (es.map En.k):=by
 refine rise_of (fun i hi=>?_);simp only [List.length_map] at hi;have h1:es[i]?=some (es[i]'(by omega)):=List.getElem?_eq_getElem _
 have h2:es[i+1]?=some (es[i+1]'hi):=List.getElem?_eq_getElem _
 simpa [List.getD_eq_getElem?_getD,h1,h2] using h i _ _ h1 h2
theorem trise_any (w:World) (a:Option Addr) (c:Nat) (es:List En) (h:RdEn w a es) (hl:es.length<=1000000) :
  Calls Tryz.prog 32 #[.slice a es.length c] w (RsP es w):=by
 obtain ⟨n,hn⟩:∃ n,n=es.length:=⟨_,rfl⟩;have HN:=Za hn;have HR:=Za h;rw [<- hn] at hl ⊢;clear h hn;go_enter Tryz.func32,Tryz.ntmps32
 go_wp2;go_loopw [3] (fun v wr=>∃ i:Nat,1<=i/\(i<=n\/i=1)/\v=.int .i64 i/\Hid (∀ t e f,t+1 < i->es[t]?=some e->es[t+1]?=some f->ZQ e.k f.k=true)/\Hid (Below w.heap.size w wr)) (fun v _=>n+1 - (intOf v).toNat)
 case atStart=>exact ⟨1,Nat.le_refl _,Or.inr rfl,rfl,Za (fun t e f ht=>absurd ht (by omega)),Za (Below.refl _ _)⟩
 case round =>
  obtain ⟨i,hi1,hi2,rfl,HS,HB⟩:=hrel;by_cases hin:i < n
  ·obtain ⟨i1,hi3⟩:∃ i1,i=i1+1:=⟨i - 1,by omega⟩;obtain ⟨s1,hs1⟩:∃ s,es[i1]?=some s:=⟨es[i1]'(by have:=HN.out;omega),List.getElem?_eq_getElem _⟩;obtain ⟨s2,hs2⟩:∃ s,es[i1+1]?=some s:=⟨es[i1+1]'(by have:=HN.out;omega),List.getElem?_eq_getElem _⟩;obtain ⟨g,of,rfl,q1,_⟩:=(HR.out.below HB.out) i1 s1 hs1;obtain ⟨g2,of2,hgg,q2,_⟩:=(HR.out.below HB.out) (i1+1) s2 hs2;injection hgg with hgg
   injection hgg with e1 e2 _
   subst e1 e2;have hwi:IntKind.i64.wrap ((i:Int) - 1)=(i1:Int):=by rw [IntKind.wrap_i64];omega
   have hsub:(i:Int) - 1=(i1:Int):=by omega
   have hi1n:i1 < n:=by omega
   rw [<- hi3] at q2;have HI3:=Za hi3;have HS12:=Za (And.intro hs1 hs2);clear hs1 hs2 hi3;cases hb1:ZQ s1.k s2.k
   ·have hbl:Op.bytesLess s1.k.toList s2.k.toList=false:=hb1
    have HX:Hid (¬ Rise (es.map En.k)):=Za (fun z=>by
     have q:=rise_getD z HS12.out.1 HS12.out.2;rw [hb1] at q;cases q)
    clear hb1;go_wp2;go_quiet (fail)
    go_wp2;go_ret
    exact ⟨false,rfl,⟨fun q=>(by cases q),fun q=>absurd q HX.out⟩,below_drewN HB.out _⟩
   ·have hbl:Op.bytesLess s1.k.toList s2.k.toList=true:=hb1
    have HS3:Hid (∀ t e f,t+1 < i+1->es[t]?=some e->es[t+1]?=some f->ZQ e.k f.k=true):=by
     refine Za (fun t e f ht h1 h2=>?_);by_cases z:t+1 < i
     ·exact HS.out t e f z h1 h2
     ·obtain rfl:t=i1:=by have:=HI3.out;omega
      rw [HS12.out.1] at h1;rw [HS12.out.2] at h2;cases h1
      cases h2
      exact hb1
    have hwi2:IntKind.i64.wrap ((i:Int)+1)=((i+1:Nat):Int):=by rw [IntKind.wrap_i64];omega
    clear hb1 HS;go_wp2;go_quiet (fail)
    go_wp2;go_roundw
    case rel=>exact ⟨i+1,by omega,by omega,by simp,HS3,Za (below_drewN HB.out _)⟩
    case measure=>simp [intOf];omega
  ·have HF:Hid (Rise (es.map En.k)):=Za (rise_all (fun t e f h1 h2=>HS.out t e f (by have:=(List.getElem?_eq_some_iff.1 h2).1;have:=HN.out;omega) h1 h2));clear HS;go_wp2;go_ret
   exact ⟨true,rfl,⟨fun _=>HF.out,fun _=>rfl⟩,HB.out⟩
open Classical in
noncomputable def rightE (es:List En):Int:=if ZE enE es≠0 then ZE enE es else if Rise (es.map En.k) then 0 else 90
theorem rightE_map {es:List En} (h:rightE es=0):MapOk es:=by
 unfold rightE at h;by_cases h1:ZE enE es≠0
 ·rw [if_pos h1] at h;exact absurd h h1
 ·rw [if_neg h1] at h;by_cases h2:Rise (es.map En.k)
  ·have h3:ZE enE es=0:=by simpa using h1
   have h4:∀ e ∈ es,Z2 e.k=0/\valE e.v=0:=fun e he=>by
    have:=firstE_zero h3 e he;by_cases q:Z2 e.k=0
    ·rw [enE_val q] at this;exact ⟨q,this⟩
    ·rw [enE_key q] at this;exact absurd this q
   refine ⟨h2,fun e he=>keyE_ok (h4 e he).1,fun e he=>?_⟩;have:=(h4 e he).2;unfold valE at this;split at this
   ·simp at this
   ·omega
  ·rw [if_neg h2] at h;simp at h
end Go.Proofs.YtdhebpnkfookcaaGreat
