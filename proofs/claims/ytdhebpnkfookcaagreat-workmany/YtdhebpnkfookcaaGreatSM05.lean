import Derived.Deep.DeepCutAuto
import Derived.Test.YtdhebpnkfookcaaGreatSM04
namespace Apo
section
open Go Go.RowKit Go.PlainAid
def Zc (size:Int):Nat:=if size < 0\/131072 < size then 0 else if size=0 then 1 else ((size+123) / 124).toNat
def ZJ (b:List Int):List Int:=b++List.replicate (124 - b.length) 0
def sum4 (t:List Int):List Int:=be 4 (folded (more fnvStart (strOfNums t))).toNat
def Z4 (b:List Int):List Int:=sum4 (ZJ b)++ZJ b
def sAt (start:Int) (i k:Nat):Int:=IntKind.i64.wrap ((start+i) * 4+k)
def cutS (p:List Int) (k:Nat):List Int:=(p.drop (32 * k)).take 32
def ZB (b:List Int) (i:Nat):List Int:=(b.drop (124 * i)).take 124
def wrPage (st:Sd) (start:Int) (i:Nat) (p:List Int):Nat->Int × Sd
 | 0=>(0,st)
 | k+1=>if (wrPage st start i p k).1=0 then (wrPage st start i p k).2.wrote (sAt start i k) (cutS p k) else wrPage st start i p k
def wrTo (st:Sd) (start:Int) (b:List Int):Nat->Int × Sd
 | 0=>(0,st)
 | i+1=>if (wrTo st start b i).1=0 then wrPage (wrTo st start b i).2 start i (Z4 (ZB b i)) 4 else wrTo st start b i
def Sd.wrText (st:Sd) (start:Int) (b:List Int):Int × Sd:=if Zc b.length=0 then (2,st) else wrTo st start b (Zc b.length)
def ZV (st:Sd) (start:Int) (i:Nat):Nat->List Int × Int
 | 0=>([],0)
 | k+1=>if (ZV st start i k).2=0 then (if (st.told (sAt start i k)).2=0 then ((ZV st start i k).1++(st.told (sAt start i k)).1,0) else ([],(st.told (sAt start i k)).2)) else ZV st start i k
def rdTo (st:Sd) (start:Int):Nat->List Int × Int
 | 0=>([],0)
 | i+1=>if (rdTo st start i).2=0 then (if (ZV st start i 4).2=0 then (if Z4 ((ZV st start i 4).1.drop 4)=(ZV st start i 4).1 then ((rdTo st start i).1++(ZV st start i 4).1.drop 4,0) else ([],60)) else ([],(ZV st start i 4).2)) else rdTo st start i
theorem needP_le (size:Int):Zc size<=1058:=by
 unfold Zc;split
 ·omega
 ·split
  ·omega
  ·omega
theorem needP_room {size:Int} (h:Zc size≠0):0<=size/\size<=131072/\size<=Zc size * 124/\1<=Zc size:=by
 unfold Zc at h ⊢;split at h
 ·omega
 ·next h1 =>
  rw [if_neg h1];split
  ·omega
  ·omega
theorem padded_len {b:List Int} (h:b.length<=124):(ZJ b).length=124:=by simp [ZJ];omega
theorem sum4_len (t:List Int):(sum4 t).length=4:=be_len _ _
theorem pageB_len {b:List Int} (h:b.length<=124):(Z4 b).length=128:=by unfold Z4;rw [List.length_append,sum4_len,padded_len h]
theorem padded_byt {b:List Int} (h:∀ z ∈ b,0<=z/\z<=255):∀ z ∈ ZJ b,0<=z/\z<=255:=by
 intro z hz;rcases List.mem_append.1 hz with hz | hz
 ·exact h z hz
 ·rw [List.eq_of_mem_replicate hz];omega
theorem pageB_byt {b:List Int} (h:∀ z ∈ b,0<=z/\z<=255):∀ z ∈ Z4 b,0<=z/\z<=255:=by
 intro z hz;rcases List.mem_append.1 hz with hz | hz
 ·exact be_byt _ _ z hz
 ·exact padded_byt h z hz
theorem chunkB_len (b:List Int) (i:Nat):(ZB b i).length<=124:=by simp [ZB];omega
theorem chunkB_byt {b:List Int} (h:∀ z ∈ b,0<=z/\z<=255) (i:Nat):∀ z ∈ ZB b i,0<=z/\z<=255:=fun z hz=>h z (List.mem_of_mem_drop (List.mem_of_mem_take hz))
theorem cutS_byt {p:List Int} (h:∀ z ∈ p,0<=z/\z<=255) (k:Nat):∀ z ∈ cutS p k,0<=z/\z<=255:=fun z hz=>h z (List.mem_of_mem_drop (List.mem_of_mem_take hz))
theorem cutS_len {p:List Int} (h:p.length=128) {k:Nat} (hk:k < 4):(cutS p k).length=32:=by simp [cutS];omega
theorem OkS.wrPage {st:Sd} (h:OkS st) (start:Int) (i:Nat) {p:List Int} (hp:∀ z ∈ p,0<=z/\z<=255):∀ k,OkS (Apo.wrPage st start i p k).2
 | 0=>h
 | k+1=>by
  have ih:=h.wrPage start i hp k;simp only [Apo.wrPage];split
  ·exact ih.wrote _ (cutS_byt hp k)
  ·exact ih
theorem wrote_C (st:Sd) (a:Int) (b:List Int):(st.wrote a b).2.C.length<=st.C.length+1:=by
 unfold Sd.wrote;split
 ·simp
 ·split
  ·split
   ·simp
   ·rw [acted_C];omega
  ·simp
theorem told_len {st:Sd} (ok:OkS st) {a:Int} (h:(st.told a).2=0):(st.told a).1.length=32:=by
 unfold Sd.told at h ⊢;split at h
 ·cases h
 ·next hd =>
  rw [if_neg hd];split at h
  ·next hh =>
   rw [if_pos hh];split at h
   ·cases h
   ·next hb =>
    rw [if_neg hb];have h2:=has_iff.1 hh;have hi:a.toNat < st.S.length:=by omega
    have hg:st.S.getD a.toNat []=st.S[a.toNat]:=by simp [List.getD,hi]
    rw [hg]
    have:∀ (c:List (Nat × List Int)) (b:List Int),b.length=32->(∀ x ∈ c,x.2.length=32)->(lastOf c a.toNat b).length=32:=by
     intro c;induction c with
     | nil=>intro b hb _;exact hb
     | cons x c ih =>
      intro b hb hc;simp only [lastOf,List.foldl_cons] at ih ⊢;refine ih _ ?_ (fun y hy=>hc y (by simp [hy]));split
      ·exact hc x (by simp)
      ·exact hb
    exact this _ _ (ok.secs _ (List.getElem_mem hi)).1 (fun x hx=>(ok.cach x hx).2.1)
  ·cases h
theorem rdPage_len {st:Sd} (ok:OkS st) (start:Int) (i:Nat):∀ k,(ZV st start i k).2=0->(ZV st start i k).1.length=32 * k
 | 0=>by simp [ZV]
 | k+1=>by
  have ih:=rdPage_len ok start i k;simp only [ZV];split
  ·next h0 =>
   split
   ·next h1 =>
    intro _;rw [List.length_append,ih h0,told_len ok h1];omega
   ·next h1=>intro h;exact absurd h h1
  ·next h0=>intro h;exact absurd h h0
theorem rdTo_len {st:Sd} (ok:OkS st) (start:Int):∀ i,(rdTo st start i).2=0->(rdTo st start i).1.length=124 * i
 | 0=>by simp [rdTo]
 | i+1=>by
  have ih:=rdTo_len ok start i;simp only [rdTo];split
  ·next h0 =>
   split
   ·next h1 =>
    split
    ·intro _;rw [List.length_append,ih h0,List.length_drop,rdPage_len ok start i 4 h1];omega
    ·intro h;simp at h
   ·next h1=>intro h;exact absurd h h1
  ·next h0=>intro h;exact absurd h h0
def Sd.format (st:Sd):Int × Sd :=
 if st.S.length < 8 then (70,st) else if (st.wrote 0 zeros).1=0 then (if ((st.wrote 0 zeros).2.wrote 1 zeros).1=0 then ((st.wrote 0 zeros).2.wrote 1 zeros).2.save ⟨1,0,0,0⟩ else (st.wrote 0 zeros).2.wrote 1 zeros) else st.wrote 0 zeros
def Zu (st:Sd):Fr:=newFr 1 ((st.S.length / 4:Nat):Int)
end
section
open Go Go.RowKit
theorem put_none:∀ {C:List (Nat × List Int)} {S:List (List Int)} {i:Nat},(∀ x ∈ C,x.1≠i)->(Zt C S)[i]?=S[i]?
 | [],_,_,_=>rfl
 | x :: C,S,i,h=>by
  have:=put_none (C:=C) (S:=S.set x.1 x.2) (i:=i) (fun y hy=>h y (by simp [hy]));simp only [Zt,List.foldl_cons] at this ⊢;rw [this,List.getElem?_set_ne (h x (by simp))]
/-! a device at rest -/
def plainS (S:List (List Int)):Sd:=⟨S,[],List.replicate S.length false,-1,false⟩
def Rest (st:Sd):Prop:=st.dead=false/\st.C=[]/\∀ j,st.bad.getD j false=false
theorem rest_told {st:Sd} (h:Rest st) {i:Nat} (hi:i < st.S.length):st.told (i:Int)=(st.S[i],0):=by
 have hh:st.has (i:Int)=true:=has_iff.2 ⟨by omega,by omega⟩;unfold Sd.told;rw [h.1,hh,h.2.1];simp only [Int.toNat_natCast];rw [h.2.2 i];simp [lastOf,List.getD,hi]
theorem rest_plain (S:List (List Int)):Rest (plainS S):=⟨rfl,rfl,fun j=>by
 simp only [plainS,List.getD_eq_getElem?_getD];by_cases h:j < S.length
 ·rw [List.getElem?_replicate_of_lt h];rfl
 ·rw [List.getElem?_eq_none (by simpa using h)];rfl⟩
theorem rdPage_congr {st st':Sd} {start:Int} {i:Nat}:∀ n,(∀ k,k < n->st.told (sAt start i k)=st'.told (sAt start i k))->ZV st start i n=ZV st' start i n
 | 0,_=>rfl
 | k+1,h=>by
  have ih:=rdPage_congr (st:=st) (st':=st') (start:=start) (i:=i) k (fun j hj=>h j (by omega));simp only [ZV,ih,h k (by omega)]
theorem rdTo_congr {st st':Sd} {start:Int}:∀ n,(∀ i k,i < n->k < 4->st.told (sAt start i k)=st'.told (sAt start i k))->rdTo st start n=rdTo st' start n
 | 0,_=>rfl
 | i+1,h=>by
  have ih:=rdTo_congr (st:=st) (st':=st') (start:=start) i (fun j k hj hk=>h j k (by omega) hk);have ip:=rdPage_congr (st:=st) (st':=st') (start:=start) (i:=i) 4 (fun k hk=>h i k (by omega) hk);simp only [rdTo,ih,ip]
theorem sAt_nat {a i k:Nat} (h:(a+i) * 4+k<=9223372036854775807):sAt a i k=(((a+i) * 4+k:Nat):Int):=by
 unfold sAt;rw [IntKind.wrap_i64];omega
def Rt (S:List (List Int)) (s:Sup):Prop:=(s.st=0/\s.pg=0/\s.sz=0)\/(s.sz<=131072/\s.pg=Zc s.sz/\1<=s.st/\s.st+s.pg<=S.length / 4/\(rdTo (plainS S) s.st s.pg).2=0)
def Safe (s:Sup) (x:Nat):Prop:=4<=x/\(s.st * 4<=x->(s.st+s.pg) * 4<=x)
theorem rdTo_kept {S S':List (List Int)} {a n:Nat} (hl:S'.length=S.length) (hs:S.length<=65536) (hb:a+n<=S.length / 4) (h:∀ x,a * 4<=x->x < (a+n) * 4->S'[x]?=S[x]?):rdTo (plainS S') a n=rdTo (plainS S) a n:=by
 refine rdTo_congr n (fun i k hi hk=>?_);have hx:(a+i) * 4+k < S.length:=by omega
 rw [sAt_nat (by omega),rest_told (rest_plain S') (by show _ < S'.length;omega),rest_told (rest_plain S) hx];have:=h ((a+i) * 4+k) (by omega) (by omega);rw [List.getElem?_eq_getElem (by omega),List.getElem?_eq_getElem hx] at this;simp only [plainS];rw [Option.some.inj this]
theorem Rt.kept {S S':List (List Int)} {s:Sup} (h:Rt S s) (hl:S'.length=S.length) (hs:S.length<=65536) (hk:∀ x,4<=x->¬ Safe s x->S'[x]?=S[x]?):Rt S' s:=by
 rcases h with h | ⟨h1,h2,h3,h4,h5⟩
 ·exact .inl h
 ·refine .inr ⟨h1,h2,h3,by rw [hl];exact h4,?_⟩;rw [rdTo_kept hl hs h4 (fun x q1 q2=>hk x (by omega) (fun q=>by have:=q.2 q1;omega))];exact h5
theorem sup_tail {m:List Int} (hb:∀ z ∈ m,0<=z/\z<=255) (h:ZX m=true):(ZA m).e=numN (m.drop 24):=by
 obtain ⟨e1,_⟩:=isSup_bytes h;have d:=drop24 (ZA m);rw [e1] at d;rw [d,num_be (supOf_ok hb).e]
structure Du (st:Sd) (s:Sup):Prop where
 ok:OkS st
 size:8<=st.S.length
 bad:∀ j,st.bad.getD j false=false
 sok:s.Ok
 e1:1<=s.e
 e2:s.e<=255
 cur:st.S[s.e % 2]?=some (Zh s)
 oth:∃ o,st.S[(s.e+1) % 2]?=some o/\numN (o.drop 24) < s.e
 root:Rt st.S s
 safe:∀ x ∈ st.C,Safe s x.1
theorem slot_unsafe (s:Sup) (n:Nat):¬ Safe s (n % 2):=fun h=>by have:=h.1;omega
theorem Du.kept {st st':Sd} {s:Sup} (h:Du st s) (ok:OkS st') (hb:st'.bad=st.bad) (hl:st'.S.length=st.S.length) (hS:∀ x,¬ Safe s x->st'.S[x]?=st.S[x]?) (hC:∀ x ∈ st'.C,Safe s x.1):Du st' s:=by
 obtain ⟨o,ho,hn⟩:=h.oth;exact ⟨ok,by rw [hl];exact h.size,by rw [hb];exact h.bad,h.sok,h.e1,h.e2,by rw [hS _ (slot_unsafe s _)];exact h.cur,⟨o,by rw [hS _ (slot_unsafe s _)];exact ho,hn⟩,h.root.kept hl h.ok.size (fun x _=>hS x),hC⟩
theorem Du.wrote {st:Sd} {s:Sup} (h:Du st s) {a:Int} {b:List Int} (hb:∀ z ∈ b,0<=z/\z<=255) (ha:Safe s a.toNat):Du (st.wrote a b).2 s:=by
 have ok:=h.ok.wrote a hb;unfold Sd.wrote at ok ⊢;split at ok <;> rename_i q
 ·rw [if_pos q];exact h
 ·rw [if_neg q];split at ok <;> rename_i q2
  ·rw [if_pos q2];split at ok <;> rename_i q3
   ·rw [if_pos q3];refine h.kept ok (acted_bad st) (by simp only [acted_S]) (fun x _=>by simp only [acted_S]) (fun x hx=>?_);rcases List.mem_append.1 hx with hx | hx
    ·exact h.safe x hx
    ·rw [List.mem_singleton] at hx;subst hx;exact ha
   ·rw [if_neg q3];exact h.kept ok (acted_bad st) (by rw [acted_S]) (fun x _=>by rw [acted_S]) (by rw [acted_C];exact h.safe)
  ·rw [if_neg q2];exact h
theorem pick_cur {x y:List Int} (hx:ZX x=true) (h:ZX y=false\/(ZA y).e < (ZA x).e):pickSup x y=(ZA x,0)/\pickSup y x=(ZA x,0):=by
 unfold pickSup;rw [hx];rcases h with h | h
 ·rw [h];simp
 ·constructor
  ·simp;intro h1;omega
  ·simp [h]
theorem Du.load {st:Sd} {s:Sup} (h:Du st s) (hr:Rest st):st.load=(s,0):=by
 have hsz:=h.size;obtain ⟨o,ho,hno⟩:=h.oth;have hs1:ZX (Zh s)=true:=by rw [isSup_superB h.sok];have:=h.e1;simp;omega
 have hs2:ZA (Zh s)=s:=supOf_superB h.sok (by have:=h.e1;omega);have hob:∀ z ∈ o,0<=z/\z<=255:=(h.ok.secs o (List.mem_of_getElem? ho)).2
 have hno2:ZX o=false\/(ZA o).e < (ZA (Zh s)).e:=by
  cases hq:ZX o with
  | false=>exact .inl rfl
  | true=>right;rw [sup_tail hob hq,hs2];exact hno
 have h0:=rest_told hr (i:=0) (by omega);have h1:=rest_told hr (i:=1) (by omega);have h0':st.told 0=(st.S[0],0):=h0;have h1':st.told 1=(st.S[1],0):=h1;unfold Sd.load;rw [h0',h1'];simp only [if_true];have hp:=pick_cur hs1 hno2;rw [hs2] at hp;have hc:=h.cur;rcases Nat.mod_two_eq_zero_or_one s.e with q | q
 ·rw [q,List.getElem?_eq_getElem (by omega)] at hc;rw [show (s.e+1) % 2=1 by omega,List.getElem?_eq_getElem (by omega)] at ho;rw [Option.some.inj hc,Option.some.inj ho];exact hp.1
 ·rw [q,List.getElem?_eq_getElem (by omega)] at hc;rw [show (s.e+1) % 2=0 by omega,List.getElem?_eq_getElem (by omega)] at ho;rw [Option.some.inj hc,Option.some.inj ho];exact hp.2
def rootText (S:List (List Int)) (s:Sup):List Int:=if s.st=0/\s.pg=0/\s.sz=0 then [] else (rdTo (plainS S) s.st s.pg).1.take s.sz
theorem rdTo_rest {st:Sd} (hr:Rest st) {a n:Nat} (hb:a+n<=st.S.length / 4) (hs:st.S.length<=65536):rdTo st a n=rdTo (plainS st.S) a n:=by
 refine rdTo_congr n (fun i k hi hk=>?_);have hx:(a+i) * 4+k < st.S.length:=by omega
 rw [sAt_nat (by omega),rest_told hr hx,rest_told (rest_plain st.S) hx];rfl
theorem freeOf_len (st:Sd) (hs:st.S.length<=65536):(Zu st).L.length=st.S.length / 4:=by
 have:lenF ((st.S.length / 4:Nat):Int)=st.S.length / 4:=by unfold lenF;split <;> omega
 simp only [Zu,newFr,List.length_map,List.length_range];exact this
theorem freeOf_at (st:Sd) (hs:st.S.length<=65536) {i:Nat} (h1:1<=i) (h2:i < st.S.length / 4):(Zu st).L[i]?=some true:=by
 have hl:lenF ((st.S.length / 4:Nat):Int)=st.S.length / 4:=by unfold lenF;split <;> omega
 simp only [Zu,newFr];rw [List.getElem?_map,hl,List.getElem?_range h2];simp
 exact h1
/-! texts that are written -/
def wl (a:Nat) (b:List Int):Nat->List (Nat × List Int)
 | 0=>[]
 | i+1=>wl a b i++[((a+i) * 4+0,cutS (Z4 (ZB b i)) 0),((a+i) * 4+1,cutS (Z4 (ZB b i)) 1),((a+i) * 4+2,cutS (Z4 (ZB b i)) 2),((a+i) * 4+3,cutS (Z4 (ZB b i)) 3)]
structure Grew (st st':Sd) (C:List (Nat × List Int)):Prop where
 S:st'.S=st.S
 bad:st'.bad=st.bad
 C:st'.C=st.C++C
theorem wrote_ok {st:Sd} {a:Int} {b:List Int} (h:(st.wrote a b).1=0):Grew st (st.wrote a b).2 [(a.toNat,b)]:=by
 unfold Sd.wrote at h ⊢;split at h <;> rename_i q
 ·cases h
 ·rw [if_neg q];split at h <;> rename_i q2
  ·rw [if_pos q2];split at h <;> rename_i q3
   ·rw [if_pos q3];exact ⟨acted_S st,acted_bad st,rfl⟩
   ·cases h
  ·cases h
theorem Grew.trans {a b c:Sd} {C D:List (Nat × List Int)} (h:Grew a b C) (k:Grew b c D):Grew a c (C++D):=⟨k.S.trans h.S,k.bad.trans h.bad,by rw [k.C,h.C,List.append_assoc]⟩
theorem wrPage_ok {st:Sd} {a i:Nat} {p:List Int} (hb:(a+i) * 4+4<=65536):∀ k,k<=4->(wrPage st a i p k).1=0->Grew st (wrPage st a i p k).2 ((List.range k).map (fun j=>((a+i) * 4+j,cutS p j)))
 | 0,_,_=>⟨rfl,rfl,by simp [wrPage]⟩
 | k+1,hk,h=>by
  simp only [wrPage] at h ⊢;split at h <;> rename_i q
  ·rw [if_pos q];have ih:=wrPage_ok (st:=st) (p:=p) hb k (by omega) q;have:=ih.trans (wrote_ok h);rw [sAt_nat (by omega),Int.toNat_natCast] at this;rw [sAt_nat (by omega),List.range_succ,List.map_append];exact this
  ·exact absurd h q
theorem wrTo_ok {st:Sd} {a:Nat} {b:List Int}:∀ n,(a+n) * 4<=65536->(wrTo st a b n).1=0->Grew st (wrTo st a b n).2 (wl a b n)
 | 0,_,_=>⟨rfl,rfl,by simp [wrTo,wl]⟩
 | i+1,hb,h=>by
  simp only [wrTo] at h ⊢;split at h <;> rename_i q
  ·rw [if_pos q];have ih:=wrTo_ok (st:=st) (b:=b) i (by omega) q;have:=ih.trans (wrPage_ok (by omega) 4 (Nat.le_refl _) h);exact this
  ·exact absurd h q
theorem wl_len_lt {a:Nat} {b:List Int}:∀ n,∀ x ∈ wl a b n,a * 4<=x.1/\x.1 < (a+n) * 4
 | 0,x,h=>by simp [wl] at h
 | i+1,x,h=>by
  simp only [wl] at h;rcases List.mem_append.1 h with h | h
  ·have:=wl_len_lt i x h;omega
  ·simp at h
   rcases h with rfl | rfl | rfl | rfl <;> simp only <;> omega
theorem put_app (A B:List (Nat × List Int)) (S:List (List Int)):Zt (A++B) S=Zt B (Zt A S):=by simp [Zt,List.foldl_append]
theorem put_wl {a:Nat} {b:List Int}:∀ n (S:List (List Int)),(a+n) * 4<=S.length->∀ i k,i < n->k < 4->(Zt (wl a b n) S)[(a+i) * 4+k]?=some (cutS (Z4 (ZB b i)) k)
 | 0,_,_,i,_,hi,_=>by omega
 | n+1,S,hl,i,k,hi,hk=>by
  simp only [wl];rw [put_app];have hl2:(Zt (wl a b n) S).length=S.length:=Z8 _ _;rcases Nat.lt_or_ge i n with q | q
  ·rw [put_none (fun x hx=>by simp at hx;rcases hx with rfl | rfl | rfl | rfl <;> simp only <;> omega)];exact put_wl n S (by omega) i k q hk
  ·have e:i=n:=by omega
   subst e;simp only [Zt,List.foldl_cons,List.foldl_nil] at hl2 ⊢;match k,hk with
   | 0,_=>rw [List.getElem?_set_ne (by omega),List.getElem?_set_ne (by omega),List.getElem?_set_ne (by omega),List.getElem?_set_self (by omega)]
   | 1,_=>rw [List.getElem?_set_ne (by omega),List.getElem?_set_ne (by omega),List.getElem?_set_self (by simp;omega)]
   | 2,_=>rw [List.getElem?_set_ne (by omega),List.getElem?_set_self (by simp;omega)]
   | 3,_=>rw [List.getElem?_set_self (by simp;omega)]
theorem cuts_all {p:List Int} (h:p.length=128):cutS p 0++cutS p 1++cutS p 2++cutS p 3=p:=by
 unfold cutS;apply List.ext_getElem?
 intro j;simp only [List.append_assoc,List.getElem?_append,List.getElem?_take,List.getElem?_drop,List.length_take,List.length_drop,h];by_cases h0:j < 32
 ·simp [h0]
 ·by_cases h1:j < 64
  ·have:j - 32 < 32:=by omega
   simp [h0,this]
   congr 1
   omega
  ·by_cases h2:j < 96
   ·have e1:¬ j - 32 < 32:=by omega
    have e2:j - 32 - 32 < 32:=by omega
    simp [h0,e1,e2]
    congr 1
    omega
   ·by_cases h3:j < 128
    ·have e1:¬ j - 32 < 32:=by omega
     have e2:¬ j - 32 - 32 < 32:=by omega
     have e3:j - 32 - 32 - 32 < 32:=by omega
     simp [h0,e1,e2,e3]
     congr 1
     omega
    ·have e1:¬ j - 32 < 32:=by omega
     have e2:¬ j - 32 - 32 < 32:=by omega
     have e3:¬ j - 32 - 32 - 32 < 32:=by omega
     simp [h0,e1,e2,e3]
     omega
theorem padded_twice {b:List Int} (h:b.length<=124):ZJ (ZJ b)=ZJ b:=by
 show ZJ b++List.replicate (124 - (ZJ b).length) 0=ZJ b
 rw [padded_len h];simp
theorem pageB_again {b:List Int} (h:b.length<=124):Z4 ((Z4 b).drop 4)=Z4 b:=by
 have e:(Z4 b).drop 4=ZJ b:=by
  unfold Z4;rw [<- sum4_len (ZJ b)];exact List.drop_left
 rw [e];unfold Z4;rw [padded_twice h]
theorem rdTo_of {S:List (List Int)} {a:Nat} {b:List Int} {n:Nat} (hs:S.length<=65536) (hl:(a+n) * 4<=S.length) (h:∀ i k,i < n->k < 4->S[(a+i) * 4+k]?=some (cutS (Z4 (ZB b i)) k)) :
  ∀ m,m<=n->rdTo (plainS S) a m=((List.range m).flatMap (fun i=>ZJ (ZB b i)),0)
 | 0,_=>rfl
 | m+1,hm=>by
  have ih:=rdTo_of hs hl h m (by omega)
  have ht:∀ k,k < 4->(plainS S).told (sAt a m k)=(cutS (Z4 (ZB b m)) k,0):=fun k hk=>by
   have hx:(a+m) * 4+k < S.length:=by omega
   have:=h m k (by omega) hk;rw [List.getElem?_eq_getElem hx] at this;rw [sAt_nat (by omega),rest_told (rest_plain S) hx];simp only [plainS];rw [Option.some.inj this]
  have hp:ZV (plainS S) a m 4=(Z4 (ZB b m),0):=by
   have:=cuts_all (pageB_len (chunkB_len b m));simp only [ZV,ht 0 (by omega),ht 1 (by omega),ht 2 (by omega),ht 3 (by omega)];simp only [if_true,List.nil_append];rw [this]
  have e4:(Z4 (ZB b m)).drop 4=ZJ (ZB b m):=by
   unfold Z4;rw [<- sum4_len (ZJ (ZB b m))];exact List.drop_left
  simp only [rdTo,ih,hp];simp only [if_true];rw [if_pos (pageB_again (chunkB_len b m)),e4,List.range_succ,List.flatMap_append];simp
theorem chunks_all {b:List Int}:∀ n,((List.range n).flatMap (fun i=>ZJ (ZB b i))).take b.length=b.take (124 * n)
 | 0=>by simp
 | n+1=>by
  have ih:=chunks_all (b:=b) n
  have hl:∀ m,((List.range m).flatMap (fun i=>ZJ (ZB b i))).length=124 * m:=by
   intro m;induction m with
   | zero=>rfl
   | succ m ihm=>rw [List.range_succ,List.flatMap_append,List.length_append,ihm];simp [padded_len (chunkB_len b m)];omega
  rw [List.range_succ,List.flatMap_append];simp only [List.flatMap_cons,List.flatMap_nil,List.append_nil];rcases Nat.lt_or_ge b.length (124 * n) with q | q
  ·rw [List.take_append_of_le_length (by rw [hl];omega),ih,List.take_of_length_le (by omega),List.take_of_length_le (by omega)]
  ·have e:((List.range n).flatMap (fun i=>ZJ (ZB b i)))=b.take (124 * n):=by
    rw [<- ih,List.take_of_length_le (by rw [hl];exact q)]
   rw [e,List.take_append,List.length_take,Nat.min_eq_left q,List.take_take,Nat.min_eq_right q]
   have e2:(ZJ (ZB b n)).take (b.length - 124 * n)=(b.drop (124 * n)).take 124:=by
    unfold ZJ;have hc:(ZB b n).length=min 124 (b.length - 124 * n):=by simp [ZB]
    rcases Nat.lt_or_ge (b.length - 124 * n) 124 with r | r
    ·rw [List.take_append_of_le_length (by rw [hc];omega),List.take_of_length_le (by rw [hc];omega)];rfl
    ·have hc':(ZB b n).length=124:=by rw [hc];omega
     rw [hc',Nat.sub_self,List.replicate_zero,List.append_nil,List.take_of_length_le (by omega)];rfl
   rw [e2,show 124 * (n+1)=124 * n+124 by omega,List.take_add]
theorem text_there {st:Sd} (ok:OkS st) {a:Nat} {b:List Int} {n:Nat} (hn:n=Zc b.length) (h0:n≠0) (hl:a+n<=st.S.length / 4) (hw:(wrTo st a b n).1=0) :
  (rdTo (plainS (Zt (wrTo st a b n).2.C (wrTo st a b n).2.S)) a n).2=0/\(rdTo (plainS (Zt (wrTo st a b n).2.C (wrTo st a b n).2.S)) a n).1.take b.length=b:=by
 have hsz:=ok.size;have G:=wrTo_ok n (by omega) hw;rw [G.C,G.S,put_app];have hpl:(Zt (wl a b n) (Zt st.C st.S)).length=st.S.length:=by rw [Z8,Z8]
 have:=rdTo_of (S:=Zt (wl a b n) (Zt st.C st.S)) (b:=b) (a:=a) (n:=n) (by omega) (by omega) (put_wl n _ (by rw [Z8];omega)) n (Nat.le_refl _);rw [this];refine ⟨rfl,?_⟩;have hr:=needP_room (size:=(b.length:Int)) (by rw [<- hn];exact h0);rw [chunks_all,List.take_of_length_le (by rw [<- hn] at hr;omega)]
theorem wrote_S (st:Sd) (a:Int) (b:List Int):(st.wrote a b).2.S=st.S:=by
 unfold Sd.wrote;split
 ·rfl
 ·split
  ·split
   ·exact acted_S st
   ·exact acted_S st
  ·rfl
theorem wrPage_S (st:Sd) (start:Int) (i:Nat) (p:List Int):∀ k,(wrPage st start i p k).2.S=st.S
 | 0=>rfl
 | k+1=>by
  simp only [wrPage];split
  ·rw [wrote_S];exact wrPage_S st start i p k
  ·exact wrPage_S st start i p k
theorem wrTo_S (st:Sd) (start:Int) (b:List Int):∀ i,(wrTo st start b i).2.S=st.S
 | 0=>rfl
 | i+1=>by
  simp only [wrTo];split
  ·rw [wrPage_S];exact wrTo_S st start b i
  ·exact wrTo_S st start b i
theorem Du.wrPage {st:Sd} {s:Sup} (h:Du st s) {a i:Nat} {p:List Int} (hp:∀ z ∈ p,0<=z/\z<=255) (hb:(a+i) * 4+4<=65536) (hs:∀ k,k < 4->Safe s ((a+i) * 4+k)):∀ k,k<=4->Du (Apo.wrPage st a i p k).2 s
 | 0,_=>h
 | k+1,hk=>by
  have ih:=h.wrPage hp hb hs k (by omega);simp only [Apo.wrPage];split
  ·exact ih.wrote (cutS_byt hp k) (by rw [sAt_nat (by omega),Int.toNat_natCast];exact hs k (by omega))
  ·exact ih
theorem Du.wrTo {st:Sd} {s:Sup} (h:Du st s) {a:Nat} {b:List Int} (hb:∀ z ∈ b,0<=z/\z<=255):∀ n,(a+n) * 4<=65536->(∀ i k,i < n->k < 4->Safe s ((a+i) * 4+k))->Du (Apo.wrTo st a b n).2 s
 | 0,_,_=>h
 | i+1,hl,hs=>by
  have ih:=h.wrTo hb i (by omega) (fun j k hj hk=>hs j k (by omega) hk);simp only [Apo.wrTo];split
  ·exact ih.wrPage (pageB_byt (chunkB_byt hb i)) (by omega) (fun k hk=>hs i k (by omega) hk) 4 (Nat.le_refl _)
  ·exact ih
/-! what giving and taking make of a page -/
theorem put_at (f:Fr) (s:Spn) (v:Bool) (j:Nat):(f.put s v).L[j]?=if s.a.toNat<=j/\j < s.a.toNat+s.k.toNat/\j < f.L.length then some v else f.L[j]?:=setR_at f.L s.a.toNat v s.k.toNat j
theorem give_len (f:Fr) (s:Spn):(f.give s).2.L.length=f.L.length/\(f.give s).2.lo=f.lo:=by
 unfold Fr.give;split
 ·exact ⟨Fr.put_len _ _ _,rfl⟩
 ·exact ⟨rfl,rfl⟩
def inRoot (s:Sup) (i:Nat):Prop:=s.st<=i/\i < s.st+s.pg
def inSpn (x:Spn) (i:Nat):Prop:=x.a.toNat<=i/\i < x.a.toNat+x.k.toNat
theorem live_wrote {st:Sd} (hd:st.dead=false) (hl:st.left=-1) {a:Nat} (ha:a < st.S.length) {b:List Int} (hb:b.length=32):st.wrote (a:Int) b=(0,{ st with C:=st.C++[(a,b)] }):=by
 have h1:st.acts=true:=by simp [Sd.acts,hd,hl]
 have h2:st.acted=st:=by
  unfold Sd.acted;rw [if_pos h1,hl];cases st
  simp at hl ⊢
  exact hl.symm
 have h3:st.has (a:Int)=true:=has_iff.2 ⟨by omega,by omega⟩;unfold Sd.wrote;rw [h3,h1,h2];simp [hb,hd]
theorem live_flushed {st:Sd} (hd:st.dead=false) (hl:st.left=-1):st.flushed=(0,{ st with S:=Zt st.C st.S,C:=[] }):=by
 have h1:st.acts=true:=by simp [Sd.acts,hd,hl]
 have h2:st.acted=st:=by
  unfold Sd.acted;rw [if_pos h1,hl];cases st
  simp at hl ⊢
  exact hl.symm
 unfold Sd.flushed;rw [if_pos h1,h2]
theorem format_du {n:Int} (h8:8<=lenOf n):(Zl n).format.1=0/\Du (Zl n).format.2 ⟨1,0,0,0⟩/\Rest (Zl n).format.2/\(Zl n).format.2.S.length=lenOf n:=by
 have hlen:(Zl n).S.length=lenOf n:=by simp [Zl]
 have w0:=live_wrote (st:=Zl n) rfl rfl (a:=0) (b:=zeros) (by omega) (by simp [zeros]);have w1:=live_wrote (st:={ Zl n with C:=[(0,zeros)] }) rfl rfl (a:=1) (b:=zeros) (by show 1 < (Zl n).S.length;omega) (by simp [zeros]);have w0':(Zl n).wrote 0 zeros=(0,{ Zl n with C:=[(0,zeros)] }):=w0;have w1':({ Zl n with C:=[(0,zeros)] }:Sd).wrote 1 zeros=(0,{ Zl n with C:=[(0,zeros),(1,zeros)] }):=w1;have f1:=live_flushed (st:={ Zl n with C:=[(0,zeros),(1,zeros)] }) rfl rfl
 have hput:Zt [(0,zeros),(1,zeros)] (Zl n).S=(Zl n).S:=by
  simp only [Zt,List.foldl_cons,List.foldl_nil];apply List.ext_getElem?
  intro j;simp only [Zl,List.getElem?_set,List.getElem?_replicate,List.length_set,List.length_replicate];by_cases h1:1=j
  ·subst h1;simp
  ·by_cases h0:0=j
   ·subst h0;simp
   ·simp [h0,h1]
 have f1':({ Zl n with C:=[(0,zeros),(1,zeros)] }:Sd).flushed=(0,Zl n):=by
  rw [f1];simp only [hput];rfl
 have w2:=live_wrote (st:=Zl n) rfl rfl (a:=1) (b:=Zh ⟨1,0,0,0⟩) (by omega) (ZT _);have w2':(Zl n).wrote 1 (Zh ⟨1,0,0,0⟩)=(0,{ Zl n with C:=[(1,Zh ⟨1,0,0,0⟩)] }):=w2;have f2:=live_flushed (st:={ Zl n with C:=[(1,Zh ⟨1,0,0,0⟩)] }) rfl rfl
 have e:(Zl n).format=(0,{ Zl n with S:=(Zl n).S.set 1 (Zh ⟨1,0,0,0⟩),C:=[] }):=by
  unfold Sd.format;rw [if_neg (by rw [hlen];omega),w0'];simp only [if_true];rw [w1'];simp only [if_true];unfold Sd.save;rw [f1'];simp only [if_true];have e1:(((⟨1,0,0,0⟩:Sup).e:Nat):Int) % 2=1:=rfl;rw [e1,w2'];simp only [if_true];rw [f2];rfl
 have ok:OkS { Zl n with S:=(Zl n).S.set 1 (Zh ⟨1,0,0,0⟩),C:=[] }:=by
  have k:=OkS.new n;refine ⟨fun r hr=>?_,by simp,by simp only [List.length_set];exact k.bads,by simp only [List.length_set];exact k.size,k.l0,k.l1⟩;rcases List.mem_or_eq_of_mem_set hr with hr | hr
  ·exact k.secs r hr
  ·rw [hr];exact ⟨ZT _,superB_byt _⟩
 have hbad:∀ j,(Zl n).bad.getD j false=false:=fun j=>by
  simp only [Zl,List.getD_eq_getElem?_getD];by_cases h:j < lenOf n
  ·rw [List.getElem?_replicate_of_lt h];rfl
  ·rw [List.getElem?_eq_none (by simpa using h)];rfl
 rw [e];refine ⟨rfl,⟨ok,by simp only [List.length_set,hlen];exact h8,hbad,⟨by decide,by decide,by decide,by decide⟩,by decide,by decide,?_,⟨zeros,?_,by decide⟩,.inl ⟨rfl,rfl,rfl⟩,by simp⟩,⟨rfl,rfl,hbad⟩,by simp only [List.length_set,hlen]⟩
 ·show ((Zl n).S.set 1 _)[1]?=_
  rw [List.getElem?_set_self (by omega)]
 ·show ((Zl n).S.set 1 _)[0]?=_
  rw [List.getElem?_set_ne (by omega)];simp only [Zl];rw [List.getElem?_replicate_of_lt (by omega)]
end
end Apo
namespace Go.Proofs.YtdhebpnkfookcaaGreat
open Go.RowKit Apo
def flK (st:Sd) (k:Nat):Sd:=⟨Zt (st.C.take k) st.S,st.C,st.bad,st.acted.left,st.acted.dead⟩
theorem flK_zero (st:Sd):flK st 0=st.acted:=by
 unfold flK;have e1:=acted_S st;have e2:=acted_C st;have e3:=acted_bad st;cases h:st.acted
 rw [h] at e1 e2 e3;simp only at e1 e2 e3;subst e1 e2 e3;rfl
theorem flK_end {st:Sd} {k:Nat} (hk:st.C.length<=k):({ flK st k with C:=[] }:Sd)={ st.acted with S:=Zt st.C st.S,C:=[] }:=by
 unfold flK;rw [List.take_of_length_le hk];have e3:=acted_bad st;rw [<- e3]
theorem flK_set {st:Sd} {k:Nat} {x:Nat × List Int} (hx:st.C[k]?=some x):({ flK st k with S:=(flK st k).S.set x.1 x.2 }:Sd)=flK st (k+1):=by
 unfold flK;simp only;rw [putAll_snoc hx]
theorem info_u8:(Tryz.prog.info? 5).map (fun i=>(i.zero,i.size,i.bytes))=some (some (.int .u8 0),1,1):=by kernel_rfl
def Told (w:World) (B:Nat) (v:Value) (l:List Int):Prop:=w.ownsRow B 5 1 v l.length (l.map (Value.int .u8))
section
attribute [local go_sem ↓] Apo.app_exec
theorem be_at:∀ {k j:Nat} (n:Nat),j < k->(be k n)[j]?=some ((n / 256 ^ (k - 1 - j) % 256:Nat):Int)
 | 0,_,_,h=>by omega
 | k+1,0,n,_=>by simp [be]
 | k+1,j+1,n,h=>by
  simp only [be,List.getElem?_cons_succ];rw [be_at n (by omega),show k+1 - 1 - (j+1)=k - 1 - j by omega]
end
section
attribute [local go_sem ↓] Go.wp_at_zero Go.wp_at_succ Apo.app_exec
theorem own_shape2 {w:World} {base e size:Nat} {v:Value} {n:Nat} {xs:List Value} (h:w.ownsRow base e size v n xs) (hp:0 < n) :
  ∃ g cap,v=.slice (some ⟨g,0,none⟩) n cap/\base<=g/\g < w.heap.size/\n<=cap/\cap<=maxLen:=by
 have h':=h;rcases h.2 with ⟨_,hz⟩ | ⟨g,cap,cur,rfl,hb,_,hnc,hcm,_⟩
 ·omega
 ·exact ⟨g,cap,rfl,hb,(h'.lt g rfl).2,hnc,hcm⟩
end
theorem rdown {w:World} {B:Nat} {a:Option Addr} {c:Nat} {l:List Int} {n:Nat} (h:w.ownsRow B 5 1 (.slice a n c) n (l.map (Value.int .u8))):Rd .u8 w a l/\n=l.length/\(a=none->c=0)/\(∀ x,a=some x->B<=x.block):=by
 obtain ⟨h1,h2,_⟩:=Rd.own h;refine ⟨h1,h2,?_,?_⟩
 ·intro hn;rcases h.2 with ⟨e,_⟩ | ⟨g,c',cur,e,_⟩
  ·cases e;rfl
  ·cases e;cases hn
 ·intro x hx;rcases h.2 with ⟨e,_⟩ | ⟨g,c',cur,e,hb,_⟩
  ·cases e;cases hx
  ·cases e;cases hx;exact hb
section
attribute [local go_sem ↓] Go.wp_at_zero Go.wp_at_succ
theorem str_inj {x y:List Int} (hx:∀ z ∈ x,0<=z/\z<=255) (hy:∀ z ∈ y,0<=z/\z<=255) (h:(strOfNums x).toList=(strOfNums y).toList):x=y:=by
 have e:strOfNums x=strOfNums y:=by
  rw [ByteArray.toList_eq,ByteArray.toList_eq] at h;exact ByteArray.ext (Array.ext' h)
 rw [<- nums_strOfNums hx,<- nums_strOfNums hy,e]
theorem size_sup:(Tryz.prog.info? 154).map (·.size)=some 4:=by kernel_rfl
end
theorem ob_four {W:World} {g:Nat} {t:TypeId} {cs:List Value} (k:Ob W g t cs) (hl:cs.length=4) (s:Sup):Ob ((((W.setCell ⟨g,0,none⟩ (.int .u64 s.e)).setCell ⟨g,1,none⟩ (.int .u32 s.st)).setCell ⟨g,2,none⟩ (.int .u32 s.pg)).setCell ⟨g,3,none⟩ (.int .u32 s.sz)) g t s.cells:=by
 have h:=(((k.set 0 (.int .u64 s.e)).set 1 (.int .u32 s.st)).set 2 (.int .u32 s.pg)).set 3 (.int .u32 s.sz);match cs,hl with
 | [a,b,c,d],_=>exact h
theorem below_four {W w:World} {g:Nat} (b:Below g w W) (s:Sup):Below g w ((((W.setCell ⟨g,0,none⟩ (.int .u64 s.e)).setCell ⟨g,1,none⟩ (.int .u32 s.st)).setCell ⟨g,2,none⟩ (.int .u32 s.pg)).setCell ⟨g,3,none⟩ (.int .u32 s.sz)) :=
 (((b.setCell (p:=⟨g,0,none⟩) (Nat.le_refl _) _).setCell (p:=⟨g,1,none⟩) (Nat.le_refl _) _).setCell (p:=⟨g,2,none⟩) (Nat.le_refl _) _).setCell (p:=⟨g,3,none⟩) (Nat.le_refl _) _
end Go.Proofs.YtdhebpnkfookcaaGreat
