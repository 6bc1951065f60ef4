import Derived.WalkSpells
import Derived.WalkLawsBesides
import Derived.OpenShut
namespace Apo
def encF:Nat->Nat->List Int
 | 0,n=>[(n:Int)]
 | f+1,n=>if n < 128 then [(n:Int)] else ((n % 128+128:Nat):Int) :: encF f (n / 128)
def enc (n:Nat):List Int:=encF 9 n
def encs:List Int->List Int
 | []=>[]
 | z :: r=>enc z.toNat++encs r
def top:Nat:=18446744073709551616
theorem encF_fuel:∀ f g n,n < 128 ^ (f+1)->n < 128 ^ (g+1)->encF f n=encF g n
 | 0,0,_,_,_=>rfl
 | 0,g+1,n,h,_=>by
  have h':n < 128:=by simpa using h
  simp [encF,h']
 | f+1,0,n,_,h=>by
  have h':n < 128:=by simpa using h
  simp [encF,h']
 | f+1,g+1,n,h,k=>by
  by_cases h':n < 128
  ·simp [encF,h']
  ·have e:=encF_fuel f g (n / 128) (by rw [Nat.pow_succ] at h;omega) (by rw [Nat.pow_succ] at k;omega);simp only [encF,if_neg h',e]
theorem enc_lt {n:Nat} (h:n < 128):enc n=[(n:Int)]:=by simp [enc,encF,h]
theorem enc_ge {n:Nat} (h:128<=n) (k:n < top):enc n=((n % 128+128:Nat):Int) :: enc (n / 128):=by
 have h':¬ n < 128:=by omega
 have e:=encF_fuel 8 9 (n / 128) (by unfold top at k;omega) (by unfold top at k;omega);unfold enc;rw [<- e];simp only [encF,if_neg h']
theorem encF_len:∀ f n,1<=(encF f n).length/\(encF f n).length<=f+1
 | 0,n=>by simp [encF]
 | f+1,n=>by
  have:=encF_len f (n / 128);by_cases h:n < 128
  ·simp [encF,h]
  ·simp only [encF,if_neg h,List.length_cons];omega
theorem enc_len (n:Nat):1<=(enc n).length/\(enc n).length<=10:=encF_len 9 n
theorem encF_byte:∀ f n,n < 128 ^ (f+1)->∀ x ∈ encF f n,0<=x/\x<=255
 | 0,n,h,x,hx=>by
  have h':n < 128:=by simpa using h
  simp [encF] at hx;omega
 | f+1,n,h,x,hx=>by
  by_cases h':n < 128
  ·simp [encF,h'] at hx;omega
  ·simp only [encF,if_neg h',List.mem_cons] at hx;rcases hx with hx | hx
   ·omega
   ·exact encF_byte f (n / 128) (by rw [Nat.pow_succ] at h;omega) x hx
theorem enc_byte {n:Nat} (h:n < top):∀ x ∈ enc n,0<=x/\x<=255:=encF_byte 9 n (by unfold top at h;omega)
theorem encF_prefix:∀ f n m x y,n < 128 ^ (f+1)->m < 128 ^ (f+1)->encF f n++x=encF f m++y->n=m/\x=y
 | 0,n,m,x,y,_,_,h=>by
  simp only [encF,List.cons_append,List.nil_append,List.cons.injEq] at h;exact ⟨by omega,h.2⟩
 | f+1,n,m,x,y,hn,hm,h=>by
  by_cases a:n < 128
  ·by_cases b:m < 128
   ·simp only [encF,if_pos a,if_pos b,List.cons_append,List.nil_append,List.cons.injEq] at h;exact ⟨by omega,h.2⟩
   ·simp only [encF,if_pos a,if_neg b,List.cons_append,List.nil_append,List.cons.injEq] at h;omega
  ·by_cases b:m < 128
   ·simp only [encF,if_neg a,if_pos b,List.cons_append,List.nil_append,List.cons.injEq] at h;omega
   ·simp only [encF,if_neg a,if_neg b,List.cons_append,List.cons.injEq] at h;have e:=encF_prefix f (n / 128) (m / 128) x y (by rw [Nat.pow_succ] at hn;omega) (by rw [Nat.pow_succ] at hm;omega) h.2;exact ⟨by omega,e.2⟩
theorem enc_prefix {n m:Nat} {x y:List Int} (hn:n < top) (hm:m < top) (h:enc n++x=enc m++y):n=m/\x=y :=
 encF_prefix 9 n m x y (by unfold top at hn;omega) (by unfold top at hm;omega) h
theorem canonF : ∀ (cs : List Int) (c : Int), (∀ x ∈ cs, 128 <= x /\ x <= 255) -> 0 <= c -> c < 128 -> (cs = [] \/ c ≠ 0) ->
    ∃ n : Nat, n < 128 ^ cs.length * (c.toNat + 1) /\ (c ≠ 0 -> 1 <= n) /\ encF cs.length n = cs ++ [c]
  | [], c, _, h0, h1, _ => ⟨c.toNat, by simp, by omega, by simp [encF];omega⟩
  | x :: cs, c, hx, h0, h1, h2 => by
    have hc : c ≠ 0 := by rcases h2 with h2 | h2;· cases h2
                          · exact h2
    obtain ⟨n, k1, k2, k3⟩ := canonF cs c (fun y hy => hx y (by simp [hy])) h0 h1 (.inr hc);have hx0 := hx x (by simp);have k2' := k2 hc;refine ⟨(x - 128).toNat + 128 * n, ?_, fun _ => by omega, ?_⟩
    · rw [List.length_cons, Nat.pow_succ, Nat.mul_comm (128 ^ cs.length) 128, Nat.mul_assoc]
      generalize 128 ^ cs.length * (c.toNat + 1) = t at *;omega
    · have h' : ¬ (x - 128).toNat + 128 * n < 128 := by omega
      rw [List.length_cons];simp only [encF, if_neg h', List.cons_append, List.cons.injEq];have e1 : ((x - 128).toNat + 128 * n) / 128 = n := by omega
      rw [e1, k3];exact ⟨by omega, rfl⟩
theorem canon (cs : List Int) (c : Int) (h : ∀ x ∈ cs, 128 <= x /\ x <= 255) (h0 : 0 <= c) (h1 : c < 128) (hl : cs.length <= 9) (h9 : cs.length = 9 -> c = 1) (h2 : cs.length = 0 \/ c ≠ 0) :
    ∃ n : Nat, n < top /\ enc n = cs ++ [c] := by
  obtain ⟨n, k1, _, k3⟩ := canonF cs c h h0 h1 (by rcases h2 with h2 | h2;· exact .inl (List.eq_nil_of_length_eq_zero h2)
                                                   · exact .inr h2)
  have hlt : n < 128 ^ (cs.length + 1) := by
    rw [Nat.pow_succ];exact Nat.lt_of_lt_of_le k1 (Nat.mul_le_mul_left _ (by omega))
  have htop : n < top := by
    by_cases e : cs.length = 9
    · have hc := h9 e
      rw [e, hc] at k1;unfold top;exact Nat.lt_of_lt_of_le k1 (by decide)
    · have hle : 128 ^ (cs.length + 1) <= 128 ^ 9 := Nat.pow_le_pow_right (by decide) (by omega)
      have : (128 : Nat) ^ 9 = 9223372036854775808 := by decide
      unfold top;omega
  refine ⟨n, htop, ?_⟩;rw [<- k3];exact encF_fuel 9 cs.length n (by unfold top at htop;omega) hlt
theorem encs_append (a b:List Int):encs (a++b)=encs a++encs b:=by
 induction a with
 | nil=>rfl
 | cons z r ih=>simp [encs,ih,List.append_assoc]
theorem encs_snoc (a:List Int) (z:Int):encs (a++[z])=encs a++enc z.toNat:=by
 rw [encs_append];simp [encs]
theorem encs_len:∀ a:List Int,a.length<=(encs a).length/\(encs a).length<=10 * a.length
 | []=>by simp [encs]
 | z :: r=>by
  have:=encs_len r;have:=enc_len z.toNat;simp only [encs,List.length_append,List.length_cons];omega
def InU (a:List Int):Prop:=∀ z ∈ a,0<=z/\z<=18446744073709551615
theorem encs_byte:∀ {a:List Int},InU a->∀ x ∈ encs a,0<=x/\x<=255
 | [],_,x,hx=>by simp [encs] at hx
 | z :: r,h,x,hx=>by
  simp only [encs,List.mem_append] at hx;have hz:=h z (by simp);rcases hx with hx | hx
  ·exact enc_byte (by unfold top;omega) x hx
  ·exact encs_byte (fun y hy=>h y (by simp [hy])) x hx
section
open Go Go.RowKit
def Rd (k:IntKind) (w:World) (a:Option Addr) (l:List Int):Prop :=
 ∀ i,i < l.length->∃ b off,a=some ⟨b,off,none⟩/\w.cell? ⟨b,off+i,none⟩=some (.int k (l.getD i 0))
theorem Rd.nil (k:IntKind) (w:World) (a:Option Addr):Rd k w a []:=fun i h=>by simp at h
theorem Rd.at {k:IntKind} {w:World} {a:Option Addr} {l:List Int} (h:Rd k w a l) {i:Nat} (hi:i < l.length) :
  ∃ b off z,a=some ⟨b,off,none⟩/\w.cell? ⟨b,off+i,none⟩=some (.int k z)/\Hid (l[i]?=some z)/\z ∈ l:=by
 obtain ⟨b,off,ha,hc⟩:=h i hi;refine ⟨b,off,l[i],ha,?_,List.getElem?_eq_getElem hi,List.getElem_mem hi⟩;rw [hc];simp [List.getD,List.getElem?_eq_getElem hi]
theorem Rd.below {k:IntKind} {w w':World} {a:Option Addr} {l:List Int} (h:Rd k w a l) (hb:Below w.heap.size w w'):Rd k w' a l:=by
 intro i hi;obtain ⟨b,off,ha,hc⟩:=h i hi;have hlt:=World.block_lt_of_cell? w _ hc;exact ⟨b,off,ha,(hb.cell (by exact hlt)).trans hc⟩
theorem take_snoc {l:List Int} {i:Nat} {z:Int} (h:l[i]?=some z):l.take (i+1)=l.take i++[z]:=by
 rw [List.take_add_one,h];rfl
theorem encs_take {l:List Int} {i:Nat} {z:Int} (h:l[i]?=some z):encs (l.take (i+1))=encs (l.take i)++enc z.toNat:=by
 rw [take_snoc h,encs_snoc]
theorem Rd.news {k:IntKind} {w:World} {x:Addr} {l:List Int} (h:Rd k w (some x) l):∀ j u,(l.map (Value.int k))[j]?=some u->w.cell? (x.add j)=some u:=by
 intro j u hu
 have hj:j < l.length:=by
  rcases Nat.lt_or_ge j l.length with h | h
  ·exact h
  ·simp [List.getElem?_eq_none h] at hu
 obtain ⟨b,off,ha,hc⟩:=h j hj;cases ha
 have hplain:(⟨b,off,none⟩:Addr).add j=⟨b,off+j,none⟩:=by unfold Addr.add;split <;> simp_all
 rw [hplain,hc];simp [List.getElem?_eq_getElem hj] at hu
 subst hu;simp [List.getD,List.getElem?_eq_getElem hj]
theorem Rd.own {k:IntKind} {w:World} {base e:Nat} {a:Option Addr} {len cap n:Nat} {l:List Int} (h:w.ownsRow base e 1 (.slice a len cap) n (l.map (Value.int k))):Rd k w a l/\len=l.length/\n=l.length:=by
 have hn:l.length=n:=by simpa using h.1
 rcases h.2 with ⟨hv,hz⟩ | ⟨g,c,cur,hv,_⟩
 ·cases hv
  have:l=[]:=List.eq_nil_of_length_eq_zero (by omega);subst this;exact ⟨Rd.nil _ _ _,rfl,by omega⟩
 ·cases hv
  refine ⟨fun i hi=>⟨g,0,rfl,?_⟩,by omega,by omega⟩;have:=h.cellAt i (by omega);rw [Nat.zero_add,this];simp [List.getElem?_eq_getElem hi,List.getD]
end
section
open Go
def allb (L:List Bool) (a k:Nat) (b:Bool):Bool:=((L.drop a).take k).all (· == b)
theorem allb_zero (L:List Bool) (a:Nat) (b:Bool):allb L a 0 b=true:=by simp [allb]
theorem allb_snoc {L:List Bool} {a k:Nat} {c:Bool} (h:L[a+k]?=some c) (b:Bool):allb L a (k+1) b=(allb L a k b && (c == b)):=by
 unfold allb;rw [List.take_add_one,List.getElem?_drop,h];simp
theorem allb_iff {L:List Bool} {a k:Nat} {b:Bool} (h:a+k<=L.length):allb L a k b=true↔∀ i,a<=i->i < a+k->L[i]?=some b:=by
 induction k with
 | zero =>
  rw [allb_zero];exact ⟨fun _ i h1 h2=>by omega,fun _=>rfl⟩
 | succ k ih =>
  have hk:L[a+k]?=some L[a+k]:=List.getElem?_eq_getElem (by omega)
  rw [allb_snoc hk,Bool.and_eq_true,ih (by omega)];constructor
  ·rintro ⟨h1,h2⟩ i hi hj;by_cases e:i=a+k
   ·subst e;rw [hk];simpa using h2
   ·exact h1 i hi (by omega)
  ·intro h1;refine ⟨fun i hi hj=>h1 i hi (by omega),?_⟩;have:=h1 (a+k) (by omega) (by omega);rw [hk] at this;simpa using this
def setR (L:List Bool) (a:Nat) (b:Bool):Nat->List Bool
 | 0=>L
 | k+1=>(setR L a b k).set (a+k) b
theorem setR_len (L:List Bool) (a:Nat) (b:Bool):∀ k,(setR L a b k).length=L.length
 | 0=>rfl
 | k+1=>by simp [setR,setR_len L a b k]
theorem setR_at (L:List Bool) (a:Nat) (b:Bool):∀ k i,(setR L a b k)[i]?=if a<=i/\i < a+k/\i < L.length then some b else L[i]?
 | 0,i=>by rw [if_neg (by omega)];rfl
 | k+1,i=>by
  rw [setR,List.getElem?_set,setR_at L a b k i,setR_len];by_cases e:a+k=i
  ·subst e;by_cases hl:a+k < L.length
   ·rw [if_pos rfl,if_pos hl,if_pos ⟨by omega,by omega,hl⟩]
   ·rw [if_pos rfl,if_neg hl,if_neg (by omega),List.getElem?_eq_none (by omega)]
  ·rw [if_neg e];by_cases hh:a<=i/\i < a+k/\i < L.length
   ·rw [if_pos hh,if_pos ⟨hh.1,by omega,hh.2.2⟩]
   ·rw [if_neg hh,if_neg (by omega)]
def bump:List (Nat × Nat)->List (Nat × Nat)
 | []=>[]
 | [x]=>[(x.1,x.2+1)]
 | x :: y :: l=>x :: bump (y :: l)
theorem bump_snoc (R:List (Nat × Nat)) (a k:Nat):bump (R++[(a,k)])=R++[(a,k+1)]:=by
 induction R with
 | nil=>rfl
 | cons x R ih =>
  cases R with
  | nil=>rfl
  | cons y R=>simp only [List.cons_append,bump] at ih ⊢;rw [ih]
def ZK (L:List Bool):Nat->List (Nat × Nat)
 | 0=>[]
 | i+1=>if L.getD i false=false then ZK L i else if 0 < i/\L.getD (i - 1) false=true then bump (ZK L i) else ZK L i++[(i,1)]
def Can (R:List (Nat × Nat)):Prop:=R.Pairwise (fun x y=>x.1+x.2 < y.1)/\∀ x ∈ R,1<=x.2
def cov (R:List (Nat × Nat)) (i:Nat):Prop:=∃ x ∈ R,x.1<=i/\i < x.1+x.2
theorem Can.tail {x:Nat × Nat} {R:List (Nat × Nat)} (h:Can (x :: R)):Can R:=⟨(List.pairwise_cons.1 h.1).2,fun y hy=>h.2 y (by simp [hy])⟩
theorem Can.head {x:Nat × Nat} {R:List (Nat × Nat)} (h:Can (x :: R)):∀ y ∈ R,x.1+x.2 < y.1:=(List.pairwise_cons.1 h.1).1
theorem can_unique:∀ {R R':List (Nat × Nat)},Can R->Can R'->(∀ i,cov R i↔cov R' i)->R=R'
 | [],[],_,_,_=>rfl
 | [],x :: R',_,h',hc=>by
  obtain ⟨y,hy,_⟩:=(hc x.1).2 ⟨x,by simp,Nat.le_refl _,by have:=h'.2 x (by simp);omega⟩;cases hy
 | x :: R,[],h,_,hc=>by
  obtain ⟨y,hy,_⟩:=(hc x.1).1 ⟨x,by simp,Nat.le_refl _,by have:=h.2 x (by simp);omega⟩;cases hy
 | x :: R,y :: R',h,h',hc=>by
  have hx:=h.2 x (by simp);have hy:=h'.2 y (by simp)
  have lo:∀ {x:Nat × Nat} {R:List (Nat × Nat)},Can (x :: R)->∀ i,cov (x :: R) i->x.1<=i:=by
   intro x R h i hi;obtain ⟨z,hz,h1,_⟩:=hi;rcases List.mem_cons.1 hz with rfl | hz
   ·exact h1
   ·have:=h.head z hz;omega
  have e1:x.1=y.1:=by
   have a:=lo h' x.1 ((hc x.1).1 ⟨x,by simp,Nat.le_refl _,by omega⟩);have b:=lo h y.1 ((hc y.1).2 ⟨y,by simp,Nat.le_refl _,by omega⟩);omega
  have gap:∀ {x:Nat × Nat} {R:List (Nat × Nat)},Can (x :: R)->¬ cov (x :: R) (x.1+x.2):=by
   intro x R h hi;obtain ⟨z,hz,h1,h2⟩:=hi;rcases List.mem_cons.1 hz with rfl | hz
   ·omega
   ·have:=h.head z hz;omega
  have e2:x.2=y.2:=by
   rcases Nat.lt_trichotomy x.2 y.2 with hl | hl | hl
   ·exact absurd ((hc _).2 ⟨y,by simp,by omega,by omega⟩) (gap h)
   ·exact hl
   ·exact absurd ((hc _).1 ⟨x,by simp,by omega,by omega⟩) (gap h')
  have e:x=y:=Prod.ext e1 e2;subst e
  have:R=R':=by
   refine can_unique h.tail h'.tail (fun i=>?_);constructor
   ·rintro ⟨z,hz,h1,h2⟩;obtain ⟨u,hu,h3,h4⟩:=(hc i).1 ⟨z,by simp [hz],h1,h2⟩;rcases List.mem_cons.1 hu with rfl | hu
    ·have:=h.head z hz;omega
    ·exact ⟨u,hu,h3,h4⟩
   ·rintro ⟨z,hz,h1,h2⟩;obtain ⟨u,hu,h3,h4⟩:=(hc i).2 ⟨z,by simp [hz],h1,h2⟩;rcases List.mem_cons.1 hu with rfl | hu
    ·have:=h'.head z hz;omega
    ·exact ⟨u,hu,h3,h4⟩
  rw [this]
theorem spans_all (L:List Bool):∀ n,Can (ZK L n)/\(∀ i,cov (ZK L n) i↔(i < n/\L.getD i false=true))/\(∀ x ∈ ZK L n,x.1+x.2<=n) /\
  (0 < n->L.getD (n - 1) false=true->∃ R a k,ZK L n=R++[(a,k)]/\a+k=n)/\(n=0\/L.getD (n - 1) false=false->∀ x ∈ ZK L n,x.1+x.2 < n)
 | 0=>⟨⟨List.Pairwise.nil,by simp [ZK]⟩,fun i=>⟨fun h=>by obtain ⟨x,hx,_⟩:=h;simp [ZK] at hx,fun h=>by omega⟩,by simp [ZK],fun h=>by omega,by simp [ZK]⟩
 | n+1=>by
  obtain ⟨hc,hv,he,hl,hg⟩:=spans_all L n;by_cases h0:L.getD n false=false
  ·have e:ZK L (n+1)=ZK L n:=by rw [ZK,if_pos h0]
   rw [e];refine ⟨hc,fun i=>?_,fun x hx=>by have:=he x hx;omega,fun _ h=>?_,fun _ x hx=>by have:=he x hx;omega⟩
   ·rw [hv i];constructor
    ·rintro ⟨h1,h2⟩;exact ⟨by omega,h2⟩
    ·rintro ⟨h1,h2⟩;refine ⟨?_,h2⟩;rcases Nat.lt_or_ge i n with h | h
     ·exact h
     ·rw [show i=n by omega,h0] at h2;cases h2
   ·rw [show n+1 - 1=n by omega,h0] at h;cases h
  ·have h1:L.getD n false=true:=by simpa using h0
   by_cases hb:0 < n/\L.getD (n - 1) false=true
   ·obtain ⟨R,a,k,hR,hk⟩:=hl hb.1 hb.2;have e:ZK L (n+1)=R++[(a,k+1)]:=by rw [ZK,if_neg h0,if_pos hb,hR,bump_snoc]
    rw [hR] at hc hv he;rw [e];refine ⟨⟨?_,?_⟩,fun i=>?_,?_,fun _ _=>⟨R,a,k+1,rfl,by omega⟩,fun h=>?_⟩
    ·have:=hc.1;rw [List.pairwise_append] at this ⊢;refine ⟨this.1,List.pairwise_singleton _ _,fun x hx y hy=>?_⟩;rw [List.mem_singleton] at hy;subst hy;exact this.2.2 x hx (a,k) (by simp)
    ·intro x hx;rcases List.mem_append.1 hx with hx | hx
     ·exact hc.2 x (by simp [hx])
     ·rw [List.mem_singleton] at hx;subst hx;simp
    ·constructor
     ·rintro ⟨x,hx,h2,h3⟩;rcases List.mem_append.1 hx with hx | hx
      ·have:=(hv i).1 ⟨x,by simp [hx],h2,h3⟩;exact ⟨by omega,this.2⟩
      ·rw [List.mem_singleton] at hx;subst hx;simp only at h2 h3;by_cases ei:i=n
       ·subst ei;exact ⟨by omega,h1⟩
       ·have:=(hv i).1 ⟨(a,k),by simp,h2,by simp only;omega⟩;exact ⟨by omega,this.2⟩
     ·rintro ⟨h2,h3⟩;by_cases ei:i=n
      ·subst ei;exact ⟨(a,k+1),by simp,by simp only;omega,by simp only;omega⟩
      ·obtain ⟨x,hx,h4,h5⟩:=(hv i).2 ⟨by omega,h3⟩;rcases List.mem_append.1 hx with hx | hx
       ·exact ⟨x,by simp [hx],h4,h5⟩
       ·rw [List.mem_singleton] at hx;subst hx;exact ⟨(a,k+1),by simp,h4,by simp only at h5 ⊢;omega⟩
    ·intro x hx;rcases List.mem_append.1 hx with hx | hx
     ·have:=he x (by simp [hx]);omega
     ·rw [List.mem_singleton] at hx;subst hx;simp only;omega
    ·rcases h with h | h
     ·omega
     ·rw [show n+1 - 1=n by omega,h1] at h;cases h
   ·have e:ZK L (n+1)=ZK L n++[(n,1)]:=by rw [ZK,if_neg h0,if_neg hb]
    have hg':∀ x ∈ ZK L n,x.1+x.2 < n:=hg (by
     rcases Nat.eq_zero_or_pos n with h | h
     ·exact .inl h
     ·right
      cases hq:L.getD (n - 1) false
      ·rfl
      ·exact absurd ⟨h,hq⟩ hb)
    rw [e];refine ⟨⟨?_,?_⟩,fun i=>?_,?_,fun _ _=>⟨ZK L n,n,1,rfl,rfl⟩,fun h=>?_⟩
    ·rw [List.pairwise_append];refine ⟨hc.1,List.pairwise_singleton _ _,fun x hx y hy=>?_⟩;rw [List.mem_singleton] at hy;subst hy;exact hg' x hx
    ·intro x hx;rcases List.mem_append.1 hx with hx | hx
     ·exact hc.2 x hx
     ·rw [List.mem_singleton] at hx;subst hx;simp
    ·constructor
     ·rintro ⟨x,hx,h2,h3⟩;rcases List.mem_append.1 hx with hx | hx
      ·have:=(hv i).1 ⟨x,hx,h2,h3⟩;exact ⟨by omega,this.2⟩
      ·rw [List.mem_singleton] at hx;subst hx;simp only at h2 h3;have:i=n:=by omega
       subst this;exact ⟨by omega,h1⟩
     ·rintro ⟨h2,h3⟩;by_cases ei:i=n
      ·subst ei;exact ⟨(i,1),by simp,by simp,by simp⟩
      ·obtain ⟨x,hx,h4,h5⟩:=(hv i).2 ⟨by omega,h3⟩;exact ⟨x,by simp [hx],h4,h5⟩
    ·intro x hx;rcases List.mem_append.1 hx with hx | hx
     ·have:=he x hx;omega
     ·rw [List.mem_singleton] at hx;subst hx;simp
    ·rcases h with h | h
     ·omega
     ·rw [show n+1 - 1=n by omega,h1] at h;cases h
structure Fr where
 lo:Nat
 L:List Bool
structure Spn where
 a:Int
 k:Int
def lenF (n:Int):Nat:=if n > 16384 then 16384 else n.toNat
def newFr (m n:Int):Fr:=⟨m.toNat,(List.range (lenF n)).map (fun i=>decide (m.toNat<=i))⟩
def Fr.all (f:Fr) (s:Spn) (b:Bool):Bool:=decide (1<=s.k/\(f.lo:Int)<=s.a/\s.a < f.L.length/\s.k<=f.L.length - s.a) && allb f.L s.a.toNat s.k.toNat b
def Fr.put (f:Fr) (s:Spn) (b:Bool):Fr:={ f with L:=setR f.L s.a.toNat b s.k.toNat }
def Fr.claim (f:Fr) (s:Spn):Bool × Fr:=if f.all s true=true then (true,f.put s false) else (false,f)
def Fr.give (f:Fr) (s:Spn):Bool × Fr:=if f.all s false=true then (true,f.put s true) else (false,f)
def Fr.first (f:Fr) (n:Int):Option Nat:=(List.range f.L.length).find? (fun i=>f.all ⟨i,n⟩ true)
def Fr.take (f:Fr) (n:Int):(Int × Bool) × Fr :=
 match f.first n with
 | some i=>((i,true),f.put ⟨i,n⟩ false)
 | none=>((0,false),f)
def Fr.rows (f:Fr):List (Nat × Nat):=ZK f.L f.L.length
structure OkFr (f:Fr):Prop where
 len:f.L.length<=16384
 low:∀ i,i < f.lo->f.L.getD i false=false
theorem newFr_ok (m n:Int):OkFr (newFr m n):=by
 refine ⟨?_,fun i hi=>?_⟩
 ·simp [newFr,lenF];split <;> omega
 ·simp only [newFr] at hi ⊢;rw [List.getD_eq_getElem?_getD,List.getElem?_map];by_cases h:i < lenF n
  ·rw [List.getElem?_range h];simp;omega
  ·rw [List.getElem?_eq_none (by simpa using h)];rfl
theorem Fr.put_len (f:Fr) (s:Spn) (b:Bool):(f.put s b).L.length=f.L.length:=setR_len _ _ _ _
theorem all_iff {f:Fr} {s:Spn} {b:Bool}:f.all s b=true↔(1<=s.k/\(f.lo:Int)<=s.a/\s.a.toNat+s.k.toNat<=f.L.length/\∀ i,s.a.toNat<=i->i < s.a.toNat+s.k.toNat->f.L[i]?=some b):=by
 unfold Fr.all;rw [Bool.and_eq_true,decide_eq_true_eq];constructor
 ·rintro ⟨⟨h1,h2,h3,h4⟩,h5⟩;have h6:s.a.toNat+s.k.toNat<=f.L.length:=by omega
  exact ⟨h1,h2,h6,(allb_iff h6).1 h5⟩
 ·rintro ⟨h1,h2,h3,h4⟩;exact ⟨⟨h1,h2,by omega,by omega⟩,(allb_iff h3).2 h4⟩
theorem put_ok {f:Fr} (h:OkFr f) {s:Spn} (hs:(f.lo:Int)<=s.a) (b:Bool):OkFr (f.put s b):=by
 refine ⟨by rw [Fr.put_len];exact h.len,fun i hi=>?_⟩;have:=h.low i hi;show (setR f.L s.a.toNat b s.k.toNat).getD i false=false
 rw [List.getD_eq_getElem?_getD,setR_at,if_neg (by have:(f.put s b).lo=f.lo:=rfl;omega),<- List.getD_eq_getElem?_getD];exact this
theorem first_some {f:Fr} {n:Int} {i:Nat} (h:f.first n=some i):i < f.L.length/\f.all ⟨i,n⟩ true=true/\∀ j,j < i->f.all ⟨j,n⟩ true=false:=by
 unfold Fr.first at h
 rw [List.find?_range_eq_some] at h;refine ⟨by simpa using h.2.1,h.1,fun j hj=>?_⟩;simpa using h.2.2 j hj
theorem rows_can (f:Fr):Can f.rows:=(spans_all f.L f.L.length).1
theorem rows_cov (f:Fr) (i:Nat):cov f.rows i↔f.L[i]?=some true:=by
 rw [show cov f.rows i↔_ from (spans_all f.L f.L.length).2.1 i];constructor
 ·rintro ⟨h1,h2⟩;rw [List.getD_eq_getElem?_getD] at h2;rw [List.getElem?_eq_getElem h1] at h2 ⊢;simpa using h2
 ·intro h;have h1:=(List.getElem?_eq_some_iff.1 h).1;exact ⟨h1,by rw [List.getD_eq_getElem?_getD,h];rfl⟩
theorem rows_unique {f:Fr} {R:List (Nat × Nat)} (h:Can R) (hc:∀ i,cov R i↔f.L[i]?=some true):R=f.rows :=
 can_unique h (rows_can f) (fun i=>(hc i).trans (rows_cov f i).symm)
theorem can_next {R:List (Nat × Nat)} (h:Can R) {x:Nat × Nat} (hx:x ∈ R) (hc:cov R (x.1+x.2)):False:=by
 obtain ⟨y,hy,h1,h2⟩:=hc;rcases List.mem_iff_getElem.1 hx with ⟨i,hi,rfl⟩
 rcases List.mem_iff_getElem.1 hy with ⟨j,hj,rfl⟩
 have hp:=List.pairwise_iff_getElem.1 h.1;rcases Nat.lt_trichotomy i j with hl | hl | hl
 ·have:=hp i j hi hj hl;omega
 ·subst hl;omega
 ·have:=hp j i hj hi hl;omega
theorem can_within {R:List (Nat × Nat)} (h:Can R) {x:Nat × Nat} (hx:x ∈ R) {i n:Nat} (_:x.1<=i) (h2:i < x.1+x.2) (hc:∀ j,i<=j->j < i+n->cov R j):i+n<=x.1+x.2:=by
 rcases Nat.lt_or_ge (x.1+x.2) (i+n) with hl | hl
 ·exact (can_next h hx (hc _ (by omega) hl)).elim
 ·exact hl
theorem row_all {f:Fr} (ok:OkFr f) {x:Nat × Nat} (hx:x ∈ f.rows) {n:Int} (hn:1<=n) (hk:n<=x.2):f.all ⟨x.1,n⟩ true=true:=by
 have hc:∀ j,x.1<=j->j < x.1+x.2->f.L[j]?=some true:=fun j h1 h2=>(rows_cov f j).1 ⟨x,hx,h1,h2⟩
 have h0:=hc x.1 (Nat.le_refl _) (by omega);have hl:=(List.getElem?_eq_some_iff.1 (hc (x.1+n.toNat - 1) (by omega) (by omega))).1;refine all_iff.2 ⟨hn,?_,?_,fun i h1 h2=>hc i (by simpa using h1) (by simp at h2;omega)⟩
 ·rcases Nat.lt_or_ge x.1 f.lo with h | h
  ·have:=ok.low x.1 h;rw [List.getD_eq_getElem?_getD,h0] at this;cases this
  ·simp only;omega
 ·simp only [Int.toNat_natCast];omega
theorem first_rows {f:Fr} (ok:OkFr f) {n:Int} (hn:1<=n):f.first n=(f.rows.find? (fun x=>decide (n<=x.2))).map (·.1):=by
 cases hr:f.rows.find? (fun x=>decide (n<=x.2)) with
 | none =>
  rw [List.find?_eq_none] at hr;cases hf:f.first n with
  | none=>rfl
  | some i =>
   obtain ⟨hi,ha,_⟩:=first_some hf;obtain ⟨_,_,h3,h4⟩:=all_iff.1 ha;simp only [Int.toNat_natCast] at h3 h4;obtain ⟨x,hx,h5,h6⟩:=(rows_cov f i).2 (h4 i (Nat.le_refl _) (by omega));have:=can_within (rows_can f) hx h5 h6 (n:=n.toNat) (fun j q1 q2=>(rows_cov f j).2 (h4 j q1 q2));exact absurd (decide_eq_true (show n<=(x.2:Int) by omega)) (by simpa using hr x hx)
 | some x =>
  have hx:=List.mem_of_find?_eq_some hr
  have hk:n<=(x.2:Int):=by simpa using List.find?_some hr
  have ha:=row_all ok hx hn hk
  have hl:x.1 < f.L.length:=by
   have:=(all_iff.1 ha).2.2.1;simp only [Int.toNat_natCast] at this;omega
  show (List.range f.L.length).find? (fun i:Nat=>f.all ⟨i,n⟩ true)=some x.1
  rw [List.find?_range_eq_some];refine ⟨ha,by simpa using hl,fun j hj=>?_⟩;cases hja:f.all ⟨j,n⟩ true
  ·rfl
  ·exfalso
   obtain ⟨_,_,h3,h4⟩:=all_iff.1 hja;simp only [Int.toNat_natCast] at h3 h4;obtain ⟨y,hy,h5,h6⟩:=(rows_cov f j).2 (h4 j (Nat.le_refl _) (by omega));have hw:=can_within (rows_can f) hy h5 h6 (n:=n.toNat) (fun i q1 q2=>(rows_cov f i).2 (h4 i q1 q2));have hny:n<=(y.2:Int):=by omega
   obtain ⟨_,as,bs,he,hno⟩:=List.find?_eq_some_iff_append.1 hr
   have hyx:y ∈ as\/y=x\/y ∈ bs:=by
    rw [he] at hy;simpa using hy
   have hcan:=(rows_can f).1;rw [he,List.pairwise_append] at hcan;rcases hyx with h | h | h
   ·have:=hno y h;simp at this
    omega
   ·subst h;omega
   ·have:=(List.pairwise_cons.1 hcan.2.1).1 y h;omega
def wnb (s:Spn) (x:Nat × Nat):Bool:=decide (1<=s.k) && (decide ((x.1:Int)<=s.a) && decide (s.k<=(x.2:Int) - (s.a - x.1)))
def mtb (s:Spn) (x:Nat × Nat):Bool:=decide (s.a < (x.1:Int)+x.2) && decide ((x.1:Int) < s.a+s.k)
def ftb (n:Int) (x:Nat × Nat):Bool:=decide (1<=n) && decide (n<=(x.2:Int))
theorem wnb_iff {s:Spn} {x:Nat × Nat}:wnb s x=true↔(1<=s.k/\(x.1:Int)<=s.a/\s.a+s.k<=x.1+x.2):=by
 unfold wnb;simp only [Bool.and_eq_true,decide_eq_true_eq];omega
theorem mtb_iff {s:Spn} {x:Nat × Nat}:mtb s x=true↔(s.a < x.1+x.2/\(x.1:Int) < s.a+s.k):=by
 unfold mtb;simp only [Bool.and_eq_true,decide_eq_true_eq]
theorem ftb_iff {n:Int} {x:Nat × Nat}:ftb n x=true↔(1<=n/\n<=x.2):=by
 unfold ftb;simp only [Bool.and_eq_true,decide_eq_true_eq]
theorem cov_app {A B:List (Nat × Nat)} {i:Nat}:cov (A++B) i↔cov A i\/cov B i:=by
 constructor
 ·rintro ⟨x,hx,h⟩;rcases List.mem_append.1 hx with hx | hx
  ·exact .inl ⟨x,hx,h⟩
  ·exact .inr ⟨x,hx,h⟩
 ·rintro (⟨x,hx,h⟩ | ⟨x,hx,h⟩)
  ·exact ⟨x,by simp [hx],h⟩
  ·exact ⟨x,by simp [hx],h⟩
theorem cov_one {x:Nat × Nat} {i:Nat}:cov [x] i↔(x.1<=i/\i < x.1+x.2):=by
 constructor
 ·rintro ⟨y,hy,h⟩;rw [List.mem_singleton] at hy;subst hy;exact h
 ·exact fun h=>⟨x,by simp,h⟩
theorem cov_nil {i:Nat}:¬ cov [] i:=by rintro ⟨x,hx,_⟩;cases hx
theorem row_low {f:Fr} (ok:OkFr f) {x:Nat × Nat} (hx:x ∈ f.rows):f.lo<=x.1/\x.1+x.2<=f.L.length/\1<=x.2:=by
 have h1:=(rows_can f).2 x hx;have h:=all_iff.1 (row_all ok hx (n:=(x.2:Int)) (by omega) (Int.le_refl _));simp only [Int.toNat_natCast] at h;omega
theorem all_rows {f:Fr} (ok:OkFr f) (s:Spn):f.all s true=f.rows.any (wnb s):=by
 rw [Bool.eq_iff_iff,List.any_eq_true,all_iff];constructor
 ·rintro ⟨h1,h2,h3,h4⟩;obtain ⟨x,hx,h5,h6⟩:=(rows_cov f s.a.toNat).2 (h4 _ (Nat.le_refl _) (by omega));have:=can_within (rows_can f) hx h5 h6 (n:=s.k.toNat) (fun j q1 q2=>(rows_cov f j).2 (h4 j q1 q2));exact ⟨x,hx,wnb_iff.2 ⟨h1,by omega,by omega⟩⟩
 ·rintro ⟨x,hx,h⟩;obtain ⟨h1,h2,h3⟩:=wnb_iff.1 h;have hl:=row_low ok hx;exact ⟨h1,by omega,by omega,fun i q1 q2=>(rows_cov f i).1 ⟨x,hx,by omega,by omega⟩⟩
def Fr.whole (f:Fr):Nat × Nat:=if f.lo < f.L.length then (f.lo,f.L.length - f.lo) else (0,0)
theorem all_none {f:Fr} (s:Spn):f.all s false=(wnb s f.whole && !(f.rows.any (mtb s))):=by
 rw [Bool.eq_iff_iff,all_iff,Bool.and_eq_true,Bool.not_eq_true',wnb_iff,List.any_eq_false];constructor
 ·rintro ⟨h1,h2,h3,h4⟩;have hw:f.whole=(f.lo,f.L.length - f.lo):=by unfold Fr.whole;rw [if_pos (by omega)]
  rw [hw];refine ⟨⟨h1,h2,by simp only;omega⟩,fun x hx hm=>?_⟩;obtain ⟨h5,h6⟩:=mtb_iff.1 hm;have hp:=(rows_can f).2 x hx;have h7:=(rows_cov f (max x.1 s.a.toNat)).1 ⟨x,hx,by omega,by omega⟩;rw [h4 _ (by omega) (by omega)] at h7;cases h7
 ·rintro ⟨⟨h1,h2,h3⟩,h4⟩;unfold Fr.whole at h2 h3;split at h2
  ·next hl =>
   rw [if_pos hl] at h3;simp only at h2 h3;refine ⟨h1,h2,by omega,fun i q1 q2=>?_⟩;have hi:i < f.L.length:=by omega
   cases hb:f.L[i] with
   | false=>rw [List.getElem?_eq_getElem hi,hb]
   | true =>
    obtain ⟨x,hx,h5,h6⟩:=(rows_cov f i).2 (by rw [List.getElem?_eq_getElem hi,hb]);exact absurd (mtb_iff.2 ⟨by omega,by omega⟩) (h4 x hx)
  ·next hl =>
   rw [if_neg hl] at h3;simp only at h2 h3;omega
def leftOf (s:Spn) (x:Nat × Nat):List (Nat × Nat):=(if (x.1:Int) < s.a then [(x.1,s.a.toNat - x.1)] else [])++(if s.a+s.k < (x.1:Int)+x.2 then [((s.a+s.k).toNat,x.1+x.2 - (s.a+s.k).toNat)] else [])
theorem cut_rows {f:Fr} {s:Spn} {x:Nat × Nat} {I:Nat} (hI:f.rows[I]?=some x) (hs:wnb s x=true):f.rows.take I++leftOf s x++f.rows.drop (I+1)=(f.put s false).rows:=by
 obtain ⟨h1,h2,h3⟩:=wnb_iff.1 hs;have hIl:=(List.getElem?_eq_some_iff.1 hI).1
 have hR:f.rows=f.rows.take I++x :: f.rows.drop (I+1):=by
  have:=List.take_append_drop I f.rows;rw [List.drop_eq_getElem_cons hIl,(List.getElem?_eq_some_iff.1 hI).2] at this;exact this.symm
 have hcan:=rows_can f;have hcov:=rows_cov f;generalize f.rows.take I=A at *;generalize f.rows.drop (I+1)=B at *;rw [hR] at hcan hcov;have hp:=List.pairwise_append.1 hcan.1;have hpB:=List.pairwise_cons.1 hp.2.1;have hAx:∀ y ∈ A,y.1+y.2 < x.1:=fun y hy=>hp.2.2 y hy x (by simp)
 have hxB:∀ z ∈ B,x.1+x.2 < z.1:=hpB.1
 have hlc:∀ i,cov (leftOf s x) i↔((x.1<=i/\i < x.1+x.2)/\¬ (s.a.toNat<=i/\i < s.a.toNat+s.k.toNat)):=by
  intro i;unfold leftOf;rw [cov_app];by_cases q1:(x.1:Int) < s.a
  ·by_cases q2:s.a+s.k < (x.1:Int)+x.2
   ·rw [if_pos q1,if_pos q2,cov_one,cov_one];simp only;omega
   ·rw [if_pos q1,if_neg q2,cov_one];simp only [cov_nil,or_false];omega
  ·by_cases q2:s.a+s.k < (x.1:Int)+x.2
   ·rw [if_neg q1,if_pos q2,cov_one];simp only [cov_nil,false_or];omega
   ·rw [if_neg q1,if_neg q2];exact ⟨fun h=>h.elim (fun h=>(cov_nil h).elim) (fun h=>(cov_nil h).elim),fun h=>by omega⟩
 have hlm:∀ y ∈ leftOf s x,x.1<=y.1/\y.1+y.2<=x.1+x.2/\1<=y.2:=by
  intro y hy;unfold leftOf at hy;rcases List.mem_append.1 hy with hy | hy
  ·split at hy
   ·rw [List.mem_singleton] at hy;subst hy;simp only;omega
   ·cases hy
  ·split at hy
   ·rw [List.mem_singleton] at hy;subst hy;simp only;omega
   ·cases hy
 have hlp:(leftOf s x).Pairwise (fun x y=>x.1+x.2 < y.1):=by
  unfold leftOf;rw [List.pairwise_append];refine ⟨?_,?_,fun y hy z hz=>?_⟩
  ·split
   ·exact List.pairwise_singleton _ _
   ·exact List.Pairwise.nil
  ·split
   ·exact List.pairwise_singleton _ _
   ·exact List.Pairwise.nil
  ·split at hy
   ·split at hz
    ·rw [List.mem_singleton] at hy hz;subst hy;subst hz;simp only;omega
    ·cases hz
   ·cases hy
 refine rows_unique ⟨?_,?_⟩ (fun i=>?_)
 ·rw [List.append_assoc,List.pairwise_append,List.pairwise_append];refine ⟨hp.1,⟨hlp,hpB.2,fun y hy z hz=>?_⟩,fun y hy z hz=>?_⟩
  ·have:=hlm y hy;have:=hxB z hz;omega
  ·have q:=hAx y hy;rcases List.mem_append.1 hz with hz | hz
   ·have:=hlm z hz;omega
   ·have:=hxB z hz;omega
 ·intro y hy;rcases List.mem_append.1 hy with hy | hy
  ·rcases List.mem_append.1 hy with hy | hy
   ·exact hcan.2 y (by simp [hy])
   ·exact (hlm y hy).2.2
  ·exact hcan.2 y (by simp [hy])
 ·have hat:=setR_at f.L s.a.toNat false s.k.toNat i;have e:(f.put s false).L[i]?=(setR f.L s.a.toNat false s.k.toNat)[i]?:=rfl;rw [e,hat,cov_app,cov_app,hlc];have hc:=hcov i;rw [cov_app,show x :: B=[x]++B from rfl,cov_app,cov_one] at hc;by_cases q:s.a.toNat<=i/\i < s.a.toNat+s.k.toNat/\i < f.L.length
  ·rw [if_pos q];refine ⟨fun h=>?_,fun h=>by cases h⟩;exfalso
   rcases h with (⟨y,hy,r⟩ | h) | ⟨y,hy,r⟩
   ·have:=hAx y hy;omega
   ·omega
   ·have:=hxB y hy;omega
  ·rw [if_neg q,<- hc];have hx3:∀ i,x.1<=i->i < x.1+x.2->i < f.L.length:=fun i q1 q2=>(List.getElem?_eq_some_iff.1 ((hcov i).1 ⟨x,by simp,q1,q2⟩)).1
   constructor
   ·rintro ((h | h) | h)
    ·exact .inl h
    ·exact .inr (.inl h.1)
    ·exact .inr (.inr h)
   ·rintro (h | h | h)
    ·exact .inl (.inl h)
    ·refine .inl (.inr ⟨h,fun r=>q ⟨r.1,r.2,hx3 i h.1 h.2⟩⟩)
    ·exact .inr h
def idx (P:Nat × Nat->Bool) (R:List (Nat × Nat)):Int:=match R.findIdx? P with
 | some i=>i
 | none=>-1
theorem idx_some {P:Nat × Nat->Bool} {R:List (Nat × Nat)} {i:Nat} {x:Nat × Nat} (hx:R[i]?=some x) (hp:P x=true) (hb:∀ j y,j < i->R[j]?=some y->P y=false):idx P R=i:=by
 have:R.findIdx? P=some i:=by
  rw [List.findIdx?_eq_some_iff_getElem];obtain ⟨hl,he⟩:=List.getElem?_eq_some_iff.1 hx
  refine ⟨hl,by rw [he];exact hp,fun j hj=>?_⟩;simp [hb j _ hj (List.getElem?_eq_getElem (Nat.lt_trans hj hl))]
 unfold idx;rw [this]
theorem idx_none {P:Nat × Nat->Bool} {R:List (Nat × Nat)} (h:∀ (j:Nat) y,R[j]?=some y->P y=false):idx P R=-1:=by
 have:R.findIdx? P=none:=by
  rw [List.findIdx?_eq_none_iff];intro x hx;obtain ⟨j,hj⟩:=List.getElem?_of_mem hx
  exact h j x hj
 unfold idx;rw [this]
theorem idx_cases (P:Nat × Nat->Bool) (R:List (Nat × Nat)):(∃ (i:Nat) (x:Nat × Nat),idx P R=i/\R[i]?=some x/\P x=true/\∀ (j:Nat) (y:Nat × Nat),j < i->R[j]?=some y->P y=false)\/(idx P R=-1/\∀ y ∈ R,P y=false):=by
 unfold idx;cases h:R.findIdx? P with
 | none =>
  right
  rw [List.findIdx?_eq_none_iff] at h;exact ⟨rfl,h⟩
 | some i =>
  left
  rw [List.findIdx?_eq_some_iff_getElem] at h;obtain ⟨hl,h1,h2⟩:=h;refine ⟨i,R[i],rfl,List.getElem?_eq_getElem hl,h1,fun j y hj hy=>?_⟩;have:=h2 j hj;obtain ⟨_,e⟩:=List.getElem?_eq_some_iff.1 hy
  rw [e] at this;simpa using this
theorem find_first {f:Fr} (ok:OkFr f) {n:Int} {i:Nat} {x:Nat × Nat} (hx:f.rows[i]?=some x) (hp:ftb n x=true) (hb:∀ j y,j < i->f.rows[j]?=some y->ftb n y=false):f.first n=some x.1:=by
 obtain ⟨h1,h2⟩:=ftb_iff.1 hp
 have:f.rows.find? (fun x=>decide (n<=(x.2:Int)))=some x:=by
  rw [List.find?_eq_some_iff_getElem];obtain ⟨hl,he⟩:=List.getElem?_eq_some_iff.1 hx
  refine ⟨by simpa using h2,i,hl,he,fun j hj=>?_⟩;have:=hb j _ hj (List.getElem?_eq_getElem (Nat.lt_trans hj hl));unfold ftb at this;rw [decide_eq_true h1,Bool.true_and] at this;simp [this]
 rw [first_rows ok h1,this];rfl
theorem find_none {f:Fr} (ok:OkFr f) {n:Int} (hb:∀ y ∈ f.rows,ftb n y=false):f.first n=none:=by
 by_cases h1:1<=n
 ·have:f.rows.find? (fun x=>decide (n<=(x.2:Int)))=none:=by
   rw [List.find?_eq_none];intro y hy;have:=hb y hy;unfold ftb at this;rw [decide_eq_true h1,Bool.true_and] at this;simp [this]
  rw [first_rows ok h1,this];rfl
 ·unfold Fr.first
  rw [List.find?_eq_none];intro j _;rw [Bool.not_eq_true];cases q:f.all ⟨j,n⟩ true with
  | false=>rfl
  | true=>exact absurd (all_iff.1 q).1 h1
def be:Nat->Nat->List Int
 | 0,_=>[]
 | k+1,n=>((n / 256 ^ k % 256:Nat):Int) :: be k n
theorem be_len:∀ (k n:Nat),(be k n).length=k
 | 0,_=>rfl
 | k+1,n=>by simp [be,be_len k n]
theorem be_byt:∀ (k n:Nat),∀ z ∈ be k n,0<=z/\z<=255
 | 0,_=>by simp [be]
 | k+1,n=>by
  intro z hz;simp only [be,List.mem_cons] at hz;rcases hz with rfl | hz
  ·have:n / 256 ^ k % 256 < 256:=Nat.mod_lt _ (by decide);omega
  ·exact be_byt k n z hz
def numN (l:List Int):Nat:=l.foldl (fun n x=>n * 256+x.toNat) 0
theorem fold_be:∀ (k n acc:Nat),(be k n).foldl (fun n x=>n * 256+x.toNat) acc=acc * 256 ^ k+n % 256 ^ k
 | 0,n,acc=>by simp [be,Nat.mod_one]
 | k+1,n,acc=>by
  simp only [be,List.foldl_cons,Int.toNat_natCast];rw [fold_be k n,Nat.mod_pow_succ,Nat.pow_succ]
  have e:(acc * 256+n / 256 ^ k % 256) * 256 ^ k=acc * (256 ^ k * 256)+256 ^ k * (n / 256 ^ k % 256):=by
   rw [Nat.add_mul,Nat.mul_assoc,Nat.mul_comm 256 (256 ^ k),Nat.mul_comm (n / 256 ^ k % 256)]
  rw [e];omega
theorem num_be {k n:Nat} (h:n < 256 ^ k):numN (be k n)=n:=by
 unfold numN;rw [fold_be,Nat.zero_mul,Nat.zero_add,Nat.mod_eq_of_lt h]
theorem fold_lt:∀ {l:List Int} (acc:Nat),(∀ z ∈ l,0<=z/\z<=255)->l.foldl (fun n x=>n * 256+x.toNat) acc < (acc+1) * 256 ^ l.length
 | [],acc,_=>by simp
 | x :: l,acc,h=>by
  have h1:=h x (by simp);have ih:=fold_lt (l:=l) (acc * 256+x.toNat) (fun z hz=>h z (by simp [hz]));rw [List.foldl_cons,List.length_cons,Nat.pow_succ];refine Nat.lt_of_lt_of_le ih ?_;rw [Nat.mul_comm (256 ^ l.length) 256,<- Nat.mul_assoc];exact Nat.mul_le_mul_right _ (by omega)
theorem num_lt {l:List Int} (h:∀ z ∈ l,0<=z/\z<=255):numN l < 256 ^ l.length:=by
 have:=fold_lt (l:=l) 0 h;simpa [numN] using this
theorem num_snoc {l:List Int} {k:Nat} {x:Int} (h:l[k]?=some x):numN (l.take (k+1))=numN (l.take k) * 256+x.toNat:=by
 rw [List.take_add_one,h];simp [numN,List.foldl_append]
structure Sup where
 e:Nat
 st:Nat
 pg:Nat
 sz:Nat
structure Sup.Ok (s:Sup):Prop where
 e:s.e < 18446744073709551616
 st:s.st < 4294967296
 pg:s.pg < 4294967296
 sz:s.sz < 4294967296
def Sup.cells (s:Sup):List Value:=[.int .u64 s.e,.int .u32 s.st,.int .u32 s.pg,.int .u32 s.sz]
def Sup.val (s:Sup):Value:=.agg s.cells.toArray
def Sup.none:Sup:=⟨0,0,0,0⟩
def apog:List Int:=[97,112,111,103]
def Zh (s:Sup):List Int:=be 8 s.e++(be 4 s.st++(be 4 s.pg++(be 4 s.sz++(apog++be 8 s.e))))
theorem ZT (s:Sup):(Zh s).length=32:=by simp [Zh,be_len,apog]
theorem superB_byt (s:Sup):∀ z ∈ Zh s,0<=z/\z<=255:=by
 intro z hz;simp only [Zh,List.mem_append] at hz;rcases hz with h | h | h | h | h | h
 ·exact be_byt _ _ z h
 ·exact be_byt _ _ z h
 ·exact be_byt _ _ z h
 ·exact be_byt _ _ z h
 ·simp [apog] at h;omega
 ·exact be_byt _ _ z h
def rdSup (l:List Int):Sup:=⟨numN (l.take 8),numN ((l.drop 8).take 4),numN ((l.drop 12).take 4),numN ((l.drop 16).take 4)⟩
theorem take8 (s:Sup):(Zh s).take 8=be 8 s.e:=by
 unfold Zh;rw [List.take_left' (be_len 8 s.e)]
theorem drop24 (s:Sup):(Zh s).drop 24=be 8 s.e:=by
 have e:Zh s=(be 8 s.e++(be 4 s.st++(be 4 s.pg++(be 4 s.sz++apog))))++be 8 s.e:=by simp [Zh]
 rw [e,List.drop_left' (by simp [be_len,apog])]
theorem rdSup_superB {s:Sup} (h:s.Ok):rdSup (Zh s)=s:=by
 have e1:(Zh s).take 8=be 8 s.e:=take8 s
 have e2:((Zh s).drop 8).take 4=be 4 s.st:=by
  unfold Zh;rw [List.drop_left' (be_len 8 s.e),List.take_left' (be_len 4 s.st)]
 have e3:((Zh s).drop 12).take 4=be 4 s.pg:=by
  have e:Zh s=(be 8 s.e++be 4 s.st)++(be 4 s.pg++(be 4 s.sz++(apog++be 8 s.e))):=by simp [Zh]
  rw [e,List.drop_left' (by simp [be_len]),List.take_left' (be_len 4 s.pg)]
 have e4:((Zh s).drop 16).take 4=be 4 s.sz:=by
  have e:Zh s=(be 8 s.e++(be 4 s.st++be 4 s.pg))++(be 4 s.sz++(apog++be 8 s.e)):=by simp [Zh]
  rw [e,List.drop_left' (by simp [be_len]),List.take_left' (be_len 4 s.sz)]
 unfold rdSup;rw [e1,e2,e3,e4,num_be (k:=8) (by have:=h.e;simpa using this),num_be (k:=4) (by have:=h.st;simpa using this),num_be (k:=4) (by have:=h.pg;simpa using this),num_be (k:=4) (by have:=h.sz;simpa using this)]
theorem rdSup_ok {l:List Int} (h:∀ z ∈ l,0<=z/\z<=255):(rdSup l).Ok:=by
 have f:∀ (a k:Nat),numN ((l.drop a).take k) < 256 ^ k:=fun a k=>by
  have h1:=num_lt (l:=(l.drop a).take k) (fun z hz=>h z (List.mem_of_mem_drop (List.mem_of_mem_take hz)));refine Nat.lt_of_lt_of_le h1 (Nat.pow_le_pow_right (by decide) (by simp;omega))
 have f0:=f 0 8;rw [List.drop_zero] at f0;exact ⟨by simpa [rdSup] using f0,by simpa [rdSup] using f 8 4,by simpa [rdSup] using f 12 4,by simpa [rdSup] using f 16 4⟩
def ZX (l:List Int):Bool:=l.length == 32 && (rdSup l).e != 0 && Zh (rdSup l) == l
def ZA (l:List Int):Sup:=if ZX l then rdSup l else Sup.none
theorem isSup_superB {s:Sup} (h:s.Ok):ZX (Zh s)=(s.e != 0):=by
 unfold ZX;rw [rdSup_superB h,ZT];simp
theorem supOf_superB {s:Sup} (h:s.Ok) (h0:s.e≠0):ZA (Zh s)=s:=by
 unfold ZA;rw [isSup_superB h,if_pos (by simpa using h0),rdSup_superB h]
theorem isSup_bytes {l:List Int} (h:ZX l=true):Zh (ZA l)=l/\(ZA l).e≠0:=by
 unfold ZA;rw [if_pos h];unfold ZX at h;simp only [Bool.and_eq_true,beq_iff_eq,bne_iff_ne] at h;exact ⟨h.2,h.1.2⟩
theorem supOf_ok {l:List Int} (h:∀ z ∈ l,0<=z/\z<=255):(ZA l).Ok:=by
 unfold ZA;split
 ·exact rdSup_ok h
 ·exact ⟨by decide,by decide,by decide,by decide⟩
end
end Apo
