import Derived.Shelf.SlSorted.Search
import Derived.Test.YtdhebpnkfookcaaGreatSM21
set_option maxRecDepth 100000
set_option maxHeartbeats 400000
namespace Apo
open Go Go.RowKit
def Z3 (T:List (List Int)) (b:List Int):List (List Int):=if b ∈ T then T else T++[b]
theorem putT_has (T:List (List Int)) (b:List Int):b ∈ Z3 T b:=by unfold Z3;split <;> simp_all
theorem putT_keeps {T:List (List Int)} {b:List Int} {i:Nat} {t:List Int} (h:T[i]?=some t):(Z3 T b)[i]?=some t:=by
 unfold Z3;split
 ·exact h
 ·rw [List.getElem?_append_left (List.getElem?_eq_some_iff.1 h).1];exact h
theorem putT_len (T:List (List Int)) (b:List Int):(Z3 T b).length<=T.length+1:=by unfold Z3;split <;> simp
def getT (T:List (List Int)) (id:Nat):List Int × Int:=if id=0 then ([],3) else match T[id - 1]? with | some t=>(t,0) | none=>([],3)
def pgT (T:List (List Int)):Nat:=1+(T.map (fun t=>Zc (t.length:Int))).sum
theorem pgT_app (T U:List (List Int)):pgT (T++U)=pgT T+(U.map (fun t=>Zc (t.length:Int))).sum:=by
 unfold pgT;rw [List.map_append,List.sum_append];omega
theorem pgT_put (T:List (List Int)) (b:List Int):pgT T<=pgT (Z3 T b)/\pgT (Z3 T b)<=pgT T+Zc (b.length:Int):=by
 unfold Z3;split
 ·omega
 ·rw [pgT_app];simp
theorem pgT_new {T:List (List Int)} {b:List Int} (h:b ∉ T):pgT (Z3 T b)=pgT T+Zc (b.length:Int):=by
 unfold Z3;rw [if_neg h,pgT_app];simp
theorem need_one {n:Nat} (h:n<=131072):1<=Zc (n:Int):=by
 unfold Zc;rw [if_neg (by omega)];split <;> omega
theorem pgT_len:∀ {T:List (List Int)},(∀ t ∈ T,t.length<=131072)->T.length+1<=pgT T
 | [],_=>by simp [pgT]
 | t :: T,h=>by
  have h1:=pgT_len (T:=T) (fun x hx=>h x (by simp [hx]));have h2:=need_one (h t (by simp));unfold pgT at h1 ⊢;simp only [List.map_cons,List.sum_cons,List.length_cons];omega
end Apo
namespace Go.Proofs.YtdhebpnkfookcaaGreat
open Go.RowKit Apo
structure Sta (S:Cs) (T:List (List Int)):Prop where
 ex:∃ K m',Sto (Zl 16384).format.2.S ⟨1,0,0,0⟩ S [] K m'/\m'<=pgT T/\K.map (fun x=>x.2.2)=T/\K.map (fun x=>x.1)=(List.range T.length).map (·+1)
 al:Alive S.st
 nx:S.next=T.length+1
 sl:S.st.S.length=16384
 cl:S.st.C.length<=T.length * 4232
 sz:∀ t ∈ T,t.length<=131072
theorem sta_new:Sta (newCs 16384) []:=by
 have h8:8<=lenOf 16384:=by decide
 obtain ⟨a1,a2,a3,a4⟩:=newCs_st h8;exact ⟨⟨[],1,sto_new h8,by simp [pgT],rfl,rfl⟩,a1,a4,by rw [a3];decide,by rw [a2];simp,fun t ht=>by simp at ht⟩
section
variable {S S':Cs} {T:List (List Int)} {id:Nat} {er:Int} {b:List Int}
theorem Sta.nodup (h:Sta S T):T.Nodup:=by
 obtain ⟨K,m',h1,_,h3,_⟩:=h.ex;rw [<- h3,List.Nodup,List.pairwise_map];exact h1.txs
theorem Sta.put (h:Sta S T) (hb:∀ z ∈ b,0<=z/\z<=255) (hl:b.length<=131072) (hT:T.length<=16000) (hm:pgT (Z3 T b)<=4096) (hp:PutR S b id er S') :
  er=0/\(Z3 T b)[id - 1]?=some b/\1<=id/\Sta S' (Z3 T b):=by
 obtain ⟨K,m',h1,h2,h3,h4⟩:=h.ex;have hKl:K.length=T.length:=by rw [<- h3];simp
 rcases h1.put h.al hb hl (by rw [h.nx];omega) hp with ⟨x,hx,hxb,hid,her,hS⟩ | ⟨hno,⟨_,_,q⟩ | ⟨q1,q2,c,m2,q3,q4,q5,q6,q7,_,_,_,q8⟩⟩
 ·have hbT:b ∈ T:=by rw [<- h3,<- hxb];exact List.mem_map.2 ⟨x,hx,rfl⟩
  have hput:Z3 T b=T:=by unfold Z3;rw [if_pos hbT]
  obtain ⟨i,hi,hxi⟩:=List.mem_iff_getElem.1 hx;have hi1:(K.map (fun x=>x.1))[i]?=some x.1:=by rw [List.getElem?_map,List.getElem?_eq_getElem hi,hxi];rfl
  rw [h4,List.getElem?_map,List.getElem?_range (by omega)] at hi1;simp only [Option.map_some,Option.some.injEq] at hi1;have hi2:T[i]?=some b:=by rw [<- h3,List.getElem?_map,List.getElem?_eq_getElem hi,hxi,<- hxb];rfl
  rw [hput,hS];refine ⟨her,?_,by omega,⟨K,m',h1,by omega,h3,h4⟩,h.al,h.nx,h.sl,h.cl,h.sz⟩;rw [hid,<- hi1];exact hi2
 ·have hbT:b ∉ T:=by
   rw [<- h3];intro q;obtain ⟨x,hx,e⟩:=List.mem_map.1 q;exact hno x hx e
  have hpn:=pgT_new hbT;rw [h.sl] at q;omega
 ·have hbT:b ∉ T:=by
   rw [<- h3];intro q;obtain ⟨x,hx,e⟩:=List.mem_map.1 q;exact hno x hx e
  have hput:Z3 T b=T++[b]:=by unfold Z3;rw [if_neg hbT]
  have hpn:=pgT_new hbT;rw [hput] at hpn;rw [hput];refine ⟨q1,?_,by rw [q2,h.nx];omega,⟨_,m2,q3,by omega,?_,?_⟩,q5,?_,by rw [q7,h.sl],?_,fun t ht=>(List.mem_append.1 ht).elim (h.sz t) (fun z=>by simp at z;rw [z];exact hl)⟩
  ·rw [q2,h.nx];simp
  ·simp [h3]
  ·simp [h4,h.nx,List.range_succ]
  ·rw [q6,h.nx];simp
  ·have:=h.cl;simp
   omega
theorem Sta.get (h:Sta S T) (id:Nat):Cs.getId S id=getT T id:=by
 obtain ⟨K,m',h1,h2,h3,h4⟩:=h.ex;have hKl:K.length=T.length:=by rw [<- h3];simp
 unfold Cs.getId getT;rw [h1.en];simp only [Bool.false_eq_true,if_false];cases hch:S.ch id with
 | none =>
  simp only;split
  ·rfl
  ·next hid =>
   cases hT:T[id - 1]? with
   | none=>rfl
   | some t =>
    exfalso
    have hlt:=(List.getElem?_eq_some_iff.1 hT).1
    have h5:(K.map (fun x=>x.1))[id - 1]?=some id:=by
     rw [h4,List.getElem?_map,List.getElem?_range hlt];simp only [Option.map_some,Option.some.injEq];omega
    rw [List.getElem?_map,List.getElem?_eq_getElem (by omega)] at h5;simp only [Option.map_some,Option.some.injEq] at h5;have hmem:K[id - 1]'(by omega) ∈ K:=List.getElem_mem _;have:=(h1.ch id (K[id - 1]'(by omega)).2.1).2 ⟨(K[id - 1]'(by omega)).2.2,(show (id,(K[id - 1]'(by omega)).2.1,(K[id - 1]'(by omega)).2.2)=K[id - 1]'(by omega) from Prod.ext h5.symm rfl) ▸ hmem⟩;rw [hch] at this;cases this
 | some c =>
  obtain ⟨t,ht⟩:=(h1.ch id c).1 hch;have hg:=h1.get h.al.1 ht;have hpos:=(h1.ck _ ht).2.2.1;simp only at hpos hg ⊢;rw [if_neg (by omega),hg];obtain ⟨i,hi,hxi⟩:=List.mem_iff_getElem.1 ht;have hi1:(K.map (fun x=>x.1))[i]?=some id:=by rw [List.getElem?_map,List.getElem?_eq_getElem hi,hxi];rfl
  rw [h4,List.getElem?_map,List.getElem?_range (by omega)] at hi1;simp only [Option.map_some,Option.some.injEq] at hi1;have hi2:T[i]?=some t:=by rw [<- h3,List.getElem?_map,List.getElem?_eq_getElem hi,hxi];rfl
  have:id - 1=i:=by omega
  rw [this,hi2]
end
def TSw (w W:World) (s:Nat) (O:Nat->Prop) (T:List (List Int)) (_m:Nat):Prop:=∃ d S,LwS w W s d S O/\Sta S T
section
variable {w W W':World} {s m:Nat} {O:Nat->Prop} {T:List (List Int)}
theorem TSw.below (h:TSw w W s O T m) (b:Below W.heap.size W W'):TSw w W' s O T m:=by
 obtain ⟨d,S,h1,h2⟩:=h;exact ⟨d,S,h1.below b,h2⟩
theorem TSw.any (h:TSw w W s O T m) (m':Nat):TSw w W s O T m':=h
theorem TSw.bel (h:TSw w W s O T m):Below w.heap.size w W:=by obtain ⟨d,S,h1,h2⟩:=h;exact h1.bel
theorem TSw.lo (h:TSw w W s O T m):∀ i,O i->w.heap.size<=i:=by obtain ⟨d,S,h1,h2⟩:=h;exact h1.lo
theorem TSw.hi (h:TSw w W s O T m):∀ i,O i->i < W.heap.size:=by obtain ⟨d,S,h1,h2⟩:=h;exact h1.hi
theorem TSw.nodup (h:TSw w W s O T m):T.Nodup:=by obtain ⟨d,S,h1,h2⟩:=h;exact h2.nodup
theorem TSw.len (h:TSw w W s O T m):T.length+1<=pgT T:=by obtain ⟨d,S,h1,h2⟩:=h;exact pgT_len h2.sz
theorem TSw.onl {F:Nat->Prop} (h:TSw w W s O T m) (o:Onl F W W') (hF:∀ i,O i->¬ F i) (hw:∀ i,F i->w.heap.size<=i):TSw w W' s O T m:=by
 obtain ⟨d,S,h1,h2⟩:=h;exact ⟨d,S,⟨h1.c.onl o hF,h1.lo,fun i q=>Nat.lt_of_lt_of_le (h1.hi i q) o.size,Below.onl h1.bel o hw (Nat.le_refl _)⟩,h2⟩
def TPut (w W:World) (s:Nat) (O:Nat->Prop) (T:List (List Int)) (m:Nat) (b:List Int) (e:Ending) (W':World):Prop :=
 ∃ id:Nat,e=.returned (.tuple #[.int .u64 id,.int .i64 0])/\(Z3 T b)[id - 1]?=some b/\1<=id/\id<=T.length+1/\TSw w W' s (Gro O W W') (Z3 T b) (m+Zc b.length)/\Onl O W W'
theorem tput_any (h:TSw w W s O T m) (hT:T.length<=16000) (ba:Option Addr) (bcap:Nat) (b:List Int) (hr:Rd .u8 W ba b) (hrn:ba=none->bcap=0) (hrl:b.length<=bcap) (hl:b.length<=131072) (hby:∀ z ∈ b,0<=z/\z<=255) (hbo:∀ x,ba=some x->0 < b.length->¬ O x.block) (hm:pgT (Z3 T b)<=4096) :
  Calls Tryz.prog 33 #[.pointer (some ⟨s,0,none⟩),.slice ba b.length bcap] W (TPut w W s O T m b):=by
 obtain ⟨d,S,h1,h2⟩:=h;obtain ⟨K,m',k1,k2,k3,k4⟩:=h2.ex;have hKl:K.length=T.length:=by rw [<- k3];simp
 refine (lput h1 k1 (by omega) (by rw [h2.nx];omega) (by have:=h2.cl;omega) ba bcap b hr hrn hrl (by omega) hby hbo).mono ?_;rintro e W' ⟨id,er,S',O',e1,p1,l1,o1,rfl⟩;obtain ⟨rfl,q2,q3,q4⟩:=h2.put hby hl hT hm p1;refine ⟨id,e1,q2,q3,?_,⟨d,S',l1,q4⟩,o1⟩;have:=(List.getElem?_eq_some_iff.1 q2).1;have:=putT_len T b;omega
def TGet (T:List (List Int)) (id:Nat) (W:World) (e:Ending) (W':World):Prop:=∃ v,e=.returned (.tuple #[v,.int .i64 (getT T id).2])/\TldR W' W.heap.size v (getT T id).1/\Below W.heap.size W W'
theorem tget_any (h:TSw w W s O T m) (hT:T.length<=16000) (id:Nat) (hid:id < 18446744073709551616) :
  Calls Tryz.prog 41 #[.pointer (some ⟨s,0,none⟩),.int .u64 id] W (TGet T id W):=by
 obtain ⟨d,S,h1,h2⟩:=h;have:=hget_any h1.c (by have:=h2.cl;omega) id hid;unfold GetP at this;rw [h2.get] at this;exact this
end
end Go.Proofs.YtdhebpnkfookcaaGreat
namespace Apo
open Go Go.RowKit
def levelOf (n:Int):Int:=more fnvStart (strOfNums [n % 256])
def ends (n:Int) (key:ByteArray):Bool:=more (levelOf n) key / 1024 % 4 == 0
theorem levelOf_bd (n:Int):0<=levelOf n/\levelOf n<=18446744073709551615:=more_bd _ _ (by decide) (by decide)
end Apo
namespace Go.Proofs.YtdhebpnkfookcaaGreat
open Go.RowKit Apo
theorem conv_ones (n:Int) (w:World):(convert 41 9 (Value.slice (some { block:=w.heap.size,off:=0 }) 1 1)).run Tryz.prog (w.alloc (Obj.cells #[Value.int IntKind.u8 (n % 256)] 5))=.ok (.string (strOfNums [n % 256])) (w.alloc (Obj.cells #[Value.int IntKind.u8 (n % 256)] 5)) :=
 (rd_lit1 .u8 w 5 (n % 256)).conv 41 5 9 Tryz.underlying41 Tryz.underlying5 Tryz.underlying9 1
theorem one_size (n:Int):(strOfNums [n]).size<=1099511627776:=by rw [strOfNums_size];simp
theorem ends_any (n:Int) (key:ByteArray) (w:World) (hs:key.size<=1099511627776) :
  Calls Tryz.prog 188 #[.int .i64 n,.string key] w fun e w'=>e=.returned (.bool (ends n key))/\Below w.heap.size w w':=by
 have cv:=conv_ones n w;have hl:=levelOf_bd n;have hm:=more_bd key _ hl.1 hl.2;go_enter Tryz.func188,Tryz.ntmps188
 go_wp2_with fail
 refine (sum_any (strOfNums [n % 256]) _ (one_size _)).mono ?_;rintro e w1 ⟨rfl,rfl⟩;go_wp2_with fail
 refine (more_any (levelOf n) key _ hl.1 hl.2 hs).mono ?_;rintro e w1 ⟨rfl,rfl⟩;go_wp2;go_ret
 exact ⟨rfl,(Below.refl _ _).alloc (Nat.le_refl _) _⟩
end Go.Proofs.YtdhebpnkfookcaaGreat
namespace Apo
open Go Go.RowKit
structure En where
 k:ByteArray
 v:ByteArray
structure Ki where
 k:ByteArray
 i:Nat
structure Nd where
 lv:Int
 es:List En
 ks:List Ki
instance:Inhabited En:=⟨⟨ByteArray.empty,ByteArray.empty⟩⟩
instance:Inhabited Ki:=⟨⟨ByteArray.empty,0⟩⟩
def Z2 (k:ByteArray):Int:=if k.size < 1\/40 < k.size then 100 else 0
def valE (v:ByteArray):Int:=if 200 < v.size then 101 else 0
def Zf (lv:Int) (k:ByteArray):Bool:=decide (lv < 20) && ends lv k
def ZQ (a b:ByteArray):Bool:=Op.bytesLess a.toList b.toList
def enE (e:En):Int:=if Z2 e.k≠0 then Z2 e.k else valE e.v
def kiE (k:Ki):Int:=Z2 k.k
def ZE {α:Type} (f:α->Int):List α->Int
 | []=>0
 | x :: l=>if f x≠0 then f x else ZE f l
theorem firstE_none {α:Type} {f:α->Int}:∀ {l:List α},(∀ x ∈ l,f x=0)->ZE f l=0
 | [],_=>rfl
 | x :: l,h=>by
  unfold ZE;rw [if_neg (by rw [h x (by simp)];simp)];exact firstE_none (fun y hy=>h y (by simp [hy]))
theorem firstE_at {α:Type} {f:α->Int}:∀ {l:List α} {k:Nat} {x:α},l[k]?=some x->(∀ y ∈ l.take k,f y=0)->f x≠0->ZE f l=f x
 | [],_,_,h,_,_=>by simp at h
 | y :: l,0,x,h,_,hx=>by
  simp at h
  subst h;unfold ZE;rw [if_pos hx]
 | y :: l,k+1,x,h,hb,hx=>by
  unfold ZE;rw [if_neg (by rw [hb y (by simp)];simp)];exact firstE_at (k:=k) (by simpa using h) (fun z hz=>hb z (by simp [hz])) hx
def Nd.keys (n:Nd):List ByteArray:=n.es.map En.k++n.ks.map Ki.k
def Nd.leaf (n:Nd):Bool:=n.lv == 0 && decide (0 < n.es.length) && decide (n.ks.length=0)
def Nd.inner (n:Nd):Bool:=decide (0 < n.lv) && decide (n.lv<=20) && decide (0 < n.ks.length) && decide (n.es.length=0)
def badAt (lv:Int) (ks:List ByteArray) (i:Nat):Bool:=(decide (0 < i) && !(ZQ (ks.getD (i - 1) ByteArray.empty) (ks.getD i ByteArray.empty))) || (decide (i+1 < ks.length) && Zf lv (ks.getD i ByteArray.empty))
def nodeE (n:Nd):Int :=
 if ZE enE n.es≠0 then ZE enE n.es
 else if ZE kiE n.ks≠0 then ZE kiE n.ks
 else if (n.leaf || n.inner)=false then 90
 else if ∃ i,i < n.keys.length/\badAt n.lv n.keys i=true then 90
 else if ∃ k ∈ n.ks,k.i=0 then 90
 else 0
def RdEn (w:World) (a:Option Addr) (l:List En):Prop :=
 ∀ i e,l[i]?=some e->∃ g o,a=some ⟨g,o,none⟩/\w.cell? ⟨g,o+i * 2,none⟩=some (.string e.k)/\w.cell? ⟨g,o+i * 2+1,none⟩=some (.string e.v)
def RdKi (w:World) (a:Option Addr) (l:List Ki):Prop :=
 ∀ i e,l[i]?=some e->∃ g o,a=some ⟨g,o,none⟩/\w.cell? ⟨g,o+i * 2,none⟩=some (.string e.k)/\w.cell? ⟨g,o+i * 2+1,none⟩=some (.int .u64 (e.i:Int))
theorem RdEn.below {w w':World} {a:Option Addr} {l:List En} (h:RdEn w a l) (b:Below w.heap.size w w'):RdEn w' a l:=fun i e hi=>by
 obtain ⟨g,o,h1,h2,h3⟩:=h i e hi;have hg:=World.block_lt_of_cell? _ _ h2;exact ⟨g,o,h1,(b.cell (p:=⟨g,o+i * 2,none⟩) hg).trans h2,(b.cell (p:=⟨g,o+i * 2+1,none⟩) hg).trans h3⟩
theorem RdKi.below {w w':World} {a:Option Addr} {l:List Ki} (h:RdKi w a l) (b:Below w.heap.size w w'):RdKi w' a l:=fun i e hi=>by
 obtain ⟨g,o,h1,h2,h3⟩:=h i e hi;have hg:=World.block_lt_of_cell? _ _ h2;exact ⟨g,o,h1,(b.cell (p:=⟨g,o+i * 2,none⟩) hg).trans h2,(b.cell (p:=⟨g,o+i * 2+1,none⟩) hg).trans h3⟩
structure NdA where
 n:Nd
 ea:Option Addr
 ec:Nat
 ka:Option Addr
 kc:Nat
def NdA.cells (x:NdA):List Value:=[.int .i64 x.n.lv,.slice x.ea x.n.es.length x.ec,.slice x.ka x.n.ks.length x.kc]
structure OkN (w:World) (x:NdA):Prop where
 es:RdEn w x.ea x.n.es
 ks:RdKi w x.ka x.n.ks
 en:x.ea=none->x.ec=0
 kn:x.ka=none->x.kc=0
 el:x.n.es.length<=x.ec
 kl:x.n.ks.length<=x.kc
 eb:x.ec<=maxLen
 kb:x.kc<=maxLen
 lv:-9223372036854775808<=x.n.lv/\x.n.lv<=9223372036854775807
 sz:∀ e ∈ x.n.es,e.k.size<=maxLen/\e.v.size<=maxLen
 kz:∀ k ∈ x.n.ks,k.k.size<=maxLen/\k.i < 18446744073709551616
theorem OkN.below {w w':World} {x:NdA} (h:OkN w x) (b:Below w.heap.size w w'):OkN w' x:={ h with es:=h.es.below b,ks:=h.ks.below b }
end Apo
namespace Go.Proofs.YtdhebpnkfookcaaGreat
open Go.RowKit Apo
theorem key_any (k:ByteArray) (w:World) (hk:k.size<=9223372036854775807):Calls Tryz.prog 30 #[.string k] w fun e w'=>e=.returned (.int .i64 (Z2 k))/\w=w':=by
 unfold Z2;by_cases h1:k.size < 1
 ·have d1:((k.size:Int) == 0)=true:=by rw [beq_iff_eq];omega
  have d2:(k.size == 0)=true:=by rw [beq_iff_eq];omega
  rw [if_pos (.inl h1)];go_enter Tryz.func30,Tryz.ntmps30
  go_wp2;go_ret
  exact ⟨rfl,rfl⟩
 ·have d1:((k.size:Int) == 0)=false:=by rw [beq_eq_false_iff_ne];omega
  have d1n:(k.size == 0)=false:=by rw [beq_eq_false_iff_ne];omega
  by_cases h2:40 < k.size
  ·have d2:decide ((40:Int) < (k.size:Int))=true:=by simp;omega
   have d2n:decide (40 < k.size)=true:=by simp;omega
   rw [if_pos (.inr h2)];go_enter Tryz.func30,Tryz.ntmps30
   go_wp2;go_ret
   exact ⟨rfl,rfl⟩
  ·have d2:decide ((40:Int) < (k.size:Int))=false:=by simp;omega
   have d2n:decide (40 < k.size)=false:=by simp;omega
   rw [if_neg (by omega)];go_enter Tryz.func30,Tryz.ntmps30
   go_wp2;go_ret
   exact ⟨rfl,rfl⟩
theorem val_any (v:ByteArray) (w:World) (hk:v.size<=9223372036854775807):Calls Tryz.prog 31 #[.string v] w fun e w'=>e=.returned (.int .i64 (valE v))/\w=w':=by
 unfold valE;by_cases h2:200 < v.size
 ·have d2:decide ((200:Int) < (v.size:Int))=true:=by simp;omega
  rw [if_pos h2];go_enter Tryz.func31,Tryz.ntmps31
  go_wp2;go_ret
  exact ⟨rfl,rfl⟩
 ·have d2:decide ((200:Int) < (v.size:Int))=false:=by simp;omega
  rw [if_neg h2];go_enter Tryz.func31,Tryz.ntmps31
  go_wp2;go_ret
  exact ⟨rfl,rfl⟩
theorem endsN_any (lv:Int) (k:ByteArray) (w:World) (hk:k.size<=1099511627776):Calls Tryz.prog 151 #[.int .i64 lv,.string k] w fun e w'=>e=.returned (.bool (Zf lv k))/\Below w.heap.size w w':=by
 unfold Zf;have C:=ends_any lv k w hk;cases h:decide (lv < 20)
 ·go_enter Tryz.func151,Tryz.ntmps151
  go_wp2;go_ret
  exact ⟨rfl,Below.refl _ _⟩
 ·go_enter Tryz.func151,Tryz.ntmps151
  go_wp2_with fail
  refine C.mono ?_;rintro e w1 ⟨rfl,b1⟩;have HB:=Za b1;clear b1;go_wp2;go_ret
  exact ⟨by simp,HB.out⟩
theorem rkey_any (k:ByteArray) (w:World) (hk:k.size<=9223372036854775807):Calls Tryz.prog 13 #[.string k] w fun e w'=>e=.returned (.int .i64 (Z2 k))/\w=w':=by
 unfold Z2;by_cases h1:k.size < 1
 ·have d1:decide ((k.size:Int) < 1)=true:=by simp;omega
  rw [if_pos (.inl h1)];go_enter Tryz.func13,Tryz.ntmps13
  go_wp2;go_ret
  exact ⟨rfl,rfl⟩
 ·have d1:decide ((k.size:Int) < 1)=false:=by simp;omega
  by_cases h2:40 < k.size
  ·have d2:decide ((40:Int) < (k.size:Int))=true:=by simp;omega
   rw [if_pos (.inr h2)];go_enter Tryz.func13,Tryz.ntmps13
   go_wp2;go_ret
   exact ⟨rfl,rfl⟩
  ·have d2:decide ((40:Int) < (k.size:Int))=false:=by simp;omega
   rw [if_neg (by omega)];go_enter Tryz.func13,Tryz.ntmps13
   go_wp2;go_ret
   exact ⟨rfl,rfl⟩
end Go.Proofs.YtdhebpnkfookcaaGreat
namespace Apo
open Go Go.RowKit
def splK {α:Type} (p:α->Bool) (l:List α):Nat->List (List α) × List α
 | 0=>([],[])
 | k+1=>match l[k]? with
  | none=>splK p l k
  | some x=>if k+1=l.length\/p x=true then ((splK p l k).1++[(splK p l k).2++[x]],[]) else ((splK p l k).1,(splK p l k).2++[x])
def Zd {α:Type} (p:α->Bool) (l:List α):List (List α):=(splK p l l.length).1
theorem splK_len {α:Type} (p:α->Bool) (l:List α):∀ k,(splK p l k).1.length+(splK p l k).2.length<=k
 | 0=>by simp [splK]
 | k+1=>by
  have:=splK_len p l k;unfold splK;split
  ·omega
  ·split
   ·simp;omega
   ·simp;omega
theorem splK_step {α:Type} {p:α->Bool} {l:List α} {k:Nat} {x:α} (h:l[k]?=some x):splK p l (k+1)=if k+1=l.length\/p x=true then ((splK p l k).1++[(splK p l k).2++[x]],[]) else ((splK p l k).1,(splK p l k).2++[x]):=by
 simp only [splK,h]
def Zo (l:List En):List Value:=l.flatMap (fun e=>[.string e.k,.string e.v])
def ZH (l:List Ki):List Value:=l.flatMap (fun e=>[.string e.k,.int .u64 (e.i:Int)])
theorem ecells_len:∀ l:List En,(Zo l).length=l.length * 2
 | []=>rfl
 | x :: l=>by
  have:=ecells_len l;unfold Zo at this ⊢;rw [List.flatMap_cons,List.length_append,this,List.length_cons];simp
  omega
theorem kcells_len:∀ l:List Ki,(ZH l).length=l.length * 2
 | []=>rfl
 | x :: l=>by
  have:=kcells_len l;unfold ZH at this ⊢;rw [List.flatMap_cons,List.length_append,this,List.length_cons];simp
  omega
theorem ecells_at:∀ (l:List En) {i:Nat} {e:En},l[i]?=some e->(Zo l)[i * 2]?=some (.string e.k)/\(Zo l)[i * 2+1]?=some (.string e.v)
 | [],_,_,h=>by simp at h
 | x :: l,0,e,h=>by
  simp at h
  subst h;exact ⟨rfl,rfl⟩
 | x :: l,i+1,e,h=>by
  have:=ecells_at l (i:=i) (by simpa using h);have e1:(i+1) * 2=i * 2+2:=by omega
  rw [e1];exact this
theorem kcells_at:∀ (l:List Ki) {i:Nat} {e:Ki},l[i]?=some e->(ZH l)[i * 2]?=some (.string e.k)/\(ZH l)[i * 2+1]?=some (.int .u64 (e.i:Int))
 | [],_,_,h=>by simp at h
 | x :: l,0,e,h=>by
  simp at h
  subst h;exact ⟨rfl,rfl⟩
 | x :: l,i+1,e,h=>by
  have:=kcells_at l (i:=i) (by simpa using h);have e1:(i+1) * 2=i * 2+2:=by omega
  rw [e1];exact this
end Apo
namespace Go.Proofs.YtdhebpnkfookcaaGreat
open Go.RowKit Apo
attribute [local go_sem ↓] Apo.app_exec
theorem rd_ecells {O:Nat->Prop} {W:World} {v:Value} {l:List En} (h:Row O W 43 2 v l.length (Zo l)):∃ a c,v=.slice a l.length c/\RdEn W a l/\l.length<=c/\c<=maxLen/\(a=none->c=0):=by
 obtain ⟨a,c,hv,h1,h2,h3,h4⟩:=h.form;refine ⟨a,c,hv,fun i e hi=>?_,h1,h2,h3⟩;have hil:=(List.getElem?_eq_some_iff.1 hi).1;obtain ⟨g,cap,hv2,_,_,_,_,hc,_⟩:=h.shape (by omega);rw [hv] at hv2;injection hv2 with e1 e2 e3
 have:=ecells_at l hi;refine ⟨g,0,e1,?_,?_⟩
 ·rw [Nat.zero_add,hc (i * 2) (by omega)];exact this.1
 ·rw [Nat.zero_add,hc (i * 2+1) (by omega)];exact this.2
theorem info_En:(Tryz.prog.info? 43).map (fun i=>(i.zero,i.size,i.bytes))=some (some (.agg #[.string ByteArray.empty,.string ByteArray.empty]),2,32):=by kernel_rfl
theorem info_Ens:(Tryz.prog.info? 22).map (fun i=>(i.zero,i.size,i.bytes))=some (some (.slice none 0 0),1,24):=by kernel_rfl
theorem app_En {O:Nat->Prop} {W:World} {v:Value} {l:List En} (h:Row O W 43 2 v l.length (Zo l)) (hn:l.length<=1000000) (e:En) :
  ∃ v' w',(Builtin.append_ #[22,22] 22 #[v,.slice (some ⟨W.heap.size,0,none⟩) 1 1]).run Tryz.prog (W.alloc (.cells #[.string e.k,.string e.v] 43))=.ok v' w'/\Row (fun g=>O g\/g=W.heap.size+1) w' 43 2 v' (l++[e]).length (Zo (l++[e]))/\Onl O W w':=by
 obtain ⟨i0,hi,hz0,hz1,hz2⟩:=info_parts info_En;have k0:=Ob.new W [.string e.k,.string e.v] 43
 obtain ⟨v5,w5,RR,r5,g5,_,ho5⟩:=run_append_own_at (P:=Tryz.prog) (W.alloc (.cells #[.string e.k,.string e.v] 43)) 0 22 22 43 i0 _ 2 32 Tryz.underlying22 hi hz0 hz1 hz2 rfl (by decide) v l.length (Zo l) (h.1.alloc _) ⟨W.heap.size,0,none⟩ 1 1 (Zo [e]) rfl
  (fun j u hu=>by
    have:(⟨W.heap.size,0,none⟩:Addr).add j=⟨W.heap.size,j,none⟩:=by unfold Addr.add;split <;> simp_all
    rw [this];exact (k0.cell j).trans (by simpa [Zo] using hu)) (by intro u hu;simp [Zo] at hu;rcases hu with rfl | rfl <;> rfl) (by unfold maxLen;omega) (by omega) (Nat.zero_le _)
 refine ⟨v5,w5,RR,⟨?_,fun g hg=>?_⟩,?_⟩
 ·rw [List.length_append,show Zo (l++[e])=Zo l++Zo [e] by simp [Zo]];exact r5
 ·rcases ho5 with q | q
  ·rw [q] at hg;exact .inl (h.2 g hg)
  ·rw [q] at hg;cases hg;right;simp
 ·exact ((Onl.refl O W).alloc _).grown g5 (fun k hk=>.inl (h.2 k hk))
theorem app_Ens {O:Nat->Prop} {W:World} {v:Value} {vs:List Value} (h:Row O W 22 1 v vs.length vs) (hn:vs.length<=1000000) {ra:Option Addr} {rl rc:Nat} :
  ∃ v' w',(Builtin.append_ #[82,82] 82 #[v,.slice (some ⟨W.heap.size,0,none⟩) 1 1]).run Tryz.prog (W.alloc (.cells #[.slice ra rl rc] 22))=.ok v' w'/\Row (fun g=>O g\/g=W.heap.size+1) w' 22 1 v' (vs++[Value.slice ra rl rc]).length (vs++[Value.slice ra rl rc])/\Onl O W w':=by
 obtain ⟨i0,hi,hz0,hz1,hz2⟩:=info_parts info_Ens;obtain ⟨v5,w5,RR,r5,g5,_,ho5⟩:=run_append_own_at (P:=Tryz.prog) (W.alloc (.cells #[.slice ra rl rc] 22)) 0 82 82 22 i0 _ 1 24 Tryz.underlying82 hi hz0 hz1 hz2 rfl (by decide) v vs.length vs (h.1.alloc _) ⟨W.heap.size,0,none⟩ 1 1 [Value.slice ra rl rc] rfl (cell_one_new W (.slice ra rl rc) 22) (by simp;rfl) (by unfold maxLen;omega) (by omega) (Nat.zero_le _);refine ⟨v5,w5,RR,⟨?_,fun g hg=>?_⟩,?_⟩
 ·rw [List.length_append];exact r5
 ·rcases ho5 with q | q
  ·rw [q] at hg;exact .inl (h.2 g hg)
  ·rw [q] at hg;cases hg;right;simp
 ·exact ((Onl.refl O W).alloc _).grown g5 (fun k hk=>.inl (h.2 k hk))
theorem rd_kcells {O:Nat->Prop} {W:World} {v:Value} {l:List Ki} (h:Row O W 128 2 v l.length (ZH l)):∃ a c,v=.slice a l.length c/\RdKi W a l/\l.length<=c/\c<=maxLen/\(a=none->c=0):=by
 obtain ⟨a,c,hv,h1,h2,h3,h4⟩:=h.form;refine ⟨a,c,hv,fun i e hi=>?_,h1,h2,h3⟩;have hil:=(List.getElem?_eq_some_iff.1 hi).1;obtain ⟨g,cap,hv2,_,_,_,_,hc,_⟩:=h.shape (by omega);rw [hv] at hv2;injection hv2 with e1 e2 e3
 have:=kcells_at l hi;refine ⟨g,0,e1,?_,?_⟩
 ·rw [Nat.zero_add,hc (i * 2) (by omega)];exact this.1
 ·rw [Nat.zero_add,hc (i * 2+1) (by omega)];exact this.2
theorem info_Ki:(Tryz.prog.info? 128).map (fun i=>(i.zero,i.size,i.bytes))=some (some (.agg #[.string ByteArray.empty,.int .u64 0]),2,24):=by kernel_rfl
theorem info_Kis:(Tryz.prog.info? 88).map (fun i=>(i.zero,i.size,i.bytes))=some (some (.slice none 0 0),1,24):=by kernel_rfl
theorem app_Ki {O:Nat->Prop} {W:World} {v:Value} {l:List Ki} (h:Row O W 128 2 v l.length (ZH l)) (hn:l.length<=1000000) (e:Ki) :
  ∃ v' w',(Builtin.append_ #[88,88] 88 #[v,.slice (some ⟨W.heap.size,0,none⟩) 1 1]).run Tryz.prog (W.alloc (.cells #[.string e.k,.int .u64 (e.i:Int)] 128))=.ok v' w'/\Row (fun g=>O g\/g=W.heap.size+1) w' 128 2 v' (l++[e]).length (ZH (l++[e]))/\Onl O W w':=by
 obtain ⟨i0,hi,hz0,hz1,hz2⟩:=info_parts info_Ki;have k0:=Ob.new W [.string e.k,.int .u64 (e.i:Int)] 128
 obtain ⟨v5,w5,RR,r5,g5,_,ho5⟩:=run_append_own_at (P:=Tryz.prog) (W.alloc (.cells #[.string e.k,.int .u64 (e.i:Int)] 128)) 0 88 88 128 i0 _ 2 24 Tryz.underlying88 hi hz0 hz1 hz2 rfl (by decide) v l.length (ZH l) (h.1.alloc _) ⟨W.heap.size,0,none⟩ 1 1 (ZH [e]) rfl
  (fun j u hu=>by
    have:(⟨W.heap.size,0,none⟩:Addr).add j=⟨W.heap.size,j,none⟩:=by unfold Addr.add;split <;> simp_all
    rw [this];exact (k0.cell j).trans (by simpa [ZH] using hu)) (by intro u hu;simp [ZH] at hu;rcases hu with rfl | rfl <;> rfl) (by unfold maxLen;omega) (by omega) (Nat.zero_le _)
 refine ⟨v5,w5,RR,⟨?_,fun g hg=>?_⟩,?_⟩
 ·rw [List.length_append,show ZH (l++[e])=ZH l++ZH [e] by simp [ZH]];exact r5
 ·rcases ho5 with q | q
  ·rw [q] at hg;exact .inl (h.2 g hg)
  ·rw [q] at hg;cases hg;right;simp
 ·exact ((Onl.refl O W).alloc _).grown g5 (fun k hk=>.inl (h.2 k hk))
theorem app_Kis {O:Nat->Prop} {W:World} {v:Value} {vs:List Value} (h:Row O W 88 1 v vs.length vs) (hn:vs.length<=1000000) {ra:Option Addr} {rl rc:Nat} :
  ∃ v' w',(Builtin.append_ #[181,181] 181 #[v,.slice (some ⟨W.heap.size,0,none⟩) 1 1]).run Tryz.prog (W.alloc (.cells #[.slice ra rl rc] 88))=.ok v' w'/\Row (fun g=>O g\/g=W.heap.size+1) w' 88 1 v' (vs++[Value.slice ra rl rc]).length (vs++[Value.slice ra rl rc])/\Onl O W w':=by
 obtain ⟨i0,hi,hz0,hz1,hz2⟩:=info_parts info_Kis;obtain ⟨v5,w5,RR,r5,g5,_,ho5⟩:=run_append_own_at (P:=Tryz.prog) (W.alloc (.cells #[.slice ra rl rc] 88)) 0 181 181 88 i0 _ 1 24 Tryz.underlying181 hi hz0 hz1 hz2 rfl (by decide) v vs.length vs (h.1.alloc _) ⟨W.heap.size,0,none⟩ 1 1 [Value.slice ra rl rc] rfl (cell_one_new W (.slice ra rl rc) 88) (by simp;rfl) (by unfold maxLen;omega) (by omega) (Nat.zero_le _);refine ⟨v5,w5,RR,⟨?_,fun g hg=>?_⟩,?_⟩
 ·rw [List.length_append];exact r5
 ·rcases ho5 with q | q
  ·rw [q] at hg;exact .inl (h.2 g hg)
  ·rw [q] at hg;cases hg;right;simp
 ·exact ((Onl.refl O W).alloc _).grown g5 (fun k hk=>.inl (h.2 k hk))
end Go.Proofs.YtdhebpnkfookcaaGreat
