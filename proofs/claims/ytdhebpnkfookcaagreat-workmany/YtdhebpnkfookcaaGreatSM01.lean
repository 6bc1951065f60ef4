import Derived.Deep.RegionHeld3
import Derived.Deep.DrawnRows
import Derived.Deep.Onto
import Derived.Test.YtdhebpnkfookcaaGreatRows
import Derived.Test.YtdhebpnkfookcaaGreatSM00
namespace Apo
open Go Go.RowKit
theorem Rd.conv {P:Program} {w:World} {a:Option Addr} {l:List Int} (h:Rd .u8 w a l) (src e dst:TypeId) (hs:P.underlying src=some (.slice e)) (he:P.underlying e=some (.int .u8)) (hd:P.underlying dst=some .string) (cap:Nat) :
  (convert src dst (.slice a l.length cap)).run P w=.ok (.string (strOfNums l)) w:=by
 rcases Nat.eq_zero_or_pos l.length with h0 | h0
 ·have hl:l=[]:=List.eq_nil_of_length_eq_zero h0;subst hl;cases a with
  | none=>exact run_convert_bytes_nil w src e hs he _ _ dst hd
  | some x =>
   rw [run_convert_bytes_string w src dst e _ _ cap hs he hd,run_bytesToString w x _ cap [] (by simp [loadCells,loadCellsFrom])];rfl
 ·obtain ⟨b,off,ha,_⟩:=h 0 h0;subst ha;refine run_convert_bytes_arg w src e hs he b off _ cap l rfl (fun i hi=>?_) dst hd;obtain ⟨b',off',ha',hc⟩:=h i hi;cases ha'
  exact hc
end Apo
namespace Go.Proofs.YtdhebpnkfookcaaGreat
open Go.RowKit Apo
theorem Za {p:Prop} (h:p):Hid p:=h
theorem own_len {w:World} {base e:Nat} {v:Value} {n:Nat} {xs:List Value} (h:w.ownsRow base e 1 v n xs) :
  ∃ a cap,v=.slice a n cap:=by
 rcases h.2 with ⟨rfl,hz⟩ | ⟨g,cap,cur,rfl,_⟩
 ·exact ⟨none,0,by rw [hz]⟩
 ·exact ⟨_,cap,rfl⟩
theorem own_form {w:World} {base e:Nat} {v:Value} {n:Nat} {xs:List Value} (h:w.ownsRow base e 1 v n xs) :
  ∃ a cap,v=.slice a n cap/\n<=cap/\(a=none->cap=0):=by
 rcases h.2 with ⟨rfl,hz⟩ | ⟨g,cap,cur,rfl,_,_,hnc,_⟩
 ·exact ⟨none,0,by rw [hz],by omega,fun _=>rfl⟩
 ·exact ⟨_,cap,rfl,hnc,by simp⟩
theorem own_shape {w:World} {base e:Nat} {v:Value} {n:Nat} {xs:List Value} (h:w.ownsRow base e 1 v n xs) (hp:0 < n) :
  ∃ g cap,v=.slice (some ⟨g,0,none⟩) n cap/\base<=g/\g < w.heap.size/\n<=cap/\∀ j,j < n->w.cell? ⟨g,j,none⟩=xs[j]?:=by
 have h':=h;rcases h.2 with ⟨_,hz⟩ | ⟨g,cap,cur,rfl,hb,_,hnc,_⟩
 ·omega
 ·exact ⟨g,cap,rfl,hb,(h'.lt g rfl).2,hnc,fun j hj=>h'.cellAt j (by omega)⟩
theorem rd_lit1 (k:IntKind) (w:World) (t:TypeId) (x:Int):Rd k (w.alloc (.cells #[.int k x] t)) (some ⟨w.heap.size,0,none⟩) [x]:=by
 intro i hi;have:i=0:=by simpa using hi
 subst this;exact ⟨_,_,rfl,by simp⟩
theorem rd_lit2 (k:IntKind) (w:World) (t:TypeId) (x y:Int):Rd k (w.alloc (.cells #[.int k x,.int k y] t)) (some ⟨w.heap.size,0,none⟩) [x,y]:=by
 intro i hi;have hi':i < 2:=by simpa using hi
 refine ⟨_,_,rfl,?_⟩;match i,hi' with
 | 0,_=>simp
 | 1,_=>simp
theorem rd_drop {k:IntKind} {w:World} {b off at':Nat} {l:List Int} (h:Rd k w (some ⟨b,off,none⟩) l):Rd k w (some ⟨b,off+at',none⟩) (l.drop at'):=by
 intro i hi;rw [List.length_drop] at hi;obtain ⟨b',off',ha,hc⟩:=h (at'+i) (by omega);cases ha
 refine ⟨b,off+at',rfl,?_⟩;rw [Nat.add_assoc,hc];simp [List.getD]
theorem Rd.take {k:IntKind} {w:World} {a:Option Addr} {l:List Int} (h:Rd k w a l) (m:Nat):Rd k w a (l.take m):=by
 intro i hi;have hi2:i < m/\i < l.length:=by simp at hi;omega
 obtain ⟨b,off,ha,hc⟩:=h i hi2.2;refine ⟨b,off,ha,?_⟩;rw [hc];simp [List.getD,hi2.1]
end Go.Proofs.YtdhebpnkfookcaaGreat
namespace Apo
open Go Go.RowKit
section
def Ob (w:World) (p:Nat) (t:TypeId) (cs:List Value):Prop:=w.heap[p]?=some (.cells cs.toArray t (0,0))
section
variable {w w':World} {p:Nat} {t:TypeId} {cs:List Value}
theorem Ob.lt (h:Ob w p t cs):p < w.heap.size:=(Array.getElem?_eq_some_iff.1 h).1
theorem Ob.cell (h:Ob w p t cs) (i:Nat):w.cell? ⟨p,i,none⟩=cs[i]?:=by rw [cell_of_row w p i _ t _ h];simp
theorem Ob.frozen (h:Ob w p t cs) (i:Nat):w.frozen? ⟨p,i,none⟩=false:=frozen_of_row w p i _ t h
theorem Ob.new (w:World) (cs:List Value) (t:TypeId):Ob (w.alloc (.cells cs.toArray t)) w.heap.size t cs:=heap_alloc_new w _
theorem Ob.set (h:Ob w p t cs) (i:Nat) (u:Value):Ob (w.setCell ⟨p,i,none⟩ u) p t (cs.set i u):=by
 have:=heap_setCell_same w p i _ t u h;simpa [Ob] using this
theorem Ob.set_other (h:Ob w p t cs) {q i:Nat} (hq:p≠q) (u:Value):Ob (w.setCell ⟨q,i,none⟩ u) p t cs:=by
 unfold Ob;rw [heap_setCell_other w ⟨q,i,none⟩ p u hq];exact h
theorem Ob.alloc (h:Ob w p t cs) (o:Obj):Ob (w.alloc o) p t cs:=(Below.heap_alloc w o p h.lt).trans h
theorem Ob.kept (h:Ob w p t cs) {row:Option Nat} (hg:w.grownBy w' row) (hr:row≠some p):Ob w' p t cs:=(hg.block p h.lt (Ne.symm hr)).trans h
theorem Ob.below (h:Ob w p t cs) {B:Nat} (hb:Below B w w') (hp:p < B):Ob w' p t cs:=(hb.block p hp).trans h
theorem Ob.old (h:Ob w p t cs) (hb:Below w.heap.size w w'):Ob w' p t cs:=h.below hb h.lt
end
theorem Ze {a b c:World} {row:Option Nat} (h:a.grownBy b row) (k:b.grownBy c row):a.grownBy c row :=
 ⟨k.os.trans h.os,k.tape.trans h.tape,k.output.trans h.output,Nat.le_trans h.size k.size,fun i hi hr=>(k.block i (Nat.lt_of_lt_of_le hi h.size) hr).trans (h.block i hi hr)⟩
theorem Zm {a b:World} (row:Option Nat) (h:Below a.heap.size a b):a.grownBy b row :=
 ⟨h.os,h.tape,h.output,h.size,fun i hi _=>h.block i hi⟩
theorem Zv (w:World) (p i:Nat) (u:Value):w.grownBy (w.setCell ⟨p,i,none⟩ u) (some p) :=
 ⟨rfl,rfl,rfl,by simp [World.setCell],fun k _ hk=>heap_setCell_other w ⟨p,i,none⟩ k u (fun e=>hk (by simp [e]))⟩
theorem grew_new {a b c:World} {p:Nat} {row:Option Nat} (h:a.grownBy b row) (k:b.grownBy c (some p)) (hp:a.heap.size<=p):a.grownBy c row :=
 ⟨k.os.trans h.os,k.tape.trans h.tape,k.output.trans h.output,Nat.le_trans h.size k.size,fun i hi hr=>(k.block i (Nat.lt_of_lt_of_le hi h.size) (by simp;omega)).trans (h.block i hi hr)⟩
theorem below_grew {a b c:World} {B p:Nat} (h:Below B a b) (k:b.grownBy c (some p)) (hB:B<=b.heap.size) (hp:B<=p):Below B a c :=
 h.grown k hB (fun q hq=>by cases hq;exact hp)
theorem Rd.grew {k:IntKind} {w w':World} {a:Option Addr} {l:List Int} {row:Option Nat} (h:Rd k w a l) (hg:w.grownBy w' row) (hr:∀ x,a=some x->0 < l.length->row≠some x.block):Rd k w' a l:=by
 intro i hi;obtain ⟨b,off,ha,hc⟩:=h i hi;refine ⟨b,off,ha,hg.cell hc ?_⟩;exact Ne.symm (hr ⟨b,off,none⟩ ha (by omega))
theorem Rd.lt {k:IntKind} {w:World} {x:Addr} {l:List Int} (h:Rd k w (some x) l) (hl:0 < l.length):x.block < w.heap.size:=by
 obtain ⟨b,off,ha,hc⟩:=h 0 hl;cases ha
 exact World.block_lt_of_cell? w _ hc
end
section
structure Onl (O:Nat->Prop) (w w':World):Prop where
 os:w'.os=w.os
 tape:w'.tape=w.tape
 output:w'.output=w.output
 size:w.heap.size<=w'.heap.size
 block:∀ k,k < w.heap.size->¬ O k->w'.heap[k]?=w.heap[k]?
theorem Onl.refl (O:Nat->Prop) (w:World):Onl O w w:=⟨rfl,rfl,rfl,Nat.le_refl _,fun _ _ _=>rfl⟩
theorem Onl.trans {O:Nat->Prop} {a b c:World} (h:Onl O a b) (k:Onl O b c):Onl O a c :=
 ⟨k.os.trans h.os,k.tape.trans h.tape,k.output.trans h.output,Nat.le_trans h.size k.size,fun i hi ho=>(k.block i (Nat.lt_of_lt_of_le hi h.size) ho).trans (h.block i hi ho)⟩
theorem Onl.more {O O':Nat->Prop} {a b c:World} (h:Onl O a b) (k:Onl O' b c) (hO:∀ i,O' i->O i\/a.heap.size<=i):Onl O a c :=
 ⟨k.os.trans h.os,k.tape.trans h.tape,k.output.trans h.output,Nat.le_trans h.size k.size,fun i hi ho=>(k.block i (Nat.lt_of_lt_of_le hi h.size) (fun q=>(hO i q).elim ho (fun x=>absurd hi (Nat.not_lt.2 x)))).trans (h.block i hi ho)⟩
theorem Onl.mono {O O':Nat->Prop} {a b:World} (h:Onl O a b) (hO:∀ i,O i->O' i):Onl O' a b:=⟨h.os,h.tape,h.output,h.size,fun i hi ho=>h.block i hi (fun q=>ho (hO i q))⟩
theorem Onl.alloc {O:Nat->Prop} {a b:World} (h:Onl O a b) (o:Obj):Onl O a (b.alloc o) :=
 h.trans ⟨rfl,rfl,rfl,by simp,fun k hk _=>Below.heap_alloc b o k hk⟩
theorem Onl.drew {O:Nat->Prop} {a b:World} (h:Onl O a b):Onl O a b.drew:=⟨h.os,h.tape,h.output,h.size,h.block⟩
theorem Onl.set {O:Nat->Prop} {a b:World} (h:Onl O a b) {p i:Nat} (hp:O p\/a.heap.size<=p) (u:Value):Onl O a (b.setCell ⟨p,i,none⟩ u) :=
 ⟨h.os,h.tape,h.output,by simpa [World.setCell] using h.size,fun k hk ho=>(heap_setCell_other b ⟨p,i,none⟩ k u (fun e=>hp.elim (fun x=>ho (by rw [e];exact x)) (fun x=>absurd hk (by rw [e];exact Nat.not_lt.2 x)))).trans (h.block k hk ho)⟩
theorem Onl.grown {O:Nat->Prop} {a b c:World} {row:Option Nat} (h:Onl O a b) (hg:b.grownBy c row) (hr:∀ k,row=some k->O k\/a.heap.size<=k):Onl O a c :=
 ⟨hg.os.trans h.os,hg.tape.trans h.tape,hg.output.trans h.output,Nat.le_trans h.size hg.size,fun i hi ho=>(hg.block i (Nat.lt_of_lt_of_le hi h.size) (fun e=>(hr i e.symm).elim ho (fun x=>absurd hi (Nat.not_lt.2 x)))).trans (h.block i hi ho)⟩
theorem Onl.ofBelow {O:Nat->Prop} {a b:World} (h:Below a.heap.size a b):Onl O a b:=⟨h.os,h.tape,h.output,h.size,fun k hk _=>h.block k hk⟩
theorem Onl.toBelow {O:Nat->Prop} {a b:World} {B:Nat} (h:Onl O a b) (hO:∀ i,O i->B<=i) (hB:B<=a.heap.size):Below B a b:=⟨h.os,h.tape,h.output,h.size,fun k hk=>h.block k (by omega) (fun q=>by have:=hO k q;omega)⟩
theorem Below.onl {O:Nat->Prop} {B:Nat} {a b c:World} (h:Below B a b) (k:Onl O b c) (hO:∀ i,O i->B<=i) (hB:B<=a.heap.size):Below B a c:=h.trans (k.toBelow hO (Nat.le_trans hB h.size))
theorem Ob.onl {O:Nat->Prop} {w w':World} {p:Nat} {t:TypeId} {cs:List Value} (h:Ob w p t cs) (k:Onl O w w') (hp:¬ O p):Ob w' p t cs:=(k.block p h.lt hp).trans h
theorem Rd.onl {O:Nat->Prop} {k:IntKind} {w w':World} {a:Option Addr} {l:List Int} (h:Rd k w a l) (ho:Onl O w w') (hr:∀ x,a=some x->0 < l.length->¬ O x.block):Rd k w' a l:=by
 intro i hi;obtain ⟨b,off,ha,hc⟩:=h i hi;refine ⟨b,off,ha,?_⟩;exact (World.cell?_of_block (ho.block b (World.block_lt_of_cell? w _ hc) (hr ⟨b,off,none⟩ ha (by omega)))).trans hc
def Row (O:Nat->Prop) (w:World) (e:TypeId) (size:Nat) (v:Value) (n:Nat) (xs:List Value):Prop:=w.ownsRow 0 e size v n xs/\∀ g,v.ownBlock=some g->O g
section
variable {O O':Nat->Prop} {w w':World} {e:TypeId} {size:Nat} {v:Value} {n:Nat} {xs:List Value}
theorem Row.nil (O:Nat->Prop) (w:World) (e:TypeId) (size:Nat):Row O w e size (.slice none 0 0) 0 []:=⟨World.ownsRow_nil w 0 e size,by simp [Value.ownBlock]⟩
theorem Row.mono (h:Row O w e size v n xs) (hO:∀ i,O i->O' i):Row O' w e size v n xs:=⟨h.1,fun g hg=>hO g (h.2 g hg)⟩
theorem Row.onl {F:Nat->Prop} (h:Row O w e size v n xs) (ho:Onl F w w') (hF:∀ g,v.ownBlock=some g->¬ F g):Row O w' e size v n xs:=by
 refine ⟨⟨h.1.1,?_⟩,h.2⟩;rcases h.1.2 with hn | ⟨g,cap,cur,rfl,hb,hgg,rest⟩
 ·exact .inl hn
 ·refine .inr ⟨g,cap,cur,rfl,hb,?_,rest⟩;rw [ho.block g (Array.getElem?_eq_some_iff.1 hgg).1 (hF g rfl)];exact hgg
theorem Row.lt (h:Row O w e size v n xs):∀ g,v.ownBlock=some g->g < w.heap.size:=fun g hg=>(h.1.lt g hg).2
theorem Row.form (h:Row O w e size v n xs):∃ a cap,v=.slice a n cap/\n<=cap/\cap<=maxLen/\(a=none->cap=0)/\∀ x,a=some x->∃ g,x=⟨g,0,none⟩/\O g:=by
 rcases h.1.2 with ⟨rfl,hz⟩ | ⟨g,cap,cur,rfl,_,_,hnc,hcm,_⟩
 ·exact ⟨none,0,by rw [hz],by omega,by simp [maxLen],fun _=>rfl,by simp⟩
 ·exact ⟨_,cap,rfl,hnc,hcm,by simp,fun x hx=>by cases hx;exact ⟨g,rfl,h.2 g rfl⟩⟩
theorem Row.shape (h:Row O w e size v n xs) (hp:0 < n):∃ g cap,v=.slice (some ⟨g,0,none⟩) n cap/\O g/\g < w.heap.size/\n<=cap/\cap<=maxLen/\(∀ j,j < n * size->w.cell? ⟨g,j,none⟩=xs[j]?)/\(∀ j,w.frozen? ⟨g,j,none⟩=false):=by
 rcases h.1.2 with ⟨_,hz⟩ | ⟨g,cap,cur,hv,_,_,hnc,hcm,_⟩
 ·omega
 ·subst hv;exact ⟨g,cap,rfl,h.2 g rfl,h.lt g rfl,hnc,hcm,fun j hj=>h.1.cellAt j hj,fun j=>h.1.frozenAt j⟩
theorem Row.apart {e2:TypeId} {size2 n2:Nat} {v2:Value} {xs2:List Value} (h:Row O w e size v n xs) (k:Row O' w e2 size2 v2 n2 xs2) (he:e≠e2):∀ g,v.ownBlock=some g->v2.ownBlock≠some g:=by
 intro g hg hg2;rcases h.1.2 with ⟨rfl,_⟩ | ⟨g1,_,_,rfl,_,hh,_⟩
 ·simp [Value.ownBlock] at hg
 ·rcases k.1.2 with ⟨rfl,_⟩ | ⟨g2,_,_,rfl,_,hh2,_⟩
  ·simp [Value.ownBlock] at hg2
  ·simp only [Value.ownBlock,Option.some.injEq] at hg hg2;subst hg hg2;rw [hh] at hh2;simp at hh2
   exact he hh2.2
theorem Row.apartOb {p:Nat} {t:TypeId} {cs:List Value} (h:Row O w e size v n xs) (k:Ob w p t cs) (he:e≠t):v.ownBlock≠some p:=by
 intro hg;rcases h.1.2 with ⟨rfl,_⟩ | ⟨g1,_,_,rfl,_,hh,_⟩
 ·simp [Value.ownBlock] at hg
 ·simp only [Value.ownBlock,Option.some.injEq] at hg;subst hg;unfold Ob at k;rw [hh] at k;simp at k
  exact he k.2
end
def Gro (O:Nat->Prop) (w w':World):Nat->Prop:=fun i=>O i\/(w.heap.size<=i/\i < w'.heap.size)
theorem Gro.of {O:Nat->Prop} {w w':World} (i:Nat) (h:O i):Gro O w w' i:=Or.inl h
theorem Gro.new {O:Nat->Prop} {w w':World} {i:Nat} (h:w.heap.size<=i) (k:i < w'.heap.size):Gro O w w' i:=Or.inr ⟨h,k⟩
theorem Gro.lt {O:Nat->Prop} {w w':World} (h:∀ i,O i->i < w.heap.size) (ho:w.heap.size<=w'.heap.size):∀ i,Gro O w w' i->i < w'.heap.size:=fun i hi=>hi.elim (fun q=>Nat.lt_of_lt_of_le (h i q) ho) (fun q=>q.2)
theorem Gro.base {O:Nat->Prop} {w w':World} {B:Nat} (h:∀ i,O i->B<=i) (hB:B<=w.heap.size):∀ i,Gro O w w' i->B<=i:=fun i hi=>hi.elim (h i) (fun q=>Nat.le_trans hB q.1)
end
def nums (s:ByteArray):List Int:=s.data.toList.map fun b=>(b.toNat:Int)
theorem ZU (s:ByteArray):(nums s).length=s.size:=by
 rw [nums,List.length_map,Array.length_toList];rfl
theorem strCells_nums (s:ByteArray):Go.Lib.strCells s=(nums s).map (Value.int .u8):=by
 simp [Go.Lib.strCells,nums]
theorem nums_byte (s:ByteArray):∀ z ∈ nums s,0<=z/\z<=255:=by
 intro z hz;simp only [nums,List.mem_map] at hz;obtain ⟨b,_,rfl⟩:=hz;have:=b.toNat_lt;omega
theorem strOfNums_nums (s:ByteArray):strOfNums (nums s)=s:=by
 apply ByteArray.ext
 apply Array.ext'
 rw [strOfNums_data,nums,List.map_map];conv=>rhs;rw [<- List.map_id s.data.toList]
 refine List.map_congr_left fun z _=>?_
 simp [Function.comp]
theorem nums_strOfNums {l:List Int} (h:∀ z ∈ l,0<=z/\z<=255):nums (strOfNums l)=l:=by
 unfold nums;rw [strOfNums_data,List.map_map];conv=>rhs;rw [<- List.map_id l]
 refine List.map_congr_left fun z hz=>?_
 have:=h z hz;simp only [Function.comp,id,UInt8.toNat_ofNat'];omega
theorem run_append_rd {P:Program} {w:World} (base:Nat) (t ty e:TypeId) (i:TypeInfo) (z:Value) (bytes:Nat) (h1:P.underlying t=some (.slice e)) (h2:P.info? e=some i) (h3:i.zero=some z) (h4:i.size=1) (h5:i.bytes=bytes) (h6:z.cells.size=1)
  (k:IntKind) (v:Value) (cur:List Int) (hown:w.ownsRow base e 1 v cur.length (cur.map (Value.int k))) (ao:Option Addr) (c:Nat) (l:List Int) (hr:Rd k w ao l) (hn:ao=none->c=0)
  (b1:cur.length+l.length<=maxLen) (b2:(cur.length+l.length) * bytes<=140737488355328) (hb:base<=w.heap.size) :
  ∃ v' w',(Builtin.append_ #[t,t] ty #[v,.slice ao l.length c]).run P w=.ok v' w'/\w'.ownsRow base e 1 v' (cur++l).length ((cur++l).map (Value.int k))/\w.grownBy w' v.ownBlock:=by
 cases ao with
 | none =>
  have hl:l=[]:=by
   rcases Nat.eq_zero_or_pos l.length with h | h
   ·exact List.eq_nil_of_length_eq_zero h
   ·obtain ⟨_,_,h',_⟩:=hr 0 h;cases h'
  subst hl;have hc:=hn rfl;subst hc;exact ⟨v,w,run_append_owned_none (P:=P) w base t ty e i 1 h1 h2 v _ _ hown,by simpa using hown,World.grownBy.refl _ _⟩
 | some ad =>
  obtain ⟨v',w',hrun,r1,r2,_⟩:=run_append_own (P:=P) w base t ty e i z 1 bytes h1 h2 h3 h4 h5 h6 (by decide) v _ _ hown ad l.length c (l.map (Value.int k)) (by simp) hr.news (ints_oneCell _ _) b1 b2 hb;exact ⟨v',w',hrun,by simpa using r1,r2⟩
def AppRuns (P:Program) (w:World) (ts:Array TypeId) (ty:TypeId) (xs:Array Value):Prop:=∃ v' w',(Builtin.append_ ts ty xs).run P w=.ok v' w'
noncomputable def appVal (P:Program) (w:World) (ts:Array TypeId) (ty:TypeId) (xs:Array Value):Value:=match (Builtin.append_ ts ty xs).run P w with
 | .ok v _=>v
 | _=>undef
noncomputable def appWld (P:Program) (w:World) (ts:Array TypeId) (ty:TypeId) (xs:Array Value):World:=match (Builtin.append_ ts ty xs).run P w with
 | .ok _ w'=>w'
 | _=>w
theorem Zi {P:Program} {w w':World} {ts:Array TypeId} {ty:TypeId} {xs:Array Value} {v':Value} (h:(Builtin.append_ ts ty xs).run P w=.ok v' w'):AppRuns P w ts ty xs/\appVal P w ts ty xs=v'/\appWld P w ts ty xs=w' :=
 ⟨⟨v',w',h⟩,by unfold appVal;rw [h],by unfold appWld;rw [h]⟩
theorem app_run {P:Program} {w:World} {ts:Array TypeId} {ty:TypeId} {xs:Array Value} (h:AppRuns P w ts ty xs):(Builtin.append_ ts ty xs).run P w=.ok (appVal P w ts ty xs) (appWld P w ts ty xs):=by
 obtain ⟨v',w',h⟩:=h;obtain ⟨_,h1,h2⟩:=Zi h;rw [h1,h2];exact h
theorem app_exec {P:Program} {w:World} {ρ:Operand->Value} {dst:Option Tmp} {xs:Array Operand} {ats:Array TypeId} {ty:TypeId} {pos:String} {after:Array Edge} {guard:Option (Nat × Bool)} (h:AppRuns P w ats ty (xs.map ρ)) :
  (execOp ρ { dst,op:=.call { callee:=.builtin .append,args:=xs,argTypes:=ats },type:=ty,pos,after,guard }).run P w=.ok (.value (appVal P w ats ty (xs.map ρ))) (appWld P w ats ty (xs.map ρ)):=by
 rw [BigFrame.execOp_builtin,BigFrame.builtin_append];simp [app_run h]
structure Fat where
 keep:List Bool
 ka:Option Addr
 kc:Nat
 torn:Int
 bytes:Int
structure Dd where
 k:Int
 at':Int
 b:List Int
 ba:Option Addr
 bc:Nat
 n:Int
 f:Fat
instance:Inhabited Fat:=⟨⟨[],none,0,0,0⟩⟩
instance:Inhabited Dd:=⟨⟨0,0,[],none,0,0,default⟩⟩
structure Sd where
 S:List (List Int)
 C:List (Nat × List Int)
 bad:List Bool
 left:Int
 dead:Bool
def Sd.has (st:Sd) (at':Int):Bool:=decide (0<=at') && decide (at' < (st.S.length:Int))
def Sd.acts (st:Sd):Bool:=!(st.dead || st.left == 0)
def Sd.acted (st:Sd):Sd:=if st.acts then { st with left:=if 0 < st.left then st.left - 1 else st.left } else { st with dead:=true }
def Sd.wrote (st:Sd) (at':Int) (b:List Int):Int × Sd :=
 if st.dead then (40,st) else if st.has at' && b.length == 32 then (if st.acts then (0,{ st.acted with C:=st.C++[(at'.toNat,b)] }) else (40,st.acted)) else (1,st)
def lastOf (c:List (Nat × List Int)) (k:Nat) (b:List Int):List Int:=c.foldl (fun acc x=>if x.1=k then x.2 else acc) b
def Sd.told (st:Sd) (at':Int):List Int × Int :=
 if st.dead then ([],40) else if st.has at' then (if st.bad.getD at'.toNat false then ([],41) else (lastOf st.C at'.toNat (st.S.getD at'.toNat []),0)) else ([],1)
def Zt (c:List (Nat × List Int)) (S:List (List Int)):List (List Int):=c.foldl (fun acc x=>acc.set x.1 x.2) S
def Sd.flushed (st:Sd):Int × Sd:=if st.acts then (0,{ st.acted with S:=Zt st.C st.S,C:=[] }) else (40,st.acted)
def lenOf (n:Int):Nat:=if n < 0 then 0 else if 65536 < n then 65536 else n.toNat
def zeros:List Int:=List.replicate 32 0
def Zl (n:Int):Sd:=⟨List.replicate (lenOf n) zeros,[],List.replicate (lenOf n) false,-1,false⟩
def Sec (r:List Int):Prop:=r.length=32/\∀ z ∈ r,0<=z/\z<=255
structure OkS (st:Sd):Prop where
 secs:∀ r ∈ st.S,Sec r
 cach:∀ x ∈ st.C,x.1 < st.S.length/\Sec x.2
 bads:st.bad.length=st.S.length
 size:st.S.length<=65536
 l0:-1<=st.left
 l1:st.left<=9223372036854775807
theorem has_iff {st:Sd} {a:Int}:st.has a=true↔0<=a/\a < (st.S.length:Int):=by simp [Sd.has]
theorem sec_zeros:Sec zeros:=⟨by simp [zeros],by intro z hz;simp [zeros] at hz;omega⟩
theorem OkS.new (n:Int):OkS (Zl n) :=
 ⟨fun r hr=>by simp [Zl] at hr;rw [hr.2];exact sec_zeros,by simp [Zl],by simp [Zl],by simp [Zl,lenOf];split <;> (try split) <;> omega,by simp [Zl],by simp [Zl]⟩
theorem OkS.acted {st:Sd} (h:OkS st):OkS st.acted:=by
 unfold Sd.acted;split
 ·refine ⟨h.secs,h.cach,h.bads,h.size,?_,?_⟩ <;> (have:=h.l0;have:=h.l1;simp only;split <;> omega)
 ·exact ⟨h.secs,h.cach,h.bads,h.size,h.l0,h.l1⟩
theorem acted_S (st:Sd):st.acted.S=st.S:=by unfold Sd.acted;split <;> rfl
theorem acted_C (st:Sd):st.acted.C=st.C:=by unfold Sd.acted;split <;> rfl
theorem acted_bad (st:Sd):st.acted.bad=st.bad:=by unfold Sd.acted;split <;> rfl
theorem OkS.wrote {st:Sd} (h:OkS st) (a:Int) {b:List Int} (hb:∀ z ∈ b,0<=z/\z<=255):OkS (st.wrote a b).2:=by
 unfold Sd.wrote;split
 ·exact h
 ·split
  ·next h1 =>
   simp only [Bool.and_eq_true,beq_iff_eq] at h1;have h2:=has_iff.1 h1.1;split
   ·have k:=h.acted;refine ⟨k.secs,?_,k.bads,k.size,k.l0,k.l1⟩;intro x hx;simp only [List.mem_append,List.mem_singleton] at hx;rcases hx with hx | hx
    ·exact k.cach x (by rw [acted_C];exact hx)
    ·subst hx;exact ⟨by simp only [acted_S];omega,h1.2,hb⟩
   ·exact h.acted
  ·exact h
theorem Z8 (c:List (Nat × List Int)):∀ S:List (List Int),(Zt c S).length=S.length:=by
 induction c with
 | nil=>intro S;rfl
 | cons x c ih=>intro S;simp only [Zt,List.foldl_cons] at ih ⊢;rw [ih];simp
theorem putAll_snoc {C:List (Nat × List Int)} {k:Nat} {x:Nat × List Int} (h:C[k]?=some x) (S:List (List Int)):Zt (C.take (k+1)) S=(Zt (C.take k) S).set x.1 x.2:=by
 rw [List.take_add_one,h];simp [Zt,List.foldl_append]
def Sd.save (st:Sd) (s:Sup):Int × Sd :=
 if st.flushed.1=0 then (if (st.flushed.2.wrote ((s.e:Int) % 2) (Zh s)).1=0 then (st.flushed.2.wrote ((s.e:Int) % 2) (Zh s)).2.flushed else st.flushed.2.wrote ((s.e:Int) % 2) (Zh s)) else st.flushed
theorem flushed_vals (st:Sd):st.flushed.1=0\/st.flushed.1=40:=by
 unfold Sd.flushed;split
 ·exact .inl rfl
 ·exact .inr rfl
theorem wrote_vals (st:Sd) (a:Int) (b:List Int):(st.wrote a b).1=0\/(st.wrote a b).1=1\/(st.wrote a b).1=40:=by
 unfold Sd.wrote;split
 ·exact .inr (.inr rfl)
 ·split
  ·split
   ·exact .inl rfl
   ·exact .inr (.inr rfl)
  ·exact .inr (.inl rfl)
def pickSup (la lb:List Int):Sup × Int :=
 if ZX la=false/\ZX lb=false then (Sup.none,50) else if ZX la=false\/(ZX lb=true/\(ZA la).e < (ZA lb).e) then (ZA lb,0) else (ZA la,0)
def Sd.load (st:Sd):Sup × Int :=
 if (st.told 0).2=0 then (if (st.told 1).2=0 then pickSup (st.told 0).1 (st.told 1).1 else (Sup.none,(st.told 1).2)) else (Sup.none,(st.told 0).2)
theorem told_byt {st:Sd} (ok:OkS st) (a:Int):∀ z ∈ (st.told a).1,0<=z/\z<=255:=by
 unfold Sd.told;split
 ·simp
 ·split
  ·next h =>
   split
   ·simp
   ·have h2:=has_iff.1 h;have hi:a.toNat < st.S.length:=by omega
    have hg:st.S.getD a.toNat []=st.S[a.toNat]:=by simp [List.getD,hi]
    rw [hg]
    have:∀ (C:List (Nat × List Int)) (b:List Int),(∀ x ∈ C,Sec x.2)->Sec b->Sec (lastOf C a.toNat b):=by
     intro C;induction C with
     | nil=>intro b _ hb;exact hb
     | cons x C ih =>
      intro b hC hb;have:=ih (if x.1=a.toNat then x.2 else b) (fun y hy=>hC y (by simp [hy])) (by split;exact hC x (by simp);exact hb);simpa [lastOf] using this
    exact (this st.C _ (fun x hx=>(ok.cach x hx).2) (ok.secs _ (List.getElem_mem hi))).2
  ·simp
section
open Go.MapKept
open Go.WideElems (Fit rd rg pl rd_key rd_val rg_of)
open Go.Maps (Keyed keyOf_int_mk)
def heldR:Value->Option (DataW Value × List MemPlace):=fun v=>some (.held v,[])
def k64 (i:Nat):Lit:=.int .u64 i
structure MpD (D:DataW Value) (M:Nat->Option Value):Prop where
 has:∀ i,i < 18446744073709551616->Maps.has D (k64 i)=(M i).isSome
 get:∀ i v,M i=some v->∀ z,D.atKey (k64 i) z=.held v
 big:∀ i,18446744073709551616<=i->M i=none
def Mp (P:Program) (k:TypeId) (w:World) (b:Nat) (M:Nat->Option Value):Prop:=∃ D:DataW Value,w.ownsMap P k heldR b (Maps.size D) D/\MpD D M
def upd {α:Type} (M:Nat->α) (i:Nat) (v:α):Nat->α:=fun j=>if j=i then v else M j
theorem upd_same {α:Type} (M:Nat->α) (i:Nat) (v:α):upd M i v i=v:=by simp [upd]
theorem ZY {α:Type} (M:Nat->α) {i j:Nat} (v:α) (h:j≠i):upd M i v j=M j:=by simp [upd,h]
theorem k64_inj {i j:Nat} (h:k64 i=k64 j):i=j:=by simp [k64] at h;omega
theorem k64_key (i:Nat):WideAt.IsKeyLit (k64 i):=trivial
section
variable {P:Program} {k t e:TypeId} {w w':World} {b:Nat} {M:Nat->Option Value}
theorem wf64 {i:Nat} (h:i < 18446744073709551616):(Lit.int .u64 (i:Int)).wf=true:=by
 exact WalkArith.wf_u64 (by omega)
theorem key64 (hk:P.underlying k=some (.int .u64)) {i:Nat} (h:i < 18446744073709551616):keyOf P k (.int .u64 (i:Int))=some (k64 i):=keyOf_int_mk hk (wf64 h)
theorem Mp.lt (h:Mp P k w b M):b < w.heap.size:=by obtain ⟨D,h,_⟩:=h;exact h.lt
theorem Mp.onl {F:Nat->Prop} (h:Mp P k w b M) (o:Onl F w w') (hb:¬ F b):Mp P k w' b M:=by
 have hl:=h.lt;obtain ⟨D,⟨es,c,h1,h2⟩,m⟩:=h;exact ⟨D,⟨es,c,(o.block b hl hb).trans h1,h2⟩,m⟩
theorem Mp.below (h:Mp P k w b M) (o:Below w.heap.size w w'):Mp P k w' b M:=h.onl (F:=fun _=>False) (Onl.ofBelow o) id
theorem Mp.made (w:World) (P:Program) (k:TypeId):Mp P k (w.alloc (.map #[] 0)) w.heap.size (fun _=>none) :=
 ⟨.map [],World.ownsMap_made w P k heldR,⟨fun _ _=>rfl,fun _ _ h=>by simp at h,fun _ _=>rfl⟩⟩
theorem turned_onl {b:Nat} (h:w.mapTurned w' b):Onl (fun i=>i=b) w w':=(Onl.refl _ w).grown h.grown (fun j hj=>.inl (by cases hj;rfl))
theorem Mp.look (h:Mp P k w b M) (hk:P.underlying k=some (.int .u64)) (ht:P.underlying t=some (.map k e)) {z:Value} (hz:∀ W,(zeroValue e).run P W=.ok z W) {i:Nat} (hi:i < 18446744073709551616) :
  (Instr.lookup t (.map (some b)) (.int .u64 (i:Int)) false).run P w=.ok ((M i).getD z) w:=by
 obtain ⟨D,h,m⟩:=h;obtain ⟨v,ps,h1,h2⟩:=h.lookup (Maps.int_keyed hk) ht (hz w) (zd:=.held z) (zp:=[]) rfl (key64 hk hi);have h3:DataW.held v=D.atKey (k64 i) (.held z):=by simp [heldR] at h2;exact h2.1
 rw [h1];cases hM:M i with
 | none =>
  have:=m.has i hi;rw [hM] at this;rw [Maps.atKey_of_not_has (by simpa using this)] at h3;cases h3
  rfl
 | some u =>
  rw [m.get i u hM] at h3;cases h3
  rfl
theorem Mp.look2 (h:Mp P k w b M) (hk:P.underlying k=some (.int .u64)) (ht:P.underlying t=some (.map k e)) {z:Value} (hz:∀ W,(zeroValue e).run P W=.ok z W) {i:Nat} (hi:i < 18446744073709551616) :
  (Instr.lookup t (.map (some b)) (.int .u64 (i:Int)) true).run P w=.ok (.tuple #[(M i).getD z,.bool (M i).isSome]) w:=by
 obtain ⟨D,h,m⟩:=h;obtain ⟨v,ps,h1,h2⟩:=h.look_ok (Maps.int_keyed hk) ht (hz w) (zd:=.held z) (zp:=[]) rfl (key64 hk hi);have h3:DataW.held v=D.atKey (k64 i) (.held z):=by simp [heldR] at h2;exact h2.1
 rw [h1,m.has i hi];cases hM:M i with
 | none =>
  have:=m.has i hi;rw [hM] at this;rw [Maps.atKey_of_not_has (by simpa using this)] at h3;cases h3
  rfl
 | some u =>
  rw [m.get i u hM] at h3;cases h3
  rfl
theorem keys64 {D:DataW Value} {n:Nat} (h:w.ownsMap P k heldR b n D) (hk:P.underlying k=some (.int .u64)):∃ es,D=.map es/\es.Pairwise (fun p q=>p.1≠q.1)/\∀ p ∈ es,∃ i:Nat,p.1=k64 i/\i < 18446744073709551616:=by
 have hK:=Maps.int_keyed hk;obtain ⟨es,hD,hp,_⟩:=h.entries hK;refine ⟨es,hD,hp,fun p hpm=>?_⟩;obtain ⟨es0,c,_,F,_,hD2⟩:=h;rw [hD] at hD2;injection hD2 with hD2
 rw [hD2] at hpm;obtain ⟨x,hx,rfl⟩:=List.mem_map.1 (mem_sorted.1 hpm);obtain ⟨y,hy⟩:=F.reads x hx;rw [rg_of hy];obtain ⟨a,_,ha,hw⟩:=Maps.keyOf_int_inv hk (rd_key hy);refine ⟨a.toNat,?_,?_⟩
 ·rw [ha];unfold k64;have:=bounds_u64 hw;congr 1
  omega
 ·have:=bounds_u64 hw;omega
theorem nodup_le:∀ (l L:List Nat),l.Nodup->(∀ x ∈ l,x ∈ L)->l.length<=L.length
 | [],_,_,_=>by simp
 | x :: l,L,h,hs=>by
  have hx:=hs x (by simp);rw [List.nodup_cons] at h;have:=nodup_le l (L.erase x) h.2 (fun y hy=>(List.mem_erase_of_ne (fun e=>h.1 (by rw [<- e];exact hy))).2 (hs y (by simp [hy])));rw [List.length_erase_of_mem hx] at this;have:0 < L.length:=List.length_pos_of_mem hx;simp
  omega
def natOf:Lit->Nat
 | .int _ a=>a.toNat
 | _=>0
theorem natOf_k64 (i:Nat):natOf (k64 i)=i:=by simp [natOf,k64]
theorem nats_nodup {es:List (Lit × DataW Value)} (h:es.Pairwise (fun p q=>p.1≠q.1)) (hk:∀ p ∈ es,∃ i:Nat,p.1=k64 i/\i < 18446744073709551616):(es.map (fun p=>natOf p.1)).Nodup:=by
 rw [List.nodup_iff_pairwise_ne,List.pairwise_map];refine h.imp_of_mem (fun {p q} hp hq hne e=>hne ?_);obtain ⟨i,hi,_⟩:=hk p hp;obtain ⟨j,hj,_⟩:=hk q hq;rw [hi,hj,natOf_k64,natOf_k64] at e;rw [hi,hj,e]
theorem mem_has {es:List (Lit × DataW Value)} (hk:∀ p ∈ es,∃ i:Nat,p.1=k64 i/\i < 18446744073709551616) (i:Nat):i ∈ es.map (fun p=>natOf p.1)↔Maps.has (.map es) (k64 i)=true:=by
 rw [Maps.has_eq,List.any_eq_true,List.mem_map];constructor
 ·rintro ⟨p,hp,rfl⟩;obtain ⟨i,hi,_⟩:=hk p hp;exact ⟨p,hp,by rw [hi,natOf_k64];exact WideAt.sameKey_self (k64_key i)⟩
 ·rintro ⟨p,hp,hs⟩;refine ⟨p,hp,?_⟩;rw [WideAt.sameKey_eq hs,natOf_k64]
theorem Mp.size {D:DataW Value} (h:w.ownsMap P k heldR b (Maps.size D) D) (m:MpD D M) (hk:P.underlying k=some (.int .u64)) {L:List Nat} (hL:∀ i,M i≠none->i ∈ L):Maps.size D<=L.length:=by
 obtain ⟨es,rfl,hp,hn⟩:=keys64 h hk;rw [Maps.size_eq]
 have:=nodup_le _ L (nats_nodup hp hn) (fun i hi=>hL i (fun e=>by
  obtain ⟨p,hp',rfl⟩:=List.mem_map.1 hi;obtain ⟨j,hj,hj2⟩:=hn p hp';have h2:=(mem_has hn _).1 hi;rw [hj,natOf_k64] at h2 e;rw [m.has j hj2,e] at h2;simp at h2))
 simpa using this
theorem MpD.put {D:DataW Value} (m:MpD D M) (hD:Maps.IsMap D) {i:Nat} (hi:i < 18446744073709551616) (v:Value):MpD (D.put (k64 i) (.held v)) (upd M i (some v)):=by
 refine ⟨fun j hj=>?_,fun j u hu z=>?_,fun j hj=>?_⟩
 ·by_cases q:j=i
  ·subst q;rw [upd_same,Maps.has_put_same hD (k64_key _)];rfl
  ·rw [ZY _ _ q,Maps.has_put_other (fun e=>q (k64_inj e)),m.has j hj]
 ·by_cases q:j=i
  ·subst q;rw [upd_same] at hu;cases hu
   exact Maps.atKey_put_same hD (k64_key _) _ _
  ·rw [ZY _ _ q] at hu;rw [Maps.atKey_put_other (fun e=>q (k64_inj e)),m.get j u hu]
 ·rw [ZY _ _ (by omega)];exact m.big j hj
theorem Mp.store (h:Mp P k w b M) (hk:P.underlying k=some (.int .u64)) (ht:P.underlying t=some (.map k e)) {L:List Nat} (hL:∀ i,M i≠none->i ∈ L) (hl:L.length < maxLen) {i:Nat} (hi:i < 18446744073709551616) (v:Value) :
  ∃ w',(Instr.mapUpdate t (.map (some b)) (.int .u64 (i:Int)) v).run P w=.ok () w'/\Mp P k w' b (upd M i (some v))/\w.mapTurned w' b:=by
 obtain ⟨D,h,m⟩:=h;have hK:=Maps.int_keyed hk;have hs:=Mp.size h m hk hL;obtain ⟨w',h1,h2,h3⟩:=h.store hK ht (Nat.lt_of_le_of_lt hs hl) (key64 hk hi) (val:=v) (d:=.held v) (ps:=[]) rfl;refine ⟨w',h1,⟨_,?_,m.put h.isMap hi v⟩,h3⟩;obtain ⟨es,c,q1,q2,q3,q4⟩:=h2;refine ⟨es,c,q1,q2,?_,q4⟩;rw [q4];simp [Maps.size,length_sorted]
end
end
end Apo
