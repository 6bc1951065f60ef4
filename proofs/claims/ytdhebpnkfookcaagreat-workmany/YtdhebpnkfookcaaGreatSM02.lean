import Derived.Stop.BytesEq
import Derived.Laws.CopyOwn
import Derived.Lib.Overlaps
import Derived.Handy
import Derived.RangeFuncNested
import Derived.RangeFuncBound
import Derived.Shelf.RegionOpen
import Derived.OwnWalkIn
import Derived.LoopNIn
import Derived.LoopIn
import Derived.Test.YtdhebpnkfookcaaGreatSM01
namespace Apo
open Go Go.RowKit
section
/-! a load that runs to its end and leaves the world -/
def LdRuns (P:Program) (w:World) (t:TypeId) (v:Value):Prop:=∃ u,(Instr.loadAt t v).run P w=.ok u w
noncomputable def ldVal (P:Program) (w:World) (t:TypeId) (v:Value):Value:=match (Instr.loadAt t v).run P w with
 | .ok u _=>u
 | _=>undef
theorem ld_runs {P:Program} {w:World} {t:TypeId} {v u:Value} (h:(Instr.loadAt t v).run P w=.ok u w):LdRuns P w t v/\ldVal P w t v=u:=⟨⟨u,h⟩,by unfold ldVal;rw [h]⟩
theorem ld_exec {P:Program} {w:World} {ρ:Operand->Value} {dst:Option Tmp} {t:TypeId} {x:Operand} {ty:TypeId} {pos:String} {after:Array Edge} {guard:Option (Nat × Bool)} (h:LdRuns P w t (ρ x)) :
  (execOp ρ { dst,op:=.load t x,type:=ty,pos,after,guard }).run P w=.ok (.value (ldVal P w t (ρ x))) w:=by
 obtain ⟨u,h⟩:=h;obtain ⟨_,e⟩:=ld_runs h;rw [e];simp [execOp,h,Result.andThen]
/-! a store that runs to its end -/
def StRuns (P:Program) (w:World) (t:TypeId) (v u:Value):Prop:=∃ w',(Instr.storeAt t v u).run P w=.ok () w'
noncomputable def stWld (P:Program) (w:World) (t:TypeId) (v u:Value):World:=match (Instr.storeAt t v u).run P w with
 | .ok _ w'=>w'
 | _=>w
theorem st_runs {P:Program} {w w':World} {t:TypeId} {v u:Value} (h:(Instr.storeAt t v u).run P w=.ok () w'):StRuns P w t v u/\stWld P w t v u=w':=⟨⟨w',h⟩,by unfold stWld;rw [h]⟩
theorem st_exec {P:Program} {w:World} {ρ:Operand->Value} {dst:Option Tmp} {t:TypeId} {x y:Operand} {ty:TypeId} {pos:String} {after:Array Edge} {guard:Option (Nat × Bool)} (h:StRuns P w t (ρ x) (ρ y)) :
  (execOp ρ { dst,op:=.store t x y,type:=ty,pos,after,guard }).run P w=.ok .skip (stWld P w t (ρ x) (ρ y)):=by
 obtain ⟨w',h⟩:=h;obtain ⟨_,e⟩:=st_runs h;rw [e];simp [execOp,h,Result.andThen]
/-! a struct or array that is built -/
def BdRuns (P:Program) (t:TypeId) (ps:Array (Nat × Value)):Prop:=∃ u,∀ w,(Instr.build t ps).run P w=.ok u w
noncomputable def bdVal (P:Program) (t:TypeId) (ps:Array (Nat × Value)):Value:=match (Instr.build t ps).run P default with
 | .ok u _=>u
 | _=>undef
theorem bd_runs {P:Program} {t:TypeId} {ps:Array (Nat × Value)} {u:Value} (h:∀ w,(Instr.build t ps).run P w=.ok u w):BdRuns P t ps/\bdVal P t ps=u:=⟨⟨u,h⟩,by unfold bdVal;rw [h]⟩
theorem bd_exec {P:Program} {w:World} {ρ:Operand->Value} {dst:Option Tmp} {t:TypeId} {ps:Array (Nat × Operand)} {ty:TypeId} {pos:String} {after:Array Edge} {guard:Option (Nat × Bool)} (h:BdRuns P t (ps.map fun (i,x)=>(i,ρ x))) :
  (execOp ρ { dst,op:=.build t ps,type:=ty,pos,after,guard }).run P w=.ok (.value (bdVal P t (ps.map fun (i,x)=>(i,ρ x)))) w:=by
 obtain ⟨u,h⟩:=h;obtain ⟨_,e⟩:=bd_runs h;rw [e];have h1:=h w;simp only [execOp,Sem.run_bind];rw [h1];simp [Result.andThen]
/-! a copy that runs to its end -/
def CpRuns (P:Program) (w:World) (ts:Array TypeId) (ty:TypeId) (xs:Array Value):Prop:=∃ v' w',(Builtin.copy_ ts ty xs).run P w=.ok v' w'
noncomputable def cpVal (P:Program) (w:World) (ts:Array TypeId) (ty:TypeId) (xs:Array Value):Value:=match (Builtin.copy_ ts ty xs).run P w with
 | .ok v _=>v
 | _=>undef
noncomputable def cpWld (P:Program) (w:World) (ts:Array TypeId) (ty:TypeId) (xs:Array Value):World:=match (Builtin.copy_ ts ty xs).run P w with
 | .ok _ w'=>w'
 | _=>w
theorem cp_runs {P:Program} {w w':World} {ts:Array TypeId} {ty:TypeId} {xs:Array Value} {v':Value} (h:(Builtin.copy_ ts ty xs).run P w=.ok v' w'):CpRuns P w ts ty xs/\cpVal P w ts ty xs=v'/\cpWld P w ts ty xs=w' :=
 ⟨⟨v',w',h⟩,by unfold cpVal;rw [h],by unfold cpWld;rw [h]⟩
theorem cp_exec {P:Program} {w:World} {ρ:Operand->Value} {dst:Option Tmp} {xs:Array Operand} {ats:Array TypeId} {ty:TypeId} {pos:String} {after:Array Edge} {guard:Option (Nat × Bool)} (h:CpRuns P w ats ty (xs.map ρ)) :
  (execOp ρ { dst,op:=.call { callee:=.builtin .copy,args:=xs,argTypes:=ats },type:=ty,pos,after,guard }).run P w=.ok (.value (cpVal P w ats ty (xs.map ρ))) (cpWld P w ats ty (xs.map ρ)):=by
 rw [BigFrame.execOp_builtin,BigFrame.builtin_copy];obtain ⟨v',w',h⟩:=h;obtain ⟨_,h1,h2⟩:=cp_runs h;rw [h1,h2];simp [h]
/-! what a load of cells that are known gives -/
theorem run_loadAt_cells {P:Program} {w:World} (t:TypeId) (d:TypeDesc) (hu:P.underlying t=some d) (hd:(match d with | .struct _ | .array _ _=>true | _=>false)=true) (cs:List Value) (hi:(P.info? t).map (·.size)=some cs.length)
  (ad:Addr) (h:∀ j v,cs[j]?=some v->w.cell? (ad.add j)=some v):(Instr.loadAt t (.pointer (some ad))).run P w=.ok (.agg cs.toArray) w:=by
 have hl:=run_loadCells_list (P:=P) w ad cs h;cases hq:P.info? t with
 | none=>simp [hq] at hi
 | some i =>
  have hs:i.size=cs.length:=by simpa [hq] using hi
  have hagg:(isAgg t).run P w=.ok true w:=by
   unfold isAgg;rw [Sem.run_bind,run_underlying hu w];cases d <;> simp_all
  simp [Instr.loadAt,Instr.sureAddr,loadVar,Sem.run_bind,hagg,Go.sizeOf,typeInfo,hq,hs,hl]
def over (cs:List Value) (o:Nat) (vs:List Value):List Value:=cs.take o++vs++cs.drop (o+vs.length)
theorem over_len {cs vs:List Value} {o:Nat} (h:o+vs.length<=cs.length):(over cs o vs).length=cs.length:=by simp [over];omega
theorem run_storeAt_cells {P:Program} {w:World} (t e:TypeId) (g o:Nat) (cs vs:List Value) (hi:(P.info? t).map (·.size)=some vs.length) (h1:∀ v ∈ vs,v.oneCell'=true) (hO:Ob w g e cs) (hl:o+vs.length<=cs.length) :
  ∃ w',(Instr.storeAt t (.pointer (some ⟨g,o,none⟩)) (.agg vs.toArray)).run P w=.ok () w'/\Ob w' g e (over cs o vs)/\Onl (fun k=>k=g) w w':=by
 have hr:=run_storeCells_at P g o e vs 0 cs.toArray w hO (by simpa using hl) h1;cases hq:P.info? t with
 | none=>simp [hq] at hi
 | some i =>
  have hs:i.size=vs.length:=by simpa [hq] using hi
  refine ⟨w.setRow g (over cs o vs).toArray,?_,?_,?_⟩
  ·simp only [Nat.add_zero] at hr;simp [Instr.storeAt,Instr.sureAddr,storeVar,Go.sizeOf,typeInfo,hq,Value.cells,hs,hr,over]
  ·exact setRow_heap w g cs.toArray _ e _ hO
  ·exact ⟨rfl,rfl,rfl,by simp,fun k _ hk=>setRow_other w g k _ hk⟩
theorem run_copy_over {P:Program} {w:World} (dT sT ty elem e:TypeId) (hu:P.underlying dT=some (.slice elem)) (hs:(P.info? elem).map (·.size)=some 1) (g o n dCap:Nat) (a:Addr) (sCap:Nat) (cs vs:List Value) (hO:Ob w g e cs) (hn:vs.length=n)
  (hsrc:∀ j v,vs[j]?=some v->w.cell? (a.add j)=some v) (hl:o+n<=cs.length) (h1:∀ v ∈ vs,v.oneCell'=true) :
  ∃ w',(Builtin.copy_ #[dT,sT] ty #[.slice (some ⟨g,o,none⟩) n dCap,.slice (some a) n sCap]).run P w=.ok (.int .i64 n) w'/\Ob w' g e (over cs o vs)/\Onl (fun k=>k=g) w w':=by
 subst hn;have hr:=run_copy_row P w dT sT ty elem g o vs.length dCap a vs.length sCap cs.toArray e vs hu hs hO (by simp) hsrc (by simpa using hl) h1;exact ⟨_,hr,setRow_heap w g cs.toArray _ e _ hO,⟨rfl,rfl,rfl,by simp,fun k _ hk=>setRow_other w g k _ hk⟩⟩
/-! cells of a row of things of one size -/
section
variable {α:Type} {f:α->List Value} {n:Nat}
theorem flat_len:∀ {l:List α},(∀ x ∈ l,(f x).length=n)->(l.flatMap f).length=l.length * n
 | [],_=>by simp
 | x :: l,h=>by
  rw [List.flatMap_cons,List.length_append,h x (by simp),flat_len (fun y hy=>h y (by simp [hy])),List.length_cons,Nat.add_mul,Nat.one_mul,Nat.add_comm]
theorem flat_at:∀ {l:List α} {i:Nat} {x:α} {j:Nat},(∀ x ∈ l,(f x).length=n)->l[i]?=some x->j < n->(l.flatMap f)[i * n+j]?=(f x)[j]?
 | [],_,_,_,_,h,_=>by simp at h
 | y :: l,0,x,j,hl,h,hj=>by
  simp at h
  subst h;rw [List.flatMap_cons,List.getElem?_append_left (by rw [hl y (by simp)];omega)];congr 1
  omega
 | y :: l,i+1,x,j,hl,h,hj=>by
  have e1:=hl y (by simp);rw [List.flatMap_cons,List.getElem?_append_right (by rw [e1,Nat.add_mul];omega),e1];have e2:(i+1) * n+j - n=i * n+j:=by rw [Nat.add_mul];omega
  rw [e2];exact flat_at (fun z hz=>hl z (by simp [hz])) (by simpa using h) hj
theorem flat_set:∀ {l:List α} {i:Nat} {x:α},(∀ x ∈ l,(f x).length=n)->(f x).length=n->i < l.length->over (l.flatMap f) (i * n) (f x)=(l.set i x).flatMap f
 | [],_,_,_,_,h=>by simp at h
 | y :: l,0,x,hl,hx,_=>by
  have e1:=hl y (by simp);simp [over,hx,<- e1]
 | y :: l,i+1,x,hl,hx,h=>by
  have e1:=hl y (by simp);have ih:=flat_set (l:=l) (i:=i) (x:=x) (fun z hz=>hl z (by simp [hz])) hx (by simpa using h);rw [List.set_cons_succ,List.flatMap_cons,List.flatMap_cons,<- ih];unfold over;have e2:(i+1) * n=n+i * n:=by rw [Nat.add_mul];omega
  rw [e2,hx,List.take_append,List.drop_append,e1];have e3:n+i * n - n=i * n:=by omega
  have e4:n+i * n+n - n=i * n+n:=by omega
  rw [e3,e4,List.take_of_length_le (by omega),List.drop_eq_nil_of_le (by omega)];simp
end
def Zq (r:List Int):List Value:=r.map (Value.int .u8)
def wrV (x:Nat × List Int):List Value:=.int .i64 x.1 :: Zq x.2
def scells (S:List (List Int)):List Value:=S.flatMap Zq
def ZD (C:List (Nat × List Int)):List Value:=C.flatMap wrV
def secA (r:List Int):Array Value:=(Zq r).toArray
def wrA (x:Nat × List Int):Array Value:=(wrV x).toArray
theorem secV_one (r:List Int):∀ v ∈ Zq r,v.oneCell'=true:=by
 intro v hv;simp only [Zq,List.mem_map] at hv;obtain ⟨z,_,rfl⟩:=hv;rfl
theorem wrV_one (x:Nat × List Int):∀ v ∈ wrV x,v.oneCell'=true:=by
 intro v hv;simp only [wrV,List.mem_cons] at hv;rcases hv with rfl | hv
 ·rfl
 ·exact secV_one _ v hv
theorem bytes_cells {r:List Int} (h:∀ z ∈ r,0<=z/\z<=255):∃ xs:List UInt8,xs.map Extern.Stop.cell=Zq r/\xs.length=r.length:=by
 refine ⟨r.map (fun z=>UInt8.ofNat z.toNat),?_,by simp⟩;simp only [Zq,List.map_map];apply List.map_congr_left
 intro z hz;obtain ⟨h0,h1⟩:=h z hz;simp only [Function.comp,Extern.Stop.cell];congr 1
 have:(UInt8.ofNat z.toNat).toNat=z.toNat:=by simp [UInt8.toNat_ofNat'];omega
 rw [this];exact Int.toNat_of_nonneg h0
theorem secV_inj:∀ {r s:List Int},Zq r=Zq s->r=s:=by
 intro r s h;have:=congrArg (List.map (fun v=>match v with | Value.int _ z=>z | _=>0)) h;simpa [Zq,List.map_map,Function.comp_def] using this
/-! a variable that is made: its cells of nothing,behind a name -/
def AlRuns (P:Program) (t:TypeId):Prop:=∃ i z,P.info? t=some i/\i.zero=some z
def zc (P:Program) (t:TypeId):Array Value:=match P.info? t with
 | some i=>(i.zero.getD undef).cells
 | none=>#[]
theorem al_runs {P:Program} {t:TypeId} {z:Value} {n m:Nat} (h:(P.info? t).map (fun i=>(i.zero,i.size,i.bytes))=some (some z,n,m)):AlRuns P t/\zc P t=z.cells:=by
 cases hq:P.info? t with
 | none=>simp [hq] at h
 | some i =>
  simp [hq] at h
  exact ⟨⟨i,z,hq,h.1⟩,by simp [zc,hq,h.1]⟩
theorem al_exec {P:Program} {w:World} {ρ:Operand->Value} {dst:Option Tmp} {t:TypeId} {ty:TypeId} {pos:String} {after:Array Edge} {guard:Option (Nat × Bool)} (h:AlRuns P t) :
  (execOp ρ { dst,op:=.alloc t,type:=ty,pos,after,guard }).run P w=.ok (.value (.pointer (some ⟨w.heap.size,0,none⟩))) (w.alloc (.cells (zc P t) t)):=by
 obtain ⟨i,z,hi,hz⟩:=h;simp [execOp,Instr.alloc,zeroValue,typeInfo,hi,hz,newVar,newRow,zc,Result.andThen]
/-! a struct that is built: its parts laid over -/
theorem fold_over:∀ (vs cs:List Value) (o k:Nat),o+k+vs.length<=cs.length->((vs.zipIdx k).foldl (fun (cs:Array Value) (c:Value × Nat)=>cs.setIfInBounds (o+c.2) c.1) cs.toArray)=(over cs (o+k) vs).toArray
 | [],cs,o,k,h=>by simp [over]
 | v :: vs,cs,o,k,h=>by
  simp only [List.length_cons] at h;rw [List.zipIdx_cons,List.foldl_cons];have e:cs.toArray.setIfInBounds (o+k) v=(cs.set (o+k) v).toArray:=by simp
  rw [e,fold_over vs (cs.set (o+k) v) o (k+1) (by simp;omega)];congr 1
  unfold over;have:=list_seg_step cs (o+k) v vs (by omega);simp only [List.length_cons] at this ⊢;rw [show o+(k+1)=o+k+1 from rfl,this]
theorem fill_two {place:Nat->Option (Nat × Nat)} {cs vs us:List Value} {v u:Value} {i j o1 o2 n1 n2:Nat} (hv:v.cells=vs.toArray) (hu:u.cells=us.toArray) (hi:place i=some (o1,n1)) (hj:place j=some (o2,n2)) (h1:vs.length=n1) (h2:us.length=n2)
  (l1:o1+n1<=cs.length) (l2:o2+n2<=cs.length):Instr.fill place cs.toArray [(i,v),(j,u)]=some (over (over cs o1 vs) o2 us).toArray:=by
 have e1:=fold_over vs cs o1 0 (by omega);have e2:=fold_over us (over cs o1 vs) o2 0 (by rw [over_len (by omega)];omega)
 have q1:(v.cells.zipIdx.foldl (fun (cs:Array Value) (c:Value × Nat)=>cs.setIfInBounds (o1+c.2) c.1) cs.toArray)=(over cs o1 vs).toArray:=by
  rw [hv,<- Array.foldl_toList];simpa using e1
 have q2:(u.cells.zipIdx.foldl (fun (cs:Array Value) (c:Value × Nat)=>cs.setIfInBounds (o2+c.2) c.1) (over cs o1 vs).toArray)=(over (over cs o1 vs) o2 us).toArray:=by
  rw [hu,<- Array.foldl_toList];simpa using e2
 have c1:(decide (v.cells.size≠n1) || decide (o1+v.cells.size > cs.toArray.size))=false:=by rw [hv];simp;omega
 have c2:(decide (u.cells.size≠n2) || decide (o2+u.cells.size > (over cs o1 vs).toArray.size))=false:=by rw [hu];simp [over_len (cs:=cs) (vs:=vs) (o:=o1) (by omega)];omega
 unfold Instr.fill;simp only [hi];rw [c1];simp only [Bool.false_eq_true,if_false];rw [q1];unfold Instr.fill;simp only [hj];rw [c2];simp only [Bool.false_eq_true,if_false];rw [q2];rfl
end
theorem setRow_grew {w:World} {g:Nat} {cs:Array Value}:w.grownBy (w.setRow g cs) (some g):=⟨rfl,rfl,rfl,by simp [World.setRow],fun k _ hk=>setRow_other w g k cs (fun e=>hk (by rw [e]))⟩
theorem ZC {P:Program} {w:World} {dT sT ty e t:TypeId} {size:Nat} (hu:P.underlying dT=some (.slice e)) (hs:(P.info? e).map (·.size)=some size)
  (g o:Nat) (cur:List Value) (hg:Ob w g t cur) (dp sp:Option Addr) (dLen dCap sLen sCap:Nat) (cs:List Value) (hn:cs.length=Nat.min sLen dLen * size)
  (hpos:0 < cs.length->dp=some ⟨g,o,none⟩/\∃ a,sp=some a/\∀ j v,cs[j]?=some v->w.cell? (a.add j)=some v) (hsz:0 < size) (hfit:o+cs.length<=cur.length) (h1:∀ v ∈ cs,v.oneCell'=true) :
  ∃ w',(Builtin.copy_ #[dT,sT] ty #[.slice dp dLen dCap,.slice sp sLen sCap]).run P w=.ok (goInt (Nat.min sLen dLen)) w'/\Ob w' g t (splice cur o cs)/\w.grownBy w' (some g):=by
 cases hq:P.info? e with
 | none=>simp [hq] at hs
 | some i =>
  have hi:i.size=size:=by simpa [hq] using hs
  by_cases h0:cs.length=0
  ·obtain rfl:cs=[]:=List.eq_nil_of_length_eq_zero h0
   have hm:Nat.min sLen dLen=0:=by
    rcases Nat.eq_zero_or_pos (Nat.min sLen dLen) with h | h
    ·exact h
    ·have:=Nat.mul_pos h hsz;simp at hn
     omega
   refine ⟨w,?_,by simpa [splice] using hg,Zm _ (Below.refl _ _)⟩;have hl:∀ (x:Addr),(loadCells x 0).run P w=.ok #[] w:=fun x=>by simpa using run_loadCells_list (P:=P) w x [] (by simp)
   cases dp <;> cases sp <;> simp [Builtin.copy_,run_underlying hu,Builtin.lenOf,Builtin.firstCells,Go.sizeOf,typeInfo,hq,hm,storeCells,hl]
  ·obtain ⟨rfl,a,rfl,hsrc⟩:=hpos (by omega);have hl:=run_loadCells_list (P:=P) w a cs hsrc;have hst:=run_storeCells_at P g o t cs 0 cur.toArray w hg (by simpa using hfit) h1;refine ⟨w.setRow g (splice cur o cs).toArray,?_,setRow_heap w g _ _ t _ hg,setRow_grew⟩;simp [Builtin.copy_,run_underlying hu,Builtin.lenOf,Builtin.firstCells,Go.sizeOf,typeInfo,hq,hi,<- hn,hl,hst,splice]
theorem run_clear_ob {P:Program} {w:World} {T ty e t:TypeId} {i:TypeInfo} {z:Value} {size:Nat} (hu:P.underlying T=some (.slice e)) (hi:P.info? e=some i) (hz:i.zero=some z) (hzs:z.cells.size=size) (hz1:∀ v ∈ z.cells,v.oneCell'=true)
  (g o:Nat) (cur:List Value) (hg:Ob w g t cur) (ap:Option Addr) (n c:Nat) (hpos:0 < n->ap=some ⟨g,o,none⟩) (hfit:o+n * size<=cur.length) :
  ∃ w' zs,(Builtin.clear_ #[T] ty #[.slice ap n c]).run P w=.ok (.tuple #[]) w'/\zs.length=n * size/\Ob w' g t (splice cur o zs)/\w.grownBy w' (some g):=by
 cases n with
 | zero =>
  refine ⟨w,[],?_,by simp,by simpa [splice] using hg,Zm _ (Below.refl _ _)⟩;cases ap <;> simp [Builtin.clear_,run_underlying hu]
 | succ m =>
  obtain rfl:=hpos (by omega);have hzl:(Builtin.zeroCells z.cells (m+1)).toList.length=(m+1) * size:=by simp [Builtin.zeroCells,hzs]
  have h1:∀ v ∈ (Builtin.zeroCells z.cells (m+1)).toList,v.oneCell'=true:=by
   intro v hv;simp only [Builtin.zeroCells,Array.toList_map,List.mem_map] at hv;obtain ⟨j,hj,rfl⟩:=hv;by_cases hjz:j % z.cells.size < z.cells.size
   ·rw [getElem!_pos z.cells (j % z.cells.size) hjz];exact hz1 _ (Array.getElem_mem hjz)
   ·exfalso
    have:0 < z.cells.size:=by
     rcases Nat.eq_zero_or_pos z.cells.size with h | h
     ·rw [h] at hj;simp at hj
     ·exact h
    exact hjz (Nat.mod_lt _ this)
  have hst:=run_storeCells_at P g o t _ 0 cur.toArray w hg (by rw [hzl];simpa using hfit) h1;refine ⟨w.setRow g (splice cur o (Builtin.zeroCells z.cells (m+1)).toList).toArray,_,?_,hzl,setRow_heap w g _ _ t _ hg,setRow_grew⟩;have hzv:(zeroValue e).run P w=.ok z w:=by simp [zeroValue,typeInfo,hi,hz]
  simp [Builtin.clear_,run_underlying hu,hzv,hst,splice,hzl]
theorem run_append_zeros_eq {P:Program} {w:World} {t tn ty e:TypeId} {i:TypeInfo} {z:Value} {size bytes:Nat} (ht:P.underlying t=some (.slice e)) (htn:P.underlying tn=some (.int .i64)) (hi:P.info? e=some i) (hz:i.zero=some z) (hsize:i.size=size) (hby:i.bytes=bytes) (hsz:0 < size)
  (b:Addr) (n cap m:Nat) (xs:List Value) (hl:xs.length=n * size) (hxs:∀ j v,xs[j]?=some v->w.cell? (b.add j)=some v) (hg:cap < n+m) (hn:n<=cap) (h63:n+m<=maxLen) (hbytes:(n+m) * bytes<=140737488355328) :
  (Builtin.append_ #[t,tn] ty #[.slice (some b) n cap,.int .i64 m]).run P w=.ok (.slice (some ⟨w.heap.size,0,none⟩) (n+m) (grownCap w (n+m) cap e)) (w.drew.alloc (.cells (xs.toArray++Builtin.zeroCells z.cells m++Builtin.zeroCells z.cells (grownCap w (n+m) cap e - (n+m))) e)):=by
 subst hsize;subst hby;have hsmall:n+m<=9223372036854775807:=by simp only [maxLen] at h63;omega
 have hm:0 < m:=by omega
 have hm0:m≠0:=by omega
 have hw:IntKind.i64.wrap (m:Int)=m:=by rw [IntKind.wrap_i64];omega
 have hneg:¬ ((m:Int) < 0):=by omega
 have hns:¬ (m * i.size=0):=Nat.mul_ne_zero hm0 (by omega);have h63':¬ (9223372036854775807 < ((n:Int)+(m:Int))):=by omega
 have h48:=growslice_fits (need:=n+m) (old:=cap) (by omega) hbytes;have h48':¬ (281474976710656 < Builtin.nextslicecap (n+m) cap * i.bytes):=by omega
 have h48i:¬ (281474976710656 < (m:Int) * (i.bytes:Int)):=by
  rw [<- Int.natCast_mul];have:m * i.bytes<=(n+m) * i.bytes:=Nat.mul_le_mul_right _ (by omega);omega
 have hnr:¬ (n+m<=cap):=by omega
 have hfo:=run_firstCells_some (P:=P) w.drew i.size n b n cap xs hl (by simpa using hxs);simp [Builtin.append_,run_underlying ht,run_underlying htn,Go.sizeOf,typeInfo,zeroValue,hi,hz,asInt,asIntOf,hw,hneg,hns,hnr,h63',h48',h48i,Question.forced,hfo,newRow,grownCap]
theorem run_append_zeros {P:Program} {w:World} {t tn ty e:TypeId} {i:TypeInfo} {z:Value} {size bytes:Nat} (ht:P.underlying t=some (.slice e)) (htn:P.underlying tn=some (.int .i64)) (hi:P.info? e=some i) (hz:i.zero=some z) (hsize:i.size=size) (hby:i.bytes=bytes) (hzs:z.cells.size=size) (hsz:0 < size)
  (b:Addr) (n cap m:Nat) (xs:List Value) (hl:xs.length=n * size) (hxs:∀ j v,xs[j]?=some v->w.cell? (b.add j)=some v) (hg:cap < n+m) (hn:n<=cap) (h63:n+m<=maxLen) (hbytes:(n+m) * bytes<=140737488355328) :
  ∃ c w' Z,(Builtin.append_ #[t,tn] ty #[.slice (some b) n cap,.int .i64 m]).run P w=.ok (.slice (some ⟨w.heap.size,0,none⟩) (n+m) c) w'/\Ob w' w.heap.size e (xs++Z)/\Z.length+xs.length=c * size/\n+m<=c/\c<=maxLen/\Below w.heap.size w w'/\w'.heap.size=w.heap.size+1:=by
 have hr:=run_append_zeros_eq (P:=P) (w:=w) (ty:=ty) ht htn hi hz hsize hby hsz b n cap m xs hl hxs hg hn h63 hbytes;have hge:=grownCap_ge w (n+m) cap e;have hcm:grownCap w (n+m) cap e<=maxLen:=grownCap_le_maxLen w (n+m) cap e h63;refine ⟨_,_,(Builtin.zeroCells z.cells m++Builtin.zeroCells z.cells (grownCap w (n+m) cap e - (n+m))).toList,hr,?_,?_,hge,hcm,?_,by simp⟩
 ·have:=heap_alloc_new w.drew (.cells (xs.toArray++Builtin.zeroCells z.cells m++Builtin.zeroCells z.cells (grownCap w (n+m) cap e - (n+m))) e);unfold Ob
  rw [show (xs++(Builtin.zeroCells z.cells m++Builtin.zeroCells z.cells (grownCap w (n+m) cap e - (n+m))).toList).toArray=xs.toArray++Builtin.zeroCells z.cells m++Builtin.zeroCells z.cells (grownCap w (n+m) cap e - (n+m)) by
   apply Array.ext'
   simp]
  exact this
 ·simp only [Array.toList_append,List.length_append,Array.length_toList,size_zeroCells,hzs,hl,<- Nat.add_mul];congr 1
  omega
 ·exact ((Below.refl _ w).drew).alloc (Nat.le_refl _) _
theorem run_append_in {P:Program} {w:World} {t ty e tt:TypeId} {i:TypeInfo} {size:Nat} (ht:P.underlying t=some (.slice e)) (hi:P.info? e=some i) (hsize:i.size=size)
  (g n cap:Nat) (cur:List Value) (hg:Ob w g tt cur) (sp:Option Addr) (m mc:Nat) (cs:List Value) (hn:cs.length=m * size) (hpos:0 < m->∃ a,sp=some a/\∀ j v,cs[j]?=some v->w.cell? (a.add j)=some v) (hroom:n+m<=cap) (hfit:n * size+cs.length<=cur.length) (h1:∀ v ∈ cs,v.oneCell'=true) :
  ∃ w',(Builtin.append_ #[t,t] ty #[.slice (some ⟨g,0,none⟩) n cap,.slice sp m mc]).run P w=.ok (.slice (some ⟨g,0,none⟩) (n+m) cap) w'/\Ob w' g tt (splice cur (n * size) cs)/\w.grownBy w' (some g):=by
 subst hsize;have hadd:(⟨g,0,none⟩:Addr).add (n * i.size)=⟨g,n * i.size,none⟩:=by unfold Addr.add;split <;> simp_all
 cases m with
 | zero =>
  obtain rfl:cs=[]:=List.eq_nil_of_length_eq_zero (by simpa using hn);refine ⟨w,?_,by simpa [splice] using hg,Zm _ (Below.refl _ _)⟩;have hl:∀ (x:Addr),(loadCells x 0).run P w=.ok #[] w:=fun x=>by simpa using run_loadCells_list (P:=P) w x [] (by simp)
  have hr':n<=cap:=hroom;cases sp <;> simp [Builtin.append_,run_underlying ht,Go.sizeOf,typeInfo,hi,Builtin.lenOf,Builtin.firstCells,hl,hr',storeCells]
 | succ m =>
  obtain ⟨a,rfl,hsrc⟩:=hpos (by omega);have hl:=run_loadCells_list (P:=P) w a cs hsrc;have hst:=run_storeCells_at P g (n * i.size) tt cs 0 cur.toArray w hg (by simpa using hfit) h1;refine ⟨w.setRow g (splice cur (n * i.size) cs).toArray,?_,setRow_heap w g _ _ tt _ hg,setRow_grew⟩;simp [Builtin.append_,run_underlying ht,Go.sizeOf,typeInfo,hi,Builtin.lenOf,Builtin.firstCells,<- hn,hl,hroom,hadd,hst,splice]
def ClRuns (P:Program) (w:World) (ts:Array TypeId) (ty:TypeId) (xs:Array Value):Prop:=∃ v' w',(Builtin.clear_ ts ty xs).run P w=.ok v' w'
noncomputable def clVal (P:Program) (w:World) (ts:Array TypeId) (ty:TypeId) (xs:Array Value):Value:=match (Builtin.clear_ ts ty xs).run P w with
 | .ok v _=>v
 | _=>undef
noncomputable def clWld (P:Program) (w:World) (ts:Array TypeId) (ty:TypeId) (xs:Array Value):World:=match (Builtin.clear_ ts ty xs).run P w with
 | .ok _ w'=>w'
 | _=>w
theorem cl_runs {P:Program} {w w':World} {ts:Array TypeId} {ty:TypeId} {xs:Array Value} {v':Value} (h:(Builtin.clear_ ts ty xs).run P w=.ok v' w'):ClRuns P w ts ty xs/\clVal P w ts ty xs=v'/\clWld P w ts ty xs=w' :=
 ⟨⟨v',w',h⟩,by unfold clVal;rw [h],by unfold clWld;rw [h]⟩
theorem cl_run {P:Program} {w:World} {ts:Array TypeId} {ty:TypeId} {xs:Array Value} (h:ClRuns P w ts ty xs):(Builtin.clear_ ts ty xs).run P w=.ok (clVal P w ts ty xs) (clWld P w ts ty xs):=by
 obtain ⟨v',w',h⟩:=h;obtain ⟨_,h1,h2⟩:=cl_runs h;rw [h1,h2];exact h
theorem cl_exec {P:Program} {w:World} {ρ:Operand->Value} {dst:Option Tmp} {xs:Array Operand} {ats:Array TypeId} {ty:TypeId} {pos:String} {after:Array Edge} {guard:Option (Nat × Bool)} (h:ClRuns P w ats ty (xs.map ρ)) :
  (execOp ρ { dst,op:=.call { callee:=.builtin .clear,args:=xs,argTypes:=ats },type:=ty,pos,after,guard }).run P w=.ok (.value (clVal P w ats ty (xs.map ρ))) (clWld P w ats ty (xs.map ρ)):=by
 rw [BigFrame.execOp_builtin];simp [builtin,cl_run h]
/-! lists laid over one another -/
theorem splice_at {α:Type} (L cs:List α) (o:Nat) (h:o+cs.length<=L.length) (j:Nat):(splice L o cs)[j]?=if j < o then L[j]? else if j < o+cs.length then cs[j - o]? else L[j]?:=by
 unfold splice;by_cases h1:j < o
 ·rw [if_pos h1,List.getElem?_append_left (by simp;omega),List.getElem?_take_of_lt h1]
 ·rw [if_neg h1,List.getElem?_append_right (by simp;omega),List.length_take,Nat.min_eq_left (by omega)];by_cases h2:j < o+cs.length
  ·rw [if_pos h2,List.getElem?_append_left (by omega)]
  ·rw [if_neg h2,List.getElem?_append_right (by omega),List.getElem?_drop];congr 1
   omega
theorem place_xb {α:Type} {L A X B:List α} {a b c:Nat} (hb:B.length=b) (hx:X.length=c) (hA:L.take a=A) (hl:a+c+b<=L.length):(splice (splice L a X) (a+c) B).take (a+c+b)=A++(X++B):=by
 have ha:A.length=a:=by rw [<- hA,List.length_take];omega
 apply List.ext_getElem?
 intro j;by_cases h:j < a+c+b
 ·rw [List.getElem?_take_of_lt h,splice_at _ _ _ (by rw [length_splice _ _ _ (by omega)];omega),splice_at _ _ _ (by omega)];by_cases h1:j < a
  ·rw [if_pos (by omega),if_pos h1,List.getElem?_append_left (by omega),<- hA,List.getElem?_take_of_lt h1]
  ·rw [List.getElem?_append_right (l₁:=A) (by omega),ha];by_cases h2:j < a+c
   ·rw [if_pos h2,if_neg h1,if_pos (by omega),List.getElem?_append_left (by omega)]
   ·rw [if_neg h2,if_pos (by omega),List.getElem?_append_right (by omega)];congr 1
    omega
 ·rw [List.getElem?_eq_none (by simp;omega),List.getElem?_eq_none (by simp;omega)]
theorem place_bx {α:Type} {L A X B:List α} {a b c:Nat} (hb:B.length=b) (hx:X.length=c) (hA:L.take a=A) (hl:a+c+b<=L.length):(splice (splice L (a+c) B) a X).take (a+c+b)=A++(X++B):=by
 have ha:A.length=a:=by rw [<- hA,List.length_take];omega
 apply List.ext_getElem?
 intro j;by_cases h:j < a+c+b
 ·rw [List.getElem?_take_of_lt h,splice_at _ _ _ (by rw [length_splice _ _ _ (by omega)];omega),splice_at _ _ _ (by omega)];by_cases h1:j < a
  ·rw [if_pos h1,if_pos (by omega),List.getElem?_append_left (by omega),<- hA,List.getElem?_take_of_lt h1]
  ·rw [if_neg h1,List.getElem?_append_right (by omega),ha];by_cases h2:j < a+X.length
   ·rw [if_pos h2,List.getElem?_append_left (by omega)]
   ·rw [if_neg h2,if_neg (by omega),if_pos (by omega),List.getElem?_append_right (by omega)];congr 1
    omega
 ·rw [List.getElem?_eq_none (by simp;omega),List.getElem?_eq_none (by simp;omega)]
theorem splice_take {α:Type} (L cs:List α) (o k:Nat) (hk:k<=o) (ho:o<=L.length):(splice L o cs).take k=L.take k:=by
 unfold splice;rw [List.take_append_of_le_length (by simp;omega),List.take_take,Nat.min_eq_left hk]
end Apo
namespace Go.Proofs.YtdhebpnkfookcaaGreat
section
open Go.RowKit Apo
structure Spn.Ok (s:Spn):Prop where
 a0:-9223372036854775808<=s.a
 a1:s.a<=9223372036854775807
 k0:-9223372036854775808<=s.k
 k1:s.k<=9223372036854775807
end
section
open Go.RowKit Apo
attribute [local go_sem ↓] Apo.app_exec
def Zb:List (Nat × Nat)->List Value
 | []=>[]
 | x :: R=>.int .i64 x.1 :: .int .i64 x.2 :: Zb R
theorem Zs:∀ R,(Zb R).length=R.length * 2
 | []=>rfl
 | x :: R=>by simp [Zb,Zs R];omega
theorem Z7:∀ R S,Zb (R++S)=Zb R++Zb S
 | [],_=>rfl
 | x :: R,S=>by simp [Zb,Z7 R S]
theorem rcells_at:∀ {R:List (Nat × Nat)} {i:Nat} {x:Nat × Nat},R[i]?=some x->(Zb R)[i * 2]?=some (.int .i64 x.1)/\(Zb R)[i * 2+1]?=some (.int .i64 x.2)
 | [],i,x,h=>by simp at h
 | y :: R,0,x,h=>by
  simp at h
  subst h;simp [Zb]
 | y :: R,i+1,x,h=>by
  simp at h
  obtain ⟨h1,h2⟩:=rcells_at h;rw [show (i+1) * 2=i * 2+1+1 by omega];simp only [Zb,List.getElem?_cons_succ];exact ⟨h1,h2⟩
theorem bump_len:∀ R,(bump R).length=R.length
 | []=>rfl
 | [x]=>rfl
 | x :: y :: l=>by simp only [bump,List.length_cons,bump_len (y :: l)]
theorem spans_len (L:List Bool):∀ n,(ZK L n).length<=n
 | 0=>by simp [ZK]
 | n+1=>by
  have:=spans_len L n;rw [ZK];split
  ·omega
  ·split
   ·rw [bump_len];omega
   ·simp;omega
theorem own_len2 {w:World} {base e:Nat} {v:Value} {n size:Nat} {xs:List Value} (h:w.ownsRow base e size v n xs):∃ a cap,v=.slice a n cap:=by
 rcases h.2 with ⟨rfl,hz⟩ | ⟨g,cap,cur,rfl,_⟩
 ·exact ⟨none,0,by rw [hz]⟩
 ·exact ⟨_,cap,rfl⟩
theorem lit2_news (w:World) (t:TypeId) (x y:Int):∀ j u,[Value.int .i64 x,.int .i64 y][j]?=some u->(w.alloc (.cells #[.int .i64 x,.int .i64 y] t)).cell? ((⟨w.heap.size,0,none⟩:Addr).add j)=some u:=by
 intro j u hu;have k:=Ob.new w [Value.int .i64 x,.int .i64 y] t;have e:(⟨w.heap.size,0,none⟩:Addr).add j=⟨w.heap.size,0+j,none⟩:=by unfold Addr.add;split <;> simp_all
 rw [e,Nat.zero_add];exact (k.cell j).trans hu
theorem info_span:(Tryz.prog.info? 108).map (fun i=>(i.zero,i.size,i.bytes))=some (some (.agg #[.int .i64 0,.int .i64 0]),2,16):=by kernel_rfl
end
section
open Go.RowKit Apo
end
section
open Go.RowKit Go.Shelf Apo
attribute [local go_sem] Oper.semAt_some
theorem app_sem {ro:Option Nat} {P:Program} {w:World} {ρ:Operand->Value} {dst:Option Tmp} {xs:Array Operand} {ats:Array TypeId} {ty:TypeId} {pos:String} {after:Array Edge} {guard:Option (Nat × Bool)} (h:AppRuns P w ats ty (xs.map ρ)) :
  (Oper.semAt ro ρ { dst,op:=.call { callee:=.builtin .append,args:=xs,argTypes:=ats },type:=ty,pos,after,guard }).run P w=.ok (.value (appVal P w ats ty (xs.map ρ))) (appWld P w ats ty (xs.map ρ)):=by
 rw [Oper.semAt_eq _ _ _ (by simp)];exact app_exec h
attribute [local go_sem ↓] app_sem
def KeepO (O:Nat->Prop) (W W':World):Prop:=W.heap.size<=W'.heap.size/\∀ i,O i->W'.heap[i]?=W.heap[i]?
theorem keepO_t {O:Nat->Prop} {A B C:World} (h:KeepO O A B) (k:KeepO O B C):KeepO O A C:=⟨Nat.le_trans h.1 k.1,fun i hi=>(k.2 i hi).trans (h.2 i hi)⟩
theorem keepO_b {O:Nat->Prop} {w:World} (hO:∀ i,O i->i < w.heap.size) (W:World) (l:Nat) (o o':Obj) (hl:w.heap.size<=l) (_:W.heap[l]?=some o) (_:o.isCells=false) (_:o.isWalk=false):KeepO O W (W.putObj l o') :=
 ⟨by simp,fun i hi=>World.putObj_heap_other (fun e=>by have:=hO i hi;omega)⟩
theorem keepsFrom_cells {B:Nat} {W W':World} {row:Option Nat} (hg:W.grownBy W' row) (hr:∀ j,row=some j->∃ c e f,W.heap[j]?=some (.cells c e f)):KeepsFrom B W W' :=
 ⟨hg.size,fun k o _ hk ho=>(hg.block k (Array.getElem?_eq_some_iff.1 hk).1 (fun e=>by obtain ⟨c,e',f,q⟩:=hr k e.symm;rw [hk] at q;cases q;cases ho)).trans hk⟩
theorem own_cells {w:World} {base e size n:Nat} {v:Value} {xs:List Value} (h:w.ownsRow base e size v n xs):∀ j,v.ownBlock=some j->∃ c e' f,w.heap[j]?=some (.cells c e' f):=by
 intro j hj;rcases h.2 with ⟨rfl,_⟩ | ⟨g,cap,cur,rfl,_,hh,_⟩
 ·simp [Value.ownBlock] at hj
 ·simp only [Value.ownBlock,Option.some.injEq] at hj;subst hj;exact ⟨_,_,_,hh⟩
end
end Go.Proofs.YtdhebpnkfookcaaGreat
