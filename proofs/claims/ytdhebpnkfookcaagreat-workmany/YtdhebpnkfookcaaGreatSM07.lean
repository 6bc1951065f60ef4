import Derived.Deep.WholeRow
import Derived.Test.YtdhebpnkfookcaaGreatSM02
set_option maxHeartbeats 4000000
namespace Go.Proofs.YtdhebpnkfookcaaGreat
section
open Go.RowKit Apo Go.Maps
structure FMap (w:World) (m:Nat) (bad:List Bool):Prop where
 own:∃ D:DataW Unit,w.ownsMap Tryz.prog 3 unitElem m (bad.count true) D/\(∀ i,i < bad.length->Maps.has D (.int .i64 i)=bad.getD i false)/\Maps.size D=bad.count true
structure CParts (O:Nat->Prop) (w:World) (p:Nat) (st:Sd) (vK vC:Value) (m:Nat) (lf:Int):Prop where
 ob:Ob w p 116 [.bool true,vK,vC,.map (some m),.bool (decide (0<=st.left)),.int .i64 lf,.bool st.dead]
 own:O p
 sS:Row O w 216 32 vK st.S.length (scells st.S)
 sC:Row O w 218 33 vC st.C.length (ZD st.C)
 mO:O m
 mF:FMap w m st.bad
 hlf:0<=st.left->lf=st.left
 ok:OkS st
def CDev (O:Nat->Prop) (w:World) (p:Nat) (st:Sd):Prop:=∃ vK vC m lf,CParts O w p st vK vC m lf
theorem CDev.ok {O:Nat->Prop} {w:World} {p:Nat} {st:Sd} (h:CDev O w p st):OkS st:=by obtain ⟨_,_,_,_,h⟩:=h;exact h.ok
theorem CDev.own {O:Nat->Prop} {w:World} {p:Nat} {st:Sd} (h:CDev O w p st):O p:=by obtain ⟨_,_,_,_,h⟩:=h;exact h.own
theorem FMap.lt {w:World} {m:Nat} {bad:List Bool} (h:FMap w m bad):m < w.heap.size:=by obtain ⟨D,h,_⟩:=h.own;exact h.lt
theorem FMap.onl {F:Nat->Prop} {w w':World} {m:Nat} {bad:List Bool} (h:FMap w m bad) (ho:Onl F w w') (hF:¬ F m):FMap w' m bad:=by
 obtain ⟨D,h1,h2⟩:=h.own;have hlt:=h1.lt;obtain ⟨es,clock,hb,q⟩:=h1;exact ⟨D,⟨es,clock,(ho.block m hlt hF).trans hb,q⟩,h2⟩
theorem FMap.ne {w:World} {m:Nat} {bad:List Bool} (h:FMap w m bad) {q:Nat} {t:TypeId} {cs:List Value} (k:Ob w q t cs):m≠q:=by
 rintro rfl;obtain ⟨D,⟨es,clock,hb,_⟩,_⟩:=h.own;unfold Ob at k;rw [hb] at k;cases k
theorem FMap.neRow {O:Nat->Prop} {w:World} {m:Nat} {bad:List Bool} (h:FMap w m bad) {e:TypeId} {size n:Nat} {v:Value} {xs:List Value} (k:Row O w e size v n xs):v.ownBlock≠some m:=by
 intro hg;rcases k.1.2 with ⟨rfl,_⟩ | ⟨g1,_,_,rfl,_,hh,_⟩
 ·simp [Value.ownBlock] at hg
 ·simp only [Value.ownBlock,Option.some.injEq] at hg;subst hg;obtain ⟨D,⟨es,clock,hb,_⟩,_⟩:=h.own;rw [hb] at hh;cases hh
theorem CParts.onl {O F:Nat->Prop} {w w':World} {p:Nat} {st:Sd} {vK vC:Value} {m:Nat} {lf:Int} (h:CParts O w p st vK vC m lf) (ho:Onl F w w') (hF:∀ i,O i->¬ F i):CParts O w' p st vK vC m lf :=
 ⟨h.ob.onl ho (hF p h.own),h.own,h.sS.onl ho (fun g hg=>hF g (h.sS.2 g hg)),h.sC.onl ho (fun g hg=>hF g (h.sC.2 g hg)),h.mO,h.mF.onl ho (hF m h.mO),h.hlf,h.ok⟩
theorem CDev.onl {O F:Nat->Prop} {w w':World} {p:Nat} {st:Sd} (h:CDev O w p st) (ho:Onl F w w') (hF:∀ i,O i->¬ F i):CDev O w' p st:=by
 obtain ⟨_,_,_,_,h⟩:=h;exact ⟨_,_,_,_,h.onl ho hF⟩
theorem CParts.mono {O O':Nat->Prop} {w:World} {p:Nat} {st:Sd} {vK vC:Value} {m:Nat} {lf:Int} (h:CParts O w p st vK vC m lf) (hO:∀ i,O i->O' i):CParts O' w p st vK vC m lf :=
 ⟨h.ob,hO p h.own,h.sS.mono hO,h.sC.mono hO,hO m h.mO,h.mF,h.hlf,h.ok⟩
theorem CDev.mono {O O':Nat->Prop} {w:World} {p:Nat} {st:Sd} (h:CDev O w p st) (hO:∀ i,O i->O' i):CDev O' w p st:=by
 obtain ⟨_,_,_,_,h⟩:=h;exact ⟨_,_,_,_,h.mono hO⟩
theorem CParts.kept {O:Nat->Prop} {w w':World} {p:Nat} {st:Sd} {vK vC:Value} {m:Nat} {lf:Int} (h:CParts O w p st vK vC m lf) (ho:Onl (fun _=>False) w w'):CParts O w' p st vK vC m lf:=h.onl ho (fun _ _ q=>q)
theorem CParts.reob {O:Nat->Prop} {w w':World} {p:Nat} {st:Sd} {vK vC:Value} {m:Nat} {lf lf':Int} (h:CParts O w p st vK vC m lf) (o1:Onl (fun k=>k=p) w w') {st':Sd} (hS:st'.S=st.S) (hC:st'.C=st.C) (hB:st'.bad=st.bad) (ok:OkS st') (hl:0<=st'.left->lf'=st'.left)
  (e:Ob w' p 116 [.bool true,vK,vC,.map (some m),.bool (decide (0<=st'.left)),.int .i64 lf',.bool st'.dead]):CParts O w' p st' vK vC m lf':=by
 refine ⟨e,h.own,?_,?_,h.mO,?_,hl,ok⟩
 ·rw [hS];exact h.sS.onl o1 (fun g hg q=>h.sS.apartOb h.ob (by decide) (by rw [hg,q]))
 ·rw [hC];exact h.sC.onl o1 (fun g hg q=>h.sC.apartOb h.ob (by decide) (by rw [hg,q]))
 ·rw [hB];exact h.mF.onl o1 (h.mF.ne h.ob)
theorem CParts.setOb {O:Nat->Prop} {w:World} {p:Nat} {st:Sd} {vK vC:Value} {m:Nat} {lf lf':Int} (h:CParts O w p st vK vC m lf) (i:Nat) (u:Value) {st':Sd} (hS:st'.S=st.S) (hC:st'.C=st.C) (hB:st'.bad=st.bad) (ok:OkS st') (hl:0<=st'.left->lf'=st'.left)
  (e:[.bool true,vK,vC,.map (some m),.bool (decide (0<=st.left)),.int .i64 lf,.bool st.dead].set i u=[.bool true,vK,vC,.map (some m),.bool (decide (0<=st'.left)),.int .i64 lf',.bool st'.dead]):CParts O (w.setCell ⟨p,i,none⟩ u) p st' vK vC m lf' :=
 h.reob (Onl.set (O:=fun k=>k=p) (Onl.refl _ w) (.inl rfl) u) hS hC hB ok hl (by rw [<- e];exact h.ob.set i u)
theorem csize_any {O:Nat->Prop} {w:World} {p:Nat} {st:Sd} (h:CDev O w p st) :
  Calls Tryz.prog 123 #[.pointer (some ⟨p,0,none⟩)] w fun e w'=>e=.returned (.int .i64 st.S.length)/\w=w':=by
 obtain ⟨vK,vC,m,lf,h⟩:=h;have c1:=h.ob.cell 1;obtain ⟨sa,scap,hvS,hs1,hs2,hs3⟩:=h.sS.form;subst hvS;have hsz:=h.ok.size;simp only [List.getElem?_cons_zero,List.getElem?_cons_succ] at c1;clear h hs3;go_enter Tryz.func123,Tryz.ntmps123
 go_wp2;go_ret
 exact ⟨rfl,rfl⟩
theorem cdead_any {O:Nat->Prop} {w:World} {p:Nat} {st:Sd} (h:CDev O w p st) :
  Calls Tryz.prog 126 #[.pointer (some ⟨p,0,none⟩)] w fun e w'=>e=.returned (.bool st.dead)/\w=w':=by
 obtain ⟨vK,vC,m,lf,h⟩:=h;have c1:=h.ob.cell 6;simp only [List.getElem?_cons_zero,List.getElem?_cons_succ] at c1;clear h;go_enter Tryz.func126,Tryz.ntmps126
 go_wp2;go_ret
 exact ⟨rfl,rfl⟩
theorem chas_any {O:Nat->Prop} {w:World} {p:Nat} {st:Sd} (h:CDev O w p st) (a:Int) :
  Calls Tryz.prog 127 #[.pointer (some ⟨p,0,none⟩),.int .i64 a] w fun e w'=>e=.returned (.bool (st.has a))/\w=w':=by
 have H:=Za h;clear h;by_cases ha:0<=a
 ·have e1:st.has a=decide (a < (st.S.length:Int)):=by simp [Sd.has,ha]
  rw [e1];clear e1;go_enter Tryz.func127,Tryz.ntmps127
  go_wp2_with fail
  refine (csize_any H.out).mono ?_;rintro e w1 ⟨rfl,rfl⟩;go_wp2;go_ret
  exact ⟨rfl,rfl⟩
 ·have e1:st.has a=false:=by simp [Sd.has,ha]
  rw [e1];clear e1;go_enter Tryz.func127,Tryz.ntmps127
  go_wp2;go_ret
  exact ⟨rfl,rfl⟩
def betw (n m:Int):Int:=if n < 0 then 0 else if m < n then m else n
theorem cbetween_any {w:World} (n m:Int) (hm:0 < m) :
  Calls Tryz.prog 53 #[.int .i64 n,.int .i64 m] w fun e w'=>e=.returned (.int .i64 (betw n m))/\w=w':=by
 by_cases h1:m < n
 ·have e1:betw n m=m:=by unfold betw;split <;> omega
  rw [e1];clear e1;go_enter Tryz.func53,Tryz.ntmps53
  go_wp2;go_ret
  exact ⟨rfl,rfl⟩
 ·by_cases h2:0 < n
  ·have e1:betw n m=n:=by unfold betw;split <;> (try split) <;> omega
   rw [e1];clear e1;go_enter Tryz.func53,Tryz.ntmps53
   go_wp2;go_ret
   exact ⟨rfl,rfl⟩
  ·have e1:betw n m=0:=by unfold betw;split <;> (try split) <;> omega
   rw [e1];clear e1;go_enter Tryz.func53,Tryz.ntmps53
   go_wp2;go_ret
   exact ⟨rfl,rfl⟩
theorem cdies_any {O:Nat->Prop} {w:World} {p:Nat} {st:Sd} (h:CDev O w p st) (hd:st.dead=false) :
  Calls Tryz.prog 128 #[.pointer (some ⟨p,0,none⟩)] w fun e w'=>e=.returned (.bool (!st.acts))/\CDev O w' p st.acted/\Onl O w w':=by
 obtain ⟨vK,vC,m,lf,h⟩:=h;have c4:=h.ob.cell 4;have c5:=h.ob.cell 5;have c6:=h.ob.cell 6;have f5:=h.ob.frozen 5;have f6:=h.ob.frozen 6;simp only [List.getElem?_cons_zero,List.getElem?_cons_succ] at c4 c5 c6;rw [hd] at c6;have hl0:=h.ok.l0;have hl1:=h.ok.l1;have ok:=h.ok.acted;have hlf:=h.hlf;have H:=Za h;clear h;by_cases hn:0<=st.left
 ·have e0:lf=st.left:=hlf hn;have q4:decide (0<=st.left)=true:=by simp [hn]
  rw [q4] at c4;rw [e0] at c5;clear hlf q4;by_cases hz:0 < st.left
  ·have e1:st.acts=true:=by simp [Sd.acts,hd];omega
   have e2:st.acted={ st with left:=st.left - 1 }:=by unfold Sd.acted;rw [e1];simp [hz]
   rw [e2] at ok ⊢;rw [e1];have E0:=Za e0;have HD:=Za hd;clear e1 e2 e0 hd;go_enter Tryz.func128,Tryz.ntmps128
   go_wp2;go_ret
   refine ⟨rfl,⟨_,_,_,_,H.out.setOb (lf':=st.left - 1) 5 _ rfl rfl rfl ok (fun _=>rfl) ?_⟩,(Onl.refl _ _).set (.inl H.out.own) _⟩;simp
   omega
  ·have hz':st.left=0:=by omega
   have e1:st.acts=false:=by simp [Sd.acts,hz']
   have e2:st.acted={ st with dead:=true }:=by unfold Sd.acted;rw [e1];rfl
   rw [e2] at ok ⊢;rw [e1];rw [hz'] at c5;have E0:=Za e0;have HD:=Za hd;have HZ:=Za hz';clear e1 e2 e0 hd hz';go_enter Tryz.func128,Tryz.ntmps128
   go_wp2;go_ret
   exact ⟨rfl,⟨_,_,_,_,H.out.setOb 6 _ rfl rfl rfl ok H.out.hlf rfl⟩,(Onl.refl _ _).set (.inl H.out.own) _⟩
 ·have q4:decide (0<=st.left)=false:=by simp;omega
  rw [q4] at c4;have e1:st.acts=true:=by simp [Sd.acts,hd];omega
  have e2:st.acted=st:=by unfold Sd.acted;rw [e1];simp [show ¬ 0 < st.left by omega]
  rw [e2] at ok ⊢;rw [e1];have HD:=Za hd;clear e1 e2 hd hlf q4;go_enter Tryz.func128,Tryz.ntmps128
  go_wp2;go_ret
  exact ⟨rfl,⟨_,_,_,_,H.out⟩,Onl.refl _ _⟩
theorem lawI:Keyed Tryz.prog 3:=int_keyed Tryz.underlying3
end
section
open Go.RowKit Apo
structure Len32 (r:List Int):Prop where
 len:r.length=32
theorem info_sec:(Tryz.prog.info? 216).map (fun i=>(i.zero,i.size,i.bytes))=some (some (.agg (secA zeros)),32,32):=by kernel_rfl
theorem info_wri:(Tryz.prog.info? 218).map (fun i=>(i.zero,i.size,i.bytes))=some (some (.agg (wrA (0,zeros))),33,40):=by kernel_rfl
theorem size_sec:(Tryz.prog.info? 216).map (·.size)=some 32:=by kernel_rfl
theorem size_wri:(Tryz.prog.info? 218).map (·.size)=some 33:=by kernel_rfl
theorem size_byt:(Tryz.prog.info? 5).map (·.size)=some 1:=by kernel_rfl
theorem al_sec:AlRuns Tryz.prog 216:=(al_runs info_sec).1
theorem al_wri:AlRuns Tryz.prog 218:=(al_runs info_wri).1
theorem zc_sec:zc Tryz.prog 216=secA zeros:=(al_runs info_sec).2
theorem zc_wri:zc Tryz.prog 218=wrA (0,zeros):=(al_runs info_wri).2
theorem secA_size {r:List Int} (h:Len32 r):(secA r).size=32:=by simp [secA,Zq,h.len]
theorem wrA_size {x:Nat × List Int} (h:Len32 x.2):(wrA x).size=33:=by simp [wrA,wrV,Zq,h.len]
theorem secA_one (r:List Int):(secA r).all (·.oneCell')=true:=by
 rw [Array.all_eq_true_iff_forall_mem];intro v hv;exact secV_one r v (by simpa [secA] using hv)
theorem wrA_one (x:Nat × List Int):(wrA x).all (·.oneCell')=true:=by
 rw [Array.all_eq_true_iff_forall_mem];intro v hv;exact wrV_one x v (by simpa [wrA] using hv)
theorem zeros32:Len32 zeros:=⟨by simp [zeros]⟩
theorem st_new_sec (w:World) {r:List Int} (h:Len32 r):StRuns Tryz.prog (w.alloc (.cells (zc Tryz.prog 216) 216)) 216 (.pointer (some ⟨w.heap.size,0,none⟩)) (.agg (secA r)) /\
  stWld Tryz.prog (w.alloc (.cells (zc Tryz.prog 216) 216)) 216 (.pointer (some ⟨w.heap.size,0,none⟩)) (.agg (secA r))=w.alloc (.cells (secA r) 216) :=
 st_runs (run_storeAt_new w 216 (zc Tryz.prog 216) (secA r) (by rw [secA_size h];exact size_sec) (by rw [zc_sec,secA_size h,secA_size zeros32]) (secA_one r))
theorem st_new_wri (w:World) {x:Nat × List Int} (h:Len32 x.2):StRuns Tryz.prog (w.alloc (.cells (zc Tryz.prog 218) 218)) 218 (.pointer (some ⟨w.heap.size,0,none⟩)) (.agg (wrA x)) /\
  stWld Tryz.prog (w.alloc (.cells (zc Tryz.prog 218) 218)) 218 (.pointer (some ⟨w.heap.size,0,none⟩)) (.agg (wrA x))=w.alloc (.cells (wrA x) 218) :=
 st_runs (run_storeAt_new w 218 (zc Tryz.prog 218) (wrA x) (by rw [wrA_size h];exact size_wri) (by rw [zc_wri,wrA_size h,wrA_size (x:=(0,zeros)) zeros32]) (wrA_one x))
theorem ld_sec {w:World} {g o:Nat} {r:List Int} (h:Len32 r) (hc:∀ j,j < 32->w.cell? ⟨g,o+j,none⟩=(Zq r)[j]?):LdRuns Tryz.prog w 216 (.pointer (some ⟨g,o,none⟩))/\ldVal Tryz.prog w 216 (.pointer (some ⟨g,o,none⟩))=.agg (secA r) :=
 ld_runs (run_loadAt_cells 216 _ Tryz.underlying216 rfl (Zq r) (by rw [size_sec];simp [Zq,h.len]) ⟨g,o,none⟩ (fun j v hv=>by
  have hj:j < 32:=by have:=(List.getElem?_eq_some_iff.1 hv).1;simpa [Zq,h.len] using this
  have e:(⟨g,o,none⟩:Addr).add j=⟨g,o+j,none⟩:=by unfold Addr.add;split <;> simp_all
  rw [e,hc j hj,hv]))
theorem ld_wri {w:World} {g o:Nat} {x:Nat × List Int} (h:Len32 x.2) (hc:∀ j,j < 33->w.cell? ⟨g,o+j,none⟩=(wrV x)[j]?):LdRuns Tryz.prog w 218 (.pointer (some ⟨g,o,none⟩))/\ldVal Tryz.prog w 218 (.pointer (some ⟨g,o,none⟩))=.agg (wrA x) :=
 ld_runs (run_loadAt_cells 218 _ Tryz.underlying218 rfl (wrV x) (by rw [size_wri];simp [wrV,Zq,h.len]) ⟨g,o,none⟩ (fun j v hv=>by
  have hj:j < 33:=by have:=(List.getElem?_eq_some_iff.1 hv).1;simpa [wrV,Zq,h.len] using this
  have e:(⟨g,o,none⟩:Addr).add j=⟨g,o+j,none⟩:=by unfold Addr.add;split <;> simp_all
  rw [e,hc j hj,hv]))
theorem ld_wri_ob {w:World} {g:Nat} {x:Nat × List Int} (h:Len32 x.2) (hO:Ob w g 218 (wrV x)):LdRuns Tryz.prog w 218 (.pointer (some ⟨g,0,none⟩))/\ldVal Tryz.prog w 218 (.pointer (some ⟨g,0,none⟩))=.agg (wrA x) :=
 ld_wri h (fun j _=>by rw [Nat.zero_add];exact hO.cell j)
theorem bd_wri {k:Nat} {r:List Int} (h:Len32 r):BdRuns Tryz.prog 218 #[(0,.int .i64 k),(1,.agg (secA r))]/\bdVal Tryz.prog 218 #[(0,.int .i64 k),(1,.agg (secA r))]=.agg (wrA (k,r)):=by
 refine bd_runs (fun w=>?_);obtain ⟨i,hi,hz,hs,_⟩:=info_parts info_wri;have e:=fill_two (place:=fun i=>([(0,1),(1,32)]:List (Nat × Nat))[i]?) (cs:=wrV (0,zeros)) (v:=.int .i64 k) (u:=.agg (secA r)) (vs:=[.int .i64 k]) (us:=Zq r) (i:=0) (j:=1) (o1:=0) (o2:=1) (n1:=1) (n2:=32) rfl rfl rfl rfl rfl (by simp [Zq,h.len]) (by simp [wrV]) (by simp [wrV,Zq,zeros])
 have e2:over (over (wrV (0,zeros)) 0 [.int .i64 k]) 1 (Zq r)=wrV (k,r):=by
  have:(Zq zeros).length=(Zq r).length:=by simp [Zq,zeros,h.len]
  simp [over,wrV,<- this]
  omega
 rw [e2] at e;have hz2:(zeroValue 218).run Tryz.prog w=.ok (.agg (wrA (0,zeros))) w:=by simp [zeroValue,typeInfo,hi,hz]
 simp only [Instr.build,Sem.run_bind,hz2,Result.andThen_ok,run_underlying Tryz.underlying218];simp [Tryz.sizeOf3,Tryz.sizeOf216,Value.cells]
 rw [show Instr.fill (fun x=>[(0,1),(1,32)][x]?) (wrA (0,zeros)) [(0,Value.int .i64 (k:Int)),(1,Value.agg (secA r))]=some (wrA (k,r)) from e];rfl
theorem slice_sec {a:Addr} {n:Nat} (hn:n<=32) (w:World):(Instr.sliceAt 216 (.pointer (some a)) none (some (.int .i64 n)) none).run Tryz.prog w=.ok (.slice (some a) n 32) w:=by
 simp [Instr.sliceAt,run_underlying Tryz.underlying216,Instr.sureAddr,Instr.sliceBounds,Instr.sliceBound,Tryz.sizeOf5,Addr.add,asIntOf]
 omega
theorem slice_all {a:Addr} (w:World):(Instr.sliceAt 216 (.pointer (some a)) none none none).run Tryz.prog w=.ok (.slice (some a) 32 32) w:=by
 simp [Instr.sliceAt,run_underlying Tryz.underlying216,Instr.sureAddr,Instr.sliceBounds,Tryz.sizeOf5,Addr.add]
def NeRuns (P:Program) (t:TypeId) (v u:Value):Prop:=∃ b,∀ w x y,(do eqGuard .neq t x y v u;binOp .neq t v u:Sem Value).run P w=.ok (.bool b) w
noncomputable def neVal (P:Program) (t:TypeId) (v u:Value):Value:=match (do eqGuard .neq t (.const (.bool true)) (.const (.bool true)) v u;binOp .neq t v u:Sem Value).run P default with
 | .ok u _=>u
 | _=>undef
theorem ne_runs {P:Program} {t:TypeId} {v u:Value} {b:Bool} (h:∀ w x y,(do eqGuard .neq t x y v u;binOp .neq t v u:Sem Value).run P w=.ok (.bool b) w):NeRuns P t v u/\neVal P t v u=.bool b:=⟨⟨b,h⟩,by unfold neVal;rw [h]⟩
theorem ne_exec {P:Program} {w:World} {ρ:Operand->Value} {dst:Option Tmp} {t t':TypeId} {x y:Operand} {ty:TypeId} {pos:String} {after:Array Edge} {guard:Option (Nat × Bool)} (h:NeRuns P t (ρ x) (ρ y)) :
  (execOp ρ { dst,op:=.binOp .neq t x y t',type:=ty,pos,after,guard }).run P w=.ok (.value (neVal P t (ρ x) (ρ y))) w:=by
 obtain ⟨u,h⟩:=h;obtain ⟨_,e⟩:=ne_runs h;rw [e];have h1:=h w x y;simp only [execOp,Sem.run_bind] at h1 ⊢;rw [h1];simp [Result.andThen]
theorem eq_wri (d:Nat) (w:World) {k:Nat} {r s:List Int} {xs ys:List UInt8} (hx:xs.map Extern.Stop.cell=Zq r) (hy:ys.map Extern.Stop.cell=Zq s) (hr:r.length=32) (hs:s.length=32) (hxl:xs.length=r.length) (hyl:ys.length=s.length) :
  (Op.equalIn (d+3) 218 (.agg (wrA (k,r))) (.agg (wrA (k,s)))).run Tryz.prog w=.ok (xs == ys) w:=by
 have hb:=run_equalIn_bytes (P:=Tryz.prog) w d 216 5 32 Tryz.underlying216 Tryz.underlying5 Tryz.sizeOf5 xs ys (by rw [hxl,hr]) (by rw [hyl,hs]);rw [hx,hy] at hb
 have p1:∀ q:List Int,q.length=32->(part 216 (wrA (k,q)) 1).run Tryz.prog w=.ok (.agg (Zq q).toArray) w:=by
  intro q hq
  have:(wrA (k,q)).extract 1 (1+32)=(Zq q).toArray:=by
   simp [wrA,wrV]
   rw [List.take_of_length_le (by simp [Zq,hq])]
  simp [part,isAgg,run_underlying Tryz.underlying216,Tryz.sizeOf216,this]
 have p0:∀ q:List Int,(part 3 (wrA (k,q)) 0).run Tryz.prog w=.ok (.int .i64 k) w:=by
  intro q;simp [part,isAgg,run_underlying Tryz.underlying3,wrA,wrV]
 have q0:(Op.equalIn (d+2) 3 (.int .i64 k) (.int .i64 k)).run Tryz.prog w=.ok true w:=by
  have:=run_equalIn_int (P:=Tryz.prog) w (d+1) 3 .i64 .i64 k k Tryz.underlying3;simpa using this
 rw [run_equalIn_struct w (d+2) 218 _ _ (by simp only [Program.fieldsOf,Tryz.underlying218]) Tryz.stoodInHeld218];simp only [Program.fieldsOf,Tryz.underlying218];have n1 : ("at" : String) ≠ "_" := by decide
 have n2 : ("data" : String) ≠ "_" := by decide
 simp only [Op.eqFields];rw [if_pos n1,Sem.run_bind,p0,Result.andThen_ok,Sem.run_bind,p0,Result.andThen_ok,Sem.run_bind,q0,Result.andThen_ok,if_neg (by decide),if_pos n2,Sem.run_bind,p1 r hr,Result.andThen_ok,Sem.run_bind,p1 s hs,Result.andThen_ok,Sem.run_bind,hb,Result.andThen_ok];generalize (xs == ys)=q;cases q
 ·rw [if_pos (by decide),Sem.run_pure]
 ·rw [if_neg (by decide),Sem.run_pure]
theorem ne_wri {k:Nat} {r s:List Int} (hr:Sec r) (hs:Sec s):∃ b,NeRuns Tryz.prog 218 (.agg (wrA (k,r))) (.agg (wrA (k,s)))/\neVal Tryz.prog 218 (.agg (wrA (k,r))) (.agg (wrA (k,s)))=.bool b/\(b=false->r=s):=by
 obtain ⟨xs,hx,hxl⟩:=bytes_cells hr.2;obtain ⟨ys,hy,hyl⟩:=bytes_cells hs.2
 have hrun:∀ w x y,(do eqGuard .neq 218 x y (.agg (wrA (k,r))) (.agg (wrA (k,s)));binOp .neq 218 (.agg (wrA (k,r))) (.agg (wrA (k,s))):Sem Value).run Tryz.prog w=.ok (.bool (!(xs == ys))) w:=by
  intro w x y;have h1:=eq_wri 9997 w (k:=k) hx hy hr.1 hs.1 hxl hyl;rw [Sem.run_bind,run_eqGuard_agg (P:=Tryz.prog) w .neq 218 x y _ _ Tryz.eqGuardType218,Result.andThen_ok,run_neq_struct,h1];rfl
 obtain ⟨a1,a2⟩:=ne_runs hrun;refine ⟨_,a1,a2,?_⟩;intro hb;have:xs=ys:=by simpa using hb
 exact secV_inj (by rw [<- hx,<- hy,this])
theorem ld_exec65 {P:Program} {w:World} {ρ:Operand->Value} {dst:Option Tmp} {x:Operand} {ty:TypeId} {pos:String} {after:Array Edge} {guard:Option (Nat × Bool)} (h:LdRuns P w 216 (ρ x)) :
  (execOp ρ { dst,op:=.load 216 x,type:=ty,pos,after,guard }).run P w=.ok (.value (ldVal P w 216 (ρ x))) w:=ld_exec h
theorem ld_exec67 {P:Program} {w:World} {ρ:Operand->Value} {dst:Option Tmp} {x:Operand} {ty:TypeId} {pos:String} {after:Array Edge} {guard:Option (Nat × Bool)} (h:LdRuns P w 218 (ρ x)) :
  (execOp ρ { dst,op:=.load 218 x,type:=ty,pos,after,guard }).run P w=.ok (.value (ldVal P w 218 (ρ x))) w:=ld_exec h
theorem st_exec65 {P:Program} {w:World} {ρ:Operand->Value} {dst:Option Tmp} {x y:Operand} {ty:TypeId} {pos:String} {after:Array Edge} {guard:Option (Nat × Bool)} (h:StRuns P w 216 (ρ x) (ρ y)) :
  (execOp ρ { dst,op:=.store 216 x y,type:=ty,pos,after,guard }).run P w=.ok .skip (stWld P w 216 (ρ x) (ρ y)):=st_exec h
theorem st_exec67 {P:Program} {w:World} {ρ:Operand->Value} {dst:Option Tmp} {x y:Operand} {ty:TypeId} {pos:String} {after:Array Edge} {guard:Option (Nat × Bool)} (h:StRuns P w 218 (ρ x) (ρ y)) :
  (execOp ρ { dst,op:=.store 218 x y,type:=ty,pos,after,guard }).run P w=.ok .skip (stWld P w 218 (ρ x) (ρ y)):=st_exec h
theorem bd_exec67 {P:Program} {w:World} {ρ:Operand->Value} {dst:Option Tmp} {ps:Array (Nat × Operand)} {ty:TypeId} {pos:String} {after:Array Edge} {guard:Option (Nat × Bool)} (h:BdRuns P 218 (ps.map fun (i,x)=>(i,ρ x))) :
  (execOp ρ { dst,op:=.build 218 ps,type:=ty,pos,after,guard }).run P w=.ok (.value (bdVal P 218 (ps.map fun (i,x)=>(i,ρ x)))) w:=bd_exec h
theorem al_exec65 {w:World} {ρ:Operand->Value} {dst:Option Tmp} {ty:TypeId} {pos:String} {after:Array Edge} {guard:Option (Nat × Bool)} :
  (execOp ρ { dst,op:=.alloc 216,type:=ty,pos,after,guard }).run Tryz.prog w=.ok (.value (.pointer (some ⟨w.heap.size,0,none⟩))) (w.alloc (.cells (zc Tryz.prog 216) 216)):=al_exec al_sec
theorem al_exec67 {w:World} {ρ:Operand->Value} {dst:Option Tmp} {ty:TypeId} {pos:String} {after:Array Edge} {guard:Option (Nat × Bool)} :
  (execOp ρ { dst,op:=.alloc 218,type:=ty,pos,after,guard }).run Tryz.prog w=.ok (.value (.pointer (some ⟨w.heap.size,0,none⟩))) (w.alloc (.cells (zc Tryz.prog 218) 218)):=al_exec al_wri
theorem ne_exec67 {P:Program} {w:World} {ρ:Operand->Value} {dst:Option Tmp} {t':TypeId} {x y:Operand} {ty:TypeId} {pos:String} {after:Array Edge} {guard:Option (Nat × Bool)} (h:NeRuns P 218 (ρ x) (ρ y)) :
  (execOp ρ { dst,op:=.binOp .neq 218 x y t',type:=ty,pos,after,guard }).run P w=.ok (.value (neVal P 218 (ρ x) (ρ y))) w:=ne_exec h
attribute [local go_sem ↓] ld_exec65 ld_exec67 st_exec65 st_exec67 bd_exec67 al_exec65 al_exec67 ne_exec67 Apo.cp_exec
theorem CParts.fresh {O F:Nat->Prop} {w w':World} {p:Nat} {st:Sd} {vK vC:Value} {m:Nat} {lf:Int} (h:CParts O w p st vK vC m lf) (ho:Onl F w w') (hF:∀ i,i < w.heap.size->¬ F i):CParts O w' p st vK vC m lf :=
 ⟨h.ob.onl ho (hF p h.ob.lt),h.own,h.sS.onl ho (fun g hg=>hF g (h.sS.lt g hg)),h.sC.onl ho (fun g hg=>hF g (h.sC.lt g hg)),h.mO,h.mF.onl ho (hF m h.mF.lt),h.hlf,h.ok⟩
theorem over_take {cs vs:List Value} {o k:Nat} (h:o+vs.length<=k) (hk:k<=cs.length):(over cs o vs).take k=over (cs.take k) o vs:=by
 unfold over;have e1:(cs.take o++vs).length=o+vs.length:=by simp;omega
 rw [List.take_append,e1,List.take_of_length_le (by rw [e1];exact h),List.take_take,Nat.min_eq_left (by omega),List.drop_take]
theorem CParts.setS {O:Nat->Prop} {w w':World} {p:Nat} {st:Sd} {vC:Value} {g cap m:Nat} {lf:Int} (h:CParts O w p st (.slice (some ⟨g,0,none⟩) st.S.length cap) vC m lf) {i:Nat} (hi:i < st.S.length) {r:List Int} (hr:Sec r) {cs:List Value} {e:TypeId} (hb:Ob w g e cs)
  (hb':Ob w' g e (over cs (i * 32) (Zq r))) (ho:Onl (fun k=>k=g) w w'):CParts O w' p { st with S:=st.S.set i r } (.slice (some ⟨g,0,none⟩) st.S.length cap) vC m lf:=by
 have hlen:∀ y ∈ st.S,(Zq y).length=32:=fun y hy=>by simp [Zq,(h.ok.secs y hy).1]
 have hrl:(Zq r).length=32:=by simp [Zq,hr.1]
 refine ⟨h.ob.onl ho (fun q=>h.sS.apartOb h.ob (by decide) (by rw [q];rfl)),h.own,⟨?_,h.sS.2⟩,h.sC.onl ho (fun k hk q=>h.sC.apart h.sS (by decide) k hk (by rw [q];rfl)),h.mO,h.mF.onl ho (fun q=>h.mF.neRow h.sS (by rw [q];rfl)),h.hlf,?_⟩
 ·obtain ⟨hl,hc⟩:=h.sS.1
  have h2:(scells (st.S.set i r)).length=(st.S.set i r).length * 32:=flat_len (fun y hy=>by
   rcases List.mem_or_eq_of_mem_set hy with hy | hy
   ·exact hlen y hy
   ·rw [hy];exact hrl)
  simp only [List.length_set] at h2 ⊢;refine ⟨h2,?_⟩;rcases hc with ⟨hn,_⟩ | ⟨g1,cap1,cur,hv,q1,q2,q3,q4,q5,q6⟩
  ·cases hn
  ·simp only [Value.slice.injEq,Option.some.injEq,Addr.mk.injEq,and_true,true_and] at hv;obtain ⟨rfl,rfl⟩:=hv;unfold Ob at hb hb';rw [q2] at hb;simp only [Option.some.injEq,Obj.cells.injEq] at hb;obtain ⟨rfl,rfl,_⟩:=hb;refine .inr ⟨g,cap,(over cs (i * 32) (Zq r)).toArray,rfl,q1,hb',q3,q4,?_,?_⟩
   ·have:=over_len (cs:=cs) (vs:=Zq r) (o:=i * 32) (by simp at q5;rw [hrl,q5];omega);simp at q5 ⊢
    rw [this,q5]
   ·simp only at q6 ⊢;have e1:=flat_set (f:=Zq) hlen hrl hi;show _=(st.S.set i r).flatMap Zq
    rw [<- e1];show _=over (scells st.S) (i * 32) (Zq r)
    rw [<- q6];simp at q5
    exact over_take (by rw [hrl];omega) (by rw [q5];omega)
 ·refine ⟨fun q hq=>?_,fun x hx=>by simpa using h.ok.cach x hx,by simp [h.ok.bads],by simpa using h.ok.size,h.ok.l0,h.ok.l1⟩;rcases List.mem_or_eq_of_mem_set hq with hq | hq
  ·exact h.ok.secs q hq
  ·rw [hq];exact hr
def mixed (x:Nat × List Int) (S:List (List Int)) (n:Nat):List Int:=x.2.take n++(S.getD x.1 []).drop n
theorem ckeep_any {O:Nat->Prop} {w:World} {p:Nat} {st:Sd} {vK vC:Value} {m:Nat} {lf:Int} (h:CParts O w p st vK vC m lf) {x:Nat × List Int} (hx:x.1 < st.S.length) (hs:Sec x.2) (n:Nat) (hn:n<=32) :
  Calls Tryz.prog 176 #[.pointer (some ⟨p,0,none⟩),.agg (wrA x),.int .i64 n] w fun e w'=>e=.returned (.tuple #[])/\CParts O w' p { st with S:=st.S.set x.1 (mixed x st.S n) } vK vC m lf/\Onl O w w':=by
 obtain ⟨gs,scap,rfl,hgs,hgslt,hsl,hsm,hscell,hsfr⟩:=h.sS.shape (by omega);have hplt:=h.ob.lt;have hsz:=h.ok.size;have c1:=h.ob.cell 1;simp only [List.getElem?_cons_zero,List.getElem?_cons_succ] at c1
 -- the sector as it is
 have hr0:st.S[x.1]?=some st.S[x.1]:=List.getElem?_eq_getElem hx
 have hS0:Sec st.S[x.1]:=h.ok.secs _ (List.getElem_mem hx);generalize hq0:st.S[x.1]=r0 at hr0 hS0;have L0:Len32 r0:=⟨hS0.1⟩;have Lx:Len32 x.2:=⟨hs.1⟩;have hlen:∀ y ∈ st.S,(Zq y).length=32:=fun y hy=>by simp [Zq,(h.ok.secs y hy).1]
 have hcell0:∀ j,j < 32->w.cell? ⟨gs,x.1 * 32+j,none⟩=(Zq r0)[j]?:=fun j hj=>(hscell _ (by omega)).trans (flat_at hlen hr0 hj)
 have H:=Za h;have HS:=Za hS0;have HX:=Za hs;have HR:=Za hr0;have HL:=Za hlen;have HC:=Za hcell0;have hxi:((x.1:Nat):Int) < (st.S.length:Int):=by omega
 obtain ⟨b1,b2⟩:=bd_wri (k:=x.1) L0
 -- the world behind the box
 have k1:Ob (w.alloc (.cells (wrA x) 218)) w.heap.size 218 (wrV x):=Ob.new w (wrV x) 218;have o1:Onl (fun _=>False) w (w.alloc (.cells (wrA x) 218)):=(Onl.refl _ w).alloc _;have z1:(w.alloc (.cells (wrA x) 218)).heap.size=w.heap.size+1:=by simp
 generalize hW1:w.alloc (.cells (wrA x) 218)=W1 at k1 o1 z1
 have c1':W1.cell? ⟨p,1,none⟩=some (.slice (some ⟨gs,0,none⟩) st.S.length scap):=by
  have:=(H.out.kept o1).ob.cell 1;simpa using this
 have d0:W1.cell? ⟨w.heap.size,0,none⟩=some (.int .i64 x.1):=by
  have:=k1.cell 0;simpa [wrV] using this
 obtain ⟨l1,l2⟩:=ld_sec (w:=W1.drew) (g:=gs) (o:=x.1 * 32) L0 (fun j hj=>(World.cell?_of_block (o1.block gs hgslt (by simp))).trans (HC.out j hj));obtain ⟨l3,l4⟩:=ld_sec (w:=(W1.alloc (.cells (zc Tryz.prog 218) 218)).drew) (g:=gs) (o:=x.1 * 32) L0 (fun j hj=>(World.cell?_of_block ((o1.alloc _).drew.block gs hgslt (by simp))).trans (HC.out j hj));obtain ⟨s2,s3⟩:=st_new_wri W1.drew (x:=(x.1,r0)) L0;change StRuns Tryz.prog (W1.alloc (.cells (zc Tryz.prog 218) 218)).drew 218 (.pointer (some ⟨W1.heap.size,0,none⟩)) (.agg (wrA (x.1,r0))) at s2
 change stWld Tryz.prog (W1.alloc (.cells (zc Tryz.prog 218) 218)).drew 218 (.pointer (some ⟨W1.heap.size,0,none⟩)) (.agg (wrA (x.1,r0)))=(W1.alloc (.cells (wrA (x.1,r0)) 218)).drew at s3
 rw [z1] at s2 s3;have hn2:n<=x.2.length:=by have:=HX.out.1;omega
 have hmix:mixed x st.S n=x.2.take n++r0.drop n:=by
  have h0:st.S[x.1]?=some r0:=HR.out;simp [mixed,List.getD,h0]
 have hSm:Sec (mixed x st.S n):=by
  rw [hmix];refine ⟨by simp [HX.out.1,HS.out.1];omega,?_⟩;intro y hy;simp only [List.mem_append] at hy;rcases hy with hy | hy
  ·exact HX.out.2 y (List.mem_of_mem_take hy)
  ·exact HS.out.2 y (List.mem_of_mem_drop hy)
 have Lm:Len32 (mixed x st.S n):=⟨hSm.1⟩
 -- behind region 1
 have k2:Ob (W1.alloc (.cells (wrA (x.1,r0)) 218)).drew (w.heap.size+1) 218 (wrV (x.1,r0)):=by rw [<- z1];exact Ob.new W1 (wrV (x.1,r0)) 218
 have o2:Onl (fun _=>False) W1 (W1.alloc (.cells (wrA (x.1,r0)) 218)).drew:=((Onl.refl _ W1).alloc _).drew
 have z2:(W1.alloc (.cells (wrA (x.1,r0)) 218)).drew.heap.size=w.heap.size+2:=by
  show (W1.alloc (.cells (wrA (x.1,r0)) 218)).heap.size=_
  simp [z1]
 generalize hW2:(W1.alloc (.cells (wrA (x.1,r0)) 218)).drew=W2 at s3 k2 o2 z2;clear hW2;obtain ⟨l5,l6⟩:=ld_wri_ob (x:=(x.1,r0)) L0 k2;obtain ⟨s4,s5⟩:=st_new_wri W2 (x:=(x.1,r0)) L0;rw [z2] at s4 s5
 -- behind region 2
 have k3:Ob (W2.alloc (.cells (wrA (x.1,r0)) 218)) (w.heap.size+2) 218 (wrV (x.1,r0)):=by rw [<- z2];exact Ob.new W2 (wrV (x.1,r0)) 218
 have o3:Onl (fun _=>False) W2 (W2.alloc (.cells (wrA (x.1,r0)) 218)):=(Onl.refl _ W2).alloc _;have z3:(W2.alloc (.cells (wrA (x.1,r0)) 218)).heap.size=w.heap.size+3:=by simp [z2]
 generalize hW3:W2.alloc (.cells (wrA (x.1,r0)) 218)=W3 at s5 k3 o3 z3;clear hW3;have q1:Ob W3.drew w.heap.size 218 (wrV x):=(k1.onl o2 (by simp)).onl o3.drew (by simp);have q2:Ob W3.drew (w.heap.size+1) 218 (wrV (x.1,r0)):=k2.onl o3.drew (by simp)
 obtain ⟨W4,hcp,k4,o4⟩:=run_copy_over (P:=Tryz.prog) (w:=W3.drew) 41 41 3 5 218 Tryz.underlying41 size_byt (w.heap.size+2) 1 n 32 ⟨w.heap.size,1,none⟩ 32 (wrV (x.1,r0)) ((Zq x.2).take n) k3 (by simp [Zq];omega) (fun j v hv=>by
  have e:(⟨w.heap.size,1,none⟩:Addr).add j=⟨w.heap.size,j+1,none⟩:=by unfold Addr.add;split <;> simp_all [Nat.add_comm]
  rw [e,q1.cell (j+1)];simp only [wrV,List.getElem?_cons_succ];rw [List.getElem?_take] at hv;split at hv
  ·exact hv
  ·cases hv) (by simp [wrV,Zq,L0.len];omega) (fun v hv=>secV_one _ v (List.mem_of_mem_take hv))
 have e4:over (wrV (x.1,r0)) 1 ((Zq x.2).take n)=wrV (x.1,mixed x st.S n):=by
  rw [hmix];have:min n x.2.length=n:=by omega
  simp [over,wrV,Zq,List.map_take,List.map_drop,this,Nat.add_comm 1 n]
 rw [e4] at k4;obtain ⟨p1,p2,p3⟩:=cp_runs hcp;have t1:Ob W4 (w.heap.size+1) 218 (wrV (x.1,r0)):=q2.onl o4 (by omega);have t0:Ob W4 w.heap.size 218 (wrV x):=q1.onl o4 (by omega);obtain ⟨l7,l8⟩:=ld_wri_ob (x:=(x.1,mixed x st.S n)) Lm k4;obtain ⟨l9,l10⟩:=ld_wri_ob (x:=(x.1,r0)) L0 t1;obtain ⟨b,n1,n2,n3⟩:=ne_wri (k:=x.1) hSm HS.out;have O4:Onl (fun k=>w.heap.size<=k) w W4:=((o1.mono (by simp)).trans (((o2.mono (by simp)).trans (o3.mono (by simp))).drew.trans (o4.mono (fun i hi=>by omega))))
 have P4:CParts O W4 p st (.slice (some ⟨gs,0,none⟩) st.S.length scap) vC m lf:=by
  exact H.out.fresh O4 (fun i hi=>by omega)
 -- the sector is laid over
 obtain ⟨cs,hcs,hcl⟩:∃ cs,Ob W4.drew gs 216 cs/\(x.1 * 32+32<=cs.length):=by
  obtain ⟨_,hc⟩:=P4.sS.1;rcases hc with ⟨hn,_⟩ | ⟨g1,cap1,cur,hv,q1,q2,q3,q4,q5,q6⟩
  ·cases hn
  ·simp only [Value.slice.injEq,Option.some.injEq,Addr.mk.injEq,and_true,true_and] at hv;obtain ⟨rfl,rfl⟩:=hv;exact ⟨cur.toList,q2,by simp [q5];omega⟩
 obtain ⟨W5,hst,k5,o5⟩:=run_storeAt_cells (P:=Tryz.prog) (w:=W4.drew) 216 216 gs (x.1 * 32) cs (Zq (mixed x st.S n)) (by rw [size_sec];simp [Zq,Lm.len]) (secV_one _) hcs (by simp [Zq,Lm.len];omega);obtain ⟨s6,s7⟩:=st_runs hst;change StRuns _ _ _ _ (.agg (secA (mixed x st.S n))) at s6
 change stWld _ _ _ _ (.agg (secA (mixed x st.S n)))=_ at s7
 obtain ⟨l11,l12⟩:=ld_sec (w:=W4.drew) (g:=w.heap.size+2) (o:=1) Lm (fun j hj=>by
  have:=k4.cell (1+j);rw [Nat.add_comm 1 j] at this ⊢;simpa [wrV] using this)
 have u0:W4.cell? ⟨w.heap.size,0,none⟩=some (.int .i64 x.1):=by
  have:=t0.cell 0;simpa [wrV] using this
 have u1:W4.cell? ⟨p,1,none⟩=some (.slice (some ⟨gs,0,none⟩) st.S.length scap):=by
  have:=P4.ob.cell 1;simpa using this
 have P5:CParts O W4.drew p st (.slice (some ⟨gs,0,none⟩) st.S.length scap) vC m lf:=P4.kept (Onl.refl _ _).drew;have HE:=Za (P5.setS hx hSm hcs k5 o5);have HO5:=Za o5;have HO4:=Za O4;have HP4:=Za P4;have HN:=Za n3;have HM:=Za hmix;clear k1 o1 c1 k2 o2 k3 o3 q1 q2 hcp k4 o4 e4 t0 t1 O4 P4 n3 hst hcs k5 o5 hcl P5 hSm hmix h hr0 hS0 hs hlen hcell0 hscell hsfr hq0 Lm Lx L0;have sl:=fun (a:Addr) (W:World)=>slice_sec (a:=a) hn W
 cases b with
 | true =>
  go_enter Tryz.func176,Tryz.ntmps176
  go_wp2;go_region
  go_wp2;go_region
  go_wp2;go_region
  go_wp2;go_end0
  exact ⟨rfl,HE.out,((Onl.refl O w).more HO4.out (fun i hi=>.inr hi)).drew.more HO5.out (fun i hi=>.inl (by rw [hi];exact hgs))⟩
 | false =>
  go_enter Tryz.func176,Tryz.ntmps176
  go_wp2;go_region
  go_wp2;go_region
  go_wp2;go_end0
  have e:st.S.set x.1 (mixed x st.S n)=st.S:=by
   rw [HN.out trivial];have h0:=List.getElem?_eq_some_iff.1 HR.out
   rw [<- h0.2];simp
  rw [e];exact ⟨rfl,HP4.out,(Onl.refl O w).more HO4.out (fun i hi=>.inr hi)⟩
end
end Go.Proofs.YtdhebpnkfookcaaGreat
