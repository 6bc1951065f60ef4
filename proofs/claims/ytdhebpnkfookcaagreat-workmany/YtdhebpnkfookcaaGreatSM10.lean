import Derived.Test.YtdhebpnkfookcaaGreatSM09
set_option maxRecDepth 100000
set_option maxHeartbeats 1000000
namespace Go.Proofs.YtdhebpnkfookcaaGreat
open Go.RowKit Apo
theorem CFr.since {O:Nat->Prop} {w W W':World} {p:Nat} {f:Fr} (hb:Below w.heap.size w W) (h:CFr (Gro O W W') W' p f) (ho:Onl O W W'):CFr (Gro O w W') W' p f/\Onl O w W' :=
 ⟨h.mono (fun _ hi=>hi.elim (fun q=>.inl q) (fun q=>.inr ⟨Nat.le_trans hb.size q.1,q.2⟩)),(Onl.ofBelow hb).trans ho⟩
theorem CFr.still {O:Nat->Prop} {w W:World} {p:Nat} {f:Fr} (h:CFr O w p f) (hb:Below w.heap.size w W):CFr (Gro O w W) W p f/\Onl O w W:=⟨(h.below hb).mono (fun _ hi=>.inl hi),Onl.ofBelow hb⟩
theorem hxp_of {n:Int} {x:Nat × Nat} (h:ftb n x=true):wnb ⟨(x.1:Int),n⟩ x=true:=by
 obtain ⟨h1,h2⟩:=ftb_iff.1 h;exact wnb_iff.2 ⟨h1,Int.le_refl _,by simp only;omega⟩
theorem take_some {f:Fr} {n:Int} {i:Nat} (h:f.first n=some i):f.take n=(((i:Int),true),f.put ⟨i,n⟩ false):=by unfold Fr.take;rw [h]
theorem take_none {f:Fr} {n:Int} (h:f.first n=none):f.take n=((0,false),f):=by unfold Fr.take;rw [h]
theorem ctake_any {O:Nat->Prop} {w:World} {p:Nat} {f:Fr} (h:CFr O w p f) (hO:∀ i,O i->i < w.heap.size) (n:Int) :
  Calls Tryz.prog 92 #[.pointer (some ⟨p,0,none⟩),.int .i64 n] w fun e w'=>e=.returned (.tuple #[.int .i64 (f.take n).1.1,.bool (f.take n).1.2])/\CFr (Gro O w w') w' p (f.take n).2/\Onl O w w':=by
 have C:=find_any h (tells_fits n f.rows);have HH:=Za h;rcases idx_cases (ftb n) f.rows with ⟨i,x,he,hx,hpx,hno⟩ | ⟨he,hno⟩
 ·rw [take_some (find_first h.ok hx hpx hno)];rw [he] at C;have hxp:=hxp_of hpx;have hil:=(List.getElem?_eq_some_iff.1 hx).1;have HX:=Za hx;have HO:=Za hO;clear hx hpx hno he hO h;go_enter Tryz.func92,Tryz.ntmps92
  go_wp2_with fail
  refine C.mono ?_;rintro e W1 ⟨rfl,b⟩;have c1:=HH.out.below b;obtain ⟨v,m1,r1⟩:=c1.mem;obtain ⟨g,cap,rfl,_,k1,k2,_⟩:=row_cell r1 HX.out;have kp:=m1.cell 3;simp only [List.getElem?_cons_succ,List.getElem?_cons_zero] at kp;have CC:=cut_any c1 (fun i hi=>Nat.lt_of_lt_of_le (HO.out i hi) b.size) (s:=⟨(x.1:Int),n⟩) HX.out hxp;have HB:=Za b;clear c1 m1 r1 b C;go_wp2_with fail
  refine CC.mono ?_;rintro e W2 ⟨rfl,c2,o2⟩;have HR:=Za (CFr.since HB.out c2 o2);clear c2 o2;go_wp2;refine bodyPost_ret (by simp [results,Tryz.results92,go_sem];rfl) rfl ?_;exact ⟨rfl,HR.out⟩
 ·rw [take_none (find_none h.ok hno)];rw [he] at C;clear hno he hO h;go_enter Tryz.func92,Tryz.ntmps92
  go_wp2_with fail
  refine C.mono ?_;rintro e W1 ⟨rfl,b⟩;have HR:=Za (CFr.still HH.out b);clear b C;go_wp2;refine bodyPost_ret (by simp [results,Tryz.results92,go_sem];rfl) rfl ?_;exact ⟨rfl,HR.out⟩
theorem cclaim_any {O:Nat->Prop} {w:World} {p:Nat} {f:Fr} (h:CFr O w p f) (hO:∀ i,O i->i < w.heap.size) (s:Spn) (hs:Spn.Ok s) :
  Calls Tryz.prog 93 #[.pointer (some ⟨p,0,none⟩),.agg #[.int .i64 s.a,.int .i64 s.k]] w fun e w'=>e=.returned (.bool (f.claim s).1)/\CFr (Gro O w w') w' p (f.claim s).2/\Onl O w w':=by
 have b0:=(Below.refl w.heap.size w).alloc (Nat.le_refl _) (.cells #[.int .i64 s.a,.int .i64 s.k] 108);have C:=find_any (h.below b0) (tells_within s hs (crow_ok h.ok));have k0:=Ob.new w [.int .i64 s.a,.int .i64 s.k] 108;have HH:=Za h;have HB0:=Za b0;have hall:=all_rows h.ok s;rcases idx_cases (wnb s) f.rows with ⟨i,x,he,hx,hpx,hno⟩ | ⟨he,hno⟩
 ·have hc:f.claim s=(true,f.put s false):=by
   unfold Fr.claim;rw [if_pos];rw [hall,List.any_eq_true];exact ⟨x,List.mem_of_getElem? hx,hpx⟩
  rw [hc];rw [he] at C;have HX:=Za hx;have HO:=Za hO;have HP:=Za hpx;have HK:=Za k0;clear hx hpx hno he hO h b0 hc hall k0;go_enter Tryz.func93,Tryz.ntmps93
  go_wp2_with fail
  refine C.mono ?_;rintro e W1 ⟨rfl,b⟩;have B1:=HB0.out.trans (b.mono HB0.out.size);have k1:=HK.out.old b;have x0:=k1.cell 0;have x1:=k1.cell 1;simp only [List.getElem?_cons_succ,List.getElem?_cons_zero] at x0 x1;have CC:=cut_any (HH.out.below B1) (fun i hi=>Nat.lt_of_lt_of_le (HO.out i hi) B1.size) (s:=s) HX.out HP.out;have HB:=Za B1;clear b B1 C k1;go_wp2_with fail
  refine CC.mono ?_;rintro e W2 ⟨rfl,c2,o2⟩;have HR:=Za (CFr.since HB.out c2 o2);clear c2 o2;go_wp2;go_ret
  exact ⟨rfl,HR.out⟩
 ·have hc:f.claim s=(false,f):=by
   unfold Fr.claim;rw [if_neg];rw [hall,List.any_eq_true];rintro ⟨x,hx,q⟩;rw [hno x hx] at q;cases q
  rw [hc];rw [he] at C;clear hno he hO h b0 hc hall k0;go_enter Tryz.func93,Tryz.ntmps93
  go_wp2_with fail
  refine C.mono ?_;rintro e W1 ⟨rfl,b⟩;have HR:=Za (CFr.still HH.out (HB0.out.trans (b.mono HB0.out.size)));clear b C;go_wp2;go_ret
  exact ⟨rfl,HR.out⟩
structure Gv (O:Nat->Prop) (w:World) (p:Nat) (f:Fr) (s:Spn) (W:World):Prop where
 c:CFr O W p f
 o:Ob W w.heap.size 108 [.int .i64 s.a,.int .i64 s.k]
 b:Below w.heap.size w W
section
variable {O:Nat->Prop} {w W W':World} {p:Nat} {f:Fr} {s:Spn}
theorem Gv.old (h:Gv O w p f s W) (b:Below W.heap.size W W'):Gv O w p f s W':=⟨h.c.below b,h.o.old b,h.b.trans (b.mono h.b.size)⟩
theorem Gv.drew (h:Gv O w p f s W):Gv O w p f s W.drew:=h.old ((Below.refl _ W).drew)
theorem Gv.cells (h:Gv O w p f s W):W.cell? ⟨w.heap.size,0,none⟩=some (.int .i64 s.a)/\W.cell? ⟨w.heap.size,1,none⟩=some (.int .i64 s.k)/\W.cell? ⟨p,1,none⟩=some (.int .i64 (f.whole.1:Int))/\W.cell? ⟨p,2,none⟩=some (.int .i64 (f.whole.2:Int)):=by
 obtain ⟨v,m,_⟩:=h.c.mem;exact ⟨h.o.cell 0,h.o.cell 1,m.cell 1,m.cell 2⟩
end
theorem give_out {O:Nat->Prop} {w:World} {p:Nat} {f:Fr} {s:Spn} (h:CFr O w p f) (CW:∀ W,Calls Tryz.prog 139 #[.agg #[.int .i64 s.a,.int .i64 s.k],.agg #[.int .i64 (f.whole.1:Int),.int .i64 (f.whole.2:Int)]] W fun e W'=>e=.returned (.bool false)/\Below W.heap.size W W')
  (K0:Gv O w p f s (w.alloc (.cells #[.int .i64 s.a,.int .i64 s.k] 108))) :
  Calls Tryz.prog 125 #[.pointer (some ⟨p,0,none⟩),.agg #[.int .i64 s.a,.int .i64 s.k]] w fun e w'=>e=.returned (.bool false)/\CFr (Gro O w w') w' p f/\Onl O w w':=by
 have HH:=Za h;clear h;go_enter Tryz.func125,Tryz.ntmps125
 go_wp2_with fail
 generalize w.alloc (.cells #[.int .i64 s.a,.int .i64 s.k] 108)=W0 at *;obtain ⟨c0,c1,c2,c3⟩:=K0.cells;have HG:=Za K0;clear K0;refine wp_region_held_drew (S:=(fun W'=>W'.cell? ⟨w.heap.size,0,none⟩=some (.int .i64 s.a)/\W'.cell? ⟨w.heap.size,1,none⟩=some (.int .i64 s.k)/\W'.cell? ⟨p,1,none⟩=some (.int .i64 (f.whole.1:Int))/\W'.cell? ⟨p,2,none⟩=some (.int .i64 (f.whole.2:Int)))) (by kernel_rfl) ?_ (fun hHeld=>?_)
 ·exact HG.out.drew.cells
 first
  | (refine wpAnyH_take (i:=0) (v:=?_) rfl (by kernel_rfl) (by kernel_rfl) (by kernel_rfl) (fun _ _ _ h=>h) (Or.inl ⟨by rfl,?_⟩) (by assumption) ?_;rotate_left;(intro wx hSx;obtain ⟨q0,q1,q2,q3⟩:=hSx;go_simp;first | done | with_reducible rfl))
  | (refine wpAnyH_take (i:=0) (v:=undef) rfl (by kernel_rfl) (by kernel_rfl) (by kernel_rfl) (fun _ _ _ h=>h) (Or.inr ⟨by rfl,rfl⟩) (by assumption) ?_)
 simp only [Act.put,List.getElem_toArray,List.getElem_cons_zero,List.setIfInBounds_toArray,List.set_cons_zero,List.set_cons_succ]
 first
  | (refine wpAnyH_take (i:=1) (v:=?_) rfl (by kernel_rfl) (by kernel_rfl) (by kernel_rfl) (fun _ _ _ h=>h) (Or.inl ⟨by rfl,?_⟩) (by assumption) ?_;rotate_left;(intro wx hSx;obtain ⟨q0,q1,q2,q3⟩:=hSx;go_simp;first | done | with_reducible rfl))
  | (refine wpAnyH_take (i:=1) (v:=undef) rfl (by kernel_rfl) (by kernel_rfl) (by kernel_rfl) (fun _ _ _ h=>h) (Or.inr ⟨by rfl,rfl⟩) (by assumption) ?_)
 simp only [Act.put,List.getElem_toArray,List.getElem_cons_succ,List.getElem_cons_zero,List.setIfInBounds_toArray,List.set_cons_zero,List.set_cons_succ]
 first
  | (refine wpAnyH_take (i:=2) (v:=?_) rfl (by kernel_rfl) (by kernel_rfl) (by kernel_rfl) (fun _ _ _ h=>h) (Or.inl ⟨by rfl,?_⟩) (by assumption) ?_;rotate_left;(intro wx hSx;obtain ⟨q0,q1,q2,q3⟩:=hSx;go_simp;first | done | with_reducible rfl))
  | (refine wpAnyH_take (i:=2) (v:=undef) rfl (by kernel_rfl) (by kernel_rfl) (by kernel_rfl) (fun _ _ _ h=>h) (Or.inr ⟨by rfl,rfl⟩) (by assumption) ?_)
 simp only [Act.put,List.getElem_toArray,List.getElem_cons_succ,List.getElem_cons_zero,List.setIfInBounds_toArray,List.set_cons_zero,List.set_cons_succ]
 first
  | (refine wpAnyH_take (i:=3) (v:=?_) rfl (by kernel_rfl) (by kernel_rfl) (by kernel_rfl) (fun _ _ _ h=>h) (Or.inl ⟨by rfl,?_⟩) (by assumption) ?_;rotate_left;(intro wx hSx;obtain ⟨q0,q1,q2,q3⟩:=hSx;go_simp;first | done | with_reducible rfl))
  | (refine wpAnyH_take (i:=3) (v:=undef) rfl (by kernel_rfl) (by kernel_rfl) (by kernel_rfl) (fun _ _ _ h=>h) (Or.inr ⟨by rfl,rfl⟩) (by assumption) ?_)
 simp only [Act.put,List.getElem_toArray,List.getElem_cons_succ,List.getElem_cons_zero,List.setIfInBounds_toArray,List.set_cons_zero,List.set_cons_succ]
 first
  | (refine wpAnyH_take (i:=4) (v:=?_) rfl (by kernel_rfl) (by kernel_rfl) (by kernel_rfl) (fun _ _ _ h=>h) (Or.inl ⟨by rfl,?_⟩) (by assumption) ?_;rotate_left;(intro wx hSx;obtain ⟨q0,q1,q2,q3⟩:=hSx;go_simp;first | done | with_reducible rfl))
  | (refine wpAnyH_take (i:=4) (v:=undef) rfl (by kernel_rfl) (by kernel_rfl) (by kernel_rfl) (fun _ _ _ h=>h) (Or.inr ⟨by rfl,rfl⟩) (by assumption) ?_)
 simp only [Act.put,List.getElem_toArray,List.getElem_cons_succ,List.getElem_cons_zero,List.setIfInBounds_toArray,List.set_cons_zero,List.set_cons_succ]
 first
  | (refine wpAnyH_take (i:=5) (v:=?_) rfl (by kernel_rfl) (by kernel_rfl) (by kernel_rfl) (fun _ _ _ h=>h) (Or.inl ⟨by rfl,?_⟩) (by assumption) ?_;rotate_left;(intro wx hSx;obtain ⟨q0,q1,q2,q3⟩:=hSx;go_simp;first | done | with_reducible rfl))
  | (refine wpAnyH_take (i:=5) (v:=undef) rfl (by kernel_rfl) (by kernel_rfl) (by kernel_rfl) (fun _ _ _ h=>h) (Or.inr ⟨by rfl,rfl⟩) (by assumption) ?_)
 simp only [Act.put,List.getElem_toArray,List.getElem_cons_succ,List.getElem_cons_zero,List.setIfInBounds_toArray,List.set_cons_zero,List.set_cons_succ]
 first
  | (refine wpAnyH_take (i:=6) (v:=?_) rfl (by kernel_rfl) (by kernel_rfl) (by kernel_rfl) (fun _ _ _ h=>h) (Or.inl ⟨by rfl,?_⟩) (by assumption) ?_;rotate_left;(intro wx hSx;obtain ⟨q0,q1,q2,q3⟩:=hSx;go_simp;first | done | with_reducible rfl))
  | (refine wpAnyH_take (i:=6) (v:=undef) rfl (by kernel_rfl) (by kernel_rfl) (by kernel_rfl) (fun _ _ _ h=>h) (Or.inr ⟨by rfl,rfl⟩) (by assumption) ?_)
 simp only [Act.put,List.getElem_toArray,List.getElem_cons_succ,List.getElem_cons_zero,List.setIfInBounds_toArray,List.set_cons_zero,List.set_cons_succ]
 first
  | (refine wpAnyH_take (i:=7) (v:=?_) rfl (by kernel_rfl) (by kernel_rfl) (by kernel_rfl) (fun _ _ _ h=>h) (Or.inl ⟨by rfl,?_⟩) (by assumption) ?_;rotate_left;(intro wx hSx;obtain ⟨q0,q1,q2,q3⟩:=hSx;go_simp;first | done | with_reducible rfl))
  | (refine wpAnyH_take (i:=7) (v:=undef) rfl (by kernel_rfl) (by kernel_rfl) (by kernel_rfl) (fun _ _ _ h=>h) (Or.inr ⟨by rfl,rfl⟩) (by assumption) ?_)
 simp only [Act.put,List.getElem_toArray,List.getElem_cons_succ,List.getElem_cons_zero,List.setIfInBounds_toArray,List.set_cons_zero,List.set_cons_succ];refine wpAnyH_ready (rs:=[8]) (by kernel_rfl) (by simp) ?_;refine AllReadyH.cons rfl (fun K hK=>?_) AllReadyH.nil;go_simp;go_at_call 139
 refine (CW _).mono ?_;rintro e W1 ⟨rfl,b⟩;have T:=HG.out.drew.old b;obtain ⟨c0,c1,c2,c3⟩:=T.cells;have HG1:=Za T;clear b T;go_wp2_with fail
 refine hK.out _ _ ?_ (fun hHeld=>?_)
 ·exact HG1.out.cells
 clear hK K
 first
  | (refine wpAnyH_take (i:=9) (v:=?_) rfl (by kernel_rfl) (by kernel_rfl) (by kernel_rfl) (fun _ _ _ h=>h) (Or.inl ⟨by rfl,?_⟩) (by assumption) ?_;rotate_left;(intro wx hSx;obtain ⟨q0,q1,q2,q3⟩:=hSx;go_simp;first | done | with_reducible rfl))
  | (refine wpAnyH_take (i:=9) (v:=undef) rfl (by kernel_rfl) (by kernel_rfl) (by kernel_rfl) (fun _ _ _ h=>h) (Or.inr ⟨by rfl,rfl⟩) (by assumption) ?_)
 simp only [Act.put,List.getElem_toArray,List.getElem_cons_succ,List.getElem_cons_zero,List.setIfInBounds_toArray,List.set_cons_zero,List.set_cons_succ]
 first
  | (refine wpAnyH_take (i:=10) (v:=?_) rfl (by kernel_rfl) (by kernel_rfl) (by kernel_rfl) (fun _ _ _ h=>h) (Or.inl ⟨by rfl,?_⟩) (by assumption) ?_;rotate_left;(intro wx hSx;obtain ⟨q0,q1,q2,q3⟩:=hSx;go_simp;first | done | with_reducible rfl))
  | (refine wpAnyH_take (i:=10) (v:=undef) rfl (by kernel_rfl) (by kernel_rfl) (by kernel_rfl) (fun _ _ _ h=>h) (Or.inr ⟨by rfl,rfl⟩) (by assumption) ?_)
 simp only [Act.put,List.getElem_toArray,List.getElem_cons_succ,List.getElem_cons_zero,List.setIfInBounds_toArray,List.set_cons_zero,List.set_cons_succ]
 first
  | (refine wpAnyH_take (i:=11) (v:=?_) rfl (by kernel_rfl) (by kernel_rfl) (by kernel_rfl) (fun _ _ _ h=>h) (Or.inl ⟨by rfl,?_⟩) (by assumption) ?_;rotate_left;(intro wx hSx;obtain ⟨q0,q1,q2,q3⟩:=hSx;go_simp;first | done | with_reducible rfl))
  | (refine wpAnyH_take (i:=11) (v:=undef) rfl (by kernel_rfl) (by kernel_rfl) (by kernel_rfl) (fun _ _ _ h=>h) (Or.inr ⟨by rfl,rfl⟩) (by assumption) ?_)
 simp only [Act.put,List.getElem_toArray,List.getElem_cons_succ,List.getElem_cons_zero,List.setIfInBounds_toArray,List.set_cons_zero,List.set_cons_succ]
 first
  | (refine wpAnyH_take (i:=12) (v:=?_) rfl (by kernel_rfl) (by kernel_rfl) (by kernel_rfl) (fun _ _ _ h=>h) (Or.inl ⟨by rfl,?_⟩) (by assumption) ?_;rotate_left;(intro wx hSx;obtain ⟨q0,q1,q2,q3⟩:=hSx;go_simp;first | done | with_reducible rfl))
  | (refine wpAnyH_take (i:=12) (v:=undef) rfl (by kernel_rfl) (by kernel_rfl) (by kernel_rfl) (fun _ _ _ h=>h) (Or.inr ⟨by rfl,rfl⟩) (by assumption) ?_)
 simp only [Act.put,List.getElem_toArray,List.getElem_cons_succ,List.getElem_cons_zero,List.setIfInBounds_toArray,List.set_cons_zero,List.set_cons_succ]
 first
  | (refine wpAnyH_take (i:=13) (v:=?_) rfl (by kernel_rfl) (by kernel_rfl) (by kernel_rfl) (fun _ _ _ h=>h) (Or.inl ⟨by rfl,?_⟩) (by assumption) ?_;rotate_left;(intro wx hSx;obtain ⟨q0,q1,q2,q3⟩:=hSx;go_simp;first | done | with_reducible rfl))
  | (refine wpAnyH_take (i:=13) (v:=undef) rfl (by kernel_rfl) (by kernel_rfl) (by kernel_rfl) (fun _ _ _ h=>h) (Or.inr ⟨by rfl,rfl⟩) (by assumption) ?_)
 simp only [Act.put,List.getElem_toArray,List.getElem_cons_succ,List.getElem_cons_zero,List.setIfInBounds_toArray,List.set_cons_zero,List.set_cons_succ]
 first
  | (refine wpAnyH_take (i:=14) (v:=?_) rfl (by kernel_rfl) (by kernel_rfl) (by kernel_rfl) (fun _ _ _ h=>h) (Or.inl ⟨by rfl,?_⟩) (by assumption) ?_;rotate_left;(intro wx hSx;obtain ⟨q0,q1,q2,q3⟩:=hSx;go_simp;first | done | with_reducible rfl))
  | (refine wpAnyH_take (i:=14) (v:=undef) rfl (by kernel_rfl) (by kernel_rfl) (by kernel_rfl) (fun _ _ _ h=>h) (Or.inr ⟨by rfl,rfl⟩) (by assumption) ?_)
 simp only [Act.put,List.getElem_toArray,List.getElem_cons_succ,List.getElem_cons_zero,List.setIfInBounds_toArray,List.set_cons_zero,List.set_cons_succ]
 first
  | (refine wpAnyH_take (i:=15) (v:=?_) rfl (by kernel_rfl) (by kernel_rfl) (by kernel_rfl) (fun _ _ _ h=>h) (Or.inl ⟨by rfl,?_⟩) (by assumption) ?_;rotate_left;(intro wx hSx;obtain ⟨q0,q1,q2,q3⟩:=hSx;go_simp;first | done | with_reducible rfl))
  | (refine wpAnyH_take (i:=15) (v:=undef) rfl (by kernel_rfl) (by kernel_rfl) (by kernel_rfl) (fun _ _ _ h=>h) (Or.inr ⟨by rfl,rfl⟩) (by assumption) ?_)
 simp only [Act.put,List.getElem_toArray,List.getElem_cons_succ,List.getElem_cons_zero,List.setIfInBounds_toArray,List.set_cons_zero,List.set_cons_succ]
 first
  | (refine wpAnyH_take (i:=16) (v:=?_) rfl (by kernel_rfl) (by kernel_rfl) (by kernel_rfl) (fun _ _ _ h=>h) (Or.inl ⟨by rfl,?_⟩) (by assumption) ?_;rotate_left;(intro wx hSx;obtain ⟨q0,q1,q2,q3⟩:=hSx;go_simp;first | done | with_reducible rfl))
  | (refine wpAnyH_take (i:=16) (v:=undef) rfl (by kernel_rfl) (by kernel_rfl) (by kernel_rfl) (fun _ _ _ h=>h) (Or.inr ⟨by rfl,rfl⟩) (by assumption) ?_)
 simp only [Act.put,List.getElem_toArray,List.getElem_cons_succ,List.getElem_cons_zero,List.setIfInBounds_toArray,List.set_cons_zero,List.set_cons_succ]
 first
  | (refine wpAnyH_take (i:=17) (v:=?_) rfl (by kernel_rfl) (by kernel_rfl) (by kernel_rfl) (fun _ _ _ h=>h) (Or.inl ⟨by rfl,?_⟩) (by assumption) ?_;rotate_left;(intro wx hSx;obtain ⟨q0,q1,q2,q3⟩:=hSx;go_simp;first | done | with_reducible rfl))
  | (refine wpAnyH_take (i:=17) (v:=undef) rfl (by kernel_rfl) (by kernel_rfl) (by kernel_rfl) (fun _ _ _ h=>h) (Or.inr ⟨by rfl,rfl⟩) (by assumption) ?_)
 simp only [Act.put,List.getElem_toArray,List.getElem_cons_succ,List.getElem_cons_zero,List.setIfInBounds_toArray,List.set_cons_zero,List.set_cons_succ];refine wpAnyH_done (by kernel_rfl) ?_ _;go_wp2;go_ret
 exact ⟨rfl,HH.out.still HG1.out.b⟩
theorem cgive_zero {O:Nat->Prop} {w:World} {p:Nat} {f:Fr} (h:CFr O w p f) (s:Spn) (hs:Spn.Ok s) (h0:s.k=0) :
  Calls Tryz.prog 125 #[.pointer (some ⟨p,0,none⟩),.agg #[.int .i64 s.a,.int .i64 s.k]] w fun e w'=>e=.returned (.bool (f.give s).1)/\CFr (Gro O w w') w' p (f.give s).2/\Onl O w w':=by
 have b0:=(Below.refl w.heap.size w).alloc (Nat.le_refl _) (.cells #[.int .i64 s.a,.int .i64 s.k] 108);have K0:Gv O w p f s (w.alloc (.cells #[.int .i64 s.a,.int .i64 s.k] 108)):=⟨h.below b0,Ob.new w [.int .i64 s.a,.int .i64 s.k] 108,b0⟩;have hw:=whole_ok h.ok;have CW:=fun W=>within_any s hs f.whole hw W
 have hall:=all_none (f:=f) s
 have hb:wnb s f.whole=false:=by
  cases q:wnb s f.whole with
  | false=>rfl
  | true=>have:=(wnb_iff.1 q).1;omega
 have hg:f.give s=(false,f):=by unfold Fr.give;rw [if_neg];rw [hall,hb];simp
 rw [hb] at CW;rw [hg];exact give_out h CW K0
end Go.Proofs.YtdhebpnkfookcaaGreat
