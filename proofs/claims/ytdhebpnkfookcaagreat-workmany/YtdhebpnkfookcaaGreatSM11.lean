import Derived.Test.YtdhebpnkfookcaaGreatSM10
set_option maxRecDepth 100000
set_option maxHeartbeats 2000000
namespace Go.Proofs.YtdhebpnkfookcaaGreat
open Go.RowKit Apo
attribute [local go_sem ↓] Apo.app_exec
theorem newFr_len (m n:Int):(newFr m n).L.length=lenF n:=by simp [newFr]
theorem newFr_rows (m n:Int):(newFr m n).rows=if m.toNat < lenF n then [(m.toNat,lenF n - m.toNat)] else []:=by
 symm
 have hat:∀ i,(newFr m n).L[i]?=some true↔(m.toNat<=i/\i < lenF n):=by
  intro i;simp only [newFr];rw [List.getElem?_map];by_cases h:i < lenF n
  ·rw [List.getElem?_range h];simp [h]
  ·rw [List.getElem?_eq_none (by simpa using h)];simp [h]
 apply rows_unique
 ·split
  ·exact ⟨List.pairwise_singleton _ _,fun x hx=>by rw [List.mem_singleton] at hx;subst hx;simp only;omega⟩
  ·exact ⟨List.Pairwise.nil,fun x hx=>by cases hx⟩
 ·intro i;rw [hat];split
  ·rw [cov_one];simp only;omega
  ·exact ⟨fun h=>(cov_nil h).elim,fun h=>by omega⟩
theorem newFr_whole (m n:Int):(newFr m n).whole=if m.toNat < lenF n then (m.toNat,lenF n - m.toNat) else (0,0):=by
 unfold Fr.whole;rw [newFr_len];rfl
theorem new_mem {w W1:World} {F D:Int} {m n:Int} (h1:m.toNat < lenF n) (hF:F=m.toNat) (hD:D=((lenF n - m.toNat:Nat):Int)) (b:Below (w.heap.size+1) (w.alloc (.cells #[.bool true,.int .i64 0,.int .i64 0,.slice none 0 0] 210)) W1) :
  let W2:=(W1.setCell ⟨w.heap.size,1,none⟩ (.int .i64 F)).setCell ⟨w.heap.size,2,none⟩ (.int .i64 D)
  let W3:=(W2.setCell ⟨w.heap.size,3,none⟩ (.slice (some ⟨W1.heap.size,0,none⟩) 1 1)).alloc (.cells #[.int .i64 F,.int .i64 D] 108)
  CFr (fun i=>w.heap.size<=i/\i < W3.heap.size) W3 w.heap.size (newFr m n)/\Below w.heap.size w W3:=by
 intro W2 W3;have hz:=b.size;rw [World.size_alloc] at hz;have hs2:W2.heap.size=W1.heap.size:=by simp [W2]
 have hs3:W3.heap.size=W1.heap.size+1:=by simp [W3,hs2]
 have o1:Ob W1 w.heap.size 210 [.bool true,.int .i64 0,.int .i64 0,.slice none 0 0]:=(Ob.new w [.bool true,.int .i64 0,.int .i64 0,.slice none 0 0] 210).below b (by omega);have o2:=(((o1.set 1 (.int .i64 F)).set 2 (.int .i64 D)).set 3 (.slice (some ⟨W1.heap.size,0,none⟩) 1 1)).alloc (.cells #[.int .i64 F,.int .i64 D] 108)
 have r3:Ob W3 W1.heap.size 108 [.int .i64 F,.int .i64 D]:=by
  have:=Ob.new (W2.setCell ⟨w.heap.size,3,none⟩ (.slice (some ⟨W1.heap.size,0,none⟩) 1 1)) [.int .i64 F,.int .i64 D] 108;have e:(W2.setCell ⟨w.heap.size,3,none⟩ (.slice (some ⟨W1.heap.size,0,none⟩) 1 1)).heap.size=W1.heap.size:=by simp [hs2]
  rw [e] at this;exact this
 refine ⟨⟨newFr_ok m n,⟨Nat.le_refl _,by omega⟩,.slice (some ⟨W1.heap.size,0,none⟩) 1 1,?_,?_⟩,?_⟩
 ·rw [newFr_whole,if_pos h1];simp only;rw [<- hF,<- hD];simpa using o2
 ·rw [newFr_rows,if_pos h1];refine ob_row ⟨by omega,by omega⟩ r3 (Nat.le_refl _) (by unfold maxLen;omega) rfl ?_;rw [hF,hD];simp [Zb]
 ·have b1:Below w.heap.size w W1:=((Below.refl w.heap.size w).alloc (Nat.le_refl _) _).trans (b.mono (by omega));exact (((b1.setCell (p:=⟨w.heap.size,1,none⟩) (Nat.le_refl _) _).setCell (p:=⟨w.heap.size,2,none⟩) (Nat.le_refl _) _).setCell (p:=⟨w.heap.size,3,none⟩) (Nat.le_refl _) _).alloc (by simp;omega) _
theorem new_none {w:World} {m n:Int} (h1:¬ m.toNat < lenF n) :
  CFr (fun i=>w.heap.size<=i/\i < (w.alloc (.cells #[.bool true,.int .i64 0,.int .i64 0,.slice none 0 0] 210)).heap.size) (w.alloc (.cells #[.bool true,.int .i64 0,.int .i64 0,.slice none 0 0] 210)) w.heap.size (newFr m n)/\Below w.heap.size w (w.alloc (.cells #[.bool true,.int .i64 0,.int .i64 0,.slice none 0 0] 210)):=by
 refine ⟨⟨newFr_ok m n,⟨Nat.le_refl _,by simp⟩,.slice none 0 0,?_,?_⟩,(Below.refl _ w).alloc (Nat.le_refl _) _⟩
 ·rw [newFr_whole,if_neg h1];exact Ob.new w [.bool true,.int .i64 0,.int .i64 0,.slice none 0 0] 210
 ·rw [newFr_rows,if_neg h1];exact Row.nil _ _ _ _
theorem xnew_any (m n:Int) (w:World) (hm:m<=9223372036854775807):Calls Tryz.prog 80 #[.int .i64 m,.int .i64 n] w fun e w'=>∃ p,e=.returned (.pointer (some ⟨p,0,none⟩))/\CFr (fun i=>w.heap.size<=i/\i < w'.heap.size) w' p (newFr m n)/\Below w.heap.size w w':=by
 obtain ⟨F,hF⟩:∃ F:Int,F=if m < 0 then 0 else m:=⟨_,rfl⟩
 obtain ⟨N,hN⟩:∃ N:Int,N=if 16384 < n then 16384 else n:=⟨_,rfl⟩
 have hF1:F=(m.toNat:Int):=by rw [hF];split <;> omega
 have hN1:(16384 < n/\lenF n=16384/\N=16384)\/(n<=16384/\lenF n=n.toNat/\N=n):=by
  unfold lenF;by_cases h:16384 < n
  ·rw [if_pos h] at hN;exact .inl ⟨h,if_pos h,hN⟩
  ·rw [if_neg h] at hN;exact .inr ⟨by omega,if_neg h,hN⟩
 by_cases hlt:F < N
 ·have h1:m.toNat < lenF n:=by omega
  have wD:IntKind.i64.wrap (N - F)=((lenF n - m.toNat:Nat):Int):=Z6 (by omega) (by omega);obtain ⟨D,hD⟩:∃ D:Int,D=((lenF n - m.toNat:Nat):Int):=⟨_,rfl⟩;rw [<- hD] at wD;have C:=fun W=>between_any wD W
  have HFin:=Za (fun W1 (b:Below (w.heap.size+1) (w.alloc (.cells #[.bool true,.int .i64 0,.int .i64 0,.slice none 0 0] 210)) W1)=>new_mem (W1:=W1) h1 hF1 hD b);have k0:=Ob.new w [.bool true,.int .i64 0,.int .i64 0,.slice none 0 0] 210;have HK0:=Za k0;by_cases hm0:m < 0
  ·rw [if_pos hm0] at hF;subst hF;by_cases hn0:16384 < n
   ·rw [if_pos hn0] at hN;subst hN;clear hF1 hN1 h1 wD hD k0;go_enter Tryz.func80,Tryz.ntmps80
    go_wp2_with fail
    refine (C _).mono ?_;rintro e W1 ⟨rfl,b⟩;have k1:=HK0.out.old b;have x1:=k1.cell 1;have x2:=k1.cell 2;have x3:=k1.cell 3;have f1:=k1.frozen 1;have f2:=k1.frozen 2;have f3:=k1.frozen 3;simp only [List.getElem?_cons_succ,List.getElem?_cons_zero] at x1 x2 x3;have hsz:=k1.lt;have HR:=Za (HFin.out W1 (by rw [World.size_alloc] at b;exact b));clear b k1;go_wp2;go_ret
    exact ⟨_,rfl,HR.out⟩
   ·rw [if_neg hn0] at hN;subst hN;have hn1:N<=16384:=by omega
    clear hF1 hN1 h1 wD hD k0;go_enter Tryz.func80,Tryz.ntmps80
    go_wp2_with fail
    refine (C _).mono ?_;rintro e W1 ⟨rfl,b⟩;have k1:=HK0.out.old b;have x1:=k1.cell 1;have x2:=k1.cell 2;have x3:=k1.cell 3;have f1:=k1.frozen 1;have f2:=k1.frozen 2;have f3:=k1.frozen 3;simp only [List.getElem?_cons_succ,List.getElem?_cons_zero] at x1 x2 x3;have hsz:=k1.lt;have HR:=Za (HFin.out W1 (by rw [World.size_alloc] at b;exact b));clear b k1;go_wp2;go_ret
    exact ⟨_,rfl,HR.out⟩
  ·rw [if_neg hm0] at hF;subst hF;have hm1:0<=F:=by omega
   by_cases hn0:16384 < n
   ·rw [if_pos hn0] at hN;subst hN;clear hF1 hN1 h1 wD hD k0;go_enter Tryz.func80,Tryz.ntmps80
    go_wp2_with fail
    refine (C _).mono ?_;rintro e W1 ⟨rfl,b⟩;have k1:=HK0.out.old b;have x1:=k1.cell 1;have x2:=k1.cell 2;have x3:=k1.cell 3;have f1:=k1.frozen 1;have f2:=k1.frozen 2;have f3:=k1.frozen 3;simp only [List.getElem?_cons_succ,List.getElem?_cons_zero] at x1 x2 x3;have hsz:=k1.lt;have HR:=Za (HFin.out W1 (by rw [World.size_alloc] at b;exact b));clear b k1;go_wp2;go_ret
    exact ⟨_,rfl,HR.out⟩
   ·rw [if_neg hn0] at hN;subst hN;have hn1:N<=16384:=by omega
    clear hF1 hN1 h1 wD hD k0;go_enter Tryz.func80,Tryz.ntmps80
    go_wp2_with fail
    refine (C _).mono ?_;rintro e W1 ⟨rfl,b⟩;have k1:=HK0.out.old b;have x1:=k1.cell 1;have x2:=k1.cell 2;have x3:=k1.cell 3;have f1:=k1.frozen 1;have f2:=k1.frozen 2;have f3:=k1.frozen 3;simp only [List.getElem?_cons_succ,List.getElem?_cons_zero] at x1 x2 x3;have hsz:=k1.lt;have HR:=Za (HFin.out W1 (by rw [World.size_alloc] at b;exact b));clear b k1;go_wp2;go_ret
    exact ⟨_,rfl,HR.out⟩
 ·have h1:¬ m.toNat < lenF n:=by omega
  have HFin:=Za (new_none (w:=w) h1);by_cases hm0:m < 0
  ·rw [if_pos hm0] at hF;subst hF;by_cases hn0:16384 < n
   ·rw [if_pos hn0] at hN;subst hN;omega
   ·rw [if_neg hn0] at hN;subst hN;have hn1:N<=16384:=by omega
    clear hF1 hN1 h1;go_enter Tryz.func80,Tryz.ntmps80
    go_wp2;go_ret
    exact ⟨_,rfl,HFin.out⟩
  ·rw [if_neg hm0] at hF;subst hF;have hm1:0<=F:=by omega
   by_cases hn0:16384 < n
   ·rw [if_pos hn0] at hN;subst hN;clear hF1 hN1 h1;go_enter Tryz.func80,Tryz.ntmps80
    go_wp2;go_ret
    exact ⟨_,rfl,HFin.out⟩
   ·rw [if_neg hn0] at hN;subst hN;have hn1:N<=16384:=by omega
    clear hF1 hN1 h1;go_enter Tryz.func80,Tryz.ntmps80
    go_wp2;go_ret
    exact ⟨_,rfl,HFin.out⟩
theorem eclone_app {w:World} {a:Addr} {n cap:Nat} {xs:List Value} (hl:xs.length=n * 2) (hx:∀ j u,xs[j]?=some u->w.cell? (a.add j)=some u) (h1:∀ u ∈ xs,u.oneCell'=true) (hn:n<=16384) :
  ∃ b n' c w',(Builtin.append_ #[208,208] 208 #[.slice (some ⟨w.heap.size,0,none⟩) 0 0,.slice (some a) n cap]).run Tryz.prog (w.alloc (.cells #[] 108))=.ok (.slice b n' c) w'/\w'.ownsRow w.heap.size 108 2 (.slice b n' c) n xs/\Below w.heap.size w w':=by
 obtain ⟨i0,hi0,hz0,hz1,hz2⟩:=info_parts info_span;have hown:(w.alloc (.cells #[] 108)).ownsRow w.heap.size 108 2 (.slice (some ⟨w.heap.size,0,none⟩) 0 0) 0 []:=⟨by simp,.inr ⟨w.heap.size,0,#[],rfl,Nat.le_refl _,heap_alloc_new w _,Nat.le_refl _,Nat.zero_le _,by simp,by simp⟩⟩
 obtain ⟨v',w',R,r1,g1,_⟩:=run_append_own (P:=Tryz.prog) (w.alloc (.cells #[] 108)) w.heap.size 208 208 108 i0 _ 2 16 Tryz.underlying208 hi0 hz0 hz1 hz2 rfl (by decide) (.slice (some ⟨w.heap.size,0,none⟩) 0 0) 0 [] hown a n cap xs hl (fun j u hu=>by
  have:=hx j u hu;exact (World.cell?_of_block (Below.heap_alloc w _ _ (World.block_lt_of_cell? w _ this))).trans this) h1 (by unfold maxLen;omega) (by omega) (by simp)
 rw [List.nil_append,Nat.zero_add] at r1;obtain ⟨b,c,e⟩:=own_len2 r1;subst e;exact ⟨b,n,c,w',R,r1,((Below.refl _ w).alloc (Nat.le_refl _) _).grown g1 (by simp) (fun k hk=>by simp [Value.ownBlock] at hk;omega)⟩
theorem eclone_any {O:Nat->Prop} {w:World} {v:Value} {R:List (Nat × Nat)} (h:Row O w 108 2 v R.length (Zb R)) (hR:R.length<=16384) :
  Calls Tryz.prog 173 #[v] w fun e w'=>∃ a n c,e=.returned (.slice a n c)/\w'.ownsRow w.heap.size 108 2 (.slice a n c) R.length (Zb R)/\Below w.heap.size w w':=by
 rcases row_ob h with ⟨rfl,h0,hx⟩ | ⟨g,cap,cur,rfl,_,bR,_,_,hr3,hr4⟩
 ·have HR:=Za (show w.ownsRow w.heap.size 108 2 (.slice none 0 0) R.length (Zb R) by rw [h0,hx];exact World.ownsRow_nil _ _ _ _);clear h h0 hx;have hq:=fun wx=>Lib.run_eql_slice_nil (P:=Tryz.prog) wx 208 108 none 0 0 0 0 Tryz.underlying208
  go_enter Tryz.func173,Tryz.ntmps173
  go_wp2;go_ret
  exact ⟨none,0,0,rfl,HR.out,Below.refl _ _⟩
 ·obtain ⟨b,n',c,w5,RR,r5,b5⟩:=eclone_app (w:=w) (a:=⟨g,0,none⟩) (cap:=cap) (Zs R) (ob_src bR (fun j u hu=>by
   have hj:=(List.getElem?_eq_some_iff.1 hu).1;rw [Zs] at hj;rw [<- hr4,List.getElem?_take_of_lt hj] at hu;rw [Nat.zero_add];exact hu)) (ZR R) hR
  obtain ⟨q1,q2,q3⟩:=Zi RR;have HR:=Za r5;have HB:=Za b5;clear h RR r5 b5 hr3 hr4 bR;have hq:=fun wx=>Lib.run_eql_slice_nil (P:=Tryz.prog) wx 208 108 (some ⟨g,0,none⟩) R.length cap 0 0 Tryz.underlying208
  go_enter Tryz.func173,Tryz.ntmps173
  go_wp2;go_ret
  exact ⟨_,_,_,rfl,HR.out,HB.out⟩
theorem xcopy_any {O:Nat->Prop} {w:World} {p:Nat} {f:Fr} (h:CFr O w p f) :
  Calls Tryz.prog 124 #[.pointer (some ⟨p,0,none⟩)] w fun e w'=>∃ q,e=.returned (.pointer (some ⟨q,0,none⟩))/\CFr (fun i=>w.heap.size<=i/\i < w'.heap.size) w' q f/\Below w.heap.size w w':=by
 obtain ⟨v,m0,r0⟩:=h.mem;have hok:=h.ok;have CC:=eclone_any (w:=w.drew) (O:=O) (v:=v) (R:=f.rows) (r0.onl (F:=fun _=>False) ((Onl.refl _ w).drew) (fun _ _ q=>q)) (crows_len hok);obtain ⟨va,vc,e⟩:=own_len2 r0.1;subst e;have x0:=m0.cell 0;have x1:=m0.cell 1;have x2:=m0.cell 2;have x3:=m0.cell 3;simp only [List.getElem?_cons_succ,List.getElem?_cons_zero] at x0 x1 x2 x3;have m1:Ob w.drew p 210 [.bool true,.int .i64 (f.whole.1:Int),.int .i64 (f.whole.2:Int),.slice va f.rows.length vc]:=m0;have HK:=Za m1;have HOk:=Za hok;clear h m0 m1 r0 hok;go_enter Tryz.func124,Tryz.ntmps124
 go_wp2_with fail
 refine wp_region_held_drew (S:=(fun W'=>W'.cell? ⟨p,1,none⟩=some (.int .i64 (f.whole.1:Int))/\W'.cell? ⟨p,2,none⟩=some (.int .i64 (f.whole.2:Int))/\W'.cell? ⟨p,3,none⟩=some (.slice va f.rows.length vc))) (by kernel_rfl) ?_ (fun hHeld=>?_)
 ·exact ⟨HK.out.cell 1,HK.out.cell 2,HK.out.cell 3⟩
 first
  | (refine wpAnyH_take (i:=0) (v:=?_) rfl (by kernel_rfl) (by kernel_rfl) (by kernel_rfl) (fun _ _ _ h=>h) (Or.inl ⟨by rfl,?_⟩) (by assumption) ?_;rotate_left;(intro wx hSx;obtain ⟨q0,q1,q2⟩:=hSx;go_simp;first | done | with_reducible rfl))
  | (refine wpAnyH_take (i:=0) (v:=undef) rfl (by kernel_rfl) (by kernel_rfl) (by kernel_rfl) (fun _ _ _ h=>h) (Or.inr ⟨by rfl,rfl⟩) (by assumption) ?_)
 simp only [Act.put,List.getElem_toArray,List.getElem_cons_zero,List.setIfInBounds_toArray,List.set_cons_zero,List.set_cons_succ]
 first
  | (refine wpAnyH_take (i:=1) (v:=?_) rfl (by kernel_rfl) (by kernel_rfl) (by kernel_rfl) (fun _ _ _ h=>h) (Or.inl ⟨by rfl,?_⟩) (by assumption) ?_;rotate_left;(intro wx hSx;obtain ⟨q0,q1,q2⟩:=hSx;go_simp;first | done | with_reducible rfl))
  | (refine wpAnyH_take (i:=1) (v:=undef) rfl (by kernel_rfl) (by kernel_rfl) (by kernel_rfl) (fun _ _ _ h=>h) (Or.inr ⟨by rfl,rfl⟩) (by assumption) ?_)
 simp only [Act.put,List.getElem_toArray,List.getElem_cons_succ,List.getElem_cons_zero,List.setIfInBounds_toArray,List.set_cons_zero,List.set_cons_succ]
 first
  | (refine wpAnyH_take (i:=2) (v:=?_) rfl (by kernel_rfl) (by kernel_rfl) (by kernel_rfl) (fun _ _ _ h=>h) (Or.inl ⟨by rfl,?_⟩) (by assumption) ?_;rotate_left;(intro wx hSx;obtain ⟨q0,q1,q2⟩:=hSx;go_simp;first | done | with_reducible rfl))
  | (refine wpAnyH_take (i:=2) (v:=undef) rfl (by kernel_rfl) (by kernel_rfl) (by kernel_rfl) (fun _ _ _ h=>h) (Or.inr ⟨by rfl,rfl⟩) (by assumption) ?_)
 simp only [Act.put,List.getElem_toArray,List.getElem_cons_succ,List.getElem_cons_zero,List.setIfInBounds_toArray,List.set_cons_zero,List.set_cons_succ]
 first
  | (refine wpAnyH_take (i:=3) (v:=?_) rfl (by kernel_rfl) (by kernel_rfl) (by kernel_rfl) (fun _ _ _ h=>h) (Or.inl ⟨by rfl,?_⟩) (by assumption) ?_;rotate_left;(intro wx hSx;obtain ⟨q0,q1,q2⟩:=hSx;go_simp;first | done | with_reducible rfl))
  | (refine wpAnyH_take (i:=3) (v:=undef) rfl (by kernel_rfl) (by kernel_rfl) (by kernel_rfl) (fun _ _ _ h=>h) (Or.inr ⟨by rfl,rfl⟩) (by assumption) ?_)
 simp only [Act.put,List.getElem_toArray,List.getElem_cons_succ,List.getElem_cons_zero,List.setIfInBounds_toArray,List.set_cons_zero,List.set_cons_succ]
 first
  | (refine wpAnyH_take (i:=4) (v:=?_) rfl (by kernel_rfl) (by kernel_rfl) (by kernel_rfl) (fun _ _ _ h=>h) (Or.inl ⟨by rfl,?_⟩) (by assumption) ?_;rotate_left;(intro wx hSx;obtain ⟨q0,q1,q2⟩:=hSx;go_simp;first | done | with_reducible rfl))
  | (refine wpAnyH_take (i:=4) (v:=undef) rfl (by kernel_rfl) (by kernel_rfl) (by kernel_rfl) (fun _ _ _ h=>h) (Or.inr ⟨by rfl,rfl⟩) (by assumption) ?_)
 simp only [Act.put,List.getElem_toArray,List.getElem_cons_succ,List.getElem_cons_zero,List.setIfInBounds_toArray,List.set_cons_zero,List.set_cons_succ]
 first
  | (refine wpAnyH_take (i:=5) (v:=?_) rfl (by kernel_rfl) (by kernel_rfl) (by kernel_rfl) (fun _ _ _ h=>h) (Or.inl ⟨by rfl,?_⟩) (by assumption) ?_;rotate_left;(intro wx hSx;obtain ⟨q0,q1,q2⟩:=hSx;go_simp;first | done | with_reducible rfl))
  | (refine wpAnyH_take (i:=5) (v:=undef) rfl (by kernel_rfl) (by kernel_rfl) (by kernel_rfl) (fun _ _ _ h=>h) (Or.inr ⟨by rfl,rfl⟩) (by assumption) ?_)
 simp only [Act.put,List.getElem_toArray,List.getElem_cons_succ,List.getElem_cons_zero,List.setIfInBounds_toArray,List.set_cons_zero,List.set_cons_succ]
 first
  | (refine wpAnyH_take (i:=6) (v:=?_) rfl (by kernel_rfl) (by kernel_rfl) (by kernel_rfl) (fun _ _ _ h=>h) (Or.inl ⟨by rfl,?_⟩) (by assumption) ?_;rotate_left;(intro wx hSx;obtain ⟨q0,q1,q2⟩:=hSx;go_simp;first | done | with_reducible rfl))
  | (refine wpAnyH_take (i:=6) (v:=undef) rfl (by kernel_rfl) (by kernel_rfl) (by kernel_rfl) (fun _ _ _ h=>h) (Or.inr ⟨by rfl,rfl⟩) (by assumption) ?_)
 simp only [Act.put,List.getElem_toArray,List.getElem_cons_succ,List.getElem_cons_zero,List.setIfInBounds_toArray,List.set_cons_zero,List.set_cons_succ]
 first
  | (refine wpAnyH_take (i:=7) (v:=?_) rfl (by kernel_rfl) (by kernel_rfl) (by kernel_rfl) (fun _ _ _ h=>h) (Or.inl ⟨by rfl,?_⟩) (by assumption) ?_;rotate_left;(intro wx hSx;obtain ⟨q0,q1,q2⟩:=hSx;go_simp;first | done | with_reducible rfl))
  | (refine wpAnyH_take (i:=7) (v:=undef) rfl (by kernel_rfl) (by kernel_rfl) (by kernel_rfl) (fun _ _ _ h=>h) (Or.inr ⟨by rfl,rfl⟩) (by assumption) ?_)
 simp only [Act.put,List.getElem_toArray,List.getElem_cons_succ,List.getElem_cons_zero,List.setIfInBounds_toArray,List.set_cons_zero,List.set_cons_succ];refine wpAnyH_ready (rs:=[8]) (by kernel_rfl) (by simp) ?_;refine AllReadyH.cons rfl (fun K hK=>?_) AllReadyH.nil;go_simp;go_at_call 173
 refine CC.mono ?_;rintro e W1 ⟨a1,n1,c1,rfl,r1,b1⟩;have T:=HK.out.old b1;have k1:=T.cell 1;have k2:=T.cell 2;have k3:=T.cell 3;simp only [List.getElem?_cons_succ,List.getElem?_cons_zero] at k1 k2 k3;have HT:=Za T;have HR1:=Za r1;have HB1:=Za b1;clear T r1 b1;go_wp2_with fail
 refine hK.out _ _ ?_ (fun hHeld=>?_)
 ·exact ⟨HT.out.cell 1,HT.out.cell 2,HT.out.cell 3⟩
 clear hK K
 first
  | (refine wpAnyH_take (i:=9) (v:=?_) rfl (by kernel_rfl) (by kernel_rfl) (by kernel_rfl) (fun _ _ _ h=>h) (Or.inl ⟨by rfl,?_⟩) (by assumption) ?_;rotate_left;(intro wx hSx;obtain ⟨q0,q1,q2⟩:=hSx;go_simp;first | done | with_reducible rfl))
  | (refine wpAnyH_take (i:=9) (v:=undef) rfl (by kernel_rfl) (by kernel_rfl) (by kernel_rfl) (fun _ _ _ h=>h) (Or.inr ⟨by rfl,rfl⟩) (by assumption) ?_)
 simp only [Act.put,List.getElem_toArray,List.getElem_cons_succ,List.getElem_cons_zero,List.setIfInBounds_toArray,List.set_cons_zero,List.set_cons_succ];refine wpAnyH_ready (rs:=[10]) (by kernel_rfl) (by simp) ?_;refine AllReadyH.cons rfl (fun K hK=>?_) AllReadyH.nil;go_simp;have HT2:=Za (HT.out.alloc (.cells #[.bool true,.int .i64 (f.whole.1:Int),.int .i64 (f.whole.2:Int),.slice a1 n1 c1] 210));refine hK.out _ _ ?_ (fun hHeld=>?_)
 ·exact ⟨HT2.out.cell 1,HT2.out.cell 2,HT2.out.cell 3⟩
 clear hK K
 first
  | (refine wpAnyH_take (i:=11) (v:=?_) rfl (by kernel_rfl) (by kernel_rfl) (by kernel_rfl) (fun _ _ _ h=>h) (Or.inl ⟨by rfl,?_⟩) (by assumption) ?_;rotate_left;(intro wx hSx;obtain ⟨q0,q1,q2⟩:=hSx;go_simp;first | done | with_reducible rfl))
  | (refine wpAnyH_take (i:=11) (v:=undef) rfl (by kernel_rfl) (by kernel_rfl) (by kernel_rfl) (fun _ _ _ h=>h) (Or.inr ⟨by rfl,rfl⟩) (by assumption) ?_)
 simp only [Act.put,List.getElem_toArray,List.getElem_cons_succ,List.getElem_cons_zero,List.setIfInBounds_toArray,List.set_cons_zero,List.set_cons_succ];refine wpAnyH_done (by kernel_rfl) ?_ _;go_wp2;go_ret
 have hb:Below w.heap.size w W1:=((Below.refl _ w).drew).trans HB1.out;have r2:=(HR1.out.alloc (.cells #[.bool true,.int .i64 (f.whole.1:Int),.int .i64 (f.whole.2:Int),.slice a1 n1 c1] 210));have hz:=hb.size;exact ⟨W1.heap.size,rfl,⟨HOk.out,⟨hz,by simp⟩,.slice a1 n1 c1,Ob.new W1 [.bool true,.int .i64 (f.whole.1:Int),.int .i64 (f.whole.2:Int),.slice a1 n1 c1] 210,⟨r2.mono (Nat.zero_le _),fun k hk=>r2.lt k hk⟩⟩,hb.alloc hz _⟩
end Go.Proofs.YtdhebpnkfookcaaGreat
namespace Apo
open Go Go.RowKit
structure Cg where
 e:Nat
 r:Spn
 f:Fr
 w:Fr
 n:Fr
 ended:Bool
end Apo
namespace Go.Proofs.YtdhebpnkfookcaaGreat
open Go.RowKit Apo
structure CPb (Od Of:Nat->Prop) (w:World) (p d pf:Nat) (pw pn:Option Addr) (e:Nat) (r:Spn) (f:Fr) (ended:Bool) (st:Sd):Prop where
 ob:Ob w p 161 [.pointer (some ⟨d,0,none⟩),.int .u64 e,.int .i64 r.a,.int .i64 r.k,.pointer (some ⟨pf,0,none⟩),.pointer pw,.pointer pn,.bool ended]
 dv:CDev Od w d st
 fr:CFr Of w pf f
 a1:∀ i,Od i->¬ Of i/\i≠p
 a2:∀ i,Of i->i≠p
 l1:∀ i,Od i->i < w.heap.size
 l2:∀ i,Of i->i < w.heap.size
 rok:Spn.Ok r
structure CPd (Od Of Ow On:Nat->Prop) (w:World) (p d pf pw pn:Nat) (c:Cg) (st:Sd):Prop where
 b:CPb Od Of w p d pf (some ⟨pw,0,none⟩) (some ⟨pn,0,none⟩) c.e c.r c.f c.ended st
 wr:CFr Ow w pw c.w
 nr:CFr On w pn c.n
 a3:∀ i,Ow i->¬ Od i/\¬ Of i/\i≠p
 a4:∀ i,On i->¬ Od i/\¬ Of i/\¬ Ow i/\i≠p
 l3:∀ i,Ow i->i < w.heap.size
 l4:∀ i,On i->i < w.heap.size
def CPx (U:Nat->Prop) (w:World) (p d:Nat) (c:Cg) (st:Sd):Prop:=∃ Od Of Ow On pf pw pn,CPd Od Of Ow On w p d pf pw pn c st/\∀ i,Od i\/Of i\/Ow i\/On i\/i=p->U i
section
variable {Od Of Ow On F U:Nat->Prop} {w w':World} {p d pf:Nat} {e:Nat} {r:Spn} {f:Fr} {ended:Bool} {st:Sd} {c:Cg}
theorem CPb.onl {pw pn:Option Addr} (h:CPb Od Of w p d pf pw pn e r f ended st) (o:Onl F w w') (h1:∀ i,Od i->¬ F i) (h2:∀ i,Of i->¬ F i) (h3:¬ F p):CPb Od Of w' p d pf pw pn e r f ended st :=
 ⟨h.ob.onl o h3,h.dv.onl o h1,h.fr.onl o h2,h.a1,h.a2,fun i q=>Nat.lt_of_lt_of_le (h.l1 i q) o.size,fun i q=>Nat.lt_of_lt_of_le (h.l2 i q) o.size,h.rok⟩
theorem CPb.below {pw pn:Option Addr} (h:CPb Od Of w p d pf pw pn e r f ended st) (b:Below w.heap.size w w'):CPb Od Of w' p d pf pw pn e r f ended st :=
 h.onl (F:=fun _=>False) (Onl.ofBelow b) (fun _ _ q=>q) (fun _ _ q=>q) id
theorem CPd.onl {pw pn:Nat} (h:CPd Od Of Ow On w p d pf pw pn c st) (o:Onl F w w') (h1:∀ i,Od i\/Of i\/Ow i\/On i\/i=p->¬ F i):CPd Od Of Ow On w' p d pf pw pn c st :=
 ⟨h.b.onl o (fun i q=>h1 i (.inl q)) (fun i q=>h1 i (.inr (.inl q))) (h1 p (.inr (.inr (.inr (.inr rfl))))),h.wr.onl o (fun i q=>h1 i (.inr (.inr (.inl q)))),h.nr.onl o (fun i q=>h1 i (.inr (.inr (.inr (.inl q))))),h.a3,h.a4,fun i q=>Nat.lt_of_lt_of_le (h.l3 i q) o.size,fun i q=>Nat.lt_of_lt_of_le (h.l4 i q) o.size⟩
theorem CPd.below {pw pn:Nat} (h:CPd Od Of Ow On w p d pf pw pn c st) (b:Below w.heap.size w w'):CPd Od Of Ow On w' p d pf pw pn c st:=h.onl (F:=fun _=>False) (Onl.ofBelow b) (fun _ _ q=>q)
theorem CPd.lt {pw pn:Nat} (h:CPd Od Of Ow On w p d pf pw pn c st):∀ i,Od i\/Of i\/Ow i\/On i\/i=p->i < w.heap.size:=by
 rintro i (q | q | q | q | q)
 ·exact h.b.l1 i q
 ·exact h.b.l2 i q
 ·exact h.l3 i q
 ·exact h.l4 i q
 ·rw [q];exact h.b.ob.lt
theorem CPd.x {pw pn:Nat} (h:CPd Od Of Ow On w p d pf pw pn c st) (hU:∀ i,Od i\/Of i\/Ow i\/On i\/i=p->U i):CPx U w p d c st:=⟨_,_,_,_,_,_,_,h,hU⟩
theorem CPx.below (h:CPx U w p d c st) (b:Below w.heap.size w w'):CPx U w' p d c st:=by
 obtain ⟨_,_,_,_,_,_,_,h,hU⟩:=h;exact ⟨_,_,_,_,_,_,_,h.below b,hU⟩
theorem CPx.mono {U':Nat->Prop} (h:CPx U w p d c st) (hU:∀ i,U i->U' i):CPx U' w p d c st:=by
 obtain ⟨_,_,_,_,_,_,_,h,h1⟩:=h;exact ⟨_,_,_,_,_,_,_,h,fun i q=>hU i (h1 i q)⟩
end
theorem cpages_any {O:Nat->Prop} {w:World} {p:Nat} {st:Sd} (h:CDev O w p st) :
  Calls Tryz.prog 81 #[.pointer (some ⟨p,0,none⟩)] w fun e w'=>e=.returned (.int .i64 ((st.S.length / 4:Nat):Int))/\w=w':=by
 have hs:=h.ok.size;have C:=csize_any h;clear h;generalize st.S.length=n at *;go_enter Tryz.func81,Tryz.ntmps81
 go_wp2_with fail
 refine C.mono ?_;rintro e wx ⟨rfl,rfl⟩;go_wp2;go_ret
 refine ⟨?_,rfl⟩;show Ending.returned (.int .i64 ((n:Int) / 4))=_
 simp
theorem cgoes_ob {w:World} {p d:Nat} {cs:List Value} {b:Bool} (h:Ob w p 161 cs) (h0:cs[0]?=some (.pointer (some ⟨d,0,none⟩))) (h7:cs[7]?=some (.bool b)) :
  Calls Tryz.prog 90 #[.pointer (some ⟨p,0,none⟩)] w fun e w'=>e=.returned (.bool (!b))/\w=w':=by
 have c0:=(h.cell 0).trans h0;have c7:=(h.cell 7).trans h7;clear h h0 h7;go_enter Tryz.func90,Tryz.ntmps90
 go_wp2;go_ret
 exact ⟨rfl,rfl⟩
theorem cends_ob {w:World} {p:Nat} {cs:List Value} (h:Ob w p 161 cs) (hl:7 < cs.length) (er:Int) :
  Calls Tryz.prog 94 #[.pointer (some ⟨p,0,none⟩),.int .i64 er] w fun e w'=>e=.returned (.int .i64 er)/\w'=w.setCell ⟨p,7,none⟩ (.bool (er != 0)):=by
 have c7:=h.cell 7;have f7:=h.frozen 7;rw [List.getElem?_eq_getElem hl] at c7;generalize cs[7]=u at c7;clear h;go_enter Tryz.func94,Tryz.ntmps94
 go_wp2;go_ret
 exact ⟨rfl,rfl⟩
theorem cbegin_zero {Od Of:Nat->Prop} {w:World} {p d pf:Nat} {pw pn:Option Addr} {e:Nat} {r:Spn} {f:Fr} {ended:Bool} {st:Sd} (h:CPb Od Of w p d pf pw pn e r f ended st) (hr0:r.k=0) :
  Calls Tryz.prog 83 #[.pointer (some ⟨p,0,none⟩)] w fun en w'=>en=.returned (.tuple #[])/\(∃ Ow On pw pn,CPd Od Of Ow On w' p d pf pw pn ⟨e,r,f,f,(f.give r).2,ended⟩ st/\(∀ i,Ow i\/On i->w.heap.size<=i))/\Onl (fun i=>i=p) w w':=by
 have hp:=h.ob.lt;have C1:=xcopy_any (h.below ((Below.refl _ w).drew)).fr;have c2:=h.ob.cell 2;have c3:=h.ob.cell 3;have c4:=h.ob.cell 4;have c5:=h.ob.cell 5;have c6:=h.ob.cell 6;have f5:=h.ob.frozen 5;have f6:=h.ob.frozen 6;simp only [List.getElem?_cons_zero,List.getElem?_cons_succ] at c2 c3 c4 c5 c6;have H:=Za h;have HC1:=Za C1;have HR0:=Za hr0;clear h C1 hr0;go_enter Tryz.func83,Tryz.ntmps83
 go_wp2
 go_region_held3 (fun W'=>W'.cell? ⟨p,4,none⟩=some (.pointer (some ⟨pf,0,none⟩))) (go_keep) (first
  | (go_at_call 124;refine HC1.out.mono ?_;rintro en w1 ⟨q1,rfl,k1,b1⟩;have T1:=H.out.below ((Below.refl _ w).drew.trans b1);have C2:=xcopy_any T1.fr;have y4:=T1.ob.cell 4;have y5:=T1.ob.cell 5;have y6:=T1.ob.cell 6;have g5:=T1.ob.frozen 5;have g6:=T1.ob.frozen 6;simp only [List.getElem?_cons_zero,List.getElem?_cons_succ] at y4 y5 y6;have HC2:=Za C2;have HT1:=Za T1;have HK1:=Za k1;have HB1:=Za b1;clear C2 T1 k1 b1)
  | (go_at_call 124;refine HC2.out.mono ?_;rintro en w2 ⟨q2,rfl,k2,b2⟩;have T2:=HT1.out.below b2;have x4:=T2.ob.cell 4;have x5:=T2.ob.cell 5;have x6:=T2.ob.cell 6;have e5:=T2.ob.frozen 5;have e6:=T2.ob.frozen 6;simp only [List.getElem?_cons_zero,List.getElem?_cons_succ] at x4 x5 x6;have s5:=(T2.ob.set 5 (.pointer (some ⟨q1,0,none⟩))).cell 4;have s6:=((T2.ob.set 5 (.pointer (some ⟨q1,0,none⟩))).set 6 (.pointer (some ⟨q2,0,none⟩))).cell 4;have s7:=(T2.ob.set 6 (.pointer (some ⟨q2,0,none⟩))).cell 4;simp only [List.set_cons_succ,List.set_cons_zero,List.getElem?_cons_zero,List.getElem?_cons_succ] at s5 s6 s7;have HT2:=Za T2;have HK2:=Za k2;have HB2:=Za b2;clear T2 k2 b2))
 have k3:Ob ((w2.setCell ⟨p,5,none⟩ (.pointer (some ⟨q1,0,none⟩))).setCell ⟨p,6,none⟩ (.pointer (some ⟨q2,0,none⟩))) p 161 [.pointer (some ⟨d,0,none⟩),.int .u64 e,.int .i64 r.a,.int .i64 r.k,.pointer (some ⟨pf,0,none⟩),.pointer (some ⟨q1,0,none⟩),.pointer (some ⟨q2,0,none⟩),.bool ended]:=(HT2.out.ob.set 5 (.pointer (some ⟨q1,0,none⟩))).set 6 (.pointer (some ⟨q2,0,none⟩));have o3:Onl (fun i=>i=p) w2 ((w2.setCell ⟨p,5,none⟩ (.pointer (some ⟨q1,0,none⟩))).setCell ⟨p,6,none⟩ (.pointer (some ⟨q2,0,none⟩))):=((Onl.refl (fun i=>i=p) w2).set (p:=p) (.inl rfl) _).set (p:=p) (.inl rfl) _;have s2:w.heap.size<=w1.heap.size:=HB1.out.size;have s3:w1.heap.size<=w2.heap.size:=HB2.out.size;have s4:((w2.setCell ⟨p,5,none⟩ (.pointer (some ⟨q1,0,none⟩))).setCell ⟨p,6,none⟩ (.pointer (some ⟨q2,0,none⟩))).heap.size=w2.heap.size:=by simp [World.setCell]
 have O3:Onl (fun i=>i=p) w ((w2.setCell ⟨p,5,none⟩ (.pointer (some ⟨q1,0,none⟩))).setCell ⟨p,6,none⟩ (.pointer (some ⟨q2,0,none⟩))):=(((Onl.refl _ w).drew.trans (Onl.ofBelow HB1.out)).trans (Onl.ofBelow HB2.out)).trans o3;have d3:=HT2.out.dv.onl o3 (fun i q=>(HT2.out.a1 i q).2);have r3:=HT2.out.fr.onl o3 (fun i q=>HT2.out.a2 i q);have u1:=(HK1.out.below HB2.out).onl o3 (fun i (q:w.drew.heap.size<=i/\i < w1.heap.size) (z:i=p)=>by have h1:w.drew.heap.size=w.heap.size:=rfl;omega);have u2:=HK2.out.onl o3 (fun i (q:w1.heap.size<=i/\i < w2.heap.size) (z:i=p)=>by omega);generalize (w2.setCell ⟨p,5,none⟩ (.pointer (some ⟨q1,0,none⟩))).setCell ⟨p,6,none⟩ (.pointer (some ⟨q2,0,none⟩))=W3 at *;have C4:=cgive_zero (w:=W3.drew) (u2.below ((Below.refl _ W3).drew)) r H.out.rok HR0.out;have v2:=k3.cell 2;have v3:=k3.cell 3;have v6:=k3.cell 6;simp only [List.getElem?_cons_zero,List.getElem?_cons_succ] at v2 v3 v6;have HC4:=Za C4;have HK3:=Za k3;have HD3:=Za d3;have HR3:=Za r3;have HU1:=Za u1;have HO3:=Za O3;clear C4 k3 o3 O3 d3 r3 u1 u2 x4 x5 x6 y4 y5 y6 g5 g6 e5 e6 s5 s6 s7 c2 c3 c4 c5 c6 f5 f6 HC1 HC2;go_wp2
 go_region_held3 (fun W'=>W'.cell? ⟨p,2,none⟩=some (.int .i64 r.a)/\W'.cell? ⟨p,3,none⟩=some (.int .i64 r.k)/\W'.cell? ⟨p,6,none⟩=some (.pointer (some ⟨q2,0,none⟩))) (go_keep) (first
  | (go_at_call 125;refine HC4.out.mono ?_;rintro en w4 ⟨rfl,k4,o4⟩;have m4:Ob w4 p 161 _:=Ob.onl (w:=W3.drew) HK3.out o4 (fun q=>by omega);have n2:=m4.cell 2;have n3:=m4.cell 3;have n6:=m4.cell 6;simp only [List.getElem?_cons_zero,List.getElem?_cons_succ] at n2 n3 n6;have HM4:=Za m4;have HK4:=Za k4;have HO4:=Za o4;clear m4 k4 o4))
 have z4:W3.heap.size<=w4.heap.size:=HO4.out.size;have OO:Onl (fun i=>w1.heap.size<=i/\i < w2.heap.size) W3 w4:=(Onl.refl _ W3).drew.trans HO4.out;have l1:=H.out.l1;have l2:=H.out.l2
 have HA:Hid ((∃ Ow On pw pn,CPd Od Of Ow On w4 p d pf pw pn ⟨e,r,f,f,(f.give r).2,ended⟩ st/\(∀ i,Ow i\/On i->w.heap.size<=i))/\Onl (fun i=>i=p) w w4):=by
  refine Za ⟨⟨_,_,q1,q2,⟨⟨HM4.out,HD3.out.onl OO (fun i q z=>by have:=l1 i q;omega),HR3.out.onl OO (fun i q z=>by have:=l2 i q;omega),H.out.a1,H.out.a2,fun i q=>by have:=l1 i q;omega,fun i q=>by have:=l2 i q;omega,H.out.rok⟩,HU1.out.onl OO (fun i q z=>by have:=q.2;omega),HK4.out,?_,?_,?_,?_⟩,?_⟩,?_⟩
  ·intro i q;have q1:w.heap.size<=i:=q.1;exact ⟨fun z=>by have:=l1 i z;omega,fun z=>by have:=l2 i z;omega,by omega⟩
  ·intro i q;have q1:w1.heap.size<=i:=q.elim (fun z=>z.1) (fun z=>by have z1:W3.heap.size<=i:=z.1;omega);exact ⟨fun z=>by have:=l1 i z;omega,fun z=>by have:=l2 i z;omega,fun z=>by have:=z.2;omega,by omega⟩
  ·intro i q;have:=q.2;omega
  ·intro i q;exact q.elim (fun z=>by omega) (fun z=>z.2)
  ·rintro i (q | q)
   ·exact q.1
   ·exact q.elim (fun z=>by omega) (fun z=>by have z1:W3.heap.size<=i:=z.1;omega)
  ·exact HO3.out.more OO (fun i q=>.inr (by omega))
 go_wp2;go_end0
 exact ⟨rfl,HA.out⟩
end Go.Proofs.YtdhebpnkfookcaaGreat
