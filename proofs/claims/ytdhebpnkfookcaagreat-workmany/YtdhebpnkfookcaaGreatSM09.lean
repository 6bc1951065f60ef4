import Derived.Test.YtdhebpnkfookcaaGreatSM08
set_option maxRecDepth 100000
set_option maxHeartbeats 4000000
namespace Go.Proofs.YtdhebpnkfookcaaGreat
open Go.RowKit Apo
attribute [local go_sem ↓] Apo.app_exec
theorem put_whole (f:Fr) (s:Spn) (b:Bool):(f.put s b).whole=f.whole:=by
 unfold Fr.whole;rw [Fr.put_len];rfl
theorem wp_appends {P:Program} {o:Oper} {a:Act} {w:World} {K:Act->World->Prop} {Q:Exit->Act->World->Prop} (s x:Operand) (t:TypeId) (hop:o.op=Op.call { callee:=Callee.builtin Builtin.append,args:=#[s,x],argTypes:=#[t,t] })
  (vs vx v':Value) (w':World) (hs:a.eval s=vs) (hx:a.eval x=vx) (hr:(Builtin.append_ #[t,t] o.type #[vs,vx]).run P w=.ok v' w') (hK:K (a.put o.dst v') w'):Oper.wp P o a w K Q:=by
 unfold Oper.wp;simp [execOp,hop,resolve,invoke,builtin,hs,hx,hr,Result.andThen]
 exact hK
theorem cfr_stored {O:Nat->Prop} {w W W':World} {p:Nat} {x1 x2:Int} {v u:Value} {n:Nat} {xs:List Value} {f:Fr} (_:∀ i,O i->i < w.heap.size) (hp:O p) (hb:Below w.heap.size w W)
  (m:Ob W p 210 [.bool true,.int .i64 x1,.int .i64 x2,v]) (r:Row O W 108 2 v n xs) (hg:W.grownBy W' v.ownBlock) (hok:OkFr f) (h1:x1=f.whole.1) (h2:x2=f.whole.2)
  (r':Row (Gro O W W') W' 108 2 u f.rows.length (Zb f.rows)):CFr (Gro O w (W'.setCell ⟨p,3,none⟩ u)) (W'.setCell ⟨p,3,none⟩ u) p f/\Onl O w (W'.setCell ⟨p,3,none⟩ u):=by
 have m':Ob W' p 210 [.bool true,.int .i64 x1,.int .i64 x2,v]:=m.kept hg (r.apartOb m (by decide));have m2:=m'.set 3 u;have hap:=r'.apartOb m' (by decide);have O1:Onl (fun i=>i=p) W' (W'.setCell ⟨p,3,none⟩ u):=(Onl.refl (fun i=>i=p) W').set (p:=p) (.inl rfl) u;have hmono:∀ i,Gro O W W' i->Gro O w (W'.setCell ⟨p,3,none⟩ u) i:=fun i hi=>hi.elim (fun q=>.inl q) (fun q=>.inr ⟨Nat.le_trans hb.size q.1,by simpa [World.setCell] using q.2⟩)
 refine ⟨⟨hok,.inl hp,u,?_,(r'.onl O1 (fun g hg' q=>hap (by rw [<- q];exact hg'))).mono hmono⟩,?_⟩
 ·subst h1;subst h2;simpa using m2
 ·exact (((Onl.ofBelow (O:=O) hb)).grown hg (fun k hk=>.inl (r.2 k hk))).set (.inl hp) u
theorem own_old {W W':World} {base e size n:Nat} {v:Value} {xs:List Value} (h:W.ownsRow base e size v n xs) (b:Below W.heap.size W W'):W'.ownsRow base e size v n xs:=h.kept (Zm none b) (by cases v.ownBlock <;> simp)
structure Ct (O:Nat->Prop) (w:World) (p:Nat) (f:Fr) (s:Spn) (x:Nat × Nat) (v u:Value) (L:List (Nat × Nat)) (W:World):Prop where
 m:Ob W p 210 [.bool true,.int .i64 (f.whole.1:Int),.int .i64 (f.whole.2:Int),v]
 r:Row O W 108 2 v f.rows.length (Zb f.rows)
 o1:Ob W w.heap.size 108 [.int .i64 s.a,.int .i64 s.k]
 o2:Ob W (w.heap.size+1) 108 [.int .i64 (x.1:Int),.int .i64 (x.2:Int)]
 b:Below w.heap.size w W
 z:w.heap.size+2<=W.heap.size
 l:W.ownsRow (w.heap.size+2) 108 2 u L.length (Zb L)
section
variable {O:Nat->Prop} {w W W':World} {p:Nat} {f:Fr} {s:Spn} {x:Nat × Nat} {v u:Value} {L:List (Nat × Nat)}
theorem Ct.old (h:Ct O w p f s x v u L W) (b:Below W.heap.size W W'):Ct O w p f s x v u L W':=⟨h.m.old b,h.r.onl (F:=fun _=>False) (Onl.ofBelow b) (fun _ _ q=>q),h.o1.old b,h.o2.old b,h.b.trans (b.mono h.b.size),Nat.le_trans h.z b.size,own_old h.l b⟩
theorem Ct.drew (h:Ct O w p f s x v u L W):Ct O w p f s x v u L W.drew:=h.old ((Below.refl _ W).drew)
theorem Ct.cells (h:Ct O w p f s x v u L W):W.cell? ⟨w.heap.size,0,none⟩=some (.int .i64 s.a)/\W.cell? ⟨w.heap.size,1,none⟩=some (.int .i64 s.k)/\W.cell? ⟨w.heap.size+1,0,none⟩=some (.int .i64 (x.1:Int))/\W.cell? ⟨w.heap.size+1,1,none⟩=some (.int .i64 (x.2:Int))/\W.cell? ⟨p,3,none⟩=some v:=⟨h.o1.cell 0,h.o1.cell 1,h.o2.cell 0,h.o2.cell 1,h.m.cell 3⟩
theorem Ct.grown (h:Ct O w p f s x v u L W) (hO:∀ i,O i->i < w.heap.size) (hp:O p) {row:Option Nat} (hg:W.grownBy W' row) (hr:∀ k,row=some k->w.heap.size+2<=k) {u':Value} {L':List (Nat × Nat)} (hl:W'.ownsRow (w.heap.size+2) 108 2 u' L'.length (Zb L')):Ct O w p f s x v u' L' W' :=
 have ho:Onl (fun i=>row=some i) W W':=(Onl.refl _ W).grown hg (fun k hk=>.inl hk)
 ⟨h.m.kept hg (fun e=>by have:=hr _ e;have:=hO p hp;omega),h.r.onl ho (fun g hg' q=>by have:=hr g q;have:=hO g (h.r.2 g hg');omega),h.o1.kept hg (fun e=>by have:=hr _ e;omega),h.o2.kept hg (fun e=>by have:=hr _ e;omega),h.b.grown hg h.b.size (fun k hk=>by have:=hr k hk;omega),Nat.le_trans h.z hg.size,hl⟩
theorem left_more (h:Ct O w p f s x v u L W) (hO:∀ i,O i->i < w.heap.size) (hp:O p) (hL:L.length<=2) (y:Nat × Nat) {A K:Int} (hA:A=y.1) (hK:K=y.2) :
  ∃ a n c w',(Builtin.append_ #[208,208] 208 #[u,.slice (some ⟨W.heap.size,0,none⟩) 1 1]).run Tryz.prog (W.alloc (.cells #[.int .i64 A,.int .i64 K] 108))=.ok (.slice a n c) w'/\Ct O w p f s x v (.slice a n c) (L++[y]) w':=by
 subst hA;subst hK;obtain ⟨i0,hi,hz0',hz1,hz2⟩:=info_parts info_span;obtain ⟨v5,w5,RR,r5,gg5,_⟩:=run_append_own (P:=Tryz.prog) (W.alloc (.cells #[.int .i64 (y.1:Int),.int .i64 (y.2:Int)] 108)) (w.heap.size+2) 208 208 108 i0 _ 2 16 Tryz.underlying208 hi hz0' hz1 hz2 rfl (by decide) u _ _ (h.l.alloc _) ⟨W.heap.size,0,none⟩ 1 1 [.int .i64 (y.1:Int),.int .i64 (y.2:Int)] rfl (lit2_news W 108 _ _) (by simp [Value.oneCell']) (by unfold maxLen;omega) (by omega) (by simp;have:=h.z;omega);obtain ⟨a5,c5,hv5⟩:=own_len2 r5;subst hv5;exact ⟨a5,_,c5,w5,RR,(h.old ((Below.refl _ W).alloc (Nat.le_refl _) _)).grown hO hp gg5 (fun k hk=>(h.l.lt k hk).1) (by rw [List.length_append,Z7];simpa [Zb] using r5)⟩
end
theorem row_cell {O:Nat->Prop} {w:World} {v:Value} {R:List (Nat × Nat)} {I:Nat} {x:Nat × Nat} (h:Row O w 108 2 v R.length (Zb R)) (hI:R[I]?=some x):∃ g cap,v=.slice (some ⟨g,0,none⟩) R.length cap/\I < R.length/\w.cell? ⟨g,I * 2,none⟩=some (.int .i64 (x.1:Int))/\w.cell? ⟨g,I * 2+1,none⟩=some (.int .i64 (x.2:Int))/\O g:=by
 have hl:=(List.getElem?_eq_some_iff.1 hI).1;obtain ⟨g,cap,rfl,hO,_,_,_,hc,_⟩:=h.shape (by omega);obtain ⟨h1,h2⟩:=rcells_at hI;exact ⟨g,cap,rfl,hl,(hc _ (by omega)).trans h1,(hc _ (by omega)).trans h2,hO⟩
theorem cut_any {O:Nat->Prop} {w:World} {p:Nat} {f:Fr} (h:CFr O w p f) (hO:∀ i,O i->i < w.heap.size) {s:Spn} {x:Nat × Nat} {I:Nat} (hI:f.rows[I]?=some x) (hs:wnb s x=true) :
  Calls Tryz.prog 138 #[.pointer (some ⟨p,0,none⟩),.int .i64 I,.agg #[.int .i64 s.a,.int .i64 s.k]] w fun e w'=>e=.returned (.tuple #[])/\CFr (Gro O w w') w' p (f.put s false)/\Onl O w w':=by
 obtain ⟨v,m0,r0⟩:=h.mem;have hp:=h.own;have hok:=h.ok;have hrl:=crows_len hok;have hxo:=crow_ok hok x (List.mem_of_getElem? hI);obtain ⟨h1,h2,h3⟩:=wnb_iff.1 hs;obtain ⟨hx1,hx2⟩:=hxo;have hcut:=cut_rows hI hs;have hok':OkFr (f.put s false):=put_ok hok (by have:=(row_low hok (List.mem_of_getElem? hI)).1;omega) false;have we:IntKind.i64.wrap (s.a+s.k)=s.a+s.k:=by rw [IntKind.wrap_i64];omega
 have wx:IntKind.i64.wrap ((x.1:Int)+(x.2:Int))=(x.1:Int)+(x.2:Int):=by rw [IntKind.wrap_i64];omega
 have wl:IntKind.i64.wrap (s.a - (x.1:Int))=s.a - (x.1:Int):=by rw [IntKind.wrap_i64];omega
 have wr:IntKind.i64.wrap ((x.1:Int)+(x.2:Int) - (s.a+s.k))=(x.1:Int)+(x.2:Int) - (s.a+s.k):=by rw [IntKind.wrap_i64];omega
 have eL:s.a - (x.1:Int)=((s.a.toNat - x.1:Nat):Int):=by omega
 have CE1:=fun W=>end_any we W
 have CE2:=fun W=>end_any wx W
 have CL:=fun W=>between_any wl W
 have CR:=fun W=>between_any wr W
 obtain ⟨E1,hE1⟩:∃ E,E=s.a+s.k:=⟨_,rfl⟩;obtain ⟨E2,hE2⟩:∃ E,E=(x.1:Int)+(x.2:Int):=⟨_,rfl⟩;obtain ⟨D1,hD1⟩:∃ E,E=s.a - (x.1:Int):=⟨_,rfl⟩;obtain ⟨D2,hD2⟩:∃ E,E=E2 - E1:=⟨_,rfl⟩;have HE1:=Za hE1;have HE2:=Za hE2;have HD1:=Za hD1;have HD2:=Za hD2;rw [<- hE2,<- hE1,<- hD2] at CR;rw [<- hE1] at CE1;rw [<- hE2] at CE2;rw [<- hD1] at CL;obtain ⟨g,cap,rfl,hIl,k1,k2,hOg⟩:=row_cell r0 hI;have kp:=m0.cell 3;have hgl:=hO g hOg;have hpl:=hO p hp;simp only [List.getElem?_cons_succ,List.getElem?_cons_zero] at kp
 have K0:Ct O w p f s x (.slice (some ⟨g,0,none⟩) f.rows.length cap) (.slice none 0 0) [] ((w.alloc (.cells #[.int .i64 s.a,.int .i64 s.k] 108)).alloc (.cells #[.int .i64 (x.1:Int),.int .i64 (x.2:Int)] 108)) :=
  ⟨(m0.alloc _).alloc _,r0.onl (F:=fun _=>False) (((Onl.refl _ w).alloc _).alloc _) (fun _ _ q=>q),(Ob.new w [.int .i64 s.a,.int .i64 s.k] 108).alloc _,by have:=Ob.new (w.alloc (.cells #[.int .i64 s.a,.int .i64 s.k] 108)) [.int .i64 (x.1:Int),.int .i64 (x.2:Int)] 108;simpa using this,below2 w _ _,by simp,World.ownsRow_nil _ _ _ _⟩
 have w1I:IntKind.i64.wrap ((I:Int)+1)=((I+1:Nat):Int):=Z6 (by omega) (by omega);obtain ⟨I1,hI1⟩:∃ J,J=I+1:=⟨_,rfl⟩;rw [<- hI1] at w1I
 -- the end of all four ways
 have fin:∀ (W:World) (u:Value) (L:List (Nat × Nat)),L=Apo.leftOf s x->Ct O w p f s x (.slice (some ⟨g,0,none⟩) f.rows.length cap) u L W->(L=[]->u=.slice none 0 0) ->
   Calls Tryz.prog 184 #[.slice (some ⟨g,0,none⟩) f.rows.length cap,.int .i64 I,.int .i64 I1,u] W fun e W'=>∃ a n c,e=.returned (.slice a n c)/\(W'.cell? ⟨p,3,none⟩).isSome=true/\W'.frozen? ⟨p,3,none⟩=false/\CFr (Gro O w (W'.setCell ⟨p,3,none⟩ (.slice a n c))) (W'.setCell ⟨p,3,none⟩ (.slice a n c)) p (f.put s false)/\Onl O w (W'.setCell ⟨p,3,none⟩ (.slice a n c)):=by
  intro W u L hL K hnil;have hu:=K.l;subst hL;subst hI1;have hll:(Apo.leftOf s x).length<=2:=by unfold Apo.leftOf;rw [List.length_append];split <;> split <;> simp
  refine (replace_any K.r (U:=fun i=>w.heap.size+2<=i) ⟨hu.mono (Nat.zero_le _),fun k hk=>(hu.lt k hk).1⟩ (fun k hk q=>by have:=(hu.lt k q).1;have:=hO k (K.r.2 k hk);omega) hnil (by omega) hIl (fun q=>by omega) (by omega) hrl).mono ?_;rintro e W' ⟨u',rfl,r',hg'⟩;have hrows:f.rows.take I++(Apo.leftOf s x++f.rows.drop (I+1))=(f.put s false).rows:=by rw [<- hcut,List.append_assoc]
  have hlen:I+(Apo.leftOf s x).length+(f.rows.length - (I+1))=(f.put s false).rows.length:=by
   rw [<- hrows];simp
   omega
  rw [hrows,hlen] at r';obtain ⟨a',c',e'⟩:=own_len2 r'.1;subst e';have m':=K.m.kept hg' (K.r.apartOb K.m (by decide));obtain ⟨q1,q2⟩:=cfr_stored hO hp K.b K.m K.r hg' hok' (by rw [put_whole]) (by rw [put_whole]) r';exact ⟨_,_,_,rfl,by rw [m'.cell 3];rfl,m'.frozen 3,q1,q2⟩
 have HF:=Za fin;have HS:=Za hs;have hlo:Apo.leftOf s x=(if (x.1:Int) < s.a then [(x.1,s.a.toNat - x.1)] else [])++(if s.a+s.k < (x.1:Int)+x.2 then [((s.a+s.k).toNat,x.1+x.2 - (s.a+s.k).toNat)] else []):=rfl;rw [<- hE1,<- hE2] at hlo;have eR1:E1=(((E1).toNat:Nat):Int):=by omega
 have eR2:D2=((x.1+x.2 - (E1).toNat:Nat):Int):=by omega
 have HL:=Za hlo;have HR1:=Za eR1;have HR2:=Za eR2;have hHO:=Za hO;have HeL:=Za (hD1.trans eL);clear fin hs hlo eR1 eR2 hO hcut hI r0 m0 h hok hok' eL hE1 hE2 hD1 hD2 we wx wl wr hI1 hrl h1 h2 h3;by_cases q1:(x.1:Int) < s.a
 ·by_cases q2:E1 < E2
  ·have hd1:decide ((x.1:Int) < s.a)=true:=decide_eq_true q1;have hd2:decide (E1 < E2)=true:=decide_eq_true q2;go_enter Tryz.func138,Tryz.ntmps138
   go_wp2_with fail
   generalize (w.alloc (.cells #[.int .i64 s.a,.int .i64 s.k] 108)).alloc (.cells #[.int .i64 (x.1:Int),.int .i64 (x.2:Int)] 108)=W0 at *;obtain ⟨c0,c1,c2,c3,c4⟩:=K0.cells;have HK:=Za K0;clear K0;go_wp2_with fail
   refine (CL W0).mono ?_;rintro e W1 ⟨rfl,b⟩;obtain ⟨a2,n2,c2',w2,RR,T2⟩:=left_more (HK.out.old b) hHO.out hp (by simp) (x.1,s.a.toNat - x.1) (A:=(x.1:Int)) (K:=D1) rfl HeL.out;obtain ⟨p1,p2,p3⟩:=Zi RR;obtain ⟨c0,c1,c2,c3,c4⟩:=T2.cells;have HK2:=Za T2;clear b RR T2;go_wp2_with fail
   refine wp_region_held_drew (S:=(fun W'=>W'.cell? ⟨w.heap.size,0,none⟩=some (.int .i64 s.a)/\W'.cell? ⟨w.heap.size,1,none⟩=some (.int .i64 s.k)/\W'.cell? ⟨w.heap.size+1,0,none⟩=some (.int .i64 (x.1:Int))/\W'.cell? ⟨w.heap.size+1,1,none⟩=some (.int .i64 (x.2:Int))/\W'.cell? ⟨p,3,none⟩=some (.slice (some ⟨g,0,none⟩) f.rows.length cap))) (by kernel_rfl) ?_ (fun hHeld=>?_)
   ·exact HK2.out.drew.cells
   first
    | (refine wpAnyH_take (i:=0) (v:=?_) rfl (by kernel_rfl) (by kernel_rfl) (by kernel_rfl) (fun _ _ _ h=>h) (Or.inl ⟨by rfl,?_⟩) (by assumption) ?_;rotate_left;(intro wx hSx;obtain ⟨q0,q1,q2,q3,q4⟩:=hSx;go_simp;first | done | with_reducible rfl))
    | (refine wpAnyH_take (i:=0) (v:=undef) rfl (by kernel_rfl) (by kernel_rfl) (by kernel_rfl) (fun _ _ _ h=>h) (Or.inr ⟨by rfl,rfl⟩) (by assumption) ?_)
   simp only [Act.put,List.getElem_toArray,List.getElem_cons_zero,List.setIfInBounds_toArray,List.set_cons_zero,List.set_cons_succ]
   first
    | (refine wpAnyH_take (i:=2) (v:=?_) rfl (by kernel_rfl) (by kernel_rfl) (by kernel_rfl) (fun _ _ _ h=>h) (Or.inl ⟨by rfl,?_⟩) (by assumption) ?_;rotate_left;(intro wx hSx;obtain ⟨q0,q1,q2,q3,q4⟩:=hSx;go_simp;first | done | with_reducible rfl))
    | (refine wpAnyH_take (i:=2) (v:=undef) rfl (by kernel_rfl) (by kernel_rfl) (by kernel_rfl) (fun _ _ _ h=>h) (Or.inr ⟨by rfl,rfl⟩) (by assumption) ?_)
   simp only [Act.put,List.getElem_toArray,List.getElem_cons_succ,List.getElem_cons_zero,List.setIfInBounds_toArray,List.set_cons_zero,List.set_cons_succ];refine wpAnyH_ready (rs:=[1]) (by kernel_rfl) (by simp) ?_;refine AllReadyH.cons rfl (fun K hK=>?_) AllReadyH.nil;go_simp;go_at_call 183
   refine (CE1 _).mono ?_;rintro e wa ⟨rfl,b⟩;have T:=HK2.out.drew.old b;obtain ⟨c0,c1,c2,c3,c4⟩:=T.cells;have HKa:=Za T;clear b T;go_wp2_with fail
   refine hK.out _ _ ?_ (fun hHeld=>?_)
   ·exact HKa.out.cells
   clear hK K;refine wpAnyH_ready (rs:=[3]) (by kernel_rfl) (by simp) ?_;refine AllReadyH.cons rfl (fun K hK=>?_) AllReadyH.nil;go_simp;go_at_call 183
   refine (CE2 _).mono ?_;rintro e wb ⟨rfl,b⟩;have T:=HKa.out.old b;obtain ⟨c0,c1,c2,c3,c4⟩:=T.cells;have HKb:=Za T;clear b T;go_wp2_with fail
   refine hK.out _ _ ?_ (fun hHeld=>?_)
   ·exact HKb.out.cells
   clear hK K
   first
    | (refine wpAnyH_take (i:=4) (v:=?_) rfl (by kernel_rfl) (by kernel_rfl) (by kernel_rfl) (fun _ _ _ h=>h) (Or.inl ⟨by rfl,?_⟩) (by assumption) ?_;rotate_left;(intro wx hSx;obtain ⟨q0,q1,q2,q3,q4⟩:=hSx;go_simp;first | done | with_reducible rfl))
    | (refine wpAnyH_take (i:=4) (v:=undef) rfl (by kernel_rfl) (by kernel_rfl) (by kernel_rfl) (fun _ _ _ h=>h) (Or.inr ⟨by rfl,rfl⟩) (by assumption) ?_)
   simp only [Act.put,List.getElem_toArray,List.getElem_cons_succ,List.getElem_cons_zero,List.setIfInBounds_toArray,List.set_cons_zero,List.set_cons_succ];refine wpAnyH_done (by kernel_rfl) ?_ _;go_wp2_with fail
   refine wp_region_held_drew (S:=(fun W'=>W'.cell? ⟨w.heap.size,0,none⟩=some (.int .i64 s.a)/\W'.cell? ⟨w.heap.size,1,none⟩=some (.int .i64 s.k)/\W'.cell? ⟨w.heap.size+1,0,none⟩=some (.int .i64 (x.1:Int))/\W'.cell? ⟨w.heap.size+1,1,none⟩=some (.int .i64 (x.2:Int))/\W'.cell? ⟨p,3,none⟩=some (.slice (some ⟨g,0,none⟩) f.rows.length cap))) (by kernel_rfl) ?_ (fun hHeld=>?_)
   ·exact HKb.out.drew.cells
   first
    | (refine wpAnyH_take (i:=0) (v:=?_) rfl (by kernel_rfl) (by kernel_rfl) (by kernel_rfl) (fun _ _ _ h=>h) (Or.inl ⟨by rfl,?_⟩) (by assumption) ?_;rotate_left;(intro wx hSx;obtain ⟨q0,q1,q2,q3,q4⟩:=hSx;go_simp;first | done | with_reducible rfl))
    | (refine wpAnyH_take (i:=0) (v:=undef) rfl (by kernel_rfl) (by kernel_rfl) (by kernel_rfl) (fun _ _ _ h=>h) (Or.inr ⟨by rfl,rfl⟩) (by assumption) ?_)
   simp only [Act.put,List.getElem_toArray,List.getElem_cons_zero,List.setIfInBounds_toArray,List.set_cons_zero,List.set_cons_succ]
   first
    | (refine wpAnyH_take (i:=1) (v:=?_) rfl (by kernel_rfl) (by kernel_rfl) (by kernel_rfl) (fun _ _ _ h=>h) (Or.inl ⟨by rfl,?_⟩) (by assumption) ?_;rotate_left;(intro wx hSx;obtain ⟨q0,q1,q2,q3,q4⟩:=hSx;go_simp;first | done | with_reducible rfl))
    | (refine wpAnyH_take (i:=1) (v:=undef) rfl (by kernel_rfl) (by kernel_rfl) (by kernel_rfl) (fun _ _ _ h=>h) (Or.inr ⟨by rfl,rfl⟩) (by assumption) ?_)
   simp only [Act.put,List.getElem_toArray,List.getElem_cons_succ,List.getElem_cons_zero,List.setIfInBounds_toArray,List.set_cons_zero,List.set_cons_succ]
   first
    | (refine wpAnyH_take (i:=3) (v:=?_) rfl (by kernel_rfl) (by kernel_rfl) (by kernel_rfl) (fun _ _ _ h=>h) (Or.inl ⟨by rfl,?_⟩) (by assumption) ?_;rotate_left;(intro wx hSx;obtain ⟨q0,q1,q2,q3,q4⟩:=hSx;go_simp;first | done | with_reducible rfl))
    | (refine wpAnyH_take (i:=3) (v:=undef) rfl (by kernel_rfl) (by kernel_rfl) (by kernel_rfl) (fun _ _ _ h=>h) (Or.inr ⟨by rfl,rfl⟩) (by assumption) ?_)
   simp only [Act.put,List.getElem_toArray,List.getElem_cons_succ,List.getElem_cons_zero,List.setIfInBounds_toArray,List.set_cons_zero,List.set_cons_succ];refine wpAnyH_ready (rs:=[2]) (by kernel_rfl) (by simp) ?_;refine AllReadyH.cons rfl (fun K hK=>?_) AllReadyH.nil;go_simp;go_at_call 183
   refine (CE1 _).mono ?_;rintro e wc ⟨rfl,b⟩;have T:=HKb.out.drew.old b;obtain ⟨c0,c1,c2,c3,c4⟩:=T.cells;have HKc:=Za T;clear b T;go_wp2_with fail
   refine hK.out _ _ ?_ (fun hHeld=>?_)
   ·exact HKc.out.cells
   clear hK K;refine wpAnyH_ready (rs:=[4]) (by kernel_rfl) (by simp) ?_;refine AllReadyH.cons rfl (fun K hK=>?_) AllReadyH.nil;go_simp;go_at_call 183
   refine (CE2 _).mono ?_;rintro e wd ⟨rfl,b⟩;have T:=HKc.out.old b;obtain ⟨c0,c1,c2,c3,c4⟩:=T.cells;have HKd:=Za T;clear b T;go_wp2_with fail
   refine hK.out _ _ ?_ (fun hHeld=>?_)
   ·exact HKd.out.cells
   clear hK K;refine wpAnyH_ready (rs:=[5]) (by kernel_rfl) (by simp) ?_;refine AllReadyH.cons rfl (fun K hK=>?_) AllReadyH.nil;go_simp;go_at_call 122
   refine (CR wd).mono ?_;rintro e we ⟨rfl,b⟩;have T:=HKd.out.old b;obtain ⟨a3,n3,c3',w3,RR,T3⟩:=left_more T hHO.out hp (by simp) (E1.toNat,x.1+x.2 - E1.toNat) HR1.out HR2.out;have HRR:=Za RR;obtain ⟨c0,c1,c2,c3,c4⟩:=T.cells;have HKe:=Za T;have HKf:=Za T3;have HKg:=Za (T.old ((Below.refl _ we).alloc (Nat.le_refl _) (.cells #[.int .i64 E1,.int .i64 D2] 108)));clear b T RR T3;go_wp2_with fail
   refine hK.out _ _ ?_ (fun hHeld=>?_)
   ·exact HKe.out.cells
   clear hK K;refine wpAnyH_ready (rs:=[6]) (by kernel_rfl) (by simp) ?_;refine AllReadyH.cons rfl (fun K hK=>?_) AllReadyH.nil;go_simp;refine hK.out _ _ ?_ (fun hHeld=>?_)
   ·exact HKg.out.cells
   clear hK K;refine wpAnyH_ready (rs:=[7]) (by kernel_rfl) (by simp) ?_;refine AllReadyH.cons rfl (fun K hK=>?_) AllReadyH.nil;refine wp_appends (.tmp 33) (.tmp 39) 208 rfl _ _ _ _ rfl rfl HRR.out ?_;simp only [Act.put,List.getElem_toArray,List.getElem_cons_succ,List.getElem_cons_zero,List.setIfInBounds_toArray,List.set_cons_zero,List.set_cons_succ];refine hK.out _ _ ?_ (fun hHeld=>?_)
   ·exact HKf.out.cells
   clear hK K
   first
    | (refine wpAnyH_take (i:=8) (v:=?_) rfl (by kernel_rfl) (by kernel_rfl) (by kernel_rfl) (fun _ _ _ h=>h) (Or.inl ⟨by rfl,?_⟩) (by assumption) ?_;rotate_left;(intro wx hSx;obtain ⟨q0,q1,q2,q3,q4⟩:=hSx;go_simp;first | done | with_reducible rfl))
    | (refine wpAnyH_take (i:=8) (v:=undef) rfl (by kernel_rfl) (by kernel_rfl) (by kernel_rfl) (fun _ _ _ h=>h) (Or.inr ⟨by rfl,rfl⟩) (by assumption) ?_)
   simp only [Act.put,List.getElem_toArray,List.getElem_cons_succ,List.getElem_cons_zero,List.setIfInBounds_toArray,List.set_cons_zero,List.set_cons_succ];refine wpAnyH_done (by kernel_rfl) ?_ _;obtain ⟨c0,c1,c2,c3,c4⟩:=HKf.out.cells;go_wp2_with fail
   refine (HF.out w3 (.slice a3 n3 c3') ([(x.1,s.a.toNat - x.1),(E1.toNat,x.1+x.2 - E1.toNat)]) (by rw [HL.out,if_pos (c:=(x.1:Int) < s.a) (by omega),if_pos (c:=E1 < E2) (by omega)];rfl) HKf.out (fun q=>by simp at q)).mono ?_;rintro e W9 ⟨a9,n9,c9,rfl,z1,z2,z3,z4⟩;have HZ3:=Za z3;have HZ4:=Za z4;clear z3 z4;obtain ⟨zv,z1⟩:=Option.isSome_iff_exists.1 z1;go_wp2;go_end0
   exact ⟨rfl,HZ3.out,HZ4.out⟩
  ·have hd1:decide ((x.1:Int) < s.a)=true:=decide_eq_true q1;have hd2:decide (E1 < E2)=false:=decide_eq_false q2;go_enter Tryz.func138,Tryz.ntmps138
   go_wp2_with fail
   generalize (w.alloc (.cells #[.int .i64 s.a,.int .i64 s.k] 108)).alloc (.cells #[.int .i64 (x.1:Int),.int .i64 (x.2:Int)] 108)=W0 at *;obtain ⟨c0,c1,c2,c3,c4⟩:=K0.cells;have HK:=Za K0;clear K0;go_wp2_with fail
   refine (CL W0).mono ?_;rintro e W1 ⟨rfl,b⟩;obtain ⟨a2,n2,c2',w2,RR,T2⟩:=left_more (HK.out.old b) hHO.out hp (by simp) (x.1,s.a.toNat - x.1) (A:=(x.1:Int)) (K:=D1) rfl HeL.out;obtain ⟨p1,p2,p3⟩:=Zi RR;obtain ⟨c0,c1,c2,c3,c4⟩:=T2.cells;have HK2:=Za T2;clear b RR T2;go_wp2_with fail
   refine wp_region_held_drew (S:=(fun W'=>W'.cell? ⟨w.heap.size,0,none⟩=some (.int .i64 s.a)/\W'.cell? ⟨w.heap.size,1,none⟩=some (.int .i64 s.k)/\W'.cell? ⟨w.heap.size+1,0,none⟩=some (.int .i64 (x.1:Int))/\W'.cell? ⟨w.heap.size+1,1,none⟩=some (.int .i64 (x.2:Int))/\W'.cell? ⟨p,3,none⟩=some (.slice (some ⟨g,0,none⟩) f.rows.length cap))) (by kernel_rfl) ?_ (fun hHeld=>?_)
   ·exact HK2.out.drew.cells
   first
    | (refine wpAnyH_take (i:=0) (v:=?_) rfl (by kernel_rfl) (by kernel_rfl) (by kernel_rfl) (fun _ _ _ h=>h) (Or.inl ⟨by rfl,?_⟩) (by assumption) ?_;rotate_left;(intro wx hSx;obtain ⟨q0,q1,q2,q3,q4⟩:=hSx;go_simp;first | done | with_reducible rfl))
    | (refine wpAnyH_take (i:=0) (v:=undef) rfl (by kernel_rfl) (by kernel_rfl) (by kernel_rfl) (fun _ _ _ h=>h) (Or.inr ⟨by rfl,rfl⟩) (by assumption) ?_)
   simp only [Act.put,List.getElem_toArray,List.getElem_cons_zero,List.setIfInBounds_toArray,List.set_cons_zero,List.set_cons_succ]
   first
    | (refine wpAnyH_take (i:=2) (v:=?_) rfl (by kernel_rfl) (by kernel_rfl) (by kernel_rfl) (fun _ _ _ h=>h) (Or.inl ⟨by rfl,?_⟩) (by assumption) ?_;rotate_left;(intro wx hSx;obtain ⟨q0,q1,q2,q3,q4⟩:=hSx;go_simp;first | done | with_reducible rfl))
    | (refine wpAnyH_take (i:=2) (v:=undef) rfl (by kernel_rfl) (by kernel_rfl) (by kernel_rfl) (fun _ _ _ h=>h) (Or.inr ⟨by rfl,rfl⟩) (by assumption) ?_)
   simp only [Act.put,List.getElem_toArray,List.getElem_cons_succ,List.getElem_cons_zero,List.setIfInBounds_toArray,List.set_cons_zero,List.set_cons_succ];refine wpAnyH_ready (rs:=[1]) (by kernel_rfl) (by simp) ?_;refine AllReadyH.cons rfl (fun K hK=>?_) AllReadyH.nil;go_simp;go_at_call 183
   refine (CE1 _).mono ?_;rintro e wa ⟨rfl,b⟩;have T:=HK2.out.drew.old b;obtain ⟨c0,c1,c2,c3,c4⟩:=T.cells;have HKa:=Za T;clear b T;go_wp2_with fail
   refine hK.out _ _ ?_ (fun hHeld=>?_)
   ·exact HKa.out.cells
   clear hK K;refine wpAnyH_ready (rs:=[3]) (by kernel_rfl) (by simp) ?_;refine AllReadyH.cons rfl (fun K hK=>?_) AllReadyH.nil;go_simp;go_at_call 183
   refine (CE2 _).mono ?_;rintro e wb ⟨rfl,b⟩;have T:=HKa.out.old b;obtain ⟨c0,c1,c2,c3,c4⟩:=T.cells;have HKb:=Za T;clear b T;go_wp2_with fail
   refine hK.out _ _ ?_ (fun hHeld=>?_)
   ·exact HKb.out.cells
   clear hK K
   first
    | (refine wpAnyH_take (i:=4) (v:=?_) rfl (by kernel_rfl) (by kernel_rfl) (by kernel_rfl) (fun _ _ _ h=>h) (Or.inl ⟨by rfl,?_⟩) (by assumption) ?_;rotate_left;(intro wx hSx;obtain ⟨q0,q1,q2,q3,q4⟩:=hSx;go_simp;first | done | with_reducible rfl))
    | (refine wpAnyH_take (i:=4) (v:=undef) rfl (by kernel_rfl) (by kernel_rfl) (by kernel_rfl) (fun _ _ _ h=>h) (Or.inr ⟨by rfl,rfl⟩) (by assumption) ?_)
   simp only [Act.put,List.getElem_toArray,List.getElem_cons_succ,List.getElem_cons_zero,List.setIfInBounds_toArray,List.set_cons_zero,List.set_cons_succ];refine wpAnyH_done (by kernel_rfl) ?_ _;go_wp2_with fail
   obtain ⟨c0,c1,c2,c3,c4⟩:=HKb.out.cells;go_wp2_with fail
   refine (HF.out wb (.slice a2 n2 c2') ([(x.1,s.a.toNat - x.1)]) (by rw [HL.out,if_pos (c:=(x.1:Int) < s.a) (by omega),if_neg (c:=E1 < E2) (by omega)];rfl) HKb.out (fun q=>by simp at q)).mono ?_;rintro e W9 ⟨a9,n9,c9,rfl,z1,z2,z3,z4⟩;have HZ3:=Za z3;have HZ4:=Za z4;clear z3 z4;obtain ⟨zv,z1⟩:=Option.isSome_iff_exists.1 z1;go_wp2;go_end0
   exact ⟨rfl,HZ3.out,HZ4.out⟩
 ·by_cases q2:E1 < E2
  ·have hd1:decide ((x.1:Int) < s.a)=false:=decide_eq_false q1;have hd2:decide (E1 < E2)=true:=decide_eq_true q2;go_enter Tryz.func138,Tryz.ntmps138
   go_wp2_with fail
   generalize (w.alloc (.cells #[.int .i64 s.a,.int .i64 s.k] 108)).alloc (.cells #[.int .i64 (x.1:Int),.int .i64 (x.2:Int)] 108)=W0 at *;obtain ⟨c0,c1,c2,c3,c4⟩:=K0.cells;have HK:=Za K0;clear K0;go_wp2_with fail
   refine wp_region_held_drew (S:=(fun W'=>W'.cell? ⟨w.heap.size,0,none⟩=some (.int .i64 s.a)/\W'.cell? ⟨w.heap.size,1,none⟩=some (.int .i64 s.k)/\W'.cell? ⟨w.heap.size+1,0,none⟩=some (.int .i64 (x.1:Int))/\W'.cell? ⟨w.heap.size+1,1,none⟩=some (.int .i64 (x.2:Int))/\W'.cell? ⟨p,3,none⟩=some (.slice (some ⟨g,0,none⟩) f.rows.length cap))) (by kernel_rfl) ?_ (fun hHeld=>?_)
   ·exact HK.out.drew.cells
   first
    | (refine wpAnyH_take (i:=0) (v:=?_) rfl (by kernel_rfl) (by kernel_rfl) (by kernel_rfl) (fun _ _ _ h=>h) (Or.inl ⟨by rfl,?_⟩) (by assumption) ?_;rotate_left;(intro wx hSx;obtain ⟨q0,q1,q2,q3,q4⟩:=hSx;go_simp;first | done | with_reducible rfl))
    | (refine wpAnyH_take (i:=0) (v:=undef) rfl (by kernel_rfl) (by kernel_rfl) (by kernel_rfl) (fun _ _ _ h=>h) (Or.inr ⟨by rfl,rfl⟩) (by assumption) ?_)
   simp only [Act.put,List.getElem_toArray,List.getElem_cons_zero,List.setIfInBounds_toArray,List.set_cons_zero,List.set_cons_succ]
   first
    | (refine wpAnyH_take (i:=2) (v:=?_) rfl (by kernel_rfl) (by kernel_rfl) (by kernel_rfl) (fun _ _ _ h=>h) (Or.inl ⟨by rfl,?_⟩) (by assumption) ?_;rotate_left;(intro wx hSx;obtain ⟨q0,q1,q2,q3,q4⟩:=hSx;go_simp;first | done | with_reducible rfl))
    | (refine wpAnyH_take (i:=2) (v:=undef) rfl (by kernel_rfl) (by kernel_rfl) (by kernel_rfl) (fun _ _ _ h=>h) (Or.inr ⟨by rfl,rfl⟩) (by assumption) ?_)
   simp only [Act.put,List.getElem_toArray,List.getElem_cons_succ,List.getElem_cons_zero,List.setIfInBounds_toArray,List.set_cons_zero,List.set_cons_succ];refine wpAnyH_ready (rs:=[1]) (by kernel_rfl) (by simp) ?_;refine AllReadyH.cons rfl (fun K hK=>?_) AllReadyH.nil;go_simp;go_at_call 183
   refine (CE1 _).mono ?_;rintro e wa ⟨rfl,b⟩;have T:=HK.out.drew.old b;obtain ⟨c0,c1,c2,c3,c4⟩:=T.cells;have HKa:=Za T;clear b T;go_wp2_with fail
   refine hK.out _ _ ?_ (fun hHeld=>?_)
   ·exact HKa.out.cells
   clear hK K;refine wpAnyH_ready (rs:=[3]) (by kernel_rfl) (by simp) ?_;refine AllReadyH.cons rfl (fun K hK=>?_) AllReadyH.nil;go_simp;go_at_call 183
   refine (CE2 _).mono ?_;rintro e wb ⟨rfl,b⟩;have T:=HKa.out.old b;obtain ⟨c0,c1,c2,c3,c4⟩:=T.cells;have HKb:=Za T;clear b T;go_wp2_with fail
   refine hK.out _ _ ?_ (fun hHeld=>?_)
   ·exact HKb.out.cells
   clear hK K
   first
    | (refine wpAnyH_take (i:=4) (v:=?_) rfl (by kernel_rfl) (by kernel_rfl) (by kernel_rfl) (fun _ _ _ h=>h) (Or.inl ⟨by rfl,?_⟩) (by assumption) ?_;rotate_left;(intro wx hSx;obtain ⟨q0,q1,q2,q3,q4⟩:=hSx;go_simp;first | done | with_reducible rfl))
    | (refine wpAnyH_take (i:=4) (v:=undef) rfl (by kernel_rfl) (by kernel_rfl) (by kernel_rfl) (fun _ _ _ h=>h) (Or.inr ⟨by rfl,rfl⟩) (by assumption) ?_)
   simp only [Act.put,List.getElem_toArray,List.getElem_cons_succ,List.getElem_cons_zero,List.setIfInBounds_toArray,List.set_cons_zero,List.set_cons_succ];refine wpAnyH_done (by kernel_rfl) ?_ _;go_wp2_with fail
   refine wp_region_held_drew (S:=(fun W'=>W'.cell? ⟨w.heap.size,0,none⟩=some (.int .i64 s.a)/\W'.cell? ⟨w.heap.size,1,none⟩=some (.int .i64 s.k)/\W'.cell? ⟨w.heap.size+1,0,none⟩=some (.int .i64 (x.1:Int))/\W'.cell? ⟨w.heap.size+1,1,none⟩=some (.int .i64 (x.2:Int))/\W'.cell? ⟨p,3,none⟩=some (.slice (some ⟨g,0,none⟩) f.rows.length cap))) (by kernel_rfl) ?_ (fun hHeld=>?_)
   ·exact HKb.out.drew.cells
   first
    | (refine wpAnyH_take (i:=0) (v:=?_) rfl (by kernel_rfl) (by kernel_rfl) (by kernel_rfl) (fun _ _ _ h=>h) (Or.inl ⟨by rfl,?_⟩) (by assumption) ?_;rotate_left;(intro wx hSx;obtain ⟨q0,q1,q2,q3,q4⟩:=hSx;go_simp;first | done | with_reducible rfl))
    | (refine wpAnyH_take (i:=0) (v:=undef) rfl (by kernel_rfl) (by kernel_rfl) (by kernel_rfl) (fun _ _ _ h=>h) (Or.inr ⟨by rfl,rfl⟩) (by assumption) ?_)
   simp only [Act.put,List.getElem_toArray,List.getElem_cons_zero,List.setIfInBounds_toArray,List.set_cons_zero,List.set_cons_succ]
   first
    | (refine wpAnyH_take (i:=1) (v:=?_) rfl (by kernel_rfl) (by kernel_rfl) (by kernel_rfl) (fun _ _ _ h=>h) (Or.inl ⟨by rfl,?_⟩) (by assumption) ?_;rotate_left;(intro wx hSx;obtain ⟨q0,q1,q2,q3,q4⟩:=hSx;go_simp;first | done | with_reducible rfl))
    | (refine wpAnyH_take (i:=1) (v:=undef) rfl (by kernel_rfl) (by kernel_rfl) (by kernel_rfl) (fun _ _ _ h=>h) (Or.inr ⟨by rfl,rfl⟩) (by assumption) ?_)
   simp only [Act.put,List.getElem_toArray,List.getElem_cons_succ,List.getElem_cons_zero,List.setIfInBounds_toArray,List.set_cons_zero,List.set_cons_succ]
   first
    | (refine wpAnyH_take (i:=3) (v:=?_) rfl (by kernel_rfl) (by kernel_rfl) (by kernel_rfl) (fun _ _ _ h=>h) (Or.inl ⟨by rfl,?_⟩) (by assumption) ?_;rotate_left;(intro wx hSx;obtain ⟨q0,q1,q2,q3,q4⟩:=hSx;go_simp;first | done | with_reducible rfl))
    | (refine wpAnyH_take (i:=3) (v:=undef) rfl (by kernel_rfl) (by kernel_rfl) (by kernel_rfl) (fun _ _ _ h=>h) (Or.inr ⟨by rfl,rfl⟩) (by assumption) ?_)
   simp only [Act.put,List.getElem_toArray,List.getElem_cons_succ,List.getElem_cons_zero,List.setIfInBounds_toArray,List.set_cons_zero,List.set_cons_succ];refine wpAnyH_ready (rs:=[2]) (by kernel_rfl) (by simp) ?_;refine AllReadyH.cons rfl (fun K hK=>?_) AllReadyH.nil;go_simp;go_at_call 183
   refine (CE1 _).mono ?_;rintro e wc ⟨rfl,b⟩;have T:=HKb.out.drew.old b;obtain ⟨c0,c1,c2,c3,c4⟩:=T.cells;have HKc:=Za T;clear b T;go_wp2_with fail
   refine hK.out _ _ ?_ (fun hHeld=>?_)
   ·exact HKc.out.cells
   clear hK K;refine wpAnyH_ready (rs:=[4]) (by kernel_rfl) (by simp) ?_;refine AllReadyH.cons rfl (fun K hK=>?_) AllReadyH.nil;go_simp;go_at_call 183
   refine (CE2 _).mono ?_;rintro e wd ⟨rfl,b⟩;have T:=HKc.out.old b;obtain ⟨c0,c1,c2,c3,c4⟩:=T.cells;have HKd:=Za T;clear b T;go_wp2_with fail
   refine hK.out _ _ ?_ (fun hHeld=>?_)
   ·exact HKd.out.cells
   clear hK K;refine wpAnyH_ready (rs:=[5]) (by kernel_rfl) (by simp) ?_;refine AllReadyH.cons rfl (fun K hK=>?_) AllReadyH.nil;go_simp;go_at_call 122
   refine (CR wd).mono ?_;rintro e we ⟨rfl,b⟩;have T:=HKd.out.old b;obtain ⟨a3,n3,c3',w3,RR,T3⟩:=left_more T hHO.out hp (by simp) (E1.toNat,x.1+x.2 - E1.toNat) HR1.out HR2.out;have HRR:=Za RR;obtain ⟨c0,c1,c2,c3,c4⟩:=T.cells;have HKe:=Za T;have HKf:=Za T3;have HKg:=Za (T.old ((Below.refl _ we).alloc (Nat.le_refl _) (.cells #[.int .i64 E1,.int .i64 D2] 108)));clear b T RR T3;go_wp2_with fail
   refine hK.out _ _ ?_ (fun hHeld=>?_)
   ·exact HKe.out.cells
   clear hK K;refine wpAnyH_ready (rs:=[6]) (by kernel_rfl) (by simp) ?_;refine AllReadyH.cons rfl (fun K hK=>?_) AllReadyH.nil;go_simp;refine hK.out _ _ ?_ (fun hHeld=>?_)
   ·exact HKg.out.cells
   clear hK K;refine wpAnyH_ready (rs:=[7]) (by kernel_rfl) (by simp) ?_;refine AllReadyH.cons rfl (fun K hK=>?_) AllReadyH.nil;refine wp_appends (.tmp 33) (.tmp 39) 208 rfl _ _ _ _ rfl rfl HRR.out ?_;simp only [Act.put,List.getElem_toArray,List.getElem_cons_succ,List.getElem_cons_zero,List.setIfInBounds_toArray,List.set_cons_zero,List.set_cons_succ];refine hK.out _ _ ?_ (fun hHeld=>?_)
   ·exact HKf.out.cells
   clear hK K
   first
    | (refine wpAnyH_take (i:=8) (v:=?_) rfl (by kernel_rfl) (by kernel_rfl) (by kernel_rfl) (fun _ _ _ h=>h) (Or.inl ⟨by rfl,?_⟩) (by assumption) ?_;rotate_left;(intro wx hSx;obtain ⟨q0,q1,q2,q3,q4⟩:=hSx;go_simp;first | done | with_reducible rfl))
    | (refine wpAnyH_take (i:=8) (v:=undef) rfl (by kernel_rfl) (by kernel_rfl) (by kernel_rfl) (fun _ _ _ h=>h) (Or.inr ⟨by rfl,rfl⟩) (by assumption) ?_)
   simp only [Act.put,List.getElem_toArray,List.getElem_cons_succ,List.getElem_cons_zero,List.setIfInBounds_toArray,List.set_cons_zero,List.set_cons_succ];refine wpAnyH_done (by kernel_rfl) ?_ _;obtain ⟨c0,c1,c2,c3,c4⟩:=HKf.out.cells;go_wp2_with fail
   refine (HF.out w3 (.slice a3 n3 c3') ([(E1.toNat,x.1+x.2 - E1.toNat)]) (by rw [HL.out,if_neg (c:=(x.1:Int) < s.a) (by omega),if_pos (c:=E1 < E2) (by omega)];rfl) HKf.out (fun q=>by simp at q)).mono ?_;rintro e W9 ⟨a9,n9,c9,rfl,z1,z2,z3,z4⟩;have HZ3:=Za z3;have HZ4:=Za z4;clear z3 z4;obtain ⟨zv,z1⟩:=Option.isSome_iff_exists.1 z1;go_wp2;go_end0
   exact ⟨rfl,HZ3.out,HZ4.out⟩
  ·have hd1:decide ((x.1:Int) < s.a)=false:=decide_eq_false q1;have hd2:decide (E1 < E2)=false:=decide_eq_false q2;go_enter Tryz.func138,Tryz.ntmps138
   go_wp2_with fail
   generalize (w.alloc (.cells #[.int .i64 s.a,.int .i64 s.k] 108)).alloc (.cells #[.int .i64 (x.1:Int),.int .i64 (x.2:Int)] 108)=W0 at *;obtain ⟨c0,c1,c2,c3,c4⟩:=K0.cells;have HK:=Za K0;clear K0;go_wp2_with fail
   refine wp_region_held_drew (S:=(fun W'=>W'.cell? ⟨w.heap.size,0,none⟩=some (.int .i64 s.a)/\W'.cell? ⟨w.heap.size,1,none⟩=some (.int .i64 s.k)/\W'.cell? ⟨w.heap.size+1,0,none⟩=some (.int .i64 (x.1:Int))/\W'.cell? ⟨w.heap.size+1,1,none⟩=some (.int .i64 (x.2:Int))/\W'.cell? ⟨p,3,none⟩=some (.slice (some ⟨g,0,none⟩) f.rows.length cap))) (by kernel_rfl) ?_ (fun hHeld=>?_)
   ·exact HK.out.drew.cells
   first
    | (refine wpAnyH_take (i:=0) (v:=?_) rfl (by kernel_rfl) (by kernel_rfl) (by kernel_rfl) (fun _ _ _ h=>h) (Or.inl ⟨by rfl,?_⟩) (by assumption) ?_;rotate_left;(intro wx hSx;obtain ⟨q0,q1,q2,q3,q4⟩:=hSx;go_simp;first | done | with_reducible rfl))
    | (refine wpAnyH_take (i:=0) (v:=undef) rfl (by kernel_rfl) (by kernel_rfl) (by kernel_rfl) (fun _ _ _ h=>h) (Or.inr ⟨by rfl,rfl⟩) (by assumption) ?_)
   simp only [Act.put,List.getElem_toArray,List.getElem_cons_zero,List.setIfInBounds_toArray,List.set_cons_zero,List.set_cons_succ]
   first
    | (refine wpAnyH_take (i:=2) (v:=?_) rfl (by kernel_rfl) (by kernel_rfl) (by kernel_rfl) (fun _ _ _ h=>h) (Or.inl ⟨by rfl,?_⟩) (by assumption) ?_;rotate_left;(intro wx hSx;obtain ⟨q0,q1,q2,q3,q4⟩:=hSx;go_simp;first | done | with_reducible rfl))
    | (refine wpAnyH_take (i:=2) (v:=undef) rfl (by kernel_rfl) (by kernel_rfl) (by kernel_rfl) (fun _ _ _ h=>h) (Or.inr ⟨by rfl,rfl⟩) (by assumption) ?_)
   simp only [Act.put,List.getElem_toArray,List.getElem_cons_succ,List.getElem_cons_zero,List.setIfInBounds_toArray,List.set_cons_zero,List.set_cons_succ];refine wpAnyH_ready (rs:=[1]) (by kernel_rfl) (by simp) ?_;refine AllReadyH.cons rfl (fun K hK=>?_) AllReadyH.nil;go_simp;go_at_call 183
   refine (CE1 _).mono ?_;rintro e wa ⟨rfl,b⟩;have T:=HK.out.drew.old b;obtain ⟨c0,c1,c2,c3,c4⟩:=T.cells;have HKa:=Za T;clear b T;go_wp2_with fail
   refine hK.out _ _ ?_ (fun hHeld=>?_)
   ·exact HKa.out.cells
   clear hK K;refine wpAnyH_ready (rs:=[3]) (by kernel_rfl) (by simp) ?_;refine AllReadyH.cons rfl (fun K hK=>?_) AllReadyH.nil;go_simp;go_at_call 183
   refine (CE2 _).mono ?_;rintro e wb ⟨rfl,b⟩;have T:=HKa.out.old b;obtain ⟨c0,c1,c2,c3,c4⟩:=T.cells;have HKb:=Za T;clear b T;go_wp2_with fail
   refine hK.out _ _ ?_ (fun hHeld=>?_)
   ·exact HKb.out.cells
   clear hK K
   first
    | (refine wpAnyH_take (i:=4) (v:=?_) rfl (by kernel_rfl) (by kernel_rfl) (by kernel_rfl) (fun _ _ _ h=>h) (Or.inl ⟨by rfl,?_⟩) (by assumption) ?_;rotate_left;(intro wx hSx;obtain ⟨q0,q1,q2,q3,q4⟩:=hSx;go_simp;first | done | with_reducible rfl))
    | (refine wpAnyH_take (i:=4) (v:=undef) rfl (by kernel_rfl) (by kernel_rfl) (by kernel_rfl) (fun _ _ _ h=>h) (Or.inr ⟨by rfl,rfl⟩) (by assumption) ?_)
   simp only [Act.put,List.getElem_toArray,List.getElem_cons_succ,List.getElem_cons_zero,List.setIfInBounds_toArray,List.set_cons_zero,List.set_cons_succ];refine wpAnyH_done (by kernel_rfl) ?_ _;go_wp2_with fail
   obtain ⟨c0,c1,c2,c3,c4⟩:=HKb.out.cells;go_wp2_with fail
   refine (HF.out wb (.slice none 0 0) ([]) (by rw [HL.out,if_neg (c:=(x.1:Int) < s.a) (by omega),if_neg (c:=E1 < E2) (by omega)];rfl) HKb.out (fun _=>rfl)).mono ?_;rintro e W9 ⟨a9,n9,c9,rfl,z1,z2,z3,z4⟩;have HZ3:=Za z3;have HZ4:=Za z4;clear z3 z4;obtain ⟨zv,z1⟩:=Option.isSome_iff_exists.1 z1;go_wp2;go_end0
   exact ⟨rfl,HZ3.out,HZ4.out⟩
end Go.Proofs.YtdhebpnkfookcaaGreat
