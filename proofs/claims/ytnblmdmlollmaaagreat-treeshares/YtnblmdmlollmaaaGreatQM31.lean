import Derived.Test.YtnblmdmlollmaaaGreatQM21
import Derived.Test.YtnblmdmlollmaaaGreatQM30
namespace Go.Proofs.YtnblmdmlollmaaaGreat
set_option maxRecDepth 100000
set_option maxHeartbeats 4000000
open Go.RowKit Apo
theorem RdEn.off {F:Nat → Prop} {w w':World} {a:Option Addr} {l:List En} (h:RdEn w a l) (o:Onl F w w') (hF:∀ y,a = some y → 0 < l.length → ¬ F y.block):RdEn w' a l:=by
 intro i e hi
 obtain ⟨g,of,h1,h2,h3⟩:=h i e hi
 have hl:0 < l.length:=Nat.lt_of_le_of_lt (Nat.zero_le _) (List.getElem?_eq_some_iff.1 hi).1
 have hb:=o.block g (World.block_lt_of_cell? _ _ h2) (hF _ h1 hl)
 exact ⟨g,of,h1,(World.cell?_of_block (a:=⟨g,of + i * 2,none⟩) hb).trans h2,(World.cell?_of_block (a:=⟨g,of + i * 2 + 1,none⟩) hb).trans h3⟩
theorem RdKi.off {F:Nat → Prop} {w w':World} {a:Option Addr} {l:List Ki} (h:RdKi w a l) (o:Onl F w w') (hF:∀ y,a = some y → 0 < l.length → ¬ F y.block):RdKi w' a l:=by
 intro i e hi
 obtain ⟨g,of,h1,h2,h3⟩:=h i e hi
 have hl:0 < l.length:=Nat.lt_of_le_of_lt (Nat.zero_le _) (List.getElem?_eq_some_iff.1 hi).1
 have hb:=o.block g (World.block_lt_of_cell? _ _ h2) (hF _ h1 hl)
 exact ⟨g,of,h1,(World.cell?_of_block (a:=⟨g,of + i * 2,none⟩) hb).trans h2,(World.cell?_of_block (a:=⟨g,of + i * 2 + 1,none⟩) hb).trans h3⟩
def OffN (F:Nat → Prop) (x:NdA):Prop:=(∀ y,x.ea = some y → 0 < x.n.es.length → ¬ F y.block) ∧ (∀ y,x.ka = some y → 0 < x.n.ks.length → ¬ F y.block)
theorem OkN.off {F:Nat → Prop} {w w':World} {x:NdA} (h:OkN w x) (o:Onl F w w') (hF:OffN F x):OkN w' x:={ h with es:=RdEn.off h.es o hF.1,ks:=RdKi.off h.ks o hF.2 }
theorem CSx.mono {O O':Nat → Prop} {w:World} {s d:Nat} {S:Cs} (h:CSx O w s d S) (hO:∀ i,i < w.heap.size → O i → O' i):CSx O' w s d S:=by
 obtain ⟨L,pg,bc,bs,bg,sa,sc,sm,h1,h2,h3⟩:=h
 exact ⟨L,pg,bc,bs,bg,sa,sc,sm,h1,h2,fun i q => hO i (h1.lt i q) (h3 i q)⟩
theorem TSw.mono {w W:World} {s m:Nat} {O O':Nat → Prop} {T:List (List Int)} (h:TSw w W s O T m) (hO:∀ i,i < W.heap.size → O i → O' i) (lo:∀ i,O' i → w.heap.size ≤ i) (hi:∀ i,O' i → i < W.heap.size):TSw w W s O' T m:=by
 obtain ⟨d,S,h1,h2⟩:=h
 exact ⟨d,S,⟨h1.c.mono hO,lo,hi,h1.bel⟩,h2⟩
theorem TSw.grow {w A B C D:World} {s m:Nat} {O:Nat → Prop} {T:List (List Int)} (h:TSw w D s (Gro O B C) T m) (hAB:A.heap.size ≤ B.heap.size) (hw:∀ i,O i → w.heap.size ≤ i) (hA:∀ i,O i → i < A.heap.size) (hwA:w.heap.size ≤ A.heap.size) (hAD:A.heap.size ≤ D.heap.size):TSw w D s (Gro O A D) T m :=
 h.mono (fun i _ q => q.elim Or.inl (fun z => Or.inr (by omega))) (Gro.base hw hwA) (Gro.lt hA hAD)
theorem fin_nod {W:World} {g:Nat} {c0 c1:Value} {er:Int} {tmps:Array Value} {Q:Ending → World → Prop} (k:Ob W g 53 [c0,c1]) (h4:tmps.getD 4 undef = .pointer (some ⟨g,0,none⟩)) (h5:tmps.getD 5 undef = .int .i64 er) (hq:Q (.returned (.tuple #[.agg #[c0,c1],.int .i64 er])) W) :
  bodyPost Tryz.prog Tryz.f139 Q Exit.ret { tmps:=tmps,defers:=[] } W:=by
 have hl:=run_loadVar_row (P:=Tryz.prog) W g 53 53 #[c0,c1] (0,0) _ k Tryz.underlying53 rfl (by rw [size_Ki]; rfl)
 have h4':tmps[4]?.getD undef = .pointer (some ⟨g,0,none⟩):=by simpa using h4
 have h5':tmps[5]?.getD undef = .int .i64 er:=by simpa using h5
 refine bodyPost_ret (v:=.tuple #[.agg #[c0,c1],.int .i64 er]) ?_ rfl hq
 simp [results,Tryz.results139,asAddr,h4',h5',hl]
def bldV (s:Nat) (hv:Value):Array Value:=#[.func (.func 46) #[.pointer (some ⟨s,0,none⟩)] #[],hv]
def TNode (w W:World) (s:Nat) (O:Nat → Prop) (T:List (List Int)) (m:Nat) (n:Nd) (e:Ending) (W':World):Prop :=
 ∃ id:Nat,e = .returned (.tuple #[.agg #[.string (lastK n),.int .u64 id],.int .i64 0]) ∧ (putT T (ndB n))[id - 1]? = some (ndB n) ∧ 1 ≤ id ∧ id ≤ T.length + 1 ∧ TSw w W' s (Gro O W W') (putT T (ndB n)) (m + needP (ndB n).length) ∧ Onl O W W'
theorem tnode_any {w W:World} {s m:Nat} {O:Nat → Prop} {T:List (List Int)} (h:TSw w W s O T m) (hT:T.length ≤ 16000) (hmp:Option Nat) (x:NdA) (hx:OkN W x) (hoff:OffN O x) (he:x.n.es.length ≤ 1000000) (hk:x.n.ks.length ≤ 1000000) (hp:nodeE x.n = 0) (hln:(ndB x.n).length ≤ 131072) (hm:m + needP (ndB x.n).length ≤ 4096) (hby:InB (ndB x.n)) :
  Calls Tryz.prog 139 #[.agg (bldV s (.map hmp)),.agg x.cells.toArray] W (TNode w W s O T m x.n):=by
 have hpe:putE x.n = (ndB x.n,0):=by unfold putE; rw [if_neg (by omega),if_neg (by omega)]
 obtain ⟨⟨lv,es,ks⟩,ea,ec,ka,kc⟩:=x
 simp only [NdA.cells,bldV] at hx he hk hoff hpe hp hln hm hby ⊢
 obtain ⟨x,hxd⟩:∃ x:NdA,x = ⟨⟨lv,es,ks⟩,ea,ec,ka,kc⟩:=⟨_,rfl⟩
 obtain ⟨B,hB⟩:∃ B,B = ndB ⟨lv,es,ks⟩:=⟨_,rfl⟩
 have hxn:x.n = ⟨lv,es,ks⟩:=by rw [hxd]
 obtain ⟨ne,hne⟩:∃ ne,ne = es.length:=⟨_,rfl⟩
 obtain ⟨nk,hnk⟩:∃ nk,nk = ks.length:=⟨_,rfl⟩
 have hcs:x.cells.toArray = #[.int .i64 lv,.slice ea ne ec,.slice ka nk kc]:=by rw [hxd,hne,hnk]; rfl
 rw [← hxd] at hx hoff
 rw [← hne,← hnk]
 obtain ⟨W1,hW1⟩:∃ W1,W1 = W.alloc (.cells #[.func (.func 46) #[.pointer (some ⟨s,0,none⟩)] #[],.map hmp] 92):=⟨_,rfl⟩
 obtain ⟨W2,hW2⟩:∃ W2,W2 = W1.alloc (.cells #[.int .i64 lv,.slice ea ne ec,.slice ka nk kc] 55):=⟨_,rfl⟩
 obtain ⟨W3,hW3⟩:∃ W3,W3 = W2.alloc (.cells #[.string ⟨#[]⟩,.int .u64 0] 53):=⟨_,rfl⟩
 have s1:W1.heap.size = W.heap.size + 1:=by rw [hW1]; simp
 have s2:W2.heap.size = W.heap.size + 2:=by rw [hW2]; simp [s1]
 have s3:W3.heap.size = W.heap.size + 3:=by rw [hW3]; simp [s2]
 have kb1:Ob W1 W.heap.size 92 [.func (.func 46) #[.pointer (some ⟨s,0,none⟩)] #[],.map hmp]:=by rw [hW1]; exact Ob.new W [.func (.func 46) #[.pointer (some ⟨s,0,none⟩)] #[],.map hmp] 92
 have kn2:Ob W2 (W.heap.size + 1) 55 [.int .i64 lv,.slice ea ne ec,.slice ka nk kc]:=by rw [hW2,← s1]; exact Ob.new W1 [.int .i64 lv,.slice ea ne ec,.slice ka nk kc] 55
 have kk3:Ob W3 (W.heap.size + 2) 53 [.string ⟨#[]⟩,.int .u64 0]:=by rw [hW3,← s2]; exact Ob.new W2 [.string ⟨#[]⟩,.int .u64 0] 53
 have b1:Below W.heap.size W W1:=by rw [hW1]; exact (Below.refl _ W).alloc (Nat.le_refl _) _
 have b2:Below W.heap.size W W2:=by rw [hW2]; exact b1.alloc (by omega) _
 have b3:Below W.heap.size W W3:=by rw [hW3]; exact b2.alloc (by omega) _
 have b23:Below W2.heap.size W2 W3:=by rw [hW3]; exact (Below.refl _ W2).alloc (Nat.le_refl _) _
 have b12:Below W1.heap.size W1 W2:=by rw [hW2]; exact (Below.refl _ W1).alloc (Nat.le_refl _) _
 have kn3:=kn2.old b23
 have kb3:=(kb1.old b12).old b23
 have hlo:=h.lo
 have hhi:=h.hi
 have hbw:=h.bel.size
 have C1:=put_node W3 x (hx.below b3) (by rw [hxn]; exact he) (by rw [hxn]; exact hk)
 rw [hcs] at C1
 have HC1:=hide C1
 have HX:=hide (hx.below b3)
 have HOFF:=hide hoff
 have HH:=hide (h.below b3)
 have HB3:=hide b3
 have HKB:=hide kb3
 have HKN:=hide kn3
 have HKK:=hide kk3
 have HPE:=hide hpe
 have HXN:=hide hxn
 have HCS:=hide hcs
 have HLO:=hide hlo
 have HHI:=hide hhi
 have HBB:=hide hB
 have HE:=hide he
 have HKL:=hide hk
 have HBY:=hide hby
 clear C1 hx hoff h b1 b2 b3 b23 b12 kb1 kn2 kk3 kn3 kb3 hpe hxn hcs hlo hhi hxd hne hnk hB hp he hk hby
 go_enter Tryz.func139,Tryz.ntmps139
 go_wp2_with fail
 rw [← hW1,← hW2,← hW3]
 clear hW1 hW2 hW3
 refine HC1.out.mono ?_
 rintro e w4 ⟨v4,rfl,r4,b4⟩
 rw [HXN.out,HPE.out] at r4 ⊢
 simp only at r4 ⊢
 rw [← HBB.out] at r4 hln hm
 obtain ⟨va,vc,hva,hvl,hvn⟩:=own_form r4
 have hvb:∀ y,va = some y → 0 < B.length → W3.heap.size ≤ y.block:=fun y hy hp => by
  obtain ⟨g,cap,e1,e2,_⟩:=own_shape r4 hp
  rw [hva] at e1
  injection e1 with e1 _ _
  rw [hy] at e1
  cases e1
  exact e2
 subst hva
 obtain ⟨rd4,_,_⟩:=Rd.own r4
 have s4:=b4.size
 have C2:=tput_any (HH.out.below b4) hT va vc B rd4 hvn hvl hln (by rw [HBB.out]; exact HBY.out) (fun y hy hp q => by have:=HHI.out _ q; have:=hvb y hy hp; omega) hm
 have kb4:=HKB.out.old b4
 have z0:=kb4.cell 0
 simp only [List.getElem?_cons_zero] at z0
 obtain ⟨nb,hnb⟩:∃ nb,nb = B.length:=⟨_,rfl⟩
 rw [← hnb] at C2 hln hm ⊢
 have HC2:=hide C2
 have HB4:=hide b4
 have HNB:=hide hnb
 clear C2 b4 r4 rd4 hvb kb4 hnb hvl hvn HC1
 go_wp2_with fail
 refine HC2.out.mono ?_
 rintro e w5 ⟨id,rfl,p1,p2,p3,t5,o5⟩
 have s5:=o5.size
 have kn5:=(HKN.out.old HB4.out).onl o5 (fun q => by have:=HHI.out _ q; omega)
 have kk5:=(HKK.out.old HB4.out).onl o5 (fun q => by have:=HHI.out _ q; omega)
 have x5:=OkN.off (HX.out.below HB4.out) o5 HOFF.out
 have C3:=last_any w5 x x5 (by rw [HXN.out]; exact HE.out) (by rw [HXN.out]; exact HKL.out)
 rw [HCS.out,HXN.out] at C3
 have y0:=kn5.cell 0
 have y1:=kn5.cell 1
 have y2:=kn5.cell 2
 simp only [List.getElem?_cons_zero,List.getElem?_cons_succ] at y0 y1 y2
 obtain ⟨LK,hLK⟩:∃ LK,LK = lastK ⟨lv,es,ks⟩:=⟨_,rfl⟩
 rw [← hLK] at C3
 have HLK:=hide hLK
 have HC3:=hide C3
 have HT5:=hide t5
 have HO5:=hide o5
 have HP:=hide (And.intro p1 (And.intro p2 p3))
 have HKK5:=hide kk5
 clear C3 t5 o5 kn5 kk5 x5 p1 p2 p3 z0 HC2 hLK
 go_wp2_with fail
 refine HC3.out.mono ?_
 rintro e w6 ⟨rfl,b6⟩
 have kk6:=HKK5.out.old b6
 have u0:=kk6.cell 0
 have u1:=kk6.cell 1
 have f0:=kk6.frozen 0
 have f1:=kk6.frozen 1
 simp only [List.getElem?_cons_zero,List.getElem?_cons_succ] at u0 u1
 have s6:=b6.size
 have HF:Hid (TNode w W s O T m ⟨lv,es,ks⟩ (.returned (.tuple #[.agg #[.string LK,.int .u64 id],.int .i64 0])) ((w6.setCell ⟨W.heap.size + 2,0,none⟩ (.string LK)).setCell ⟨W.heap.size + 2,1,none⟩ (.int .u64 id))):=by
  refine hide ?_
  obtain ⟨p1,p2,p3⟩:=HP.out
  have o7:Onl (fun i => i = W.heap.size + 2) w6 ((w6.setCell ⟨W.heap.size + 2,0,none⟩ (.string LK)).setCell ⟨W.heap.size + 2,1,none⟩ (.int .u64 id)):=((Onl.refl (fun i => i = W.heap.size + 2) w6).set (p:=W.heap.size + 2) (.inl rfl) _).set (p:=W.heap.size + 2) (.inl rfl) _
  have s7:((w6.setCell ⟨W.heap.size + 2,0,none⟩ (.string LK)).setCell ⟨W.heap.size + 2,1,none⟩ (.int .u64 id)).heap.size = w6.heap.size:=by simp [World.setCell]
  have g1:=(HT5.out.below b6).onl o7 (fun i q z => by subst z; rcases q with q | q; (· have:=HHI.out _ q; omega); (· have:=q.1; omega)) (fun i z => by omega)
  have hb4:=HB4.out.size
  refine ⟨id,by rw [HLK.out],by rw [← HBB.out]; exact p1,p2,p3,?_,?_⟩
  ·rw [← HBB.out]
   exact g1.grow (A:=W) (by omega) HLO.out HHI.out hbw (by omega)
  ·exact (((Onl.ofBelow (HB3.out.trans (HB4.out.mono (by omega)))).trans HO5.out).trans (Onl.ofBelow b6)).more o7 (fun i z => .inr (by omega))
 have kk7:Ob ((w6.setCell ⟨W.heap.size + 2,0,none⟩ (.string LK)).setCell ⟨W.heap.size + 2,1,none⟩ (.int .u64 id)) (W.heap.size + 2) 53 [.string LK,.int .u64 id]:=(kk6.set 0 _).set 1 _
 have HK7:=hide kk7
 clear kk6 kk7 y0 y1 y2
 go_wp2
 exact fin_nod HK7.out rfl rfl HF.out
end Go.Proofs.YtnblmdmlollmaaaGreat
namespace Go.Proofs.YtnblmdmlollmaaaGreat
set_option maxRecDepth 100000
set_option maxHeartbeats 4000000
open Go.RowKit Apo
theorem fin_lea {W:World} {g:Nat} {c0 c1:Value} {er:Int} {tmps:Array Value} {Q:Ending → World → Prop} (k:Ob W g 53 [c0,c1]) (h4:tmps.getD 4 undef = .pointer (some ⟨g,0,none⟩)) (h5:tmps.getD 5 undef = .int .i64 er) (hq:Q (.returned (.tuple #[.agg #[c0,c1],.int .i64 er])) W) :
  bodyPost Tryz.prog Tryz.f137 Q Exit.ret { tmps:=tmps,defers:=[] } W:=by
 have hl:=run_loadVar_row (P:=Tryz.prog) W g 53 53 #[c0,c1] (0,0) _ k Tryz.underlying53 rfl (by rw [size_Ki]; rfl)
 have h4':tmps[4]?.getD undef = .pointer (some ⟨g,0,none⟩):=by simpa using h4
 have h5':tmps[5]?.getD undef = .int .i64 er:=by simpa using h5
 refine bodyPost_ret (v:=.tuple #[.agg #[c0,c1],.int .i64 er]) ?_ rfl hq
 simp [results,Tryz.results137,asAddr,h4',h5',hl]
theorem look_none (W:World) (k:ByteArray):(Instr.lookup 90 (.map none) (.string k) true).run Tryz.prog W = .ok (.tuple #[.agg #[.int .u64 0,.slice none 0 0],.bool false]) W:=by
 kernel_rfl
def lfN (ea:Option Addr) (ec:Nat) (es:List En):NdA:=⟨⟨0,es,[]⟩,ea,ec,none,0⟩
theorem tleaf_any {w W:World} {s m:Nat} {O:Nat → Prop} {T:List (List Int)} (h:TSw w W s O T m) (hT:T.length ≤ 16000) (ea:Option Addr) (ec:Nat) (es:List En) (hx:OkN W (lfN ea ec es)) (hoff:OffN O (lfN ea ec es)) (he:es.length ≤ 1000000) (hp:nodeE ⟨0,es,[]⟩ = 0) (hln:(ndB ⟨0,es,[]⟩).length ≤ 131072) (hm:m + needP (ndB ⟨0,es,[]⟩).length ≤ 4096) (hby:InB (ndB ⟨0,es,[]⟩)) :
  Calls Tryz.prog 137 #[.agg (bldV s (.map none)),.slice ea es.length ec] W (TNode w W s O T m ⟨0,es,[]⟩):=by
 obtain ⟨x,hxd⟩:∃ x:NdA,x = lfN ea ec es:=⟨_,rfl⟩
 have hxn:x.n = ⟨0,es,[]⟩:=by rw [hxd]; rfl
 obtain ⟨ne,hne⟩:∃ ne,ne = es.length:=⟨_,rfl⟩
 have hcs:x.cells.toArray = #[.int .i64 0,.slice ea ne ec,.slice none 0 0]:=by rw [hxd,hne]; rfl
 rw [← hxd] at hx hoff
 rw [← hne]
 simp only [bldV]
 obtain ⟨W1,hW1⟩:∃ W1,W1 = W.alloc (.cells #[.func (.func 46) #[.pointer (some ⟨s,0,none⟩)] #[],.map none] 92):=⟨_,rfl⟩
 obtain ⟨W2,hW2⟩:∃ W2,W2 = W1.alloc (.cells #[.string ⟨#[]⟩,.int .u64 0] 53):=⟨_,rfl⟩
 obtain ⟨W3,hW3⟩:∃ W3,W3 = W2.alloc (.cells #[.int .i64 0,.slice ea ne ec,.slice none 0 0] 55):=⟨_,rfl⟩
 have s1:W1.heap.size = W.heap.size + 1:=by rw [hW1]; simp
 have s2:W2.heap.size = W.heap.size + 2:=by rw [hW2]; simp [s1]
 have s3:W3.heap.size = W.heap.size + 3:=by rw [hW3]; simp [s2]
 have kb1:Ob W1 W.heap.size 92 [.func (.func 46) #[.pointer (some ⟨s,0,none⟩)] #[],.map none]:=by rw [hW1]; exact Ob.new W [.func (.func 46) #[.pointer (some ⟨s,0,none⟩)] #[],.map none] 92
 have kk2:Ob W2 (W.heap.size + 1) 53 [.string ⟨#[]⟩,.int .u64 0]:=by rw [hW2,← s1]; exact Ob.new W1 [.string ⟨#[]⟩,.int .u64 0] 53
 have kn3:Ob W3 (W.heap.size + 2) 55 [.int .i64 0,.slice ea ne ec,.slice none 0 0]:=by rw [hW3,← s2]; exact Ob.new W2 [.int .i64 0,.slice ea ne ec,.slice none 0 0] 55
 have b1:Below W.heap.size W W1:=by rw [hW1]; exact (Below.refl _ W).alloc (Nat.le_refl _) _
 have b2:Below W.heap.size W W2:=by rw [hW2]; exact b1.alloc (by omega) _
 have b3:Below W.heap.size W W3:=by rw [hW3]; exact b2.alloc (by omega) _
 have b23:Below W2.heap.size W2 W3:=by rw [hW3]; exact (Below.refl _ W2).alloc (Nat.le_refl _) _
 have b12:Below W1.heap.size W1 W2:=by rw [hW2]; exact (Below.refl _ W1).alloc (Nat.le_refl _) _
 have kk3:=kk2.old b23
 have kb3:=(kb1.old b12).old b23
 have hlo:=h.lo
 have hhi:=h.hi
 have hbw:=h.bel.size
 have C1:∀ W',Below W3.heap.size W3 W' → Calls Tryz.prog 25 #[.agg #[.int .i64 0,.slice ea ne ec,.slice none 0 0]] W' fun e w' => e = .returned (.string (lastK x.n)) ∧ Below W'.heap.size W' w':=fun W' b => by
  have:=last_any W' x (hx.below (b3.trans (b.mono (by omega)))) (by rw [hxn]; exact he) (by rw [hxn]; simp)
  rw [hcs] at this
  exact this
 have y0:=kn3.cell 0
 have y1:=kn3.cell 1
 have y2:=kn3.cell 2
 have z0:=kb3.cell 0
 have z1:=kb3.cell 1
 simp only [List.getElem?_cons_zero,List.getElem?_cons_succ] at y0 y1 y2 z0 z1
 have HC1:=hide C1
 have HX:=hide hx
 have HOFF:=hide hoff
 have HH:=hide h
 have HB3:=hide b3
 have HKB:=hide kb3
 have HKN:=hide kn3
 have HKK:=hide kk3
 have HXN:=hide hxn
 have HCS:=hide hcs
 have HLO:=hide hlo
 have HHI:=hide hhi
 have HPP:=hide (And.intro hp (And.intro hln (And.intro hm hby)))
 have HE:=hide he
 clear C1 hx hoff h b1 b2 b3 b23 b12 kb1 kk2 kk3 kn3 kb3 hxn hcs hlo hhi hxd hne hp he hln hm hby
 have hlk:=look_none
 have ba:Below W3.heap.size W3 W3.drew:=(Below.refl _ W3).drew
 have bb:Below W3.heap.size W3 (W3.alloc (.cells #[.int .u64 0,.slice none 0 0] 100)).drew:=((Below.refl _ W3).alloc (Nat.le_refl _) _).drew
 have kl:Ob (W3.alloc (.cells #[.int .u64 0,.slice none 0 0] 100)).drew (W.heap.size + 3) 100 [.int .u64 0,.slice none 0 0]:=by rw [← s3]; exact Ob.new W3 [.int .u64 0,.slice none 0 0] 100
 have HBA:=hide ba
 have HBB:=hide bb
 have HKL:=hide kl
 clear ba bb kl
 go_enter Tryz.func137,Tryz.ntmps137
 go_wp2_with fail
 rw [← hW1,← hW2,← hW3]
 clear hW1 hW2 hW3
 go_region_held3 (fun W' => W'.cell? ⟨W.heap.size,1,none⟩ = some (.map none) ∧ W'.cell? ⟨W.heap.size + 2,0,none⟩ = some (.int .i64 0) ∧ W'.cell? ⟨W.heap.size + 2,1,none⟩ = some (.slice ea ne ec) ∧ W'.cell? ⟨W.heap.size + 2,2,none⟩ = some (.slice none 0 0)) (go_keep) (first
  | (go_at_call 25; (with_reducible refine (HC1.out _ HBA.out).mono ?_); rintro e w4 ⟨rfl,b4⟩; have v1:=(b4.cell (p:=⟨W.heap.size,1,none⟩) HKB.out.lt).trans z1; have v2:=(b4.cell (p:=⟨W.heap.size + 2,0,none⟩) HKN.out.lt).trans y0; have v3:=(b4.cell (p:=⟨W.heap.size + 2,1,none⟩) HKN.out.lt).trans y1; have v4:=(b4.cell (p:=⟨W.heap.size + 2,2,none⟩) HKN.out.lt).trans y2; have hq:=hlk w4 (lastK x.n); have HB4:=hide (HBA.out.trans b4); clear b4)
  | (go_at_call 25; (with_reducible refine (HC1.out _ HBB.out).mono ?_); rintro e w4 ⟨rfl,b4⟩; have k4:=HKL.out.old b4; have l0:=k4.cell 0; have l1:=k4.cell 1; have g0:=k4.frozen 0; have g1:=k4.frozen 1; simp only [List.getElem?_cons_zero,List.getElem?_cons_succ] at l0 l1; have hB5:=HBB.out.trans (b4.mono (by have:=HBB.out.size; omega)); have v1:=(hB5.cell (p:=⟨W.heap.size,1,none⟩) HKB.out.lt).trans z1; have v2:=(hB5.cell (p:=⟨W.heap.size + 2,0,none⟩) HKN.out.lt).trans y0; have v3:=(hB5.cell (p:=⟨W.heap.size + 2,1,none⟩) HKN.out.lt).trans y1; have v4:=(hB5.cell (p:=⟨W.heap.size + 2,2,none⟩) HKN.out.lt).trans y2; have hq:=hlk w4 (lastK x.n); have HB4:=hide hB5; have HK4:=hide k4; clear b4 hB5 k4))
 all_goals
  first
   | (have hE:Below W3.heap.size W3 ((w4.setCell ⟨W.heap.size + 3,0,none⟩ (.int .u64 0)).setCell ⟨W.heap.size + 3,1,none⟩ (.slice none 0 0)):=(HB4.out.setCell (p:=⟨W.heap.size + 3,0,none⟩) (by have:=HK4.out; show W3.heap.size ≤ W.heap.size + 3; omega) _).setCell (p:=⟨W.heap.size + 3,1,none⟩) (by show W3.heap.size ≤ W.heap.size + 3; omega) _
      clear l0 l1 g0 g1 HK4
      generalize (w4.setCell ⟨W.heap.size + 3,0,none⟩ (.int .u64 0)).setCell ⟨W.heap.size + 3,1,none⟩ (.slice none 0 0) = WE at *)
   | (have hE:Below W3.heap.size W3 (w4.alloc (.cells #[.int .u64 0,.slice none 0 0] 100)):=HB4.out.alloc HB4.out.size _
      generalize w4.alloc (.cells #[.int .u64 0,.slice none 0 0] 100) = WE at *)
  have sE:=hE.size
  have kbE:=HKB.out.old hE
  have knE:=HKN.out.old hE
  have kkE:=HKK.out.old hE
  have bE:Below W.heap.size W WE:=HB3.out.trans (hE.mono (by omega))
  have e0:=kbE.cell 0
  have e1:=kbE.cell 1
  have e2:=knE.cell 0
  have e3:=knE.cell 1
  have e4:=knE.cell 2
  simp only [List.getElem?_cons_zero,List.getElem?_cons_succ] at e0 e1 e2 e3 e4
  have C5:=tnode_any (HH.out.below bE) hT none x (HX.out.below bE) HOFF.out (by rw [HXN.out]; exact HE.out) (by rw [HXN.out]; simp) (by rw [HXN.out]; exact HPP.out.1) (by rw [HXN.out]; exact HPP.out.2.1) (by rw [HXN.out]; exact HPP.out.2.2.1) (by rw [HXN.out]; exact HPP.out.2.2.2)
  rw [HCS.out,HXN.out] at C5
  simp only [bldV] at C5
  have HC5:=hide C5
  have HKE:=hide kkE
  have HBE:=hide bE
  clear C5 kkE knE kbE bE hE HB4 v1 v2 v3 v4 hq y0 y1 y2 z0 z1 HC1
  go_wp2_with fail
  refine HC5.out.mono ?_
  rintro e w6 ⟨id,rfl,p1,p2,p3,t6,o6⟩
  have s6:=o6.size
  have kk6:=HKE.out.onl o6 (fun q => by have:=HHI.out _ q; omega)
  have u0:=kk6.cell 0
  have u1:=kk6.cell 1
  have f0:=kk6.frozen 0
  have f1:=kk6.frozen 1
  simp only [List.getElem?_cons_zero,List.getElem?_cons_succ] at u0 u1
  obtain ⟨LK,hLK⟩:∃ LK,LK = lastK ⟨0,es,[]⟩:=⟨_,rfl⟩
  rw [← hLK]
  have HF:Hid (TNode w W s O T m ⟨0,es,[]⟩ (.returned (.tuple #[.agg #[.string LK,.int .u64 id],.int .i64 0])) ((w6.setCell ⟨W.heap.size + 1,0,none⟩ (.string LK)).setCell ⟨W.heap.size + 1,1,none⟩ (.int .u64 id))):=by
   refine hide ?_
   have o7:Onl (fun i => i = W.heap.size + 1) w6 ((w6.setCell ⟨W.heap.size + 1,0,none⟩ (.string LK)).setCell ⟨W.heap.size + 1,1,none⟩ (.int .u64 id)):=((Onl.refl (fun i => i = W.heap.size + 1) w6).set (p:=W.heap.size + 1) (.inl rfl) _).set (p:=W.heap.size + 1) (.inl rfl) _
   have s7:((w6.setCell ⟨W.heap.size + 1,0,none⟩ (.string LK)).setCell ⟨W.heap.size + 1,1,none⟩ (.int .u64 id)).heap.size = w6.heap.size:=by simp [World.setCell]
   have g1:=t6.onl o7 (fun i q z => by subst z; rcases q with q | q; (· have:=HHI.out _ q; omega); (· have:=q.1; omega)) (fun i z => by omega)
   refine ⟨id,by rw [hLK],p1,p2,p3,g1.grow (A:=W) (by omega) HLO.out HHI.out hbw (by omega),?_⟩
   exact ((Onl.ofBelow HBE.out).trans o6).more o7 (fun i z => .inr (by omega))
  have kk7:Ob ((w6.setCell ⟨W.heap.size + 1,0,none⟩ (.string LK)).setCell ⟨W.heap.size + 1,1,none⟩ (.int .u64 id)) (W.heap.size + 1) 53 [.string LK,.int .u64 id]:=(kk6.set 0 _).set 1 _
  have HK7:=hide kk7
  clear kk6 kk7 e0 e1 e2 e3 e4 p1 p2 p3 t6 o6 hLK
  go_wp2
  exact fin_lea HK7.out rfl rfl HF.out
end Go.Proofs.YtnblmdmlollmaaaGreat
namespace Go.Proofs.YtnblmdmlollmaaaGreat
set_option maxRecDepth 100000
set_option maxHeartbeats 4000000
open Go.RowKit Apo
def putNs (T:List (List Int)) (ns:List Nd):List (List Int):=ns.foldl (fun T n => putT T (ndB n)) T
theorem putNs_snoc (T:List (List Int)) (ns:List Nd) (n:Nd):putNs T (ns ++ [n]) = putT (putNs T ns) (ndB n):=by simp [putNs]
def pagesN (ns:List Nd):Nat:=(ns.map (fun n => needP (ndB n).length)).sum
theorem pagesN_append (ns ms:List Nd):pagesN (ns ++ ms) = pagesN ns + pagesN ms:=by simp [pagesN]
theorem pagesN_take (ns:List Nd) (k:Nat):pagesN (ns.take k) ≤ pagesN ns:=by
 have:=pagesN_append (ns.take k) (ns.drop k)
 rw [List.take_append_drop] at this
 omega
theorem putNs_keeps {T:List (List Int)} {i:Nat} {t:List Int} (h:T[i]? = some t):∀ ns:List Nd,(putNs T ns)[i]? = some t:=by
 intro ns
 induction ns generalizing T with
 | nil => exact h
 | cons n ns ih => exact ih (putT_keeps h)
theorem putNs_len (T:List (List Int)) (ns:List Nd):(putNs T ns).length ≤ T.length + ns.length:=by
 induction ns generalizing T with
 | nil => simp [putNs]
 | cons n ns ih =>
  have h1:=ih (T:=putT T (ndB n))
  have h2:=putT_len T (ndB n)
  have h3:putNs T (n :: ns) = putNs (putT T (ndB n)) ns:=rfl
  rw [h3]
  simp only [List.length_cons]
  omega
def Kids (T:List (List Int)) (ns:List Nd) (ks:List Ki):Prop:=ks.length = ns.length ∧ ∀ (i:Nat) (n:Nd) (k:Ki),ns[i]? = some n → ks[i]? = some k → k.k = lastK n ∧ T[k.i - 1]? = some (ndB n) ∧ 1 ≤ k.i
theorem Kids.nil (T:List (List Int)):Kids T [] []:=⟨rfl,fun i n k h => by simp at h⟩
theorem Kids.snoc {T:List (List Int)} {ns:List Nd} {ks:List Ki} {n:Nd} {k:Ki} (h:Kids T ns ks) (h1:k.k = lastK n) (h2:(putT T (ndB n))[k.i - 1]? = some (ndB n)) (h3:1 ≤ k.i):Kids (putT T (ndB n)) (ns ++ [n]) (ks ++ [k]):=by
 refine ⟨by simp [h.1],fun i n' k' hn hk => ?_⟩
 by_cases q:i < ns.length
 ·rw [List.getElem?_append_left q] at hn
  rw [List.getElem?_append_left (by rw [h.1]; exact q)] at hk
  obtain ⟨a,b,c⟩:=h.2 i n' k' hn hk
  exact ⟨a,putT_keeps b,c⟩
 ·have hl:=(List.getElem?_eq_some_iff.1 hn).1
  simp at hl
  obtain rfl:i = ns.length:=by omega
  have hk':=h.1
  rw [List.getElem?_append_right (Nat.le_refl _)] at hn
  rw [← hk',List.getElem?_append_right (Nat.le_refl _)] at hk
  simp at hn hk
  subst hn
  subst hk
  exact ⟨h1,h2,h3⟩
theorem Kids.id_le {T:List (List Int)} {ns:List Nd} {ks:List Ki} (h:Kids T ns ks):∀ k ∈ ks,1 ≤ k.i ∧ k.i ≤ T.length:=by
 intro k hk
 obtain ⟨i,hi,e⟩:=List.mem_iff_getElem.1 hk
 have hn:ns[i]? = some (ns[i]'(by rw [← h.1]; exact hi)):=List.getElem?_eq_getElem _
 obtain ⟨_,b,c⟩:=h.2 i _ k hn (by rw [List.getElem?_eq_getElem hi,e])
 have:=(List.getElem?_eq_some_iff.1 b).1
 omega
structure GoodN (n:Nd):Prop where
 ok:nodeE n = 0
 len:(ndB n).length ≤ 49152
 byt:InB (ndB n)
def TxOk (T:List (List Int)):Prop:=∀ t ∈ T,InB t ∧ t.length ≤ 49152
theorem TxOk.put {T:List (List Int)} {n:Nd} (h:TxOk T) (g:GoodN n):TxOk (putT T (ndB n)):=by
 intro t ht
 unfold putT at ht
 split at ht
 ·exact h t ht
 ·rcases List.mem_append.1 ht with q | q
  ·exact h t q
  ·simp only [List.mem_singleton] at q; rw [q]; exact ⟨g.byt,g.len⟩
theorem TxOk.puts {T:List (List Int)} {ns:List Nd} (h:TxOk T) (g:∀ n ∈ ns,GoodN n):TxOk (putNs T ns):=by
 induction ns generalizing T with
 | nil => exact h
 | cons n ns ih => exact ih (h.put (g n (by simp))) (fun m hm => g m (by simp [hm]))
theorem GoodN.small {n:Nd} (h:GoodN n):n.es.length ≤ 1000000 ∧ n.ks.length ≤ 1000000:=by
 obtain ⟨g1,g2,_⟩:=nodeE_ok h.ok
 have h1:=flat_ge (f:=enB) (c:=3) (l:=n.es) (fun e he => enB_ge (g1 e he).1.1)
 have h2:=flat_ge (f:=kiB) (c:=3) (l:=n.ks) (fun e he => kiB_ge (g2 e he).1.1)
 have h3:=h.len
 unfold ndB at h3
 simp only [List.length_append] at h3
 omega
theorem okN_lf {w:World} {a:Option Addr} {c:Nat} {r:List En} (h:RdEn w a r) (hn:a = none → c = 0) (hc:r.length ≤ c) (hm:c ≤ maxLen) (hg:nodeE ⟨0,r,[]⟩ = 0):OkN w (lfN a c r) where
 es:=h
 ks:=fun i e hi => by simp [lfN] at hi
 en:=hn
 kn:=fun _ => rfl
 el:=hc
 kl:=Nat.le_refl _
 eb:=hm
 kb:=Nat.zero_le _
 lv:=by simp [lfN]
 sz:=fun e he => by have:=(nodeE_ok hg).1 e he; unfold maxLen; omega
 kz:=fun e he => by simp [lfN] at he
def kdN (lv:Int) (a:Option Addr) (c:Nat) (ks:List Ki):NdA:=⟨⟨lv,[],ks⟩,none,0,a,c⟩
theorem okN_kd {w:World} {lv:Int} {a:Option Addr} {c:Nat} {r:List Ki} (h:RdKi w a r) (hn:a = none → c = 0) (hc:r.length ≤ c) (hm:c ≤ maxLen) (hg:nodeE ⟨lv,[],r⟩ = 0) (hl:1 ≤ lv ∧ lv ≤ 20) (hi:∀ k ∈ r,k.i < 18446744073709551616):OkN w (kdN lv a c r) where
 es:=fun i e hi => by simp [kdN] at hi
 ks:=h
 en:=fun _ => rfl
 kn:=hn
 el:=Nat.le_refl _
 kl:=hc
 eb:=Nat.zero_le _
 kb:=hm
 lv:=by simp only [kdN]; omega
 sz:=fun e he => by simp [kdN] at he
 kz:=fun e he => ⟨by have:=(nodeE_ok hg).2.1 e he; unfold maxLen; omega,hi e he⟩
theorem splK_mem {α:Type} {p:α → Bool} {l:List α}:∀ k,(∀ r ∈ (splK p l k).1,∀ e ∈ r,e ∈ l) ∧ ∀ e ∈ (splK p l k).2,e ∈ l:=by
 intro k
 induction k with
 | zero => exact ⟨fun r hr => by simp [splK] at hr,fun e he => by simp [splK] at he⟩
 | succ k ih =>
  by_cases hk:k < l.length
  ·rw [splK_step (List.getElem?_eq_getElem hk)]
   have hx:l[k] ∈ l:=List.getElem_mem _
   split
   ·refine ⟨fun r hr e he => ?_,fun e he => by simp at he⟩
    rcases List.mem_append.1 hr with q | q
    ·exact ih.1 r q e he
    ·simp only [List.mem_singleton] at q
     subst q
     rcases List.mem_append.1 he with z | z
     ·exact ih.2 e z
     ·simp only [List.mem_singleton] at z; rw [z]; exact hx
   ·refine ⟨ih.1,fun e he => ?_⟩
    rcases List.mem_append.1 he with z | z
    ·exact ih.2 e z
    ·simp only [List.mem_singleton] at z; rw [z]; exact hx
  ·have hn:l[k]? = none:=List.getElem?_eq_none (by omega)
   unfold splK
   rw [hn]
   exact ih
theorem split_mem {α:Type} {p:α → Bool} {l r:List α} {e:α} (h:r ∈ splitN p l) (he:e ∈ r):e ∈ l:=(splK_mem (p:=p) (l:=l) l.length).1 r h e he
theorem RowsE.off {lo:Nat} {F:Nat → Prop} {w w':World} {v:Value} {rows:List (List En)} {vs:List Value} (h:RowsE lo w v rows vs) (o:Onl F w w') (hF:∀ i,F i → i < lo):RowsE lo w' v rows vs :=
 ⟨h.row.onl o (fun g hg q => by have:=h.row.2 g hg; have:=hF g q; omega),h.len,fun i u r hu hr => by
  obtain ⟨G,off,h1,h2,h3,h4,h5,cs,h6⟩:=h.fin i u r hu hr
  refine ⟨G,off,h1,RdEn.off h2 o (fun y hy _ q => by cases hy; have:=hF G q; omega),h3,h4,h5,cs,h6.onl o (fun q => by have:=hF G q; omega)⟩⟩
theorem RowsJ.off {lo:Nat} {F:Nat → Prop} {w w':World} {v:Value} {rows:List (List Ki)} {vs:List Value} (h:RowsJ lo w v rows vs) (o:Onl F w w') (hF:∀ i,F i → i < lo):RowsJ lo w' v rows vs :=
 ⟨h.row.onl o (fun g hg q => by have:=h.row.2 g hg; have:=hF g q; omega),h.len,fun i u r hu hr => by
  obtain ⟨G,off,h1,h2,h3,h4,h5,cs,h6⟩:=h.fin i u r hu hr
  refine ⟨G,off,h1,RdKi.off h2 o (fun y hy _ q => by cases hy; have:=hF G q; omega),h3,h4,h5,cs,h6.onl o (fun q => by have:=hF G q; omega)⟩⟩
def TKids (w W:World) (s:Nat) (O:Nat → Prop) (T:List (List Int)) (m:Nat) (ns:List Nd) (e:Ending) (W':World):Prop :=
 ∃ (v:Value) (ks:List Ki) (O':Nat → Prop),e = .returned (.tuple #[v,.int .i64 0]) ∧ Row (fun g => ¬ O' g ∧ W.heap.size ≤ g) W' 53 2 v ks.length (kcells ks) ∧ Kids (putNs T ns) ns ks ∧ TSw w W' s O' (putNs T ns) (m + pagesN ns) ∧ (∀ i,O' i → O i ∨ W.heap.size ≤ i) ∧ Onl O W W'
end Go.Proofs.YtnblmdmlollmaaaGreat
