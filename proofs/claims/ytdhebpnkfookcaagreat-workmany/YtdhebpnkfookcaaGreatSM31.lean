import Derived.Test.YtdhebpnkfookcaaGreatSM30
set_option maxRecDepth 100000
set_option maxHeartbeats 8000000
namespace Go.Proofs.YtdhebpnkfookcaaGreat
open Go.RowKit Apo
theorem RdEn.off {F:Nat->Prop} {w w':World} {a:Option Addr} {l:List En} (h:RdEn w a l) (o:Onl F w w') (hF:∀ y,a=some y->0 < l.length->¬ F y.block):RdEn w' a l:=by
 intro i e hi;obtain ⟨g,of,h1,h2,h3⟩:=h i e hi;have hl:0 < l.length:=Nat.lt_of_le_of_lt (Nat.zero_le _) (List.getElem?_eq_some_iff.1 hi).1;have hb:=o.block g (World.block_lt_of_cell? _ _ h2) (hF _ h1 hl);exact ⟨g,of,h1,(World.cell?_of_block (a:=⟨g,of+i * 2,none⟩) hb).trans h2,(World.cell?_of_block (a:=⟨g,of+i * 2+1,none⟩) hb).trans h3⟩
theorem RdKi.off {F:Nat->Prop} {w w':World} {a:Option Addr} {l:List Ki} (h:RdKi w a l) (o:Onl F w w') (hF:∀ y,a=some y->0 < l.length->¬ F y.block):RdKi w' a l:=by
 intro i e hi;obtain ⟨g,of,h1,h2,h3⟩:=h i e hi;have hl:0 < l.length:=Nat.lt_of_le_of_lt (Nat.zero_le _) (List.getElem?_eq_some_iff.1 hi).1;have hb:=o.block g (World.block_lt_of_cell? _ _ h2) (hF _ h1 hl);exact ⟨g,of,h1,(World.cell?_of_block (a:=⟨g,of+i * 2,none⟩) hb).trans h2,(World.cell?_of_block (a:=⟨g,of+i * 2+1,none⟩) hb).trans h3⟩
def OffN (F:Nat->Prop) (x:NdA):Prop:=(∀ y,x.ea=some y->0 < x.n.es.length->¬ F y.block)/\(∀ y,x.ka=some y->0 < x.n.ks.length->¬ F y.block)
theorem OkN.off {F:Nat->Prop} {w w':World} {x:NdA} (h:OkN w x) (o:Onl F w w') (hF:OffN F x):OkN w' x:={ h with es:=RdEn.off h.es o hF.1,ks:=RdKi.off h.ks o hF.2 }
theorem CSx.mono {O O':Nat->Prop} {w:World} {s d:Nat} {S:Cs} (h:CSx O w s d S) (hO:∀ i,i < w.heap.size->O i->O' i):CSx O' w s d S:=by
 obtain ⟨L,pg,bc,bs,bg,sa,sc,sm,h1,h2,h3⟩:=h;exact ⟨L,pg,bc,bs,bg,sa,sc,sm,h1,h2,fun i q=>hO i (h1.lt i q) (h3 i q)⟩
theorem TSw.mono {w W:World} {s m:Nat} {O O':Nat->Prop} {T:List (List Int)} (h:TSw w W s O T m) (hO:∀ i,i < W.heap.size->O i->O' i) (lo:∀ i,O' i->w.heap.size<=i) (hi:∀ i,O' i->i < W.heap.size):TSw w W s O' T m:=by
 obtain ⟨d,S,h1,h2⟩:=h;exact ⟨d,S,⟨h1.c.mono hO,lo,hi,h1.bel⟩,h2⟩
theorem TSw.grow {w A B C D:World} {s m:Nat} {O:Nat->Prop} {T:List (List Int)} (h:TSw w D s (Gro O B C) T m) (hAB:A.heap.size<=B.heap.size) (hw:∀ i,O i->w.heap.size<=i) (hA:∀ i,O i->i < A.heap.size) (hwA:w.heap.size<=A.heap.size) (hAD:A.heap.size<=D.heap.size):TSw w D s (Gro O A D) T m :=
 h.mono (fun i _ q=>q.elim Or.inl (fun z=>Or.inr (by omega))) (Gro.base hw hwA) (Gro.lt hA hAD)
theorem fin_nod {W:World} {g:Nat} {c0 c1:Value} {er:Int} {tmps:Array Value} {Q:Ending->World->Prop} (k:Ob W g 128 [c0,c1]) (h4:tmps.getD 4 undef=.pointer (some ⟨g,0,none⟩)) (h5:tmps.getD 5 undef=.int .i64 er) (hq:Q (.returned (.tuple #[.agg #[c0,c1],.int .i64 er])) W) :
  bodyPost Tryz.prog Tryz.f102 Q Exit.ret { tmps:=tmps,defers:=[] } W:=by
 have hl:=run_loadVar_row (P:=Tryz.prog) W g 128 128 #[c0,c1] (0,0) _ k Tryz.underlying128 rfl (by rw [size_Ki];rfl);have h4':tmps[4]?.getD undef=.pointer (some ⟨g,0,none⟩):=by simpa using h4
 have h5':tmps[5]?.getD undef=.int .i64 er:=by simpa using h5
 refine bodyPost_ret (v:=.tuple #[.agg #[c0,c1],.int .i64 er]) ?_ rfl hq;simp [results,Tryz.results102,asAddr,h4',h5',hl]
def bldV (s:Nat) (hv:Value):Array Value:=#[.func (.func 33) #[.pointer (some ⟨s,0,none⟩)] #[],hv]
def TNode (w W:World) (s:Nat) (O:Nat->Prop) (T:List (List Int)) (m:Nat) (n:Nd) (e:Ending) (W':World):Prop :=
 ∃ id:Nat,e=.returned (.tuple #[.agg #[.string (Zz n),.int .u64 id],.int .i64 0])/\(Z3 T (ZW n))[id - 1]?=some (ZW n)/\1<=id/\id<=T.length+1/\TSw w W' s (Gro O W W') (Z3 T (ZW n)) (m+Zc (ZW n).length)/\Onl O W W'
theorem tnode_any {w W:World} {s m:Nat} {O:Nat->Prop} {T:List (List Int)} (h:TSw w W s O T m) (hT:T.length<=16000) (hmp:Option Nat) (x:NdA) (hx:OkN W x) (hoff:OffN O x) (he:x.n.es.length<=1000000) (hk:x.n.ks.length<=1000000) (hp:nodeE x.n=0) (hln:(ZW x.n).length<=131072) (hm:pgT (Z3 T (ZW x.n))<=4096) (hby:InB (ZW x.n)) :
  Calls Tryz.prog 102 #[.agg (bldV s (.map hmp)),.agg x.cells.toArray] W (TNode w W s O T m x.n):=by
 have hpe:putE x.n=(ZW x.n,0):=by unfold putE;rw [if_neg (by omega),if_neg (by omega)]
 obtain ⟨⟨lv,es,ks⟩,ea,ec,ka,kc⟩:=x;simp only [NdA.cells,bldV] at hx he hk hoff hpe hp hln hm hby ⊢;obtain ⟨x,hxd⟩:∃ x:NdA,x=⟨⟨lv,es,ks⟩,ea,ec,ka,kc⟩:=⟨_,rfl⟩;obtain ⟨B,hB⟩:∃ B,B=ZW ⟨lv,es,ks⟩:=⟨_,rfl⟩;have hxn:x.n=⟨lv,es,ks⟩:=by rw [hxd]
 obtain ⟨ne,hne⟩:∃ ne,ne=es.length:=⟨_,rfl⟩;obtain ⟨nk,hnk⟩:∃ nk,nk=ks.length:=⟨_,rfl⟩;have hcs:x.cells.toArray=#[.int .i64 lv,.slice ea ne ec,.slice ka nk kc]:=by rw [hxd,hne,hnk];rfl
 rw [<- hxd] at hx hoff;rw [<- hne,<- hnk];obtain ⟨W1,hW1⟩:∃ W1,W1=W.alloc (.cells #[.func (.func 33) #[.pointer (some ⟨s,0,none⟩)] #[],.map hmp] 70):=⟨_,rfl⟩;obtain ⟨W2,hW2⟩:∃ W2,W2=W1.alloc (.cells #[.int .i64 lv,.slice ea ne ec,.slice ka nk kc] 90):=⟨_,rfl⟩;obtain ⟨W3,hW3⟩:∃ W3,W3=W2.alloc (.cells #[.string ⟨#[]⟩,.int .u64 0] 128):=⟨_,rfl⟩;have s1:W1.heap.size=W.heap.size+1:=by rw [hW1];simp
 have s2:W2.heap.size=W.heap.size+2:=by rw [hW2];simp [s1]
 have s3:W3.heap.size=W.heap.size+3:=by rw [hW3];simp [s2]
 have kb1:Ob W1 W.heap.size 70 [.func (.func 33) #[.pointer (some ⟨s,0,none⟩)] #[],.map hmp]:=by rw [hW1];exact Ob.new W [.func (.func 33) #[.pointer (some ⟨s,0,none⟩)] #[],.map hmp] 70
 have kn2:Ob W2 (W.heap.size+1) 90 [.int .i64 lv,.slice ea ne ec,.slice ka nk kc]:=by rw [hW2,<- s1];exact Ob.new W1 [.int .i64 lv,.slice ea ne ec,.slice ka nk kc] 90
 have kk3:Ob W3 (W.heap.size+2) 128 [.string ⟨#[]⟩,.int .u64 0]:=by rw [hW3,<- s2];exact Ob.new W2 [.string ⟨#[]⟩,.int .u64 0] 128
 have b1:Below W.heap.size W W1:=by rw [hW1];exact (Below.refl _ W).alloc (Nat.le_refl _) _
 have b2:Below W.heap.size W W2:=by rw [hW2];exact b1.alloc (by omega) _
 have b3:Below W.heap.size W W3:=by rw [hW3];exact b2.alloc (by omega) _
 have b23:Below W2.heap.size W2 W3:=by rw [hW3];exact (Below.refl _ W2).alloc (Nat.le_refl _) _
 have b12:Below W1.heap.size W1 W2:=by rw [hW2];exact (Below.refl _ W1).alloc (Nat.le_refl _) _
 have kn3:=kn2.old b23;have kb3:=(kb1.old b12).old b23;have hlo:=h.lo;have hhi:=h.hi;have hbw:=h.bel.size;have C1:=put_node W3 x (hx.below b3) (by rw [hxn];exact he) (by rw [hxn];exact hk);rw [hcs] at C1;have HC1:=Za C1;have HX:=Za (hx.below b3);have HOFF:=Za hoff;have HH:=Za (h.below b3);have HB3:=Za b3;have HKB:=Za kb3;have HKN:=Za kn3;have HKK:=Za kk3;have HPE:=Za hpe;have HXN:=Za hxn;have HCS:=Za hcs;have HLO:=Za hlo;have HHI:=Za hhi;have HBB:=Za hB;have HE:=Za he;have HKL:=Za hk;have HBY:=Za hby;clear C1 hx hoff h b1 b2 b3 b23 b12 kb1 kn2 kk3 kn3 kb3 hpe hxn hcs hlo hhi hxd hne hnk hB hp he hk hby;go_enter Tryz.func102,Tryz.ntmps102
 go_wp2_with fail
 rw [<- hW1,<- hW2,<- hW3];clear hW1 hW2 hW3;refine HC1.out.mono ?_;rintro e w4 ⟨v4,rfl,r4,b4⟩;rw [HXN.out,HPE.out] at r4 ⊢;simp only at r4 ⊢;rw [<- HBB.out] at r4 hln hm;obtain ⟨va,vc,hva,hvl,hvn⟩:=own_form r4
 have hvb:∀ y,va=some y->0 < B.length->W3.heap.size<=y.block:=fun y hy hp=>by
  obtain ⟨g,cap,e1,e2,_⟩:=own_shape r4 hp;rw [hva] at e1;injection e1 with e1 _ _
  rw [hy] at e1;cases e1
  exact e2
 subst hva;obtain ⟨rd4,_,_⟩:=Rd.own r4;have s4:=b4.size;have C2:=tput_any (HH.out.below b4) hT va vc B rd4 hvn hvl hln (by rw [HBB.out];exact HBY.out) (fun y hy hp q=>by have:=HHI.out _ q;have:=hvb y hy hp;omega) hm;have kb4:=HKB.out.old b4;have z0:=kb4.cell 0;simp only [List.getElem?_cons_zero] at z0;obtain ⟨nb,hnb⟩:∃ nb,nb=B.length:=⟨_,rfl⟩;rw [<- hnb] at C2 hln ⊢;have HC2:=Za C2;have HB4:=Za b4;have HNB:=Za hnb;clear C2 b4 r4 rd4 hvb kb4 hnb hvl hvn HC1;go_wp2_with fail
 refine HC2.out.mono ?_;rintro e w5 ⟨id,rfl,p1,p2,p3,t5,o5⟩;have s5:=o5.size;have kn5:=(HKN.out.old HB4.out).onl o5 (fun q=>by have:=HHI.out _ q;omega);have kk5:=(HKK.out.old HB4.out).onl o5 (fun q=>by have:=HHI.out _ q;omega);have x5:=OkN.off (HX.out.below HB4.out) o5 HOFF.out;have C3:=last_any w5 x x5 (by rw [HXN.out];exact HE.out) (by rw [HXN.out];exact HKL.out);rw [HCS.out,HXN.out] at C3;have y0:=kn5.cell 0;have y1:=kn5.cell 1;have y2:=kn5.cell 2;simp only [List.getElem?_cons_zero,List.getElem?_cons_succ] at y0 y1 y2;obtain ⟨LK,hLK⟩:∃ LK,LK=Zz ⟨lv,es,ks⟩:=⟨_,rfl⟩;rw [<- hLK] at C3;have HLK:=Za hLK;have HC3:=Za C3;have HT5:=Za t5;have HO5:=Za o5;have HP:=Za (And.intro p1 (And.intro p2 p3));have HKK5:=Za kk5;clear C3 t5 o5 kn5 kk5 x5 p1 p2 p3 z0 HC2 hLK;go_wp2_with fail
 refine HC3.out.mono ?_;rintro e w6 ⟨rfl,b6⟩;have kk6:=HKK5.out.old b6;have u0:=kk6.cell 0;have u1:=kk6.cell 1;have f0:=kk6.frozen 0;have f1:=kk6.frozen 1;simp only [List.getElem?_cons_zero,List.getElem?_cons_succ] at u0 u1;have s6:=b6.size
 have HF:Hid (TNode w W s O T m ⟨lv,es,ks⟩ (.returned (.tuple #[.agg #[.string LK,.int .u64 id],.int .i64 0])) ((w6.setCell ⟨W.heap.size+2,0,none⟩ (.string LK)).setCell ⟨W.heap.size+2,1,none⟩ (.int .u64 id))):=by
  refine Za ?_;obtain ⟨p1,p2,p3⟩:=HP.out;have o7:Onl (fun i=>i=W.heap.size+2) w6 ((w6.setCell ⟨W.heap.size+2,0,none⟩ (.string LK)).setCell ⟨W.heap.size+2,1,none⟩ (.int .u64 id)):=((Onl.refl (fun i=>i=W.heap.size+2) w6).set (p:=W.heap.size+2) (.inl rfl) _).set (p:=W.heap.size+2) (.inl rfl) _;have s7:((w6.setCell ⟨W.heap.size+2,0,none⟩ (.string LK)).setCell ⟨W.heap.size+2,1,none⟩ (.int .u64 id)).heap.size=w6.heap.size:=by simp [World.setCell]
  have g1:=(HT5.out.below b6).onl o7 (fun i q z=>by subst z;rcases q with q | q;(· have:=HHI.out _ q;omega);(· have:=q.1;omega)) (fun i z=>by omega);have hb4:=HB4.out.size;refine ⟨id,by rw [HLK.out],by rw [<- HBB.out];exact p1,p2,p3,?_,?_⟩
  ·rw [<- HBB.out];exact g1.grow (A:=W) (by omega) HLO.out HHI.out hbw (by omega)
  ·exact (((Onl.ofBelow (HB3.out.trans (HB4.out.mono (by omega)))).trans HO5.out).trans (Onl.ofBelow b6)).more o7 (fun i z=>.inr (by omega))
 have kk7:Ob ((w6.setCell ⟨W.heap.size+2,0,none⟩ (.string LK)).setCell ⟨W.heap.size+2,1,none⟩ (.int .u64 id)) (W.heap.size+2) 128 [.string LK,.int .u64 id]:=(kk6.set 0 _).set 1 _;have HK7:=Za kk7;clear kk6 kk7 y0 y1 y2;go_wp2;exact fin_nod HK7.out rfl rfl HF.out
theorem fin_lea {W:World} {g:Nat} {c0 c1:Value} {er:Int} {tmps:Array Value} {Q:Ending->World->Prop} (k:Ob W g 128 [c0,c1]) (h4:tmps.getD 4 undef=.pointer (some ⟨g,0,none⟩)) (h5:tmps.getD 5 undef=.int .i64 er) (hq:Q (.returned (.tuple #[.agg #[c0,c1],.int .i64 er])) W) :
  bodyPost Tryz.prog Tryz.f100 Q Exit.ret { tmps:=tmps,defers:=[] } W:=by
 have hl:=run_loadVar_row (P:=Tryz.prog) W g 128 128 #[c0,c1] (0,0) _ k Tryz.underlying128 rfl (by rw [size_Ki];rfl);have h4':tmps[4]?.getD undef=.pointer (some ⟨g,0,none⟩):=by simpa using h4
 have h5':tmps[5]?.getD undef=.int .i64 er:=by simpa using h5
 refine bodyPost_ret (v:=.tuple #[.agg #[c0,c1],.int .i64 er]) ?_ rfl hq;simp [results,Tryz.results100,asAddr,h4',h5',hl]
theorem look_none (W:World) (k:ByteArray):(Instr.lookup 68 (.map none) (.string k) true).run Tryz.prog W=.ok (.tuple #[.agg #[.int .u64 0,.slice none 0 0],.bool false]) W:=by
 kernel_rfl
def lfN (ea:Option Addr) (ec:Nat) (es:List En):NdA:=⟨⟨0,es,[]⟩,ea,ec,none,0⟩
def Zp (T:List (List Int)) (ns:List Nd):List (List Int):=ns.foldl (fun T n=>Z3 T (ZW n)) T
theorem putNs_snoc (T:List (List Int)) (ns:List Nd) (n:Nd):Zp T (ns++[n])=Z3 (Zp T ns) (ZW n):=by simp [Zp]
theorem putNs_append (T:List (List Int)) (ns ms:List Nd):Zp T (ns++ms)=Zp (Zp T ns) ms:=by simp [Zp]
def Zy (ns:List Nd):Nat:=(ns.map (fun n=>Zc (ZW n).length)).sum
theorem pagesN_append (ns ms:List Nd):Zy (ns++ms)=Zy ns+Zy ms:=by simp [Zy]
theorem pagesN_take (ns:List Nd) (k:Nat):Zy (ns.take k)<=Zy ns:=by
 have:=pagesN_append (ns.take k) (ns.drop k);rw [List.take_append_drop] at this;omega
theorem putNs_keeps {T:List (List Int)} {i:Nat} {t:List Int} (h:T[i]?=some t):∀ ns:List Nd,(Zp T ns)[i]?=some t:=by
 intro ns;induction ns generalizing T with
 | nil=>exact h
 | cons n ns ih=>exact ih (putT_keeps h)
theorem putNs_len (T:List (List Int)) (ns:List Nd):(Zp T ns).length<=T.length+ns.length:=by
 induction ns generalizing T with
 | nil=>simp [Zp]
 | cons n ns ih =>
  have h1:=ih (T:=Z3 T (ZW n));have h2:=putT_len T (ZW n);have h3:Zp T (n :: ns)=Zp (Z3 T (ZW n)) ns:=rfl;rw [h3];simp only [List.length_cons];omega
theorem pgT_puts (T:List (List Int)) (ns:List Nd):pgT T<=pgT (Zp T ns):=by
 induction ns generalizing T with
 | nil=>exact Nat.le_refl _
 | cons n ns ih=>exact Nat.le_trans (pgT_put T (ZW n)).1 (ih (Z3 T (ZW n)))
theorem pgT_step {T:List (List Int)} {ns:List Nd} {k:Nat} {n:Nd} (htk:ns.take (k+1)=ns.take k++[n]) (h:pgT (Zp T ns)<=4096):pgT (Z3 (Zp T (ns.take k)) (ZW n))<=4096:=by
 rw [<- putNs_snoc,<- htk];refine Nat.le_trans ?_ h;have e:Zp T ns=Zp (Zp T (ns.take (k+1))) (ns.drop (k+1)):=by rw [<- putNs_append,List.take_append_drop]
 rw [e];exact pgT_puts _ _
def Kids (T:List (List Int)) (ns:List Nd) (ks:List Ki):Prop:=ks.length=ns.length/\∀ (i:Nat) (n:Nd) (k:Ki),ns[i]?=some n->ks[i]?=some k->k.k=Zz n/\T[k.i - 1]?=some (ZW n)/\1<=k.i
theorem Kids.nil (T:List (List Int)):Kids T [] []:=⟨rfl,fun i n k h=>by simp at h⟩
theorem Kids.snoc {T:List (List Int)} {ns:List Nd} {ks:List Ki} {n:Nd} {k:Ki} (h:Kids T ns ks) (h1:k.k=Zz n) (h2:(Z3 T (ZW n))[k.i - 1]?=some (ZW n)) (h3:1<=k.i):Kids (Z3 T (ZW n)) (ns++[n]) (ks++[k]):=by
 refine ⟨by simp [h.1],fun i n' k' hn hk=>?_⟩;by_cases q:i < ns.length
 ·rw [List.getElem?_append_left q] at hn;rw [List.getElem?_append_left (by rw [h.1];exact q)] at hk;obtain ⟨a,b,c⟩:=h.2 i n' k' hn hk;exact ⟨a,putT_keeps b,c⟩
 ·have hl:=(List.getElem?_eq_some_iff.1 hn).1;simp at hl
  obtain rfl:i=ns.length:=by omega
  have hk':=h.1;rw [List.getElem?_append_right (Nat.le_refl _)] at hn;rw [<- hk',List.getElem?_append_right (Nat.le_refl _)] at hk;simp at hn hk
  subst hn;subst hk;exact ⟨h1,h2,h3⟩
theorem Kids.id_le {T:List (List Int)} {ns:List Nd} {ks:List Ki} (h:Kids T ns ks):∀ k ∈ ks,1<=k.i/\k.i<=T.length:=by
 intro k hk;obtain ⟨i,hi,e⟩:=List.mem_iff_getElem.1 hk;have hn:ns[i]?=some (ns[i]'(by rw [<- h.1];exact hi)):=List.getElem?_eq_getElem _
 obtain ⟨_,b,c⟩:=h.2 i _ k hn (by rw [List.getElem?_eq_getElem hi,e]);have:=(List.getElem?_eq_some_iff.1 b).1;omega
structure GoodN (n:Nd):Prop where
 ok:nodeE n=0
 len:(ZW n).length<=49152
 byt:InB (ZW n)
def TxOk (T:List (List Int)):Prop:=∀ t ∈ T,InB t/\t.length<=49152
theorem TxOk.put {T:List (List Int)} {n:Nd} (h:TxOk T) (g:GoodN n):TxOk (Z3 T (ZW n)):=by
 intro t ht;unfold Z3 at ht;split at ht
 ·exact h t ht
 ·rcases List.mem_append.1 ht with q | q
  ·exact h t q
  ·simp only [List.mem_singleton] at q;rw [q];exact ⟨g.byt,g.len⟩
theorem TxOk.puts {T:List (List Int)} {ns:List Nd} (h:TxOk T) (g:∀ n ∈ ns,GoodN n):TxOk (Zp T ns):=by
 induction ns generalizing T with
 | nil=>exact h
 | cons n ns ih=>exact ih (h.put (g n (by simp))) (fun m hm=>g m (by simp [hm]))
theorem GoodN.small {n:Nd} (h:GoodN n):n.es.length<=1000000/\n.ks.length<=1000000:=by
 obtain ⟨g1,g2,_⟩:=nodeE_ok h.ok;have h1:=flat_ge (f:=enB) (c:=3) (l:=n.es) (fun e he=>enB_ge (g1 e he).1.1);have h2:=flat_ge (f:=kiB) (c:=3) (l:=n.ks) (fun e he=>kiB_ge (g2 e he).1.1);have h3:=h.len;unfold ZW at h3;simp only [List.length_append] at h3;omega
theorem okN_lf {w:World} {a:Option Addr} {c:Nat} {r:List En} (h:RdEn w a r) (hn:a=none->c=0) (hc:r.length<=c) (hm:c<=maxLen) (hg:nodeE ⟨0,r,[]⟩=0):OkN w (lfN a c r) where
 es:=h
 ks:=fun i e hi=>by simp [lfN] at hi
 en:=hn
 kn:=fun _=>rfl
 el:=hc
 kl:=Nat.le_refl _
 eb:=hm
 kb:=Nat.zero_le _
 lv:=by simp [lfN]
 sz:=fun e he=>by have:=(nodeE_ok hg).1 e he;unfold maxLen;omega
 kz:=fun e he=>by simp [lfN] at he
def kdN (lv:Int) (a:Option Addr) (c:Nat) (ks:List Ki):NdA:=⟨⟨lv,[],ks⟩,none,0,a,c⟩
theorem okN_kd {w:World} {lv:Int} {a:Option Addr} {c:Nat} {r:List Ki} (h:RdKi w a r) (hn:a=none->c=0) (hc:r.length<=c) (hm:c<=maxLen) (hg:nodeE ⟨lv,[],r⟩=0) (hl:1<=lv/\lv<=20) (hi:∀ k ∈ r,k.i < 18446744073709551616):OkN w (kdN lv a c r) where
 es:=fun i e hi=>by simp [kdN] at hi
 ks:=h
 en:=fun _=>rfl
 kn:=hn
 el:=Nat.le_refl _
 kl:=hc
 eb:=Nat.zero_le _
 kb:=hm
 lv:=by simp only [kdN];omega
 sz:=fun e he=>by simp [kdN] at he
 kz:=fun e he=>⟨by have:=(nodeE_ok hg).2.1 e he;unfold maxLen;omega,hi e he⟩
theorem splK_mem {α:Type} {p:α->Bool} {l:List α}:∀ k,(∀ r ∈ (splK p l k).1,∀ e ∈ r,e ∈ l)/\∀ e ∈ (splK p l k).2,e ∈ l:=by
 intro k;induction k with
 | zero=>exact ⟨fun r hr=>by simp [splK] at hr,fun e he=>by simp [splK] at he⟩
 | succ k ih =>
  by_cases hk:k < l.length
  ·rw [splK_step (List.getElem?_eq_getElem hk)];have hx:l[k] ∈ l:=List.getElem_mem _;split
   ·refine ⟨fun r hr e he=>?_,fun e he=>by simp at he⟩;rcases List.mem_append.1 hr with q | q
    ·exact ih.1 r q e he
    ·simp only [List.mem_singleton] at q;subst q;rcases List.mem_append.1 he with z | z
     ·exact ih.2 e z
     ·simp only [List.mem_singleton] at z;rw [z];exact hx
   ·refine ⟨ih.1,fun e he=>?_⟩;rcases List.mem_append.1 he with z | z
    ·exact ih.2 e z
    ·simp only [List.mem_singleton] at z;rw [z];exact hx
  ·have hn:l[k]?=none:=List.getElem?_eq_none (by omega)
   unfold splK;rw [hn];exact ih
theorem split_mem {α:Type} {p:α->Bool} {l r:List α} {e:α} (h:r ∈ Zd p l) (he:e ∈ r):e ∈ l:=(splK_mem (p:=p) (l:=l) l.length).1 r h e he
theorem RowsE.off {lo:Nat} {F:Nat->Prop} {w w':World} {v:Value} {rows:List (List En)} {vs:List Value} (h:RowsE lo w v rows vs) (o:Onl F w w') (hF:∀ i,F i->i < lo):RowsE lo w' v rows vs :=
 ⟨h.row.onl o (fun g hg q=>by have:=h.row.2 g hg;have:=hF g q;omega),h.len,fun i u r hu hr=>by
  obtain ⟨G,off,h1,h2,h3,h4,h5,cs,h6⟩:=h.fin i u r hu hr;refine ⟨G,off,h1,RdEn.off h2 o (fun y hy _ q=>by cases hy;have:=hF G q;omega),h3,h4,h5,cs,h6.onl o (fun q=>by have:=hF G q;omega)⟩⟩
theorem RowsJ.off {lo:Nat} {F:Nat->Prop} {w w':World} {v:Value} {rows:List (List Ki)} {vs:List Value} (h:RowsJ lo w v rows vs) (o:Onl F w w') (hF:∀ i,F i->i < lo):RowsJ lo w' v rows vs :=
 ⟨h.row.onl o (fun g hg q=>by have:=h.row.2 g hg;have:=hF g q;omega),h.len,fun i u r hu hr=>by
  obtain ⟨G,off,h1,h2,h3,h4,h5,cs,h6⟩:=h.fin i u r hu hr;refine ⟨G,off,h1,RdKi.off h2 o (fun y hy _ q=>by cases hy;have:=hF G q;omega),h3,h4,h5,cs,h6.onl o (fun q=>by have:=hF G q;omega)⟩⟩
def TKids (w W:World) (s:Nat) (O:Nat->Prop) (T:List (List Int)) (m:Nat) (ns:List Nd) (e:Ending) (W':World):Prop :=
 ∃ (v:Value) (ks:List Ki) (O':Nat->Prop),e=.returned (.tuple #[v,.int .i64 0])/\Row (fun g=>¬ O' g/\W.heap.size<=g) W' 128 2 v ks.length (ZH ks)/\Kids (Zp T ns) ns ks/\TSw w W' s O' (Zp T ns) (m+Zy ns)/\(∀ i,O' i->O i\/W.heap.size<=i)/\Onl O W W'
section
attribute [local go_sem ↓] Apo.app_exec
def lvns (rows:List (List En)):List Nd:=rows.map (fun r=>⟨0,r,[]⟩)
def abns (lv:Int) (rows:List (List Ki)):List Nd:=rows.map (fun r=>⟨lv,[],r⟩)
theorem tab_any {w W:World} {s m:Nat} {O:Nat->Prop} {T:List (List Int)} (h:TSw w W s O T m) (hmp:Option Nat) (lv:Int) (hlv:1<=lv/\lv<=20) (ea:Option Addr) (ec:Nat) (es:List Ki) (hr:RdKi W ea es) (hen:ea=none->ec=0) (hel:es.length<=1000000) (hz:∀ e ∈ es,e.k.size<=1099511627776) (hg:∀ n ∈ abns lv (Zd (fun e:Ki=>Zf lv e.k) es),GoodN n) (hm:pgT (Zp T (abns lv (Zd (fun e:Ki=>Zf lv e.k) es)))<=4096) (hT:T.length+es.length<=16000) (hid:∀ e ∈ es,e.i < 18446744073709551616) :
  Calls Tryz.prog 61 #[.agg (bldV s (.map hmp)),.int .i64 lv,.slice ea es.length ec] W (TKids w W s O T m (abns lv (Zd (fun e:Ki=>Zf lv e.k) es))):=by
 obtain ⟨rows,hrows⟩:∃ rows,rows=Zd (fun e:Ki=>Zf lv e.k) es:=⟨_,rfl⟩;obtain ⟨ns,hns⟩:∃ ns,ns=abns lv rows:=⟨_,rfl⟩;have hrl:rows.length<=es.length:=by rw [hrows];exact split_len _ _
 have hnl:ns.length=rows.length:=by rw [hns];simp [abns]
 have hat:∀ (k:Nat) (r:List Ki),rows[k]?=some r->ns[k]?=some (⟨lv,[],r⟩:Nd):=fun k r hk=>by rw [hns];simp [abns,hk]
 skip
 simp only [bldV];obtain ⟨W1,hW1⟩:∃ W1,W1=W.alloc (.cells #[.func (.func 33) #[.pointer (some ⟨s,0,none⟩)] #[],.map hmp] 70):=⟨_,rfl⟩;have s1:W1.heap.size=W.heap.size+1:=by rw [hW1];simp
 have kb1:Ob W1 W.heap.size 70 [.func (.func 33) #[.pointer (some ⟨s,0,none⟩)] #[],.map hmp]:=by rw [hW1];exact Ob.new W [.func (.func 33) #[.pointer (some ⟨s,0,none⟩)] #[],.map hmp] 70
 have b1:Below W.heap.size W W1:=by rw [hW1];exact (Below.refl _ W).alloc (Nat.le_refl _) _
 have C1:=group_Ki lv ea ec es W1 (hr.below b1) hen hel hz;rw [<- hrows] at C1 hg hm ⊢;rw [<- hns] at hg hm ⊢;have hlo:=h.lo;have hhi:=h.hi;have hbw:=h.bel.size;have HH:=Za h;have HC1:=Za C1;have HG:=Za hg;have HM:=Za hm;have HAT:=Za hat;have HKB:=Za kb1;have HB1:=Za b1;have HLO:=Za hlo;have HHI:=Za hhi;have HNL:=Za hnl;have HID:=Za (fun (r:List Ki) (hr2:r ∈ rows) (e:Ki) (he:e ∈ r)=>hid e (by rw [hrows] at hr2;exact split_mem hr2 he));obtain ⟨ne,hne⟩:∃ ne,ne=es.length:=⟨_,rfl⟩;rw [<- hne] at HC1 hT hrl ⊢;clear h C1 hg hat kb1 b1 hlo hhi hns hrows hr hz hel hnl hne;go_enter Tryz.func61,Tryz.ntmps61
 go_wp2_with fail
 rw [<- hW1];clear hW1;refine HC1.out.mono ?_;rintro e w1 ⟨rv,vs,rfl,R1,b2⟩;obtain ⟨ra,rc,hrv,hrc1,hrc2,hrn,hrx⟩:=R1.row.form;have hvl:=R1.len;rw [hvl] at hrv;obtain ⟨nr,hnr⟩:∃ nr,nr=rows.length:=⟨_,rfl⟩;rw [<- hnr] at hrv hvl hrl HNL;subst hrv
 have hcell:∀ k,k < nr->∃ g u r,ra=some ⟨g,0,none⟩/\vs[k]?=some u/\rows[k]?=some r/\∀ W',Onl O w1 W'->W'.cell? ⟨g,k,none⟩=some u:=fun k hk=>by
  obtain ⟨g,cap,e1,e2,e3,e4,e5,e6,_⟩:=R1.row.shape (by omega);injection e1 with e1 _ _
  refine ⟨g,vs[k]'(by omega),rows[k]'(by omega),e1,List.getElem?_eq_getElem (by omega),List.getElem?_eq_getElem (by omega),fun W' o=>?_⟩;have hbk:=o.block g e3 (fun q=>by have:=HHI.out _ q;omega);rw [World.cell?_of_block (a:=⟨g,k,none⟩) hbk,e6 k (by omega)];exact List.getElem?_eq_getElem (by omega)
 have HCELL:=Za hcell;have HR1:=Za R1;have HB2:=Za b2;have sz2:=b2.size;have hk2:=HKB.out.old b2;have HK2:=Za hk2;have HW1:=Za ((HH.out.below HB1.out).below b2);have hnr2:nr<=9223372036854775807:=by omega
 have HNR:=Za hnr;clear hcell R1 b2 hk2 hvl hnr hrn hrx;go_wp2;go_loopw [8,17] (fun u i wr=>∃ (k:Nat) (ks:List Ki) (O':Nat->Prop) (va:Option Addr) (nk vc:Nat),k<=nr/\i=.int .i64 k/\u=.slice va nk vc/\Hid (nk=ks.length)/\Hid (Row (fun g=>¬ O' g/\w1.heap.size<=g) wr 128 2 (.slice va nk vc) ks.length (ZH ks))/\Hid (Kids (Zp T (ns.take k)) (ns.take k) ks)/\Hid (TSw w wr s O' (Zp T (ns.take k)) (m+Zy (ns.take k)))/\Hid (∀ i,O' i->O i\/w1.heap.size<=i)/\Hid (Onl O w1 wr)) (fun _ i _=>nr - (intOf i).toNat)
 case atStart=>exact ⟨0,[],O,none,0,0,Nat.zero_le _,rfl,rfl,Za rfl,Za (Row.nil _ _ _ _),Za (by simp only [List.take_zero];exact Kids.nil _),Za (by simpa [Zp,Zy] using HW1.out),Za (fun i q=>.inl q),Za (Onl.refl _ _)⟩
 case round =>
  obtain ⟨k,ks,O',va,nk,vc,hk,rfl,rfl,HNK2,HRW,HKD,HTS,HSUB,HON⟩:=hrel;by_cases hkn:k < nr
  ·obtain ⟨g,u,r,rfl,hu,hrk,hcl⟩:=HCELL.out k hkn;have hce:=hcl wr HON.out;have hnk:=HAT.out k r hrk;obtain ⟨G,off,e1,e2,e3,e4,e5,cs,e6⟩:=(HR1.out.off HON.out (fun i q=>by have:=HHI.out i q;omega)).fin k u r hu hrk;subst e1;have gn:=HG.out _ (List.mem_of_getElem? hnk);have htk:ns.take (k+1)=ns.take k++[(⟨lv,[],r⟩:Nd)]:=by rw [List.take_add_one,hnk];rfl
   have hpg:=pagesN_take ns (k+1);rw [htk,pagesN_append] at hpg;have hp1:Zy [(⟨lv,[],r⟩:Nd)]=Zc (ZW (⟨lv,[],r⟩:Nd)).length:=by simp [Zy]
   have hpl:=putNs_len T (ns.take k);have hkl:(ns.take k).length<=nr:=by rw [List.length_take,HNL.out];omega
   have hGw:=(e6.onl (Onl.refl O wr) (fun q=>by have:=HHI.out _ q;omega)).lt
   have hG1:G < w1.heap.size:=by
    obtain ⟨G2,off2,f1,f2,f3,f4,f5,cs2,f6⟩:=HR1.out.fin k _ r hu hrk;injection f1 with f1 _ _
    injection f1 with f1
    injection f1 with f1 _ _
    rw [f1];exact f6.lt
   have hnO:¬ O' G:=fun q=>by
    rcases HSUB.out G q with z | z
    ·have:=HHI.out G z;omega
    ·omega
   have okx:OkN wr (kdN lv (some ⟨G,off,none⟩) r.length r):=okN_kd e2 (fun q=>by cases q) (Nat.le_refl _) e4 gn.ok hlv (fun e he=>HID.out r (List.mem_of_getElem? hrk) e he);have C3:=tnode_any HTS.out (by omega) hmp (kdN lv (some ⟨G,off,none⟩) r.length r) okx ⟨fun y hy=>(by cases hy),fun y hy _ q=>(by cases hy;exact hnO q)⟩ gn.small.1 gn.small.2 gn.ok (Nat.le_trans gn.len (by decide)) (pgT_step htk HM.out) gn.byt;have kbr:=HK2.out.onl HON.out (fun q=>by have:=HHI.out _ q;omega);have c0:=kbr.cell 0;have c1:=kbr.cell 1;simp only [List.getElem?_cons_zero,List.getElem?_cons_succ] at c0 c1;simp only [bldV,NdA.cells,kdN] at C3;have HC3:=Za C3;have HTK:=Za htk;have HP1:=Za hp1;obtain ⟨rl,hrl2⟩:∃ rl,rl=r.length:=⟨_,rfl⟩;rw [<- hrl2] at HC3 hce;have hrl3:rl<=maxLen:=by rw [hrl2];exact e4
   have hgx:=HON.out.size;clear C3 htk hp1 hcl hnk hrk hu e2 e3 e6 gn okx kbr hrl2;go_wp2_with fail
   refine HC3.out.mono ?_;rintro e w6 ⟨id,rfl,p1,p2,p3,t6,o6⟩;obtain ⟨LK,hLK⟩:∃ LK,LK=Zz (⟨lv,[],r⟩:Nd):=⟨_,rfl⟩;rw [<- hLK];have sO6:=o6.size
   have rw6:Row (fun g=>¬ Gro O' wr w6 g/\w1.heap.size<=g) w6 128 2 (.slice va nk vc) ks.length (ZH ks):=by
    refine ⟨(HRW.out.onl o6 (fun g hg=>(HRW.out.2 g hg).1)).1,fun g hg=>⟨fun q=>?_,(HRW.out.2 g hg).2⟩⟩;rcases q with q | q
    ·exact (HRW.out.2 g hg).1 q
    ·have:=HRW.out.lt g hg;have:=q.1;omega
   obtain ⟨w7,hw7⟩:∃ w7,w7=w6.alloc (.cells #[.string LK,.int .u64 (id:Int)] 128):=⟨_,rfl⟩;have b7:Below w6.heap.size w6 w7:=by rw [hw7];exact (Below.refl _ w6).alloc (Nat.le_refl _) _
   have rw7:=rw6.onl (F:=fun _=>False) (Onl.ofBelow b7) (fun _ _ q=>q);have t7:=t6.below b7;have k7:Ob w7 w6.heap.size 128 [.string LK,.int .u64 (id:Int)]:=by rw [hw7];exact Ob.new w6 [.string LK,.int .u64 (id:Int)] 128
   have s7:w7.heap.size=w6.heap.size+1:=by rw [hw7];simp
   have hkc:ks.length<=1000000:=by have:=HKD.out.1;rw [this];omega
   have o7:Onl O' wr w7:=o6.trans (Onl.ofBelow b7);have q0:=k7.cell 0;have q1:=k7.cell 1;simp only [List.getElem?_cons_zero,List.getElem?_cons_succ] at q0 q1;obtain ⟨v8,w8,RR,r8,o8⟩:=app_Ki rw7 hkc ⟨LK,id⟩;simp only at RR;have f8:=r8.form;obtain ⟨va8,vc8,hva8,_⟩:=f8;subst hva8;obtain ⟨n8,hn8⟩:∃ n8,n8=(ks++[(⟨LK,id⟩:Ki)]).length:=⟨_,rfl⟩;rw [<- hn8] at RR r8;have HN8:=Za hn8;obtain ⟨x1,x2,x3⟩:=Zi RR;rw [s7] at x1 x2 x3
   have HF:Hid (∃ (ks8:List Ki) (O8:Nat->Prop),n8=ks8.length/\Row (fun g=>¬ O8 g/\w1.heap.size<=g) w8 128 2 (.slice va8 n8 vc8) ks8.length (ZH ks8)/\Kids (Zp T (ns.take (k+1))) (ns.take (k+1)) ks8/\TSw w w8 s O8 (Zp T (ns.take (k+1))) (m+Zy (ns.take (k+1)))/\(∀ i,O8 i->O i\/w1.heap.size<=i)/\Onl O w1 w8):=by
    refine Za ⟨ks++[⟨LK,id⟩],Gro O' wr w6,HN8.out,?_,?_,?_,?_,?_⟩
    ·rw [<- HN8.out];refine r8.mono (fun i q=>?_);rcases q with q | q
     ·exact q
     ·subst q;exact ⟨fun z=>by have:=t7.hi _ z;omega,by omega⟩
    ·rw [HTK.out,putNs_snoc];exact HKD.out.snoc hLK p1 p2
    ·rw [HTK.out,putNs_snoc,pagesN_append,HP1.out,<- Nat.add_assoc];exact t7.onl o8 (fun i q z=>z.1 q) (fun i q=>by have:=q.2;have:=HW1.out.bel.size;omega)
    ·intro i q;rcases q with q | q
     ·exact HSUB.out i q
     ·exact .inr (by have:=q.1;omega)
    ·exact (HON.out.more o7 (fun i q=>HSUB.out i q)).more o8 (fun i q=>.inr q.2)
   have HX:=Za (And.intro p1 (And.intro p2 p3));clear RR r8 o8 p1 p2 p3 t6 o6 o7 rw6 rw7 t7 k7 b7 hLK hn8 HRW HKD HTS HSUB HON;subst hw7;go_wp2;go_roundw
   case rel =>
    obtain ⟨ks8,O8,a0,a1,a2,a3,a4,a5⟩:=HF.out;exact ⟨k+1,ks8,O8,va8,n8,vc8,by omega,by simp,rfl,Za a0,Za a1,Za a2,Za a3,Za a4,Za a5⟩
   case measure=>simp [intOf];omega
  ·obtain rfl:k=nr:=by omega
   have HF:Hid (TKids w W s O T m ns (.returned (.tuple #[.slice va nk vc,.int .i64 0])) wr):=by
    have htn:ns.take k=ns:=List.take_of_length_le (by rw [HNL.out];omega);have h1:=HRW.out;have h2:=HKD.out;have h3:=HTS.out;rw [htn] at h2 h3;refine Za ⟨.slice va nk vc,ks,O',rfl,h1.mono (fun i q=>⟨q.1,by omega⟩),h2,h3,fun i q=>(HSUB.out i q).imp id (fun z=>by omega),?_⟩;exact (Onl.ofBelow (HB1.out.trans (HB2.out.mono (by omega)))).trans HON.out
   clear HRW HKD HTS HSUB HON;go_wp2;refine bodyPost_ret (by simp [results,Tryz.results61,go_sem];rfl) rfl ?_;exact HF.out
end
theorem bytes_of_list {a b:ByteArray} (h:a.toList=b.toList):a=b:=by
 rw [ByteArray.toList_eq,ByteArray.toList_eq] at h;exact ByteArray.ext (Array.ext' h)
open Classical in
theorem neqEn (f g:En) (w:World):(binOp .neq 43 (.agg #[.string f.k,.string f.v]) (.agg #[.string g.k,.string g.v])).run Tryz.prog w=.ok (.bool (!decide (f=g))) w:=by
 have u9:=Tryz.underlying9;have hS:Tryz.prog.underlying 43=some (.struct (Tryz.prog.fieldsOf 43)):=by kernel_rfl
 have hp:Tryz.prog.stoodInHeld 43=false:=by kernel_rfl
 rw [run_neq_struct,show (10000:Nat)=9999+1 from rfl,run_equalIn_agg w 9999 43 _ _ hS hp];simp only [Program.fieldsOf,Tryz.underlying43];go_simp;obtain ⟨fk,fv⟩:=f;obtain ⟨gk,gv⟩:=g;simp only;by_cases h1:fk=gk
 ·by_cases h2:fv=gv
  ·simp [h1,h2]
  ·have h2':¬ fv.toList=gv.toList:=fun e=>h2 (bytes_of_list e)
   simp [h1,h2,h2']
 ·have h1':¬ fk.toList=gk.toList:=fun e=>h1 (bytes_of_list e)
  simp [h1,h1']
open Classical in
theorem sameEn_any (a:Option Addr) (acap:Nat) (l:List En) (b:Option Addr) (bcap:Nat) (m:List En) (w:World) (ha:RdEn w a l) (hb:RdEn w b m) (hl:l.length<=9223372036854775807) :
  Calls Tryz.prog 24 #[.slice a l.length acap,.slice b m.length bcap] w fun e w'=>e=.returned (.bool (decide (l=m)))/\Below w.heap.size w w':=by
 have hA:=Za ha;have hB:=Za hb;clear ha hb;by_cases hlen:l.length=m.length
 ·rw [<- hlen];have HL:=Za hlen;clear hlen;go_enter Tryz.func24,Tryz.ntmps24
  go_wp2;go_loopw [13] (fun i wr=>∃ k:Nat,k<=l.length/\i=.int .i64 k/\Hid (l.take k=m.take k)/\Below w.heap.size w wr) (fun i _=>l.length - (intOf i).toNat)
  case atStart=>exact ⟨0,Nat.zero_le _,rfl,rfl,Below.refl _ _⟩
  case round =>
   obtain ⟨k,hk,rfl,hE,hbr⟩:=hrel;by_cases hlt:k < l.length
   ·have hz:l[k]?=some l[k]:=List.getElem?_eq_getElem hlt
    have hlt2:k < m.length:=by rw [<- HL.out];exact hlt
    have hy:m[k]?=some m[k]:=List.getElem?_eq_getElem hlt2
    generalize l[k]=f at hz;generalize m[k]=g at hy;obtain ⟨p,off,rfl,c0,c1⟩:=(hA.out.below hbr) k f hz;obtain ⟨p',off',rfl,d0,d1⟩:=(hB.out.below hbr) k g hy;have HZ:=Za hz;have HY:=Za hy;clear hz hy;have hm:Tryz.prog.eqGuardType Tryz.prog.depth 43=false:=by kernel_rfl
    have hcmp:=neqEn f g;by_cases hfg:f=g
    ·subst hfg;simp only [decide_true,Bool.not_true] at hcmp
     have hE':Hid (l.take (k+1)=m.take (k+1)):=by
      show _=_
      rw [List.take_add_one,List.take_add_one,HZ.out,HY.out,hE.out]
     go_wp2;go_quiet (fail)
     go_wp2;go_roundw
     case rel=>exact ⟨k+1,by omega,by go_num,hE',below_drewN hbr _⟩
     case measure=>simp [intOf];omega
    ·have hd:decide (f=g)=false:=by simp [hfg]
     simp only [hd,Bool.not_false] at hcmp
     have hE':Hid (l≠m):=by
      intro e;have h1:=HZ.out;rw [e,HY.out] at h1;exact hfg (by cases h1;rfl)
     go_wp2;go_quiet (fail)
     go_wp2;go_ret
     exact ⟨by simp [hE'.out],below_drewN hbr _⟩
   ·have hE':Hid (l=m):=by
     have h1:=hE.out;rw [List.take_of_length_le (by omega),List.take_of_length_le (by rw [<- HL.out];omega)] at h1;exact h1
    go_wp2;go_ret
    exact ⟨by simp [hE'.out],hbr⟩
 ·have hne:l≠m:=fun e=>hlen (by rw [e])
  have hN:=Za hne;have hlb:((l.length:Int) == (m.length:Int))=false:=by simp;omega
  clear hne;go_enter Tryz.func24,Tryz.ntmps24
  go_wp2;go_ret
  exact ⟨by simp [hN.out],Below.refl _ _⟩
end Go.Proofs.YtdhebpnkfookcaaGreat
