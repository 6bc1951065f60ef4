import Derived.Test.YtdhebpnkfookcaaGreatSM34
set_option maxRecDepth 100000
set_option maxHeartbeats 8000000
namespace Go.Proofs.YtdhebpnkfookcaaGreat
section
open Go.RowKit Apo
noncomputable def loadT (T:List (List Int)) (id:Nat):Nd × Int:=if (getT T id).2≠0 then (⟨0,[],[]⟩,(getT T id).2) else nodeOf (getT T id).1
theorem TxOk.get {T:List (List Int)} (h:TxOk T) (id:Nat):InB (getT T id).1/\(getT T id).1.length<=49152:=by
 unfold getT;split
 ·exact ⟨fun z hz=>by simp at hz,by simp⟩
 ·split
  ·next t ht=>exact h t (List.mem_of_getElem? ht)
  ·exact ⟨fun z hz=>by simp at hz,by simp⟩
def ldV (s:Nat):Value:=.func (.func 41) #[.pointer (some ⟨s,0,none⟩)] #[]
theorem fin_ldn {W:World} {g:Nat} {c0 c1 c2:Value} {er:Int} {tmps:Array Value} {Q:Ending->World->Prop} (k:Ob W g 90 [c0,c1,c2]) (h4:tmps.getD 4 undef=.pointer (some ⟨g,0,none⟩)) (h5:tmps.getD 5 undef=.int .i64 er) (hq:Q (.returned (.tuple #[.agg #[c0,c1,c2],.int .i64 er])) W) :
  bodyPost Tryz.prog Tryz.f43 Q Exit.ret { tmps:=tmps,defers:=[] } W:=by
 have hl:=run_loadVar_row (P:=Tryz.prog) W g 90 90 #[c0,c1,c2] (0,0) _ k Tryz.underlying90 rfl (by rw [size_node];rfl);have h4':tmps[4]?.getD undef=.pointer (some ⟨g,0,none⟩):=by simpa using h4
 have h5':tmps[5]?.getD undef=.int .i64 er:=by simpa using h5
 refine bodyPost_ret (v:=.tuple #[.agg #[c0,c1,c2],.int .i64 er]) ?_ rfl hq;simp [results,Tryz.results43,asAddr,h4',h5',hl]
theorem fin_tld {W:World} {g:Nat} {c0 c1 c2:Value} {er:Int} {tmps:Array Value} {Q:Ending->World->Prop} (k:Ob W g 90 [c0,c1,c2]) (h4:tmps.getD 6 undef=.pointer (some ⟨g,0,none⟩)) (h5:tmps.getD 7 undef=.int .i64 er) (hq:Q (.returned (.tuple #[.agg #[c0,c1,c2],.int .i64 er])) W) :
  bodyPost Tryz.prog Tryz.f156 Q Exit.ret { tmps:=tmps,defers:=[] } W:=by
 have hl:=run_loadVar_row (P:=Tryz.prog) W g 90 90 #[c0,c1,c2] (0,0) _ k Tryz.underlying90 rfl (by rw [size_node];rfl);have h4':tmps[6]?.getD undef=.pointer (some ⟨g,0,none⟩):=by simpa using h4
 have h5':tmps[7]?.getD undef=.int .i64 er:=by simpa using h5
 refine bodyPost_ret (v:=.tuple #[.agg #[c0,c1,c2],.int .i64 er]) ?_ rfl hq;simp [results,Tryz.results156,asAddr,h4',h5',hl]
theorem tload_any {w W:World} {s m:Nat} {O:Nat->Prop} {T:List (List Int)} (h:TSw w W s O T m) (hT:T.length<=16000) (hx:TxOk T) (id:Nat) (hid:id < 18446744073709551616) :
  Calls Tryz.prog 43 #[ldV s,.int .u64 id] W (NoP W (loadT T id).1 (loadT T id).2):=by
 obtain ⟨W1,hW1⟩:∃ W1,W1=W.alloc (.cells #[.int .i64 0,.slice none 0 0,.slice none 0 0] 90):=⟨_,rfl⟩;have b1:Below W.heap.size W W1:=by rw [hW1];exact (Below.refl _ W).alloc (Nat.le_refl _) _
 have s1:W1.heap.size=W.heap.size+1:=by rw [hW1];simp
 have k1:Ob W1 W.heap.size 90 [.int .i64 0,.slice none 0 0,.slice none 0 0]:=by rw [hW1];exact Ob.new W [.int .i64 0,.slice none 0 0,.slice none 0 0] 90
 have C1:=tget_any (h.below b1) hT id hid;obtain ⟨tb,tl⟩:=hx.get id;simp only [ldV];have HB1:=Za b1;have HK1:=Za k1;have HC1:=Za C1;have HTB:=Za tb;unfold loadT;obtain ⟨⟨t,er⟩,hg⟩:∃ g,g=getT T id:=⟨_,rfl⟩;unfold TGet at HC1;rw [<- hg] at HC1 HTB tl ⊢;simp only at HC1 HTB tl ⊢;clear b1 k1 C1 tb h hx hg;by_cases he:er=0
 ·subst he;rw [if_neg (by simp)];obtain ⟨nb,hnb⟩:∃ nb,nb=t.length:=⟨_,rfl⟩;obtain ⟨NN,hNN⟩:∃ NN,NN=nodeOf t:=⟨_,rfl⟩;rw [<- hNN];go_enter Tryz.func43,Tryz.ntmps43
  go_wp2_with fail
  rw [<- hW1];clear hW1;refine HC1.out.mono ?_;rintro e w2 ⟨v,rfl,⟨va,vc,rfl,r2,r3,r4,r5⟩,b2⟩;have s2:=b2.size;have C3:=of_node w2 va vc t r2 r3 HTB.out tl;rw [<- hNN] at C3;rw [<- hnb] at C3 ⊢;have HC3:=Za C3;have HB2:=Za b2;clear C3 b2 r2 r3 r4 r5 hnb hNN;go_wp2_with fail
  refine HC3.out.mono ?_;rintro e w3 ⟨x,hxn,ok,nw,rfl,b3⟩;have s3:=b3.size;have k3:=(HK1.out.old HB2.out).old b3;obtain ⟨⟨lv,es,ks⟩,ea,ec,ka,kc⟩:=x;simp only [NdA.cells] at hxn ⊢;obtain ⟨ne,hne⟩:∃ ne,ne=es.length:=⟨_,rfl⟩;obtain ⟨nk,hnk⟩:∃ nk,nk=ks.length:=⟨_,rfl⟩;rw [<- hne,<- hnk];obtain ⟨w4,hw4⟩:∃ w4,w4=((w3.setCell ⟨W.heap.size,0,none⟩ (.int .i64 lv)).setCell ⟨W.heap.size,1,none⟩ (.slice ea ne ec)).setCell ⟨W.heap.size,2,none⟩ (.slice ka nk kc):=⟨_,rfl⟩
  have o4:Onl (fun i=>i=W.heap.size) w3 w4:=by
   rw [hw4];exact (((Onl.refl (fun i=>i=W.heap.size) w3).set (p:=W.heap.size) (.inl rfl) _).set (p:=W.heap.size) (.inl rfl) _).set (p:=W.heap.size) (.inl rfl) _
  have k4:Ob w4 W.heap.size 90 [.int .i64 lv,.slice ea ne ec,.slice ka nk kc]:=by
   rw [hw4];exact ((k3.set 0 _).set 1 _).set 2 _
  have HF:Hid (NoP W NN.1 NN.2 (.returned (.tuple #[.agg #[.int .i64 lv,.slice ea ne ec,.slice ka nk kc],.int .i64 NN.2])) w4):=by
   refine Za ⟨⟨⟨lv,es,ks⟩,ea,ec,ka,kc⟩,hxn,OkN.off ok o4 ⟨fun y hy _ q=>?_,fun y hy _ q=>?_⟩,⟨fun y hy=>Nat.le_trans (by omega) (nw.1 y hy),fun y hy=>Nat.le_trans (by omega) (nw.2 y hy)⟩,by rw [hne,hnk];rfl,?_⟩
   ·have:=nw.1 y hy;omega
   ·have:=nw.2 y hy;omega
   ·exact Below.onl (HB1.out.trans ((HB2.out.mono (by omega)).trans (b3.mono (by omega)))) o4 (fun i q=>by omega) (Nat.le_refl _)
  have c0:=k3.cell 0;have c1:=k3.cell 1;have c2:=k3.cell 2;have f0:=k3.frozen 0;have f1:=k3.frozen 1;have f2:=k3.frozen 2;simp only [List.getElem?_cons_zero,List.getElem?_cons_succ] at c0 c1 c2;have HK4:=Za k4;rw [hw4] at HF HK4;clear k3 k4 o4 ok nw b3 hne hnk hxn hw4;go_wp2;exact fin_ldn HK4.out rfl rfl HF.out
 ·rw [if_pos he];have hb:(er != 0)=true:=by simpa using he
  have HE:=Za he;clear he;go_enter Tryz.func43,Tryz.ntmps43
  go_wp2_with fail
  rw [<- hW1];clear hW1;refine HC1.out.mono ?_;rintro e w2 ⟨v,rfl,⟨va,vc,rfl,r2,r3,r4,r5⟩,b2⟩;have s2:=b2.size;have k3:=HK1.out.old b2;obtain ⟨w4,hw4⟩:∃ w4,w4=((w2.setCell ⟨W.heap.size,0,none⟩ (.int .i64 0)).setCell ⟨W.heap.size,1,none⟩ (.slice none 0 0)).setCell ⟨W.heap.size,2,none⟩ (.slice none 0 0):=⟨_,rfl⟩
  have o4:Onl (fun i=>i=W.heap.size) w2 w4:=by
   rw [hw4];exact (((Onl.refl (fun i=>i=W.heap.size) w2).set (p:=W.heap.size) (.inl rfl) _).set (p:=W.heap.size) (.inl rfl) _).set (p:=W.heap.size) (.inl rfl) _
  have k4:Ob w4 W.heap.size 90 [.int .i64 0,.slice none 0 0,.slice none 0 0]:=by
   rw [hw4];exact ((k3.set 0 _).set 1 _).set 2 _
  have HF:Hid (NoP W ⟨0,[],[]⟩ er (.returned (.tuple #[.agg #[.int .i64 0,.slice none 0 0,.slice none 0 0],.int .i64 er])) w4):=by
   refine Za ⟨zeroN,rfl,okN_zero _,⟨fun y hy=>(by cases hy),fun y hy=>(by cases hy)⟩,rfl,?_⟩;exact Below.onl (HB1.out.trans (b2.mono (by omega))) o4 (fun i q=>by omega) (Nat.le_refl _)
  have c0:=k3.cell 0;have c1:=k3.cell 1;have c2:=k3.cell 2;have f0:=k3.frozen 0;have f1:=k3.frozen 1;have f2:=k3.frozen 2;simp only [List.getElem?_cons_zero,List.getElem?_cons_succ] at c0 c1 c2;have HK4:=Za k4;rw [hw4] at HF HK4;obtain ⟨nb,hnb⟩:∃ nb,nb=t.length:=⟨_,rfl⟩;rw [<- hnb];clear k3 k4 o4 b2 hw4 r2 r3 r4 r5 hnb;go_wp2;exact fin_ldn HK4.out rfl rfl HF.out
theorem ttold_any {w W:World} {s m:Nat} {O:Nat->Prop} {T:List (List Int)} (h:TSw w W s O T m) (hT:T.length<=16000) (hx:TxOk T) (kk:ByteArray) (ki:Nat) (hid:ki < 18446744073709551616) (n:Nd) (hl:loadT T ki=(n,0)) (hk:Zz n=kk) (hse:n.es.length<=1000000) (hsk:n.ks.length<=1000000) :
  Calls Tryz.prog 156 #[ldV s,.agg #[.string kk,.int .u64 ki],.int .i64 n.lv] W (NoP W n 0):=by
 obtain ⟨W1,hW1⟩:∃ W1,W1=W.alloc (.cells #[.string kk,.int .u64 ki] 128):=⟨_,rfl⟩;obtain ⟨W2,hW2⟩:∃ W2,W2=W1.alloc (.cells #[.int .i64 0,.slice none 0 0,.slice none 0 0] 90):=⟨_,rfl⟩;have s1:W1.heap.size=W.heap.size+1:=by rw [hW1];simp
 have s2:W2.heap.size=W.heap.size+2:=by rw [hW2];simp [s1]
 have k1:Ob W1 W.heap.size 128 [.string kk,.int .u64 ki]:=by rw [hW1];exact Ob.new W [.string kk,.int .u64 ki] 128
 have k2:Ob W2 (W.heap.size+1) 90 [.int .i64 0,.slice none 0 0,.slice none 0 0]:=by rw [hW2,<- s1];exact Ob.new W1 [.int .i64 0,.slice none 0 0,.slice none 0 0] 90
 have b1:Below W.heap.size W W1:=by rw [hW1];exact (Below.refl _ W).alloc (Nat.le_refl _) _
 have b2:Below W.heap.size W W2:=by rw [hW2];exact b1.alloc (by omega) _
 have b12:Below W1.heap.size W1 W2:=by rw [hW2];exact (Below.refl _ W1).alloc (Nat.le_refl _) _
 have k1':=k1.old b12;have C1:=tload_any (h.below b2) hT hx ki hid;rw [hl] at C1;simp only at C1;have d0:=k1'.cell 0;have d1:=k1'.cell 1;simp only [List.getElem?_cons_zero,List.getElem?_cons_succ] at d0 d1;have HK1:=Za k1';have HK2:=Za k2;have HB2:=Za b2;have HC1:=Za C1;have HKK:=Za hk;have HSE:=Za hse;have HSK:=Za hsk;obtain ⟨LV,hLV⟩:∃ LV,LV=n.lv:=⟨_,rfl⟩;have HLV:=Za hLV;rw [<- hLV];clear k1 k1' k2 b1 b2 b12 C1 h hx hl hk hse hsk hLV;simp only [ldV] at HC1 ⊢;go_enter Tryz.func156,Tryz.ntmps156
 go_wp2_with fail
 rw [<- hW1,<- hW2];clear hW1 hW2;refine HC1.out.mono ?_;rintro e w3 ⟨x,hxn,ok,nw,rfl,b3⟩;have hll:x.n.lv=LV:=by rw [hxn,HLV.out]
 have hkl:Zz x.n=kk:=by rw [hxn];exact HKK.out
 have hse:x.n.es.length<=1000000:=by rw [hxn];exact HSE.out
 have hsk:x.n.ks.length<=1000000:=by rw [hxn];exact HSK.out
 have HXN:=Za hxn;have s3:=b3.size;obtain ⟨⟨lv,es,ks⟩,ea,ec,ka,kc⟩:=x;simp only [NdA.cells] at hll ⊢;subst hll;obtain ⟨ne,hne⟩:∃ ne,ne=es.length:=⟨_,rfl⟩;obtain ⟨nk,hnk⟩:∃ nk,nk=ks.length:=⟨_,rfl⟩;rw [<- hne,<- hnk];have hcs:(⟨⟨lv,es,ks⟩,ea,ec,ka,kc⟩:NdA).cells.toArray=#[.int .i64 lv,.slice ea ne ec,.slice ka nk kc]:=by rw [hne,hnk];rfl
 obtain ⟨W4,hW4⟩:∃ W4,W4=w3.alloc (.cells #[.int .i64 lv,.slice ea ne ec,.slice ka nk kc] 90):=⟨_,rfl⟩;have s4:W4.heap.size=w3.heap.size+1:=by rw [hW4];simp
 have b4:Below w3.heap.size w3 W4:=by rw [hW4];exact (Below.refl _ w3).alloc (Nat.le_refl _) _
 have k4:Ob W4 w3.heap.size 90 [.int .i64 lv,.slice ea ne ec,.slice ka nk kc]:=by rw [hW4];exact Ob.new w3 [.int .i64 lv,.slice ea ne ec,.slice ka nk kc] 90
 have kd4:=(HK1.out.old b3).old b4;have kr4:=(HK2.out.old b3).old b4;have ok4:=ok.below b4;have CL:=last_any W4.drew _ (ok4.below ((Below.refl _ W4).drew)) hse hsk;rw [hcs,hkl] at CL;have y0:=k4.cell 0;have y1:=k4.cell 1;have y2:=k4.cell 2;have z0:=kd4.cell 0;simp only [List.getElem?_cons_zero,List.getElem?_cons_succ] at y0 y1 y2 z0;have hq1:w3.heap.size < W4.drew.heap.size:=k4.lt;have hq2:W.heap.size < W4.drew.heap.size:=kd4.lt;have HCL:=Za CL;have HK4:=Za k4;have HKR4:=Za kr4;have HOK4:=Za ok4;have HNW:=Za nw;have HNN:=Za (And.intro hne hnk);have HB34:=Za (HB2.out.trans ((b3.mono (by omega)).trans (b4.mono (by omega))));clear CL k4 kd4 kr4 ok4 ok nw b3 b4 hcs hkl hse hsk hxn HC1 d0 d1 hne hnk;go_wp2;rw [<- hW4];clear hW4
 go_region_held3 (fun W'=>W'.cell? ⟨w3.heap.size,0,none⟩=some (.int .i64 lv)/\W'.cell? ⟨w3.heap.size,1,none⟩=some (.slice ea ne ec)/\W'.cell? ⟨w3.heap.size,2,none⟩=some (.slice ka nk kc)/\W'.cell? ⟨W.heap.size,0,none⟩=some (.string kk)) (go_keep) (first
  | (go_at_call 105;refine HCL.out.mono ?_;rintro e w5 ⟨rfl,b5⟩;have v0:=(b5.cell (p:=⟨w3.heap.size,0,none⟩) hq1).trans y0;have v1:=(b5.cell (p:=⟨w3.heap.size,1,none⟩) hq1).trans y1;have v2:=(b5.cell (p:=⟨w3.heap.size,2,none⟩) hq1).trans y2;have v3:=(b5.cell (p:=⟨W.heap.size,0,none⟩) hq2).trans z0;have HB5:=Za b5;clear b5))
 have s5:W4.heap.size<=w5.heap.size:=HB5.out.size;have kr5:=Ob.old (w:=W4.drew) HKR4.out HB5.out;have ok5:=OkN.below (HOK4.out.below ((Below.refl _ W4).drew)) HB5.out;obtain ⟨w6,hw6⟩:∃ w6,w6=((w5.setCell ⟨W.heap.size+1,0,none⟩ (.int .i64 lv)).setCell ⟨W.heap.size+1,1,none⟩ (.slice ea ne ec)).setCell ⟨W.heap.size+1,2,none⟩ (.slice ka nk kc):=⟨_,rfl⟩
 have o6:Onl (fun i=>i=W.heap.size+1) w5 w6:=by
  rw [hw6];exact (((Onl.refl (fun i=>i=W.heap.size+1) w5).set (p:=W.heap.size+1) (.inl rfl) _).set (p:=W.heap.size+1) (.inl rfl) _).set (p:=W.heap.size+1) (.inl rfl) _
 have k6:Ob w6 (W.heap.size+1) 90 [.int .i64 lv,.slice ea ne ec,.slice ka nk kc]:=by
  rw [hw6];exact ((kr5.set 0 _).set 1 _).set 2 _
 have HF:Hid (NoP W n 0 (.returned (.tuple #[.agg #[.int .i64 lv,.slice ea ne ec,.slice ka nk kc],.int .i64 0])) w6):=by
  have nw:=HNW.out;refine Za ⟨_,HXN.out,OkN.off ok5 o6 ⟨fun y hy _ q=>?_,fun y hy _ q=>?_⟩,⟨fun y hy=>Nat.le_trans (by omega) (nw.1 y hy),fun y hy=>Nat.le_trans (by omega) (nw.2 y hy)⟩,by rw [HNN.out.1,HNN.out.2];rfl,?_⟩
  ·have:=nw.1 y hy;omega
  ·have:=nw.2 y hy;omega
  ·exact Below.onl (HB34.out.drew.trans (HB5.out.mono (by show W.heap.size<=W4.heap.size;omega))) o6 (fun i q=>by omega) (Nat.le_refl _)
 have c0:=kr5.cell 0;have c1:=kr5.cell 1;have c2:=kr5.cell 2;have f0:=kr5.frozen 0;have f1:=kr5.frozen 1;have f2:=kr5.frozen 2;simp only [List.getElem?_cons_zero,List.getElem?_cons_succ] at c0 c1 c2;have HK6:=Za k6;rw [hw6] at HF HK6;clear kr5 k6 o6 ok5 hw6 y0 y1 y2 z0;go_wp2;exact fin_tld HK6.out rfl rfl HF.out
end
section
open Go.RowKit Go.Shelf Apo
attribute [local go_sem] Oper.semAt_some
structure TNod (T:List (List Int)) (id:Nat) (n:Nd):Prop where
 pos:1<=id
 lt:id < 18446744073709551616
 ld:loadT T id=(n,0)
 es:n.es.length<=1000000
 ks:n.ks.length<=1000000
 ok:nodeE n=0
def IsT (T:List (List Int)):Nat->Nat->Nd->List (Nat × List En)->Prop
 | 0,id,n,ls=>TNod T id n/\n.lv=0/\ls=[(id,n.es)]
 | l+1,id,n,ls=>TNod T id n/\n.lv=((l+1:Nat):Int)/\l < 100/\∃ (ns:List Nd) (lss:List (List (Nat × List En))),ns.length=n.ks.length/\lss.length=n.ks.length/\(∀ (i:Nat) (k:Ki) (n':Nd) (x:List (Nat × List En)),n.ks[i]?=some k->ns[i]?=some n'->lss[i]?=some x->k.k=Zz n'/\IsT T l k.i n' x)/\ls=lss.flatten
theorem IsT.nod {T:List (List Int)}:∀ {l id:Nat} {n:Nd} {ls:List (Nat × List En)},IsT T l id n ls->TNod T id n/\n.lv=(l:Int)
 | 0,_,_,_,h=>⟨h.1,h.2.1⟩
 | _+1,_,_,_,h=>⟨h.1,h.2.1⟩
structure OkL (A:World) (ea:Option Addr) (ec:Nat) (es:List En):Prop where
 rd:RdEn A ea es
 nil:ea=none->ec=0
 len:es.length<=ec
 big:ec<=maxLen
 sz:∀ e ∈ es,e.k.size<=maxLen/\e.v.size<=maxLen
def Went (J:Nat->(Nat->Prop)->World->Prop) (k:Nat) (U:Nat->Prop) (A:World) (e:Ending) (A':World):Prop :=
 e=.returned (.bool true)/\∃ U',J k U' A'/\Onl U A A'/\∀ i,U' i->U i\/A.heap.size<=i
structure Hears (w:World) (s m:Nat) (O:Nat->Prop) (T:List (List Int)) (N:Nat) (it:Nat->Nat × List En) (lp:Nat) (J:Nat->(Nat->Prop)->World->Prop):Prop where
 bel:∀ k U A B,J k U A->Below A.heap.size A B->J k U B
 lt:∀ k U A,J k U A->∀ i,U i->i < A.heap.size
 st:∀ k U A,J k U A->TSw w A s O T m
 y:∀ k U A ea ec,J k U A->k < N->OkL A ea ec (it k).2->(∀ y,ea=some y->¬ U y.block)->∀ nn,YieldAt Fence.wide nn Tryz.prog lp #[.agg #[.int .u64 (it k).1,.slice ea (it k).2.length ec],.int .i64 0] A (Went J (k+1) U A)
section
variable {w:World} {s m:Nat} {O:Nat->Prop} {T:List (List Int)} {N:Nat} {it:Nat->Nat × List En} {lp:Nat} {J:Nat->(Nat->Prop)->World->Prop}
theorem under_in (H:Hears w s m O T N it lp J) (hT:T.length<=16000) (hx:TxOk T):∀ (l:Nat) (nn:Nat) (W:World) (x:NdA) (id:Nat) (ls:List (Nat × List En)) (k0:Nat) (U:Nat->Prop),IsT T l id x.n ls->J k0 U W->OkN W x->OffN U x->(∀ y,x.ea=some y->¬ U y.block)->(∀ i p,ls[i]?=some p->it (k0+i)=p)->k0+ls.length<=N ->
  CallsIn Fence.wide nn Tryz.prog 104 #[ldV s,.int .u64 id,.agg x.cells.toArray,.func (.yield lp) #[] #[]] W (Went J (k0+ls.length) U W):=by
 intro l;induction l with
 | zero =>
  intro nn W x id ls k0 U ht hj ok off offe hit hN;obtain ⟨hn,hlv,hls⟩:=ht;subst hls;have hit0:=hit 0 _ rfl;simp only [Nat.add_zero,List.length_cons,List.length_nil] at hit0 hN ⊢;obtain ⟨⟨lv,es,ks⟩,ea,ec,ka,kc⟩:=x;simp only [NdA.cells] at hlv hit0 ok off offe ⊢;subst hlv;obtain ⟨W1,hW1⟩:∃ W1,W1=W.alloc (.cells #[.int .i64 0,.slice ea es.length ec,.slice ka ks.length kc] 90):=⟨_,rfl⟩;have b1:Below W.heap.size W W1:=by rw [hW1];exact (Below.refl _ W).alloc (Nat.le_refl _) _
  have s1:W1.heap.size=W.heap.size+1:=by rw [hW1];simp
  have k1:Ob W1 W.heap.size 90 [.int .i64 0,.slice ea es.length ec,.slice ka ks.length kc]:=by rw [hW1];exact Ob.new W [.int .i64 0,.slice ea es.length ec,.slice ka ks.length kc] 90
  have y0:=k1.cell 0;have y1:=k1.cell 1;simp only [List.getElem?_cons_zero,List.getElem?_cons_succ] at y0 y1;have j1:=H.bel _ _ _ _ hj b1;have okx:OkL W1 ea ec (it k0).2:=by rw [hit0];exact ⟨ok.es.below b1,ok.en,ok.el,ok.eb,ok.sz⟩
  obtain ⟨fn,tmps,assign,body,hy,hRR⟩:=H.y k0 U W1 ea ec j1 (by omega) okx offe (nn - 1);rw [hit0] at hy;simp only at hy;have HF:Hid (∀ e A',Went J (k0+1) U W1 e A'->Went J (k0+1) U W e A'):=Za (fun e A' ⟨e1,U',a1,a2,a3⟩=>⟨e1,U',a1,(Onl.ofBelow b1).trans a2,fun i q=>(a3 i q).imp (fun z=>z) (fun z=>by omega)⟩);obtain ⟨ne,hne⟩:∃ ne,ne=es.length:=⟨_,rfl⟩;obtain ⟨nk,hnk⟩:∃ nk,nk=ks.length:=⟨_,rfl⟩;rw [<- hne] at hy y1 hW1 ⊢;rw [<- hnk] at hW1 ⊢;clear k1 b1 okx j1 hn hne hnk ok off offe hit hit0;subst hW1;refine callsIn_of_wp Tryz.func104 rfl trivial ?_ rfl;simp only [Tryz.ntmps104,List.size_toArray,List.length_cons,List.length_nil,Nat.reduceAdd,Nat.reduceSub,Array.replicate_succ,Array.replicate_zero,List.push_toArray,List.append_toArray,List.nil_append,List.cons_append];gi_wp2
  refine ⟨fun q=>(by cases q),hRR.mono ?_⟩;rintro e W3 ⟨rfl,hw⟩;have HFF:=Za (HF.out _ _ ⟨rfl,hw⟩);clear hw HF hRR hy y0 y1;gi_wp2
  go_ret
  exact HFF.out
 | succ l ih =>
  intro nn W x id ls k0 U ht hj ok off offe hit hN;obtain ⟨hn,hlv,hl100,ns,lss,hns,hlss,hch,hls⟩:=ht;have hks:=hn.ks;obtain ⟨⟨lv,es,ks⟩,ea,ec,ka,kc⟩:=x;simp only [NdA.cells] at hlv hch hns hlss hks ⊢;subst hlv;obtain ⟨ne,hne⟩:∃ ne,ne=es.length:=⟨_,rfl⟩;obtain ⟨nk,hnk⟩:∃ nk,nk=ks.length:=⟨_,rfl⟩;rw [<- hnk] at hns hlss hks;obtain ⟨LV,hLV⟩:∃ LV:Int,LV=((l+1:Nat):Int):=⟨_,rfl⟩;have hcs:(⟨⟨((l+1:Nat):Int),es,ks⟩,ea,ec,ka,kc⟩:NdA).cells=[.int .i64 LV,.slice ea ne ec,.slice ka nk kc]:=by rw [hne,hnk,hLV];rfl
  obtain ⟨W1,hW1⟩:∃ W1,W1=W.alloc (.cells #[.int .i64 LV,.slice ea ne ec,.slice ka nk kc] 90):=⟨_,rfl⟩;have b1:Below W.heap.size W W1:=by rw [hW1];exact (Below.refl _ W).alloc (Nat.le_refl _) _
  have s1:W1.heap.size=W.heap.size+1:=by rw [hW1];simp
  have k1:Ob W1 W.heap.size 90 [.int .i64 LV,.slice ea ne ec,.slice ka nk kc]:=by rw [hW1];exact Ob.new W [.int .i64 LV,.slice ea ne ec,.slice ka nk kc] 90
  have j1:=H.bel _ _ _ _ hj b1;have hul:=H.lt _ _ _ hj;have rk1:RdKi W1 ka ks:=ok.ks.below b1;have hkz:=ok.kz;have hoffk:=off.2;simp only at hkz hoffk;have hd0:(LV == 0)=false:=by simp;omega
  have hwl:IntKind.i64.wrap (LV - 1)=(l:Int):=by rw [IntKind.wrap_i64];omega
  have HLS:=Za hls;have HCH:=Za hch;have HIT:=Za hit;have HRK:=Za rk1;have HKZ:=Za hkz;have HOFF:=Za hoffk;have HB1:=Za b1;have HK1:=Za k1;have HUL:=Za hul;have HJ1:=Za j1;have HNK:=Za hnk;have HIH:=Za ih;have HH:=Za H;have HN:=Za hN;have HNS:=Za hns;have HLSS:=Za hlss;have y0:=k1.cell 0;have y2:=k1.cell 2;simp only [List.getElem?_cons_zero,List.getElem?_cons_succ] at y0 y2;rw [<- hne,<- hnk,<- hLV];simp only [ldV];clear hls hch hit rk1 hkz hoffk b1 k1 hul j1 hnk ih H hN hns hlss hn ok off offe hj hne hcs hLV;refine callsIn_of_wp Tryz.func104 rfl trivial ?_ rfl;simp only [Tryz.ntmps104,List.size_toArray,List.length_cons,List.length_nil,Nat.reduceAdd,Nat.reduceSub,Array.replicate_succ,Array.replicate_zero,List.push_toArray,List.append_toArray,List.nil_append,List.cons_append];gi_wp2
  rw [<- hW1];clear hW1;gi_loopw [25] (fun i wr=>∃ (k:Nat) (U':Nat->Prop),k<=nk/\i=.int .i64 k/\Hid (J (k0+(lss.take k).flatten.length) U' wr)/\Hid (Onl U W1 wr)/\Hid (∀ i,U' i->U i\/W1.heap.size<=i)) (fun i _=>nk - (intOf i).toNat)
  case atStart=>exact ⟨0,U,Nat.zero_le _,rfl,Za (by simpa using HJ1.out),Za (Onl.refl _ _),Za (fun i q=>.inl q)⟩
  case round =>
   obtain ⟨k,U',hk,rfl,HJ,HON,HSUB⟩:=hrel;by_cases hlt:k < nk
   ·obtain ⟨⟨kk,ki⟩,hkid⟩:∃ x,ks[k]?=some x:=⟨ks[k]'(by have:=HNK.out;omega),List.getElem?_eq_getElem _⟩;obtain ⟨n',hn'⟩:∃ x,ns[k]?=some x:=⟨ns[k]'(by have:=HNS.out;omega),List.getElem?_eq_getElem _⟩;obtain ⟨lk,hlk⟩:∃ x,lss[k]?=some x:=⟨lss[k]'(by have:=HLSS.out;omega),List.getElem?_eq_getElem _⟩;obtain ⟨hc1,hc2⟩:=HCH.out k _ n' lk hkid hn' hlk;obtain ⟨g,of,rfl,q1,q2⟩:=(RdKi.off HRK.out HON.out HOFF.out) k _ hkid;simp only at q1 q2 hc1 hc2;have hnod:=hc2.nod;have kbr:=HK1.out.onl HON.out (fun q=>by have:=HUL.out _ q;omega);obtain ⟨w2,hw2⟩:∃ w2,w2=wr.alloc (.cells #[.string kk,.int .u64 ki] 128):=⟨_,rfl⟩;have b2:Below wr.heap.size wr w2:=by rw [hw2];exact (Below.refl _ wr).alloc (Nat.le_refl _) _
    have s2:w2.heap.size=wr.heap.size+1:=by rw [hw2];simp
    have kd2:Ob w2 wr.heap.size 128 [.string kk,.int .u64 ki]:=by rw [hw2];exact Ob.new wr [.string kk,.int .u64 ki] 128
    have kb2:=kbr.old b2;have C2:=ttold_any ((HH.out.st _ _ _ HJ.out).below b2) hT hx kk ki hnod.1.lt n' hnod.1.ld hc1.symm hnod.1.es hnod.1.ks;rw [hnod.2] at C2;simp only [ldV] at C2;have e0:=kd2.cell 0;have e1:=kd2.cell 1;have e2:=kb2.cell 0;simp only [List.getElem?_cons_zero,List.getElem?_cons_succ] at e0 e1 e2;have htk:lss.take (k+1)=lss.take k++[lk]:=by rw [List.take_add_one,hlk];rfl
    have hlen:(lss.take (k+1)).flatten.length=(lss.take k).flatten.length+lk.length:=by rw [htk];simp
    have hsplit:ls=(lss.take k).flatten++(lk++(lss.drop (k+1)).flatten):=by
     have:lss=lss.take (k+1)++lss.drop (k+1):=(List.take_append_drop _ _).symm;rw [HLS.out];conv=>lhs;rw [this,htk]
     simp
    have hmore:∀ i p,lk[i]?=some p->it (k0+(lss.take k).flatten.length+i)=p:=fun i p hp=>by
     have hi:=(List.getElem?_eq_some_iff.1 hp).1
     have:ls[(lss.take k).flatten.length+i]?=some p:=by
      rw [hsplit,List.getElem?_append_right (by omega),show (lss.take k).flatten.length+i - (lss.take k).flatten.length=i by omega,List.getElem?_append_left hi];exact hp
     have:=HIT.out _ p this;rw [<- Nat.add_assoc] at this;exact this
    have hmN:k0+(lss.take k).flatten.length+lk.length<=N:=by
     have h1:=HN.out;rw [hsplit] at h1;simp only [List.length_append] at h1;omega
    have sr:=HON.out.size;have HC2:=Za C2;have HKD2:=Za kd2;have HB2:=Za b2;have HX2:=Za (And.intro hc2 (And.intro hmore (And.intro hmN hlen)));have HUL':=Za (HH.out.lt _ _ _ HJ.out);clear C2 kd2 kb2 b2 kbr hc1 hc2 hnod hkid hn' hlk htk hlen hsplit hmore hmN;rw [hw2] at e0 e1 e2;gi_wp2_with fail
    rw [<- hw2];clear hw2 e0 e1 e2;refine ⟨trivial,fun q=>(by cases q),(callsIn_wide.2 HC2.out).mono ?_⟩;rintro e w3 ⟨x',hx'n,ok',nw',rfl,b3⟩;have s3:=b3.size;obtain ⟨w4,hw4⟩:∃ w4,w4=w3.alloc (.cells x'.cells.toArray 90):=⟨_,rfl⟩;have b4:Below w3.heap.size w3 w4:=by rw [hw4];exact (Below.refl _ w3).alloc (Nat.le_refl _) _
    have s4:w4.heap.size=w3.heap.size+1:=by rw [hw4];simp
    have kx4:Ob w4 w3.heap.size 90 x'.cells:=by rw [hw4];exact Ob.new w3 x'.cells 90
    have kd4:=(HKD2.out.old b3).old b4;have b24:Below wr.heap.size wr w4:=HB2.out.trans ((b3.mono (by omega)).trans (b4.mono (by omega)));have C5:=HIH.out (nn - 1) w4 x' ki lk _ U' (by rw [hx'n];exact HX2.out.1) (HH.out.bel _ _ _ _ HJ.out b24) (ok'.below b4) ⟨fun y hy _ q=>by have:=nw'.1 y hy;have:=HUL'.out _ q;omega,fun y hy _ q=>by have:=nw'.2 y hy;have:=HUL'.out _ q;omega⟩ (fun y hy q=>by have:=nw'.1 y hy;have:=HUL'.out _ q;omega) HX2.out.2.1 HX2.out.2.2.1;have d0:=kd4.cell 0;have d1:=kd4.cell 1;have x0:=kx4.cell 0;have x1:=kx4.cell 1;have x2:=kx4.cell 2;simp only [ldV] at C5;obtain ⟨⟨lv',es',ks'⟩,ea',ec',ka',kc'⟩:=x';simp only [NdA.cells,List.getElem?_cons_zero,List.getElem?_cons_succ] at d0 d1 x0 x1 x2 C5 hw4 ⊢;obtain ⟨ne',hne'⟩:∃ ne',ne'=es'.length:=⟨_,rfl⟩;obtain ⟨nk',hnk'⟩:∃ nk',nk'=ks'.length:=⟨_,rfl⟩;rw [<- hne'] at x1 C5 hw4 ⊢;rw [<- hnk'] at x2 C5 hw4 ⊢;have HC5:=Za C5;have HB24:=Za b24;have hw4':w4=w3.alloc (.cells #[.int .i64 lv',.slice ea' ne' ec',.slice ka' nk' kc'] 90):=hw4;clear C5 b24 kd4 kx4 b3 b4 ok' nw' hx'n hne' hnk' hw4 q1 q2;rw [hw4'] at d0 d1 x0 x1 x2;gi_wp2_with fail
    rw [<- hw4'];clear hw4';refine ⟨trivial,fun q=>(by cases q),HC5.out.mono ?_⟩;rintro e w5 ⟨rfl,U5,j5,o5,u5⟩
    have HF:Hid (J (k0+(lss.take (k+1)).flatten.length) U5 w5/\Onl U W1 w5/\∀ i,U5 i->U i\/W1.heap.size<=i):=by
     refine Za ⟨?_,?_,?_⟩
     ·rw [HX2.out.2.2.2,<- Nat.add_assoc];exact j5
     ·exact ((HON.out.trans (Onl.ofBelow HB24.out)).more o5 (fun i q=>HSUB.out i q))
     ·intro i q;rcases u5 i q with z | z
      ·exact HSUB.out i z
      ·exact .inr (by omega)
    clear j5 o5 u5 HX2 HJ HON HSUB HUL' d0 d1 x0 x1 x2;gi_wp2
    go_roundw
    case rel =>
     obtain ⟨a1,a2,a3⟩:=HF.out;exact ⟨k+1,U5,by omega,by simp,Za a1,Za a2,Za a3⟩
    case measure=>simp [intOf];omega
   ·obtain rfl:k=nk:=by omega
    have HF:Hid (Went J (k0+ls.length) U W (.returned (.bool true)) wr):=by
     have h1:=HJ.out;rw [List.take_of_length_le (by rw [HLSS.out];omega),<- HLS.out] at h1;exact Za ⟨rfl,U',h1,(Onl.ofBelow HB1.out).trans HON.out,fun i q=>(HSUB.out i q).imp (fun z=>z) (fun z=>by omega)⟩
    clear HJ HON HSUB;gi_wp2
    go_ret
    exact HF.out
end
end
end Go.Proofs.YtdhebpnkfookcaaGreat
namespace Apo
open Go Go.RowKit
def recL (fn:FuncId) (tmps:Array Value) (ps:Array Tmp) (assign body:Code) (d:Nat):Loop:={ state:=.ready,pending:=none,fn,tmps,params:=ps,assign,body,defers:=d }
def LpAt (d:Nat) (r:Loop) (W:World):Prop:=W.heap[d+1]?=some (.loop r)/\W.heap[d]?=some (.deferred (some []))
theorem LpAt.onl {d:Nat} {r:Loop} {F:Nat->Prop} {A B:World} (h:LpAt d r A) (o:Onl F A B) (h1:¬ F d) (h2:¬ F (d+1)):LpAt d r B :=
 ⟨(o.block _ (Array.getElem?_eq_some_iff.1 h.1).1 h2).trans h.1,(o.block _ (Array.getElem?_eq_some_iff.1 h.2).1 h1).trans h.2⟩
theorem LpAt.below {d:Nat} {r:Loop} {A B:World} (h:LpAt d r A) (b:Below A.heap.size A B):LpAt d r B:=h.onl (F:=fun _=>False) (Onl.ofBelow b) id id
theorem yield_hear {P:Program} {nn d:Nat} {r rb:Loop} {asg bdy:Code} {ps:Array Tmp} {tm:Array Value} {args:Array Value} {A:World} {R:World->Prop} (hrb:rb={ r with state:=.busy }) (hr1:r.state=.ready) (hr2:r.pending=none) (ha:r.assign=asg) (hb:r.body=bdy) (hpa:r.params=ps) (htm:r.tmps=tm) (hl:LpAt d r A) (hs:args.size=ps.size)
  (h:asg.wpIn (Fence.wide.inRound (d+1)) nn P (Exit.then (fun a1 w1=>LpAt d r w1/\bdy.wpIn (Fence.wide.inRound (d+1)) nn P (fun e _ w3=>e=.normal/\w3.heap[d+1]?=some (.loop rb)/\R (w3.putObj (d+1) (.loop r))) a1 (w1.putObj (d+1) (.loop rb))) (fun _ _ _=>False))
    { tmps:=(ps.zip args).foldl (fun tmps (t,a)=>tmps.setIfInBounds t a) tm,defers:=[] } A) :
  YieldAt Fence.wide nn P (d+1) args A fun e A'=>e=.returned (.bool true)/\R A':=by
 subst hrb ha hb hpa htm;refine ⟨r.fn,_,r.assign,r.body,run_yield hl.1 hs,roundIn_of_wpIn trivial (wpIn_mono h ?_)⟩;intro e a1 w1 q;cases e with
 | normal =>
  obtain ⟨q1,q2⟩:=q;refine ⟨_,run_beginRound q1.1 hr1,wpIn_mono q2 ?_⟩;rintro e2 a2 w3 ⟨rfl,z1,z2⟩;refine ⟨_,_,run_endRound none z1,rfl,?_⟩
  have:({ { r with state:=.busy } with state:=if (none:Option Code).isNone then .ready else .done,pending:=none }:Loop)=r:=by
   obtain ⟨st,pe,fn,tm,pa,asg,bo,de⟩:=r;simp only at hr1 hr2;subst hr1 hr2;rfl
  rw [this];exact z2
 | exit id=>exact q.elim
 | goto t=>exact q.elim
 | ret=>exact q.elim
 | panic ch=>exact q.elim
 | outgrown=>exact q.elim
theorem range_hear {P:Program} {n:Nat} {g:Operand} {ps:Array Tmp} {assign body:Code} {Q:Exit->Act->World->Prop} {a:Act} {w:World} {gf:Nat} {lb:Array Value} (hg:a.eval g=.func (.func gf) #[] lb) (eg:∀ args w,(callFunc gf args).run P w=.ok (.enter gf args) w) (R:World->Prop)
  (hcall:∀ (fn:FuncId) (r:Loop) (W1:World),r=recL fn a.tmps ps assign body w.heap.size->LpAt w.heap.size r W1->Below w.heap.size w W1->W1.heap.size=w.heap.size+2->CallsIn Fence.wide (n - 1) P gf (#[.func (.yield (w.heap.size+1)) #[] #[]]++lb) W1 fun e W2=>(∃ v,e=.returned v)/\LpAt w.heap.size r W2/\R W2)
  (hdone:∀ (W2:World) (o:Obj),R W2->W2.heap[w.heap.size]?=some (.deferred (some []))->w.heap.size+1 < W2.heap.size->Q .normal { a with defers:={ target:=.collected w.heap.size,args:=#[] } :: a.defers } (W2.putObj (w.heap.size+1) o)) :
  (Code.rangeFunc g ps assign body).wpIn Fence.wide n P Q a w:=by
 refine wpIn_rangeFunc (fun fn hfn=>?_);obtain ⟨r,hr⟩:∃ r,r=recL fn a.tmps ps assign body w.heap.size:=⟨_,rfl⟩;obtain ⟨W1,hW1⟩:∃ W1,W1=(w.alloc (.deferred (some []))).alloc (.loop r):=⟨_,rfl⟩
 have h1:W1.heap[w.heap.size+1]?=some (.loop r):=by
  rw [hW1];have:=World.alloc_heap_new (w.alloc (.deferred (some []))) (.loop r);rwa [World.size_alloc] at this
 have h2:W1.heap[w.heap.size]?=some (.deferred (some [])):=by
  rw [hW1];exact (Below.heap_alloc _ _ _ (by simp)).trans (World.alloc_heap_new w _)
 have b1:Below w.heap.size w W1:=by rw [hW1];exact ((Below.refl _ w).alloc (Nat.le_refl _) _).alloc (by simp) _
 have s1:W1.heap.size=w.heap.size+2:=by rw [hW1];simp
 refine ⟨w.heap.size+1,[{ target:=.collected w.heap.size,args:=#[] }],W1,{ target:=.fn (.func gf) lb,args:=#[.func (.yield (w.heap.size+1)) #[] #[]] },W1,gf,#[.func (.yield (w.heap.size+1)) #[] #[]]++lb,W1,?_,?_,fun f' _=>trivial,?_,fun q=>(by cases q),?_⟩
 ·rw [hW1,hr];exact run_enterLoop_outer _ _ _ _ _
 ·simp only [resolve,hg];simp [go_sem]
 ·simp [invoke,go_sem,eg]
 ·refine (hcall fn r W1 hr ⟨h1,h2⟩ b1 s1).mono ?_;rintro e W2 ⟨⟨v,rfl⟩,l2,r2⟩;refine ⟨none,_,(by have:=run_endLoop (P:=P) l2.1 (by rw [hr];simp [recL]);rw [show r.pending=none by rw [hr];rfl] at this;exact this),?_⟩;exact hdone W2 _ r2 l2.2 (Array.getElem?_eq_some_iff.1 l2.1).1
end Apo
