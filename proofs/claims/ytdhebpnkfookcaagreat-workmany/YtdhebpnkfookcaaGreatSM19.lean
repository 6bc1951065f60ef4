import Derived.Test.YtdhebpnkfookcaaGreatSM18
set_option maxRecDepth 100000
set_option maxHeartbeats 8000000
namespace Apo
open Go Go.RowKit
def sumN (b:List Int):Nat:=(more fnvStart (strOfNums b)).toNat
theorem sumN_lt (b:List Int):sumN b < 18446744073709551616:=by
 have:=more_bd (strOfNums b) fnvStart (by decide) (by decide);unfold sumN;omega
theorem sumN_int (b:List Int):((sumN b:Nat):Int)=more fnvStart (strOfNums b):=by
 have:=more_bd (strOfNums b) fnvStart (by decide) (by decide);unfold sumN;omega
structure Cs where
 c:Cg
 st:Sd
 ch:Nat->Option Ck
 next:Nat
 state:List Int
 first:Nat
 gone:Nat->Option Ck
 ended:Bool
def endsE (e:Int):Bool:=e != 0 && e != 2 && e != 70
def Cs.get (S:Cs) (c:Ck):List Int × Int:=S.c.get S.st c.at' c.size
theorem rd2_byt {st:Sd} (ok:OkS st) (a size:Int):∀ z ∈ (st.rdText2 a size).1,0<=z/\z<=255:=fun z hz=>by
 unfold Sd.rdText2 at hz;split at hz
 ·simp at hz
 ·split at hz
  ·split at hz
   ·have:=List.mem_of_mem_take hz;obtain ⟨i,_,hi⟩:=List.mem_flatMap.1 this;exact txOf_byt (gat_byt ok _ _) i z hi
   ·simp at hz
  ·simp at hz
theorem cget_byt {c:Cg} {st:Sd} (ok:OkS st) (s:Spn) (size:Int):∀ z ∈ (c.get st s size).1,0<=z/\z<=255:=fun z hz=>by
 unfold Cg.get at hz;split at hz
 ·simp at hz
 ·split at hz
  ·exact rd2_byt ok _ _ z hz
  ·simp at hz
end Apo
namespace Go.Proofs.YtdhebpnkfookcaaGreat
open Go.RowKit Apo
def stC (pg bc bs bg:Nat) (sa:Option Addr) (sc:Nat) (S:Cs):List Value:=[.pointer (some ⟨pg,0,none⟩),.map (some bc),.map (some bs),.int .u64 S.next,.slice sa S.state.length sc,.int .u64 S.first,.map (some bg),.bool S.ended]
structure CSd (L:Nat->Nat) (w:World) (s d:Nat) (S:Cs) (pg bc bs bg:Nat) (sa:Option Addr) (sc:Nat) (sm:Nat->List Nat):Prop where
 ob:Ob w s 106 (stC pg bc bs bg sa sc S)
 ls:L s=1
 px:CPx (fun i=>L i=2) w pg d S.c S.st
 sh:CSh L w bc bs S.ch sm
 mg:Mp Tryz.prog 27 w bg (ckM S.gone)
 lg:L bg=5
 rd:Rd .u8 w sa S.state
 rn:sa=none->sc=0
 rl:S.state.length<=sc
 rt:∀ x,sa=some x->0 < S.state.length->L x.block=6
 lt:∀ i,L i≠0->i < w.heap.size
end Go.Proofs.YtdhebpnkfookcaaGreat
namespace Apo
open Go Go.RowKit
structure SumOk (ch:Nat->Option Ck) (sm:Nat->List Nat):Prop where
 is:∀ k i,i ∈ sm k↔∃ c,ch i=some c/\c.sum=k
 nd:∀ k,(sm k).Nodup
def Few (ch:Nat->Option Ck) (n:Nat):Prop:=∃ K:List Nat,(∀ i,ch i≠none->i ∈ K)/\K.length<=n
theorem Few.mono {ch:Nat->Option Ck} {n m:Nat} (h:Few ch n) (hm:n<=m):Few ch m:=by
 obtain ⟨K,h1,h2⟩:=h;exact ⟨K,h1,by omega⟩
theorem SumOk.len {ch:Nat->Option Ck} {sm:Nat->List Nat} (h:SumOk ch sm) {n:Nat} (hf:Few ch n) (k:Nat):(sm k).length<=n:=by
 obtain ⟨K,h1,h2⟩:=hf;refine Nat.le_trans (nodup_le _ K (h.nd k) (fun i hi=>h1 i ?_)) h2;obtain ⟨c,hc,_⟩:=(h.is k i).1 hi;rw [hc];simp
theorem SumOk.cover {ch:Nat->Option Ck} {sm:Nat->List Nat} (h:SumOk ch sm) {n:Nat} (hf:Few ch n):∃ K:List Nat,(∀ k,sm k≠[]->k ∈ K)/\K.length<=n:=by
 obtain ⟨K,h1,h2⟩:=hf;refine ⟨K.map (fun i=>match ch i with | some c=>c.sum | none=>0),fun k hk=>?_,by simp;exact h2⟩;obtain ⟨i,hi⟩:=List.exists_mem_of_ne_nil _ hk;obtain ⟨c,hc,hs⟩:=(h.is k i).1 hi;exact List.mem_map.2 ⟨i,h1 i (by rw [hc];simp),by rw [hc];exact hs⟩
theorem SumOk.add {ch:Nat->Option Ck} {sm:Nat->List Nat} (h:SumOk ch sm) {id:Nat} (hn:ch id=none) {c:Ck} {l:List Nat} (hl:l.Perm (id :: sm c.sum)):SumOk (upd ch id (some c)) (upd sm c.sum l):=by
 refine ⟨fun k i=>?_,fun k=>?_⟩
 ·by_cases q:k=c.sum
  ·subst q;rw [upd_same,hl.mem_iff,List.mem_cons];by_cases z:i=id
   ·subst z;rw [upd_same];exact ⟨fun _=>⟨c,rfl,rfl⟩,fun _=>.inl rfl⟩
   ·rw [ZY _ _ z,<- h.is];exact ⟨fun y=>y.elim (fun y=>absurd y z) (fun y=>y),.inr⟩
  ·rw [ZY _ _ q,h.is];by_cases z:i=id
   ·subst z;rw [upd_same,hn];exact ⟨fun ⟨c',y,_⟩=>(by cases y),fun ⟨c',y,y2⟩=>(by cases y;exact absurd y2.symm q)⟩
   ·rw [ZY _ _ z]
 ·by_cases q:k=c.sum
  ·subst q;rw [upd_same,hl.nodup_iff,List.nodup_cons];exact ⟨fun z=>(by obtain ⟨c',y,_⟩:=(h.is _ _).1 z;rw [hn] at y;cases y),h.nd _⟩
  ·rw [ZY _ _ q];exact h.nd k
end Apo
namespace Go.Proofs.YtdhebpnkfookcaaGreat
open Go.RowKit Apo
section
def CSx (O:Nat->Prop) (w:World) (s d:Nat) (S:Cs):Prop:=∃ L pg bc bs bg sa sc sm,CSd L w s d S pg bc bs bg sa sc sm/\SumOk S.ch sm/\∀ i,L i≠0->O i
section
variable {L L':Nat->Nat} {w w':World} {s d pg bc bs bg sc:Nat} {sa:Option Addr} {S:Cs} {sm:Nat->List Nat} {F:Nat->Prop}
theorem CPx.onl {U:Nat->Prop} {p:Nat} {c:Cg} {st:Sd} (h:CPx U w p d c st) (o:Onl F w w') (hF:∀ i,U i->¬ F i):CPx U w' p d c st:=by
 obtain ⟨_,_,_,_,_,_,_,h,hU⟩:=h;exact ⟨_,_,_,_,_,_,_,h.onl o (fun i q=>hF i (hU i q)),hU⟩
theorem CPx.lt {U:Nat->Prop} {p:Nat} {c:Cg} {st:Sd} (h:CPx U w p d c st):p < w.heap.size:=by
 obtain ⟨_,_,_,_,_,_,_,h,hU⟩:=h;exact h.b.ob.lt
theorem CPx.okS {U:Nat->Prop} {p:Nat} {c:Cg} {st:Sd} (h:CPx U w p d c st):OkS st:=by
 obtain ⟨_,_,_,_,_,_,_,h,hU⟩:=h;exact h.b.dv.ok
theorem CPx.dom {U V:Nat->Prop} {p:Nat} {c:Cg} {st:Sd} (h:CPx U w p d c st) (hV:∀ i,i < w.heap.size->U i->V i):CPx V w p d c st:=by
 obtain ⟨_,_,_,_,_,_,_,h,hU⟩:=h;exact ⟨_,_,_,_,_,_,_,h,fun i q=>hV i (h.lt i q) (hU i q)⟩
theorem CSd.onl (h:CSd L w s d S pg bc bs bg sa sc sm) (o:Onl F w w') (hF:∀ i,L i≠0->¬ F i):CSd L w' s d S pg bc bs bg sa sc sm :=
 ⟨h.ob.onl o (hF _ (by rw [h.ls];omega)),h.ls,h.px.onl o (fun i q=>hF i (by omega)),h.sh.onl o (fun i q=>hF i (by omega)) (fun _ _=>rfl),h.mg.onl o (hF _ (by rw [h.lg];omega)),h.lg,h.rd.onl o (fun x hx hl=>hF _ (by rw [h.rt x hx hl];omega)),h.rn,h.rl,h.rt,fun i q=>Nat.lt_of_lt_of_le (h.lt i q) o.size⟩
theorem CSd.below (h:CSd L w s d S pg bc bs bg sa sc sm) (b:Below w.heap.size w w'):CSd L w' s d S pg bc bs bg sa sc sm:=h.onl (F:=fun _=>False) (Onl.ofBelow b) (fun _ _ q=>q)
theorem CSd.pager (h:CSd L w s d S pg bc bs bg sa sc sm) {c':Cg} {st':Sd} (p:CPx (Gro (fun i=>L i=2) w w') w' pg d c' st') (o:Onl (fun i=>L i=2) w w'):CSd (tagd L w w' 2) w' s d { S with c:=c',st:=st' } pg bc bs bg sa sc sm:=by
 have hlt:=h.lt;have hg:∀ i,i < w.heap.size->tagd L w w' 2 i=L i:=fun i hi=>tagd_old hi
 refine ⟨h.ob.onl o (by rw [h.ls];omega),(hg _ h.ob.lt).trans h.ls,p.dom (fun i hi q=>?_),h.sh.onl o (fun i q=>by omega) hg,h.mg.onl o (by rw [h.lg];omega),(hg _ h.mg.lt).trans h.lg,h.rd.onl o (fun x hx hl=>by rw [h.rt x hx hl];omega),h.rn,h.rl,fun x hx hl=>(hg _ (by subst hx;exact Rd.lt h.rd hl)).trans (h.rt x hx hl),(tagd_ext 2 o.size hlt).lt⟩;rcases q with q | q
 ·show tagd L w w' 2 i=2
  rw [hg i (hlt i (by omega))];exact q
 ·exact tagd_new q.1 q.2
theorem CSd.cells (h:CSd L w s d S pg bc bs bg sa sc sm) {nx fi:Nat} {en:Bool} (k:Ob w' s 106 (stC pg bc bs bg sa sc { S with next:=nx,first:=fi,ended:=en })) (o:Onl (fun i=>i=s) w w'):CSd L w' s d { S with next:=nx,first:=fi,ended:=en } pg bc bs bg sa sc sm:=by
 have hs:∀ i,L i≠1->i≠s:=fun i q e=>q (by rw [e];exact h.ls)
 exact ⟨k,h.ls,h.px.onl o (fun i q=>hs i (by omega)),h.sh.onl o (fun i q=>hs i (by omega)) (fun _ _=>rfl),h.mg.onl o (hs _ (by rw [h.lg];omega)),h.lg,h.rd.onl o (fun x hx hl=>hs _ (by rw [h.rt x hx hl];omega)),h.rn,h.rl,h.rt,fun i q=>Nat.lt_of_lt_of_le (h.lt i q) o.size⟩
theorem CSd.shelf (h:CSd L w s d S pg bc bs bg sa sc sm) {ch':Nat->Option Ck} {sm':Nat->List Nat} (k:CSh L' w' bc bs ch' sm') (e:LExt L w L' w') (o:Onl (fun i=>10<=L i) w w'):CSd L' w' s d { S with ch:=ch' } pg bc bs bg sa sc sm':=by
 have hlt:=h.lt;refine ⟨h.ob.onl o (by rw [h.ls];omega),(e.old _ h.ob.lt).trans h.ls,(h.px.onl o (fun i q=>by omega)).dom (fun i _ q=>(e.old i (hlt i (by omega))).trans q),k,h.mg.onl o (by rw [h.lg];omega),(e.old _ h.mg.lt).trans h.lg,h.rd.onl o (fun x hx hl=>by rw [h.rt x hx hl];omega),h.rn,h.rl,fun x hx hl=>(e.old _ (by subst hx;exact Rd.lt h.rd hl)).trans (h.rt x hx hl),e.lt⟩
theorem CSx.onl {O:Nat->Prop} (h:CSx O w s d S) (o:Onl F w w') (hF:∀ i,O i->¬ F i):CSx O w' s d S:=by
 obtain ⟨L,pg,bc,bs,bg,sa,sc,sm,h,so,hO⟩:=h;exact ⟨L,pg,bc,bs,bg,sa,sc,sm,h.onl o (fun i q=>hF i (hO i q)),so,hO⟩
theorem CSx.below {O:Nat->Prop} (h:CSx O w s d S) (b:Below w.heap.size w w'):CSx O w' s d S:=h.onl (F:=fun _=>False) (Onl.ofBelow b) (fun _ _ q=>q)
end
theorem halive_ob {w:World} {s pg:Nat} {cs:List Value} {b:Bool} (h:Ob w s 106 cs) (h0:cs[0]?=some (.pointer (some ⟨pg,0,none⟩))) (h7:cs[7]?=some (.bool b)) :
  Calls Tryz.prog 54 #[.pointer (some ⟨s,0,none⟩)] w fun e w'=>e=.returned (.bool (!b))/\w=w':=by
 have c0:=(h.cell 0).trans h0;have c7:=(h.cell 7).trans h7;clear h h0 h7;go_enter Tryz.func54,Tryz.ntmps54
 go_wp2;go_ret
 exact ⟨rfl,rfl⟩
theorem hends_ob {w:World} {s:Nat} {cs:List Value} (h:Ob w s 106 cs) (hl:7 < cs.length) (er:Int) :
  Calls Tryz.prog 57 #[.pointer (some ⟨s,0,none⟩),.int .i64 er] w fun e w'=>e=.returned (.int .i64 er)/\w'=w.setCell ⟨s,7,none⟩ (.bool (endsE er)):=by
 have c7:=h.cell 7;have f7:=h.frozen 7;rw [List.getElem?_eq_getElem hl] at c7;generalize cs[7]=u at c7;clear h;unfold endsE;cases h1:(er != 0) <;> cases h2:(er != 2) <;> cases h3:(er != 70)
 all_goals
  go_enter Tryz.func57,Tryz.ntmps57
  go_wp2;go_ret
  exact ⟨rfl,rfl⟩
theorem hsum_any {w:World} (a:Option Addr) (cap:Nat) (l:List Int) (hr:Rd .u8 w a l) (hl:l.length<=1099511627776) (hb:∀ z ∈ l,0<=z/\z<=255) :
  Calls Tryz.prog 59 #[.slice a l.length cap] w fun e w'=>e=.returned (.int .u64 (sumN l))/\w=w':=by
 have c1:=hr.conv (P:=Tryz.prog) 41 5 9 Tryz.underlying41 Tryz.underlying5 Tryz.underlying9 cap;have C:=sum_any (strOfNums l) w (by rw [str_size hb];exact hl);rw [<- sumN_int] at C;clear hr hb;go_enter Tryz.func59,Tryz.ntmps59
 go_wp2_with fail
 refine C.mono ?_;rintro e wx ⟨rfl,rfl⟩;go_wp2;go_ret
 exact ⟨rfl,rfl⟩
theorem hbegin_ob {w:World} {s pg bc bs n:Nat} {sv f g en:Value} (h:Ob w s 106 [.pointer (some ⟨pg,0,none⟩),.map (some bc),.map (some bs),.int .u64 n,sv,f,g,en]) :
  Calls Tryz.prog 52 #[.pointer (some ⟨s,0,none⟩)] w fun e w'=>e=.returned (.tuple #[])/\Ob w' s 106 [.pointer (some ⟨pg,0,none⟩),.map (some bc),.map (some bs),.int .u64 n,sv,.int .u64 n,.map (some w.heap.size),en]/\Mp Tryz.prog 27 w' w.heap.size (fun _=>none)/\Onl (fun i=>i=s) w w'/\w'.heap.size=w.heap.size+1:=by
 have hlt:=h.lt;have hmm:=@run_makeMap Tryz.prog;have k5:=h.set 5 (.int .u64 n);have k6:=k5.set 6 (.map (some w.heap.size));have c3:=h.cell 3;have c5:=h.cell 5;have c6:=h.cell 6;have f5:=h.frozen 5;have f6:=h.frozen 6;have c6b:=k5.cell 6;have f6b:=k5.frozen 6;simp only [List.getElem?_cons_zero,List.getElem?_cons_succ,List.set_cons_succ,List.set_cons_zero] at c3 c5 c6 c6b k6;have o1:Onl (fun i=>i=s) w ((w.setCell ⟨s,5,none⟩ (.int .u64 n)).setCell ⟨s,6,none⟩ (.map (some w.heap.size))):=((Onl.refl (fun i=>i=s) w).set (p:=s) (.inl rfl) _).set (p:=s) (.inl rfl) _;have sz:((w.setCell ⟨s,5,none⟩ (.int .u64 n)).setCell ⟨s,6,none⟩ (.map (some w.heap.size))).heap.size=w.heap.size:=by simp [World.setCell]
 have m1:=Mp.made ((w.setCell ⟨s,5,none⟩ (.int .u64 n)).setCell ⟨s,6,none⟩ (.map (some w.heap.size))) Tryz.prog 27;rw [sz] at m1;have sz2:(((w.setCell ⟨s,5,none⟩ (.int .u64 n)).setCell ⟨s,6,none⟩ (.map (some w.heap.size))).alloc (.map #[] 0)).heap.size=w.heap.size+1:=by simp [World.setCell]
 have HF:=Za (And.intro (k6.alloc (.map #[] 0)) (And.intro m1 (And.intro (o1.alloc (.map #[] 0)) sz2)));clear h k5 k6 m1 o1 sz sz2;go_enter Tryz.func52,Tryz.ntmps52
 go_wp2;go_end0
 exact ⟨rfl,HF.out⟩
end
theorem hnew_any (w:World):Calls Tryz.prog 49 #[] w fun e w'=>e=.returned (.agg #[.map (some (w.heap.size+1)),.map (some (w.heap.size+2))])/\Mp Tryz.prog 27 w' (w.heap.size+1) (fun _=>none)/\Mp Tryz.prog 27 w' (w.heap.size+2) (fun _=>none)/\Below w.heap.size w w':=by
 have hmm:=@run_makeMap Tryz.prog;obtain ⟨V,hV⟩:∃ V,V=w.alloc (.cells #[.map (some (w.heap.size+1)),.map (some (w.heap.size+2))] 103):=⟨_,rfl⟩;have sz:V.heap.size=w.heap.size+1:=by rw [hV];simp
 have m1:=Mp.made V Tryz.prog 27;have b1:Below w.heap.size w V:=by rw [hV];exact (Below.refl _ w).alloc (Nat.le_refl _) _
 have m2:=Mp.made (V.alloc (.map #[] 0)) Tryz.prog 27;have m1':=m1.below (((Below.refl _ (V.alloc (.map #[] 0))).alloc (Nat.le_refl _) (.map #[] 0)));have b2:Below w.heap.size w ((V.alloc (.map #[] 0)).alloc (.map #[] 0)):=(b1.alloc (by omega) _).alloc (by simp;omega) _;have e2:(V.alloc (.map #[] 0)).heap.size=w.heap.size+2:=by simp;omega
 rw [e2] at m2;rw [sz] at m1';have HF:=Za (And.intro m1' (And.intro m2 b2));clear m1 m2 m1' b1 b2 e2;have kb:Ob ((V.alloc (.map #[] 0)).alloc (.map #[] 0)) w.heap.size 103 [.map (some (w.heap.size+1)),.map (some (w.heap.size+2))]:=by rw [hV];exact ((Ob.new w [.map (some (w.heap.size+1)),.map (some (w.heap.size+2))] 103).alloc _).alloc _
 have c0:=kb.cell 0;have c1:=kb.cell 1;simp only [List.getElem?_cons_zero,List.getElem?_cons_succ] at c0 c1;rw [hV] at HF c0 c1;clear kb sz hV;go_enter Tryz.func49,Tryz.ntmps49
 go_wp2;refine bodyPost_ret (by simp [results,Tryz.results49,go_sem];rfl) rfl ?_;exact ⟨rfl,HF.out⟩
end Go.Proofs.YtdhebpnkfookcaaGreat
namespace Apo
open Go Go.RowKit
def SameL (S:Cs) (b:List Int) (l:List Nat) (id:Nat) (er:Int):Prop :=
 (er=0/\id ∈ l/\∃ c,S.ch id=some c/\c.size=b.length/\S.get c=(b,0)) \/
 (id=0/\(∀ i ∈ l,∀ c,S.ch i=some c->c.size=b.length->S.get c≠(b,0))/\((∀ i ∈ l,∀ c,S.ch i=some c->c.size=b.length->(S.get c).2=0)->er=0)/\(er≠0->∃ i ∈ l,∃ c,S.ch i=some c/\c.size=b.length/\(S.get c).2=er))
def SameN (S:Cs) (b:List Int) (l:List Nat) (er:Int):Prop :=
 (∀ i ∈ l,∀ c,S.ch i=some c->c.size=b.length->S.get c≠(b,0))/\((∀ i ∈ l,∀ c,S.ch i=some c->c.size=b.length->(S.get c).2=0)->er=0)/\(er≠0->∃ i ∈ l,∃ c,S.ch i=some c/\c.size=b.length/\(S.get c).2=er)
theorem SameN.nil (S:Cs) (b:List Int):SameN S b [] 0:=⟨by simp,fun _=>rfl,fun h=>absurd rfl h⟩
theorem SameN.skip {S:Cs} {b:List Int} {l:List Nat} {er:Int} (h:SameN S b l er) {i:Nat} {c:Ck} (hc:S.ch i=some c) (hs:c.size≠b.length):SameN S b (l++[i]) er:=by
 refine ⟨fun j hj c' hc' hs'=>?_,fun hall=>h.2.1 (fun j hj=>hall j (by simp [hj])),fun he=>?_⟩
 ·rcases List.mem_append.1 hj with q | q
  ·exact h.1 j q c' hc' hs'
  ·simp at q;subst q;rw [hc] at hc';cases hc';exact absurd hs' hs
 ·obtain ⟨j,hj,q⟩:=h.2.2 he;exact ⟨j,by simp [hj],q⟩
theorem SameN.next {S:Cs} {b:List Int} {l:List Nat} {er:Int} (h:SameN S b l er) {i:Nat} {c:Ck} (hc:S.ch i=some c) (hs:c.size=b.length) (hg:S.get c≠(b,0)):SameN S b (l++[i]) (if er=0 then (S.get c).2 else er):=by
 refine ⟨fun j hj c' hc' hs'=>?_,fun hall=>?_,fun he=>?_⟩
 ·rcases List.mem_append.1 hj with q | q
  ·exact h.1 j q c' hc' hs'
  ·simp at q;subst q;rw [hc] at hc';cases hc';exact hg
 ·rw [if_pos (h.2.1 (fun j hj=>hall j (by simp [hj])))];exact hall i (by simp) c hc hs
 ·by_cases q:er=0
  ·rw [if_pos q] at he ⊢;exact ⟨i,by simp,c,hc,hs,rfl⟩
  ·rw [if_neg q];obtain ⟨j,hj,z⟩:=h.2.2 q;exact ⟨j,by simp [hj],z⟩
end Apo
namespace Go.Proofs.YtdhebpnkfookcaaGreat
open Go.RowKit Apo
def SameP (S:Cs) (b:List Int) (l:List Nat) (w:World) (e:Ending) (w':World):Prop:=∃ (id:Nat) (er:Int),e=.returned (.tuple #[.int .u64 id,.int .i64 er])/\SameL S b l id er/\Below w.heap.size w w'
theorem ck_lt {w:World} {b:Nat} {ch:Nat->Option Ck} (h:Mp Tryz.prog 27 w b (ckM ch)) {i:Nat} {c:Ck} (hc:ch i=some c):i < 18446744073709551616:=by
 obtain ⟨D,_,m⟩:=h;by_cases q:i < 18446744073709551616
 ·exact q
 ·have:=m.big i (by omega);unfold ckM at this;rw [hc] at this;cases this
theorem hsame_any {L:Nat->Nat} {w:World} {s d pg bc bs bg sc:Nat} {sa:Option Addr} {S:Cs} {sm:Nat->List Nat} (h:CSd L w s d S pg bc bs bg sa sc sm) (hsub:∀ k i,i ∈ sm k->S.ch i≠none) (hcc:S.st.C.length<=1073741824)
  (ba:Option Addr) (bcap:Nat) (b:List Int) (hr:Rd .u8 w ba b) (hl:b.length<=1099511627776) (hby:∀ z ∈ b,0<=z/\z<=255) (hlen:(sm (sumN b)).length<=1099511627776) :
  Calls Tryz.prog 55 #[.pointer (some ⟨s,0,none⟩),.slice ba b.length bcap] w (SameP S b (sm (sumN b)) w):=by
 obtain ⟨bv,ms,mr⟩:=h.sh.ms;obtain ⟨K,hK⟩:∃ K,K=sumN b:=⟨_,rfl⟩;have hKl:K < 18446744073709551616:=by rw [hK];exact sumN_lt b
 have CS:=hsum_any (w:=w.drew) ba bcap b (hr.below ((Below.refl _ w).drew)) hl hby;rw [<- hK] at CS hlen ⊢;have R2:=(ms.below ((Below.refl _ w).drew)).look hk64 Tryz.underlying101 zero_sl hKl;obtain ⟨v,hv⟩:∃ v,v=(bkM sm bv K).getD (.slice none 0 0):=⟨_,rfl⟩;rw [<- hv] at R2
 have rv:Row (fun g=>L g=12+K) w 27 1 v (sm K).length (Zj (sm K)):=by
  rw [hv];unfold bkM;by_cases q:sm K=[]
  ·rw [if_pos q,q];exact Row.nil _ _ _ _
  ·rw [if_neg q];exact mr K q
 clear hv;obtain ⟨va,vcap,hvf,hf1,hf2,hf3,hf4⟩:=rv.form;obtain ⟨n0,hn0⟩:∃ n0,n0=(sm K).length:=⟨_,rfl⟩
 have hcell:∀ k,k < n0->∃ g id,va=some ⟨g,0,none⟩/\(sm K)[k]?=some id/\∀ W,Below w.heap.size w W->W.cell? ⟨g,k,none⟩=some (.int .u64 (id:Nat)):=fun k hk=>by
  obtain ⟨g,cap,hv2,_,hg,_,_,hcs,_⟩:=rv.shape (by omega);rw [hvf] at hv2;injection hv2 with e1 e2 e3
  refine ⟨g,(sm K)[k]'(by omega),e1,List.getElem?_eq_getElem (by omega),fun W bW=>?_⟩;rw [bW.cell (p:=⟨g,k,none⟩) hg,hcs k (by omega)];simp [Zj,List.getElem?_eq_getElem (show k < (sm K).length by omega)]
 have hget:∀ W,Below w.heap.size w W->∀ c:Ck,Calls Tryz.prog 72 #[.pointer (some ⟨pg,0,none⟩),.agg #[.int .i64 c.at'.a,.int .i64 c.at'.k],.int .i64 c.size] W fun e w'=>∃ v,e=.returned (.tuple #[v,.int .i64 (S.get c).2])/\TldR w' W.heap.size v (S.get c).1/\Below W.heap.size W w':=fun W bW c=>cget_gen (h.px.below bW) hcc c.at' c.size
 have hbyt:∀ c:Ck,∀ z ∈ (S.get c).1,0<=z/\z<=255:=fun c=>cget_byt h.px.okS _ _
 have hlook:∀ W,Below w.heap.size w W->∀ i c,S.ch i=some c->(Instr.lookup 100 (.map (some bc)) (.int .u64 (i:Int)) false).run Tryz.prog W=.ok c.val W:=fun W bW i c hi=>by
  have:=(h.sh.mc.below bW).look hk64 Tryz.underlying100 zero_ck (ck_lt h.sh.mc hi);rw [this];unfold ckM;rw [hi];rfl
 have c0:=h.ob.cell 0;have c1:=h.ob.cell 1;have c2:=h.ob.cell 2;simp only [stC,List.getElem?_cons_zero,List.getElem?_cons_succ] at c0 c1 c2;have hslt:=h.ob.lt;have HC0:=Za (fun (W:World) (bW:Below w.heap.size w W)=>(bW.cell (p:=⟨s,0,none⟩) hslt).trans c0);have HC1:=Za (fun (W:World) (bW:Below w.heap.size w W)=>(bW.cell (p:=⟨s,1,none⟩) hslt).trans c1);have HCS:=Za CS;have HCELL:=Za hcell;have HGET:=Za hget;have HBYT:=Za hbyt;have HLOOK:=Za hlook;have HR:=Za hr;have HBY:=Za hby;have HSUB:=Za hsub;have HK:=Za hK;have HN:=Za hn0;rw [hvf,<- hn0] at R2;rw [<- hn0] at hlen hf1;obtain ⟨nb,hnb⟩:∃ nb,nb=b.length:=⟨_,rfl⟩;have HNB:=Za hnb;rw [<- hnb] at HCS hl ⊢;clear hnb;clear h ms mr CS rv hcell hget hbyt hlook hr hby hsub hK hn0 hf4 hvf c0 c1;go_enter Tryz.func55,Tryz.ntmps55
 go_wp2
 go_region_held3 (fun W'=>W'.cell? ⟨s,2,none⟩=some (.map (some bs))) (go_keep) (first
  | (go_at_call 59;refine HCS.out.mono ?_;rintro en w3 ⟨rfl,rfl⟩))
 go_wp2;go_loopw [6,21] (fun u i wr=>∃ (k:Nat) (er:Int),k<=n0/\i=.int .i64 k/\u=.int .i64 er/\Hid (SameN S b ((sm K).take k) er)/\Hid (Below w.heap.size w wr)) (fun _ i _=>n0 - (intOf i).toNat)
 case atStart=>exact ⟨0,0,Nat.zero_le _,rfl,rfl,Za (SameN.nil _ _),Za ((Below.refl _ w).drew)⟩
 case round =>
  obtain ⟨k,er,hk,rfl,rfl,HSN,HB⟩:=hrel;by_cases hkn:k < n0
  ·obtain ⟨g,id,rfl,hid,hcl⟩:=HCELL.out k hkn
   obtain ⟨c,hc⟩:∃ c,S.ch id=some c:=by
    have:=HSUB.out K id (List.mem_of_getElem? hid);cases q:S.ch id with
    | none=>exact absurd q this
    | some c=>exact ⟨c,rfl⟩
   have hce:=hcl wr HB.out;have htk:(sm K).take (k+1)=(sm K).take k++[id]:=by rw [List.take_add_one,hid];rfl
   have hlk:=HLOOK.out wr HB.out id c hc;have e1:=HC1.out wr HB.out;obtain ⟨⟨⟨pa,pk⟩,csize,csum⟩,hcd⟩:∃ c',c'=c:=⟨_,rfl⟩;have hval:c.val=.agg #[.int .i64 pa,.int .i64 pk,.int .i64 csize,.int .u64 csum]:=by rw [<- hcd];rfl
   rw [hval] at hlk;have hbn:Below w.heap.size w (wr.alloc (.cells #[.int .i64 pa,.int .i64 pk,.int .i64 csize,.int .u64 csum] 123)):=HB.out.alloc HB.out.size _;have hsw:=HB.out.size;have HTK:=Za htk;have HCC:=Za hc;have HID:=Za hid;have HCD:=Za hcd;have HBN:=Za hbn;clear hc hid htk hcd hval hbn hcl;by_cases hsz:csize=nb
   ·have hne:((csize:Int) != (nb:Int))=false:=by simp;omega
    have HSZ:=Za hsz;clear hsz;obtain ⟨W1,hW1⟩:∃ W1,W1=wr.alloc (.cells #[.int .i64 pa,.int .i64 pk,.int .i64 csize,.int .u64 csum] 123):=⟨_,rfl⟩;have kb:Ob W1 wr.heap.size 123 [.int .i64 pa,.int .i64 pk,.int .i64 csize,.int .u64 csum]:=by rw [hW1];exact Ob.new wr [.int .i64 pa,.int .i64 pk,.int .i64 csize,.int .u64 csum] 123
    rw [<- hW1] at HBN;have x0:=HC0.out W1 HBN.out;have y0:=kb.cell 0;have y1:=kb.cell 1;have y2:=kb.cell 2;simp only [List.getElem?_cons_zero,List.getElem?_cons_succ] at y0 y1 y2;have C4:=HGET.out W1.drew HBN.out.drew ⟨⟨pa,pk⟩,csize,csum⟩;obtain ⟨G,hG⟩:∃ G,G=S.get ⟨⟨pa,pk⟩,csize,csum⟩:=⟨_,rfl⟩;rw [<- hG] at C4;have hgb:=HBYT.out ⟨⟨pa,pk⟩,csize,csum⟩;rw [<- hG] at hgb;have HC4:=Za C4;have HGB:=Za hgb;have HG:=Za hG;have hkb:=kb.lt;obtain ⟨GB,GE⟩:=G;simp only at HC4 HGB;clear C4 hgb hG kb;go_wp2;generalize wr.alloc (.cells #[.int .i64 pa,.int .i64 pk,.int .i64 csize,.int .u64 csum] 123)=WW at hW1 ⊢;subst hW1
    go_region_held3 (fun W'=>W'.cell? ⟨s,0,none⟩=some (.pointer (some ⟨pg,0,none⟩))/\W'.cell? ⟨wr.heap.size,0,none⟩=some (.int .i64 pa)/\W'.cell? ⟨wr.heap.size,1,none⟩=some (.int .i64 pk)/\W'.cell? ⟨wr.heap.size,2,none⟩=some (.int .i64 csize)) (go_keep) (first
     | (go_at_call 72;refine HC4.out.mono ?_;rintro en w2 ⟨v2,rfl,t2,b2⟩;have u0:=(b2.cell (p:=⟨s,0,none⟩) (World.block_lt_of_cell? _ _ x0)).trans x0;have u1:=(b2.cell (p:=⟨wr.heap.size,0,none⟩) hkb).trans y0;have u2:=(b2.cell (p:=⟨wr.heap.size,1,none⟩) hkb).trans y1;have u3:=(b2.cell (p:=⟨wr.heap.size,2,none⟩) hkb).trans y2;have HT2:=Za t2;have HB2:=Za b2;clear t2 b2))
    obtain ⟨a2,c2',hv2,rd2,n2,l2,bc2⟩:=HT2.out;subst hv2;have HBW:=Za (HBN.out.drew.trans (HB2.out.mono HBN.out.size));have CE:=equal_any a2 ba c2' bcap GB b rd2 (HR.out.below HBW.out) HGB.out HBY.out;rw [<- HNB.out] at CE;have HCE:=Za CE;clear CE rd2 l2;have hgs:S.get c=(GB,GE):=by rw [<- HCD.out];exact HG.out.symm
    have hcs:c.size=b.length:=by rw [<- HCD.out,<- HNB.out];exact HSZ.out
    have HGS:=Za hgs;have HCSZ:=Za hcs;clear hgs hcs;by_cases hge:GE=0
    ·subst hge;by_cases hq:GB=b
     ·have hqd:decide (GB=b)=true:=by simpa using hq
      rw [hqd] at HCE;have HQ:=Za hq;clear hqd hq;go_wp2_with fail
      refine HCE.out.mono ?_;rintro en wx ⟨rfl,rfl⟩;go_wp2;refine bodyPost_ret (by simp [results,Tryz.results55,go_sem];rfl) rfl ?_;exact ⟨id,0,rfl,.inl ⟨rfl,List.mem_of_getElem? HID.out,c,HCC.out,HCSZ.out,by rw [HGS.out,HQ.out]⟩,HBW.out⟩
     ·have hqd:decide (GB=b)=false:=by simpa using hq
      rw [hqd] at HCE;have HQ:=Za hq;clear hqd hq;have HN2:=Za (HSN.out.next HCC.out HCSZ.out (by rw [HGS.out];intro e;exact HQ.out (congrArg Prod.fst e)));rw [HGS.out] at HN2;by_cases her:er=0
      ·subst her;go_wp2_with fail
       refine HCE.out.mono ?_;rintro en wx ⟨rfl,rfl⟩;go_wp2;go_roundw
       case rel=>exact ⟨k+1,0,by omega,by simp,rfl,Za (by rw [HTK.out];exact HN2.out),HBW⟩
       case measure=>simp [intOf];omega
      ·have her2:(er == 0)=false:=by simpa using her
       rw [if_neg her] at HN2;clear her;go_wp2_with fail
       refine HCE.out.mono ?_;rintro en wx ⟨rfl,rfl⟩;go_wp2;go_roundw
       case rel=>exact ⟨k+1,er,by omega,by simp,rfl,Za (by rw [HTK.out];exact HN2.out),HBW⟩
       case measure=>simp [intOf];omega
    ·have hgb:(GE == 0)=false:=by simpa using hge
     have HN2:=Za (HSN.out.next HCC.out HCSZ.out (by rw [HGS.out];intro e;exact hge (congrArg Prod.snd e)));rw [HGS.out] at HN2;clear hge;by_cases her:er=0
     ·subst her;go_wp2;go_roundw
      case rel=>exact ⟨k+1,GE,by omega,by simp,rfl,Za (by rw [HTK.out];exact HN2.out),HBW⟩
      case measure=>simp [intOf];omega
     ·have her2:(er == 0)=false:=by simpa using her
      rw [if_neg her] at HN2;clear her;go_wp2;go_roundw
      case rel=>exact ⟨k+1,er,by omega,by simp,rfl,Za (by rw [HTK.out];exact HN2.out),HBW⟩
      case measure=>simp [intOf];omega
   ·have hne:((csize:Int) != (nb:Int))=true:=by simp;omega
    go_wp2;go_roundw
    case rel=>exact ⟨k+1,er,by omega,by simp,rfl,Za (by rw [HTK.out];exact HSN.out.skip HCC.out (by rw [<- HCD.out,<- HNB.out];exact hsz)),HBN⟩
    case measure=>simp [intOf];omega
  ·obtain rfl:k=n0:=by omega
   go_wp2;refine bodyPost_ret (by simp [results,Tryz.results55,go_sem];rfl) rfl ?_;have q:=HSN.out;rw [HN.out,List.take_length] at q;exact ⟨0,er,rfl,.inr ⟨rfl,q.1,q.2.1,q.2.2⟩,HB.out⟩
end Go.Proofs.YtdhebpnkfookcaaGreat
