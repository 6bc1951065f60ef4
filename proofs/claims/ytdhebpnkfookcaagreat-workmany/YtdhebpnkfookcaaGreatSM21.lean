import Derived.Test.YtdhebpnkfookcaaGreatSM20
set_option maxRecDepth 100000
set_option maxHeartbeats 8000000
namespace Apo
open Go Go.RowKit
section
theorem freeOf_is {st:Sd} (hs:st.S.length<=65536) (i:Nat):(Zu st).is i↔(1<=i/\i < st.S.length / 4):=(freeOf_suf st hs).at' i
theorem open_tg {st:Sd} {s:Sup} (h:Du st s) (hr:Rest st):st.openC.2=0/\st.openC.1.2=rootText st.S s/\Tg st.S st s st.openC.1.1 [] []:=by
 have hsz:=h.ok.size;have hld:=h.load hr;have hF:=freeOf_suf st hsz;by_cases h0:s.st=0/\s.pg=0/\s.sz=0
 ·have e:st.openC=((⟨s.e,⟨0,0⟩,Zu st,Zu st,((Zu st).give ⟨0,0⟩).2,false⟩,[]),0):=by
   unfold Sd.openC;rw [hld];simp only [if_pos h0,if_pos]
  rw [e,give_zero];refine ⟨rfl,by unfold rootText;rw [if_pos h0],h,Cnf.new hr.2.1,rfl,rfl,hF.lo,hF.lo,hF.lo,hF.len,hF.len,hF.len,fun _ q=>q,fun _ q=>q,by rw [h0.1,h0.2.1];rfl,fun i q=>by have:=q.2;omega,by simp,by simp⟩
 ·have h1:s.st≠0:=by
   rcases h.root with r | ⟨_,_,r,_⟩
   ·exact absurd r h0
   ·omega
  obtain ⟨o1,o2,o3,o4,o5⟩:=open_is h hr h1
  have hall:(Zu st).all ⟨s.st,s.pg⟩ true=true:=by
   unfold Fr.claim at o4;split at o4
   ·assumption
   ·cases o4
  have e:st.openC=((⟨s.e,⟨s.st,s.pg⟩,(Zu st).put ⟨s.st,s.pg⟩ false,(Zu st).put ⟨s.st,s.pg⟩ false,(((Zu st).put ⟨s.st,s.pg⟩ false).give ⟨s.st,s.pg⟩).2,false⟩,rootText st.S s),0):=by
   unfold Sd.openC;rw [hld];simp only [if_neg h0,if_pos];rw [o2];simp only [if_pos];rw [if_pos ⟨o3,o4⟩,claim_is hall]
  have hg:=give_len ((Zu st).put ⟨s.st,s.pg⟩ false) ⟨s.st,s.pg⟩;rw [e];exact ⟨rfl,rfl,h,Cnf.new hr.2.1,rfl,rfl,hF.lo,hF.lo,hg.2.trans hF.lo,by simp only [Fr.put_len];exact hF.len,by simp only [Fr.put_len];exact hF.len,by simp only;rw [hg.1,Fr.put_len];exact hF.len,fun _ q=>q,fun i q=>give_is q,rfl,fun i q1 q2=>(is_put_false.1 q2).2 q1,by simp,by simp⟩
section
variable {st:Sd} {s:Sup} {c:Cg} {T:List (Spn × List Int)}
end
end
section
abbrev Kt:=Nat × Ck × List Int
def txtOf (x:Kt):Spn × List Int:=(x.2.1.at',x.2.2)
structure Sto (S0:List (List Int)) (sup:Sup) (S:Cs) (K0 K:List Kt) (m:Nat):Prop where
 tg:Tg S0 S.st sup S.c (K0.map txtOf) (K.map txtOf)
 top:∀ i,m<=i->i < S.st.S.length / 4->S.c.f.is i
 m1:1<=m
 ch:∀ i c,S.ch i=some c↔∃ t,(i,c,t) ∈ K
 ck:∀ x ∈ K,x.2.1.size=x.2.2.length/\x.2.1.sum=sumN x.2.2/\1<=x.1/\x.1 < S.next
 asc:K.Pairwise (fun x y=>x.1 < y.1)
 txs:K.Pairwise (fun x y=>x.2.2≠y.2.2)
 en:S.ended=false
 nx:1<=S.next
section
variable {S0:List (List Int)} {sup:Sup} {S S':Cs} {K0 K:List Kt} {m id:Nat} {er:Int} {b:List Int}
theorem Sto.get (h:Sto S0 sup S K0 K m) (hd:S.st.dead=false) {x:Kt} (hx:x ∈ K):S.get x.2.1=(x.2.2,0):=by
 have:=h.tg.get hd (y:=txtOf x) (List.mem_map.2 ⟨x,hx,rfl⟩);unfold Cs.get;rw [(h.ck x hx).1];exact this
theorem Sto.few (h:Sto S0 sup S K0 K m):Few S.ch K.length:=by
 refine ⟨K.map (·.1),fun i hi=>?_,by simp⟩;cases q:S.ch i with
 | none=>exact absurd q hi
 | some c =>
  obtain ⟨t,ht⟩:=(h.ch i c).1 q;exact List.mem_map.2 ⟨_,ht,rfl⟩
theorem Sto.fresh (h:Sto S0 sup S K0 K m):S.ch S.next=none:=by
 cases q:S.ch S.next with
 | none=>rfl
 | some c =>
  obtain ⟨t,ht⟩:=(h.ch _ c).1 q;have:=(h.ck _ ht).2.2.2;simp only at this;omega
theorem Sto.same (h:Sto S0 sup S K0 K m) (hd:S.st.dead=false) (hs:SameR S b id er):er=0/\((∃ x ∈ K,x.2.2=b/\id=x.1)\/(id=0/\∀ x ∈ K,x.2.2≠b)):=by
 obtain ⟨l,hl,hs⟩:=hs;rcases hs with ⟨h1,h2,c,h3,h4,h5⟩ | ⟨h1,h2,h3,h4⟩
 ·refine ⟨h1,.inl ?_⟩;obtain ⟨t,ht⟩:=(h.ch id c).1 h3;have:=h.get hd ht;rw [h5] at this;exact ⟨_,ht,(congrArg Prod.fst this).symm,rfl⟩
 ·refine ⟨h3 (fun i _ c hc _=>?_),.inr ⟨h1,fun x hx e=>?_⟩⟩
  ·obtain ⟨t,ht⟩:=(h.ch i c).1 hc;rw [h.get hd ht]
  ·obtain ⟨i,c,t⟩:=x;simp only at e;subst e;have hch:=(h.ch i c).2 ⟨t,hx⟩;have hck:=h.ck _ hx;exact h2 i ((hl i).2 ⟨c,hch,hck.2.1⟩) c hch hck.1 (h.get hd hx)
theorem need_pos {n:Nat} (h:n<=131072):Zc (n:Int)≠0:=by
 unfold Zc;rw [if_neg (by omega)];split
 ·omega
 ·omega
theorem first_le {f:Fr} {n A:Nat} {j:Nat} (h:f.first (n:Int)=some A) (hj:f.all ⟨(j:Int),(n:Int)⟩ true=true) (hl:j < f.L.length):A<=j:=by
 unfold Fr.first at h
 have:=List.find?_eq_some_iff_append.1 h
 obtain ⟨_,us,bs,e,hn⟩:=this;by_cases q:A<=j
 ·exact q
 ·exfalso
  have hr:(List.range f.L.length)[us.length]?=some A:=by rw [e];simp
  rw [List.getElem?_range] at hr
  ·have hA:us.length=A:=by simpa using hr
   have:j ∈ us:=by
    have h2:(List.range f.L.length)[j]?=some j:=by rw [List.getElem?_range hl]
    rw [e,List.getElem?_append_left (by omega)] at h2;exact List.mem_of_getElem? h2
   have:=hn j this;rw [hj] at this;simp at this
  ·have:=congrArg List.length e;simp at this
   omega
theorem all_top {f:Fr} {m n N:Nat} (h1:f.lo=1) (h2:f.L.length=N) (ht:∀ i,m<=i->i < N->f.is i) (hm:1<=m) (hn:1<=n) (hr:m+n<=N):f.all ⟨(m:Int),(n:Int)⟩ true=true :=
 all_iff.2 ⟨by simp only;omega,by rw [h1];simp only;omega,by rw [h2];simp only [Int.toNat_natCast];omega,fun i q1 q2=>by
  simp only [Int.toNat_natCast] at q1 q2;exact ht i q1 (by omega)⟩
theorem Sto.put (h:Sto S0 sup S K0 K m) (ha:Alive S.st) (hb:∀ z ∈ b,0<=z/\z<=255) (hl:b.length<=131072) (hx:S.next < 18446744073709551615) (hp:PutR S b id er S') :
  (∃ x ∈ K,x.2.2=b/\id=x.1/\er=0/\S'=S) \/
  ((∀ x ∈ K,x.2.2≠b)/\((er=70/\S'=S/\S.st.S.length / 4 < m+Zc b.length) \/
    (er=0/\id=S.next/\∃ c m',Sto S0 sup S' K0 (K++[(S.next,c,b)]) m'/\m'<=m+Zc b.length/\Alive S'.st/\S'.next=S.next+1/\S'.st.S=S.st.S/\S'.first=S.first/\S'.gone=S.gone/\S'.state=S.state/\S'.st.C.length<=S.st.C.length+4232))):=by
 unfold PutR at hp;rw [if_neg (by rw [h.en];simp),if_neg (by omega)] at hp;obtain ⟨id0,er0,hs1,hp⟩:=hp;obtain ⟨e0,hs2⟩:=h.same ha.1 hs1;subst e0;rcases hs2 with ⟨x,hx,hxb,hid⟩ | ⟨hid,hno⟩
 ·have:1<=x.1:=(h.ck x hx).2.2.1;rw [if_pos (.inl (by omega))] at hp;exact .inl ⟨x,hx,hxb,by omega,hp.2.1,hp.2.2⟩
 ·right
  refine ⟨hno,?_⟩;rw [if_neg (by simp [hid]),if_neg (by omega)] at hp;have hn:=need_pos hl;cases hf:S.c.f.first (Zc b.length) with
  | none =>
   left
   rw [h.tg.put_none hn hf] at hp;rw [if_pos (by simp)] at hp;refine ⟨hp.2.1,?_,?_⟩
   ·rw [hp.2.2];have he:endsE 70=S.ended:=by rw [h.en];rfl
    simp only [he]
   ·by_cases q:S.st.S.length / 4 < m+Zc b.length
    ·exact q
    ·exfalso
     have:=all_top (f:=S.c.f) (m:=m) (n:=Zc b.length) h.tg.lf h.tg.Lf h.top h.m1 (by omega) (by omega);unfold Fr.first at hf
     rw [List.find?_eq_none] at hf;exact hf m (by rw [List.mem_range,h.tg.Lf];omega) this
  | some A =>
   right
   obtain ⟨p1,p2⟩:=h.tg.put_alive ha hn hf;rcases h.tg.put hb hn hf with ⟨q1,q2,q3,q4,q5⟩ | ⟨q1,_⟩
   ·rw [if_neg (by rw [q1];simp)] at hp;obtain ⟨hi,he,hS⟩:=hp;obtain ⟨r1,r2,r3,r4⟩:=h.tg.row hf;have hCl:=put_C S.c S.st b;refine ⟨he,hi,⟨⟨A,Zc b.length⟩,b.length,sumN b⟩,max m (A+Zc b.length),?_,?_,?_,?_,?_,?_,?_,?_,?_⟩
    ·rw [hS];refine ⟨?_,?_,?_,?_,?_,?_,?_,rfl,by simp only;have:=h.nx;omega⟩
     ·simp only [List.map_append,List.map_cons,List.map_nil];exact q3
     ·intro i hi1 hi2;simp only at hi2 ⊢;rw [q5];simp only;rw [is_put_false];refine ⟨h.top i (by omega) (by rw [q4] at hi2;exact hi2),by omega⟩
     ·have:=h.m1;omega
     ·intro i c;simp only;by_cases z:i=S.next
      ·subst z;rw [upd_same];constructor
       ·intro e;cases e
        exact ⟨b,by rw [q1];simp⟩
       ·rintro ⟨t,ht⟩;rcases List.mem_append.1 ht with y | y
        ·have:=(h.ck _ y).2.2.2;simp only at this;omega
        ·simp only [List.mem_cons,List.not_mem_nil,or_false,Prod.mk.injEq] at y;rw [q1,y.2.1]
      ·rw [ZY _ _ z,h.ch];constructor
       ·rintro ⟨t,ht⟩;exact ⟨t,by simp [ht]⟩
       ·rintro ⟨t,ht⟩;rcases List.mem_append.1 ht with y | y
        ·exact ⟨t,y⟩
        ·simp only [List.mem_cons,List.not_mem_nil,or_false,Prod.mk.injEq] at y;exact absurd y.1 z
     ·intro x hx';rcases List.mem_append.1 hx' with y | y
      ·have:=h.ck x y;exact ⟨this.1,this.2.1,this.2.2.1,by simp only;omega⟩
      ·simp only [List.mem_cons,List.not_mem_nil,or_false] at y;subst y;exact ⟨rfl,rfl,h.nx,by simp⟩
     ·rw [List.pairwise_append];refine ⟨h.asc,List.pairwise_singleton _ _,fun x hx' y hy=>?_⟩;simp only [List.mem_cons,List.not_mem_nil,or_false] at hy;subst hy;exact (h.ck x hx').2.2.2
     ·rw [List.pairwise_append];refine ⟨h.txs,List.pairwise_singleton _ _,fun x hx' y hy=>?_⟩;simp only [List.mem_cons,List.not_mem_nil,or_false] at hy;subst hy;exact hno x hx'
    ·by_cases q:m+Zc b.length<=S.st.S.length / 4
     ·have:=first_le hf (all_top (f:=S.c.f) (m:=m) (n:=Zc b.length) h.tg.lf h.tg.Lf h.top h.m1 (by omega) q) (by rw [h.tg.Lf];omega);omega
     ·omega
    ·rw [hS];exact p2
    ·rw [hS]
    ·rw [hS];exact q4
    ·rw [hS]
    ·rw [hS]
    ·rw [hS]
    ·rw [hS];exact hCl
   ·exact absurd p1 q1
end
theorem fresh_load {n:Int} (h:2<=lenOf n):(Zl n).load.2=50:=by
 have hl:(Zl n).load.2=50:=by
  have hr:Rest (Zl n):=⟨rfl,rfl,fun j=>by
   show (List.replicate (lenOf n) false).getD j false=false
   rw [List.getD_eq_getElem?_getD];cases q:(List.replicate (lenOf n) false)[j]? with
   | none=>rfl
   | some x=>exact List.eq_of_mem_replicate (List.mem_of_getElem? q)⟩
  have hS:(Zl n).S.length=lenOf n:=by simp [Zl]
  have h0:=rest_told hr (i:=0) (by omega);have h1:=rest_told hr (i:=1) (by omega);have e0:(Zl n).S[0]'(by omega)=zeros:=by simp [Zl]
  have e1:(Zl n).S[1]'(by omega)=zeros:=by simp [Zl]
  rw [e0] at h0;rw [e1] at h1;have hz:ZX zeros=false:=by decide
  unfold Sd.load;rw [show (0:Int)=((0:Nat):Int) from rfl,show (1:Int)=((1:Nat):Int) from rfl,h0,h1];simp only [pickSup,hz];decide
 exact hl
end
end Apo
namespace Go.Proofs.YtdhebpnkfookcaaGreat
open Go.RowKit Apo
def cs1 (c:Cg) (st:Sd):Cs:=⟨c,st,fun _=>none,1,[],1,fun _=>none,false⟩
theorem neq_span0 (W:World):(binOp .neq 108 (.agg #[.int .i64 0,.int .i64 0]) (.agg #[.int .i64 0,.int .i64 0])).run Tryz.prog W=.ok (.bool false) W:=by
 kernel_rfl
def OpenP (O:Nat->Prop) (w:World) (d:Nat) (S:Cs) (e:Ending) (w':World):Prop:=∃ s,e=.returned (.tuple #[.pointer (some ⟨s,0,none⟩),.int .i64 0])/\CSx (Gro O w w') w' s d S/\Onl O w w'
open Classical in
theorem hopen_new {O:Nat->Prop} {w:World} {d:Nat} {st:Sd} (h:CDev O w d st) (hO:∀ i,O i->i < w.heap.size) (hc:st.C.length<=536870000) (h1:st.load.2=50) (h2:st.format.1=0) (E:Nat) (h3:st.format.2.load=(⟨E,0,0,0⟩,0)) (h5:st.format.2.openC.1.1=⟨E,⟨0,0⟩,Zu st.format.2,Zu st.format.2,((Zu st.format.2).give ⟨0,0⟩).2,false⟩) (hfc:st.format.2.C.length<=536870912) :
  Calls Tryz.prog 28 #[.pointer (some ⟨d,0,none⟩)] w (OpenP O w d (cs1 st.format.2.openC.1.1 st.format.2)):=by
 have C1:=copen_lerr h hO (by omega) (by rw [h1];decide);rw [h1] at C1;have h4:st.format.2.openC.1.1.r=⟨0,0⟩:=by rw [h5]
 have HH:=Za h;have HC1:=Za C1;obtain ⟨⟨⟨e,r,f,fw,fn,en⟩,root⟩,hcc⟩:∃ c,c=st.format.2.openC.1:=⟨_,rfl⟩;obtain ⟨st2,hst2⟩:∃ st2,st2=st.format.2:=⟨_,rfl⟩;have HST:=Za hst2;have HCC:=Za hcc;have H3:=Za h3;have H4:=Za h4;have H5:=Za h5;have H2:=Za h2;have HOO:=Za hO;clear h C1 hcc hst2 h3 h4 h5 h2 h1 hO;go_enter Tryz.func28,Tryz.ntmps28
 go_wp2_with fail
 refine HC1.out.mono ?_;rintro e1 w1 ⟨rfl,b1⟩;have CF:=cformat_any (w:=w1) (HH.out.onl (F:=fun _=>False) (Onl.ofBelow b1) (fun _ _ q=>q)) (fun i q=>Nat.lt_of_lt_of_le (HOO.out i q) b1.size) (by omega);rw [H2.out] at CF;have HCF:=Za CF;have HB1:=Za b1;clear CF b1;go_wp2_with fail
 refine HCF.out.mono ?_;rintro e2 w2 ⟨rfl,d2,o2⟩;have hO2:∀ i,Gro O w1 w2 i->i < w2.heap.size:=Gro.lt (fun i q=>Nat.lt_of_lt_of_le (HOO.out i q) HB1.out.size) o2.size;have C2:=copen_none d2 hO2 hfc E H3.out;rw [<- H5.out] at C2;have HC2:=Za C2;have HO2:=Za o2;clear C2 o2 d2 hO2;go_wp2_with fail
 refine HC2.out.mono ?_;rintro e3 w3 ⟨p,v,rfl,t3,p3,b3⟩;obtain ⟨va,vc,hv,_,_,_,_⟩:=t3;subst hv
 have hO3:∀ i,Gro (Gro O w1 w2) w2 w3 i->Gro O w w3 i:=fun i q=>by
  have z1:=HB1.out.size;have z2:=HO2.out.size;have z3:=b3.size;rcases q with (q | q) | q
  ·exact .inl q
  ·exact .inr (by omega)
  ·exact .inr (by omega)
 have p3':=p3.mono hO3;have CN:=hnew_any w3;have hpl:=p3.lt;have HB3:=Za b3;have HP3:=Za p3';have HCN:=Za CN;clear p3 p3' CN b3 hO3;go_wp2_with fail
 refine HCN.out.mono ?_;rintro e4 w4 ⟨rfl,m1,m2,b4⟩;have lt1:=m1.lt;have lt2:=m2.lt;have kS:=Ob.new w4 [.pointer (some ⟨p,0,none⟩),.map (some (w3.heap.size+1)),.map (some (w3.heap.size+2)),.int .u64 1,.slice none 0 0,.int .u64 0,.map none,.bool false] 106;have b5:Below w4.heap.size w4 (w4.alloc (.cells #[.pointer (some ⟨p,0,none⟩),.map (some (w3.heap.size+1)),.map (some (w3.heap.size+2)),.int .u64 1,.slice none 0 0,.int .u64 0,.map none,.bool false] 106)):=(Below.refl _ w4).alloc (Nat.le_refl _) _;have p5:=(HP3.out.below b4).below b5;have CR:=croot_any p5;rw [H4.out] at CR;simp only at CR;have m1':=m1.below b5;have m2':=m2.below b5;have HCR:=Za CR;have HKS:=Za kS;have HP5:=Za p5;have HM1:=Za m1';have HM2:=Za m2';have HB4:=Za b4;have HB5:=Za b5;clear CR kS p5 m1 m2 m1' m2' b4;have hsz5:(w4.alloc (.cells #[.pointer (some ⟨p,0,none⟩),.map (some (w3.heap.size+1)),.map (some (w3.heap.size+2)),.int .u64 1,.slice none 0 0,.int .u64 0,.map none,.bool false] 106)).heap.size=w4.heap.size+1:=by simp
 go_wp2_with fail
 refine HCR.out.mono ?_;rintro e6 w6 ⟨rfl,b6⟩;have k6:=HKS.out.old b6;have CB:=hbegin_ob k6;have hn:=neq_span0 w6;have s3:=HB3.out.size;have s4:=HB4.out.size;have s6:=b6.size;have s1:=HB1.out.size;have s2:=HO2.out.size
 have HF:Hid (∀ w7,Ob w7 w4.heap.size 106 [.pointer (some ⟨p,0,none⟩),.map (some (w3.heap.size+1)),.map (some (w3.heap.size+2)),.int .u64 ((1:Nat):Int),.slice none 0 0,.int .u64 ((1:Nat):Int),.map (some w6.heap.size),.bool false]->Mp Tryz.prog 27 w7 w6.heap.size (fun _=>none)->Onl (fun i=>i=w4.heap.size) w6 w7->w7.heap.size=w6.heap.size+1->OpenP O w d (cs1 st.format.2.openC.1.1 st.format.2) (.returned (.tuple #[.pointer (some ⟨w4.heap.size,0,none⟩),.int .i64 0])) w7):=by
  refine Za (fun w7 k7 m7 o7 z7=>?_);have o67:Onl (fun i=>i=w4.heap.size) (w4.alloc (.cells #[.pointer (some ⟨p,0,none⟩),.map (some (w3.heap.size+1)),.map (some (w3.heap.size+2)),.int .u64 1,.slice none 0 0,.int .u64 0,.map none,.bool false] 106)) w7:=(Onl.ofBelow b6).trans o7;have hU:∀ i,i < w4.heap.size->i≠w4.heap.size:=fun i q=>by omega
  refine ⟨w4.heap.size,rfl,⟨fun i=>if i=w4.heap.size then 1 else if i=w3.heap.size+1 then 10 else if i=w3.heap.size+2 then 11 else if i=w6.heap.size then 5 else if Gro O w w3 i/\i < w3.heap.size then 2 else 0,p,w3.heap.size+1,w3.heap.size+2,w6.heap.size,none,0,fun _=>[],⟨k7,?_,?_,⟨?_,?_,?_,fun _=>.slice none 0 0,?_,?_⟩,?_,?_,?_,?_,?_,?_,?_⟩,⟨?_,?_⟩,?_⟩,?_⟩
  ·simp
  ·refine ((((HP3.out.dom (V:=fun i=>Gro O w w3 i/\i < w3.heap.size) (fun i hi q=>⟨q,hi⟩)).below HB4.out).below HB5.out).onl o67 (fun i q=>by have:=q.2;omega)).dom (fun i _ q=>?_);have:=q.2;show (if i=w4.heap.size then 1 else if i=w3.heap.size+1 then 10 else if i=w3.heap.size+2 then 11 else if i=w6.heap.size then 5 else if Gro O w w3 i/\i < w3.heap.size then 2 else 0)=2
   rw [if_neg (by omega),if_neg (by omega),if_neg (by omega),if_neg (by omega),if_pos q]
  ·exact HM1.out.onl o67 (by omega)
  ·try simp only
   rw [if_neg (by omega),if_pos trivial]
  ·try simp only
   rw [if_neg (by omega),if_neg (by omega),if_pos trivial]
  ·exact HM2.out.onl o67 (by omega)
  ·exact fun k hk=>absurd rfl hk
  ·exact m7
  ·try simp only
   rw [if_neg (by omega),if_neg (by omega),if_neg (by omega),if_pos trivial]
  ·exact fun i hi=>absurd hi (by simp [cs1])
  ·exact fun _=>rfl
  ·simp [cs1]
  ·exact fun x hx=>by cases hx
  ·intro i q;try simp only at q
   split at q
   ·omega
   ·split at q
    ·omega
    ·split at q
     ·omega
     ·split at q
      ·omega
      ·split at q
       ·next z=>have:=z.2;omega
       ·exact absurd rfl q
  ·intro k i;exact ⟨fun q=>by simp at q,fun ⟨c,q,_⟩=>by cases q⟩
  ·intro k;exact List.nodup_nil
  ·intro i q;try simp only at q
   split at q
   ·exact .inr (by omega)
   ·split at q
    ·exact .inr (by omega)
    ·split at q
     ·exact .inr (by omega)
     ·split at q
      ·exact .inr (by omega)
      ·split at q
       ·next z =>
        rcases z.1 with y | y
        ·exact .inl y
        ·exact .inr (by omega)
       ·exact absurd rfl q
  ·refine ((((((Onl.ofBelow HB1.out).trans HO2.out).trans (Onl.ofBelow HB3.out)).trans (Onl.ofBelow HB4.out)).trans (Onl.ofBelow HB5.out)).trans (Onl.ofBelow b6)).more o7 (fun i q=>.inr (by omega))
 have HCB:=Za CB;clear CB k6;go_wp2_with fail
 refine HCB.out.mono ?_;rintro e8 w8 ⟨rfl,k8,m8,o8,z8⟩;have HFF:=Za (HF.out w8 k8 m8 o8 z8);clear k8 m8 o8 z8 HF;go_wp2;refine bodyPost_ret (by simp [results,Tryz.results28,go_sem];rfl) rfl ?_;exact HFF.out
end Go.Proofs.YtdhebpnkfookcaaGreat
namespace Apo
open Go Go.RowKit
theorem open_first {n:Int} (h8:8<=lenOf n):(Zl n).format.2.openC=((⟨1,⟨0,0⟩,Zu (Zl n).format.2,Zu (Zl n).format.2,((Zu (Zl n).format.2).give ⟨0,0⟩).2,false⟩,[]),0):=by
 obtain ⟨f1,f2,f3,f4⟩:=format_du h8;have hld:=f2.load f3;unfold Sd.openC;rw [hld];simp
end Apo
namespace Go.Proofs.YtdhebpnkfookcaaGreat
open Go.RowKit Apo
section
def newCs (n:Int):Cs:=cs1 (Zl n).format.2.openC.1.1 (Zl n).format.2
theorem sto_new {n:Int} (h8:8<=lenOf n):Sto (Zl n).format.2.S ⟨1,0,0,0⟩ (newCs n) [] [] 1:=by
 obtain ⟨f1,f2,f3,f4⟩:=format_du h8;obtain ⟨o1,o2,o3⟩:=open_tg f2 f3;refine ⟨o3,fun i h1 h2=>?_,Nat.le_refl _,fun i c=>?_,fun x hx=>by simp at hx,List.Pairwise.nil,List.Pairwise.nil,rfl,Nat.le_refl _⟩
 ·show (Zl n).format.2.openC.1.1.f.is i
  rw [open_first h8];exact (freeOf_is f2.ok.size i).2 ⟨h1,h2⟩
 ·constructor
  ·intro q;cases q
  ·rintro ⟨t,q⟩;simp at q
theorem newCs_st {n:Int} (h8:8<=lenOf n):Alive (newCs n).st/\(newCs n).st.C=[]/\(newCs n).st.S.length=lenOf n/\(newCs n).next=1:=by
 obtain ⟨f1,f2,f3,f4⟩:=format_du h8;exact ⟨alive_format h8,f3.2.1,f4,rfl⟩
structure LwS (w W:World) (s d:Nat) (S:Cs) (O:Nat->Prop):Prop where
 c:CSx O W s d S
 lo:∀ i,O i->w.heap.size<=i
 hi:∀ i,O i->i < W.heap.size
 bel:Below w.heap.size w W
section
variable {w W W':World} {s d:Nat} {S S':Cs} {st:Sd} {O:Nat->Prop}
theorem LwS.below (h:LwS w W s d S O) (b:Below W.heap.size W W'):LwS w W' s d S O :=
 ⟨h.c.below b,h.lo,fun i q=>Nat.lt_of_lt_of_le (h.hi i q) b.size,h.bel.trans (b.mono h.bel.size)⟩
theorem LwS.turn (h:LwS w W s d S O) (k:CSx (Gro O W W') W' s d S') (o:Onl O W W'):LwS w W' s d S' (Gro O W W') :=
 ⟨k,Gro.base h.lo h.bel.size,Gro.lt h.hi o.size,Below.onl h.bel o h.lo (Nat.le_refl _)⟩
theorem LwD.store (h:LwD w W d st O) (k:CSx (Gro O W W') W' s d S) (o:Onl O W W'):LwS w W' s d S (Gro O W W') :=
 ⟨k,Gro.base h.lo h.bel.size,Gro.lt h.hi o.size,Below.onl h.bel o h.lo (Nat.le_refl _)⟩
end
theorem lopen_new {w W:World} {d:Nat} {n:Int} {O:Nat->Prop} (h:LwD w W d (Zl n) O) (h8:8<=lenOf n) :
  Calls Tryz.prog 28 #[.pointer (some ⟨d,0,none⟩)] W fun e W'=>∃ s O',e=.returned (.tuple #[.pointer (some ⟨s,0,none⟩),.int .i64 0])/\LwS w W' s d (newCs n) O':=by
 obtain ⟨f1,f2,f3,f4⟩:=format_du h8;have ho:=open_first h8;have hC:(Zl n).C.length=0:=rfl;exact (hopen_new h.c h.hi (by rw [hC];omega) (fresh_load (by omega)) f1 1 (f2.load f3) (by rw [ho]) (by rw [f3.2.1];simp)).mono (fun _ _ ⟨s,h1,h2,h3⟩=>⟨s,_,h1,h.store h2 h3⟩)
theorem lput {w W:World} {s d:Nat} {S:Cs} {O:Nat->Prop} {S0:List (List Int)} {sup:Sup} {K0 K:List Kt} {m:Nat} (h:LwS w W s d S O) (hs:Sto S0 sup S K0 K m) (hK:K.length<=16383) (hnl:S.next < 18446744073709551616) (hcc:S.st.C.length<=536870912)
  (ba:Option Addr) (bcap:Nat) (b:List Int) (hr:Rd .u8 W ba b) (hrn:ba=none->bcap=0) (hrl:b.length<=bcap) (hl:b.length<=1099511627776) (hby:∀ z ∈ b,0<=z/\z<=255) (hbo:∀ x,ba=some x->0 < b.length->¬ O x.block) :
  Calls Tryz.prog 33 #[.pointer (some ⟨s,0,none⟩),.slice ba b.length bcap] W fun e W'=>∃ (id:Nat) (er:Int) (S':Cs) (O':Nat->Prop),e=.returned (.tuple #[.int .u64 id,.int .i64 er])/\PutR S b id er S'/\LwS w W' s d S' O'/\Onl O W W'/\O'=Gro O W W' :=
 (hput_any h.c (hs.few.mono hK) hs.fresh hnl hcc ba bcap b hr hrn hrl hl hby hbo).mono (fun _ _ ⟨id,er,S',h1,h2,h3,h4⟩=>⟨id,er,S',_,h1,h2,h.turn h3 h4,h4,rfl⟩)
end
def Cs.getId (S:Cs) (id:Nat):List Int × Int:=if S.ended then ([],40) else match S.ch id with | none=>([],3) | some c=>S.get c
def GetP (S:Cs) (id:Nat) (w:World) (e:Ending) (w':World):Prop:=∃ v,e=.returned (.tuple #[v,.int .i64 (Cs.getId S id).2])/\TldR w' w.heap.size v (Cs.getId S id).1/\Below w.heap.size w w'
theorem hget_any {O:Nat->Prop} {w:World} {s d:Nat} {S:Cs} (h:CSx O w s d S) (hcc:S.st.C.length<=1073741824) (id:Nat) (hid:id < 18446744073709551616) :
  Calls Tryz.prog 41 #[.pointer (some ⟨s,0,none⟩),.int .u64 id] w (GetP S id w):=by
 obtain ⟨L,pg,bc,bs,bg,sa,sc,sm,h,_,_⟩:=h;have c0:=h.ob.cell 0;have c1:=h.ob.cell 1;simp only [stC,List.getElem?_cons_zero,List.getElem?_cons_succ] at c0 c1;have hslt:=h.ob.lt;have HC0:=Za (fun (W:World) (bW:Below w.heap.size w W)=>(bW.cell (p:=⟨s,0,none⟩) hslt).trans c0);have CA:=halive_ob h.ob (b:=S.ended) (pg:=pg) rfl rfl;have R1:=h.sh.mc.look2 hk64 Tryz.underlying100 zero_ck hid;have hget:∀ W,Below w.heap.size w W->∀ c:Ck,Calls Tryz.prog 72 #[.pointer (some ⟨pg,0,none⟩),.agg #[.int .i64 c.at'.a,.int .i64 c.at'.k],.int .i64 c.size] W fun e w'=>∃ v,e=.returned (.tuple #[v,.int .i64 (S.get c).2])/\TldR w' W.heap.size v (S.get c).1/\Below W.heap.size W w':=fun W bW c=>cget_gen (h.px.below bW) hcc c.at' c.size
 have HGET:=Za hget;unfold ckM at R1;clear h hget c0;cases hen:S.ended with
 | true =>
  rw [hen] at CA
  have HF:Hid (GetP S id w (.returned (.tuple #[.slice none 0 0,.int .i64 40])) w):=by
   refine Za ⟨.slice none 0 0,?_,?_,Below.refl _ _⟩
   ·unfold Cs.getId;rw [hen];rfl
   ·unfold Cs.getId;rw [hen];exact TldR.nil _ _
  go_enter Tryz.func41,Tryz.ntmps41
  go_wp2_with fail
  refine CA.mono ?_;rintro e w1 ⟨rfl,rfl⟩;go_wp2;refine bodyPost_ret (by simp [results,Tryz.results41,go_sem];rfl) rfl ?_;exact HF.out
 | false =>
  rw [hen] at CA;cases hch:S.ch id with
  | none =>
   rw [hch] at R1;simp only [Option.map_none,Option.getD_none,Option.isSome_none] at R1
   have HF:Hid (∀ o,GetP S id w (.returned (.tuple #[.slice none 0 0,.int .i64 3])) (w.alloc o)):=by
    refine Za (fun o=>⟨.slice none 0 0,?_,?_,(Below.refl _ w).alloc (Nat.le_refl _) _⟩)
    ·unfold Cs.getId;rw [hen,hch];rfl
    ·unfold Cs.getId;rw [hen,hch];exact TldR.nil _ _
   go_enter Tryz.func41,Tryz.ntmps41
   go_wp2_with fail
   refine CA.mono ?_;rintro e w1 ⟨rfl,rfl⟩;go_wp2;refine bodyPost_ret (by simp [results,Tryz.results41,go_sem];rfl) rfl ?_;exact HF.out _
  | some c =>
   rw [hch] at R1;obtain ⟨⟨⟨pa,pk⟩,csize,csum⟩,hcd⟩:∃ c',c'=c:=⟨_,rfl⟩;have hval:Ck.val c=.agg #[.int .i64 pa,.int .i64 pk,.int .i64 csize,.int .u64 csum]:=by rw [<- hcd];rfl
   simp only [Option.map_some,Option.getD_some,Option.isSome_some] at R1;rw [hval] at R1;obtain ⟨W1,hW1⟩:∃ W1,W1=w.alloc (.cells #[.int .i64 pa,.int .i64 pk,.int .i64 csize,.int .u64 csum] 123):=⟨_,rfl⟩;have kb:Ob W1 w.heap.size 123 [.int .i64 pa,.int .i64 pk,.int .i64 csize,.int .u64 csum]:=by rw [hW1];exact Ob.new w [.int .i64 pa,.int .i64 pk,.int .i64 csize,.int .u64 csum] 123
   have hbn:Below w.heap.size w W1:=by rw [hW1];exact (Below.refl _ w).alloc (Nat.le_refl _) _
   have x0:=HC0.out W1 hbn;have y0:=kb.cell 0;have y1:=kb.cell 1;have y2:=kb.cell 2;simp only [List.getElem?_cons_zero,List.getElem?_cons_succ] at y0 y1 y2;have CG:=HGET.out W1.drew hbn.drew c;rw [<- hcd] at CG;simp only at CG;have HG0:Hid (Cs.getId S id=S.get ⟨⟨pa,pk⟩,csize,csum⟩):=Za (by unfold Cs.getId;rw [hen,hch,<- hcd];rfl);obtain ⟨G,hG⟩:∃ G,G=S.get ⟨⟨pa,pk⟩,csize,csum⟩:=⟨_,rfl⟩;rw [<- hG] at CG HG0;have HCG:=Za CG;have HBN:=Za hbn;have hsz:w.heap.size<=W1.heap.size:=hbn.size;have hs1:s < W1.drew.heap.size:=Nat.lt_of_lt_of_le hslt hsz;have hw1:w.heap.size < W1.drew.heap.size:=kb.lt;clear CG kb hbn hval hcd hch hen hG;go_enter Tryz.func41,Tryz.ntmps41
   go_wp2_with fail
   refine CA.mono ?_;rintro e w1 ⟨rfl,rfl⟩;go_wp2;rw [<- hW1];clear hW1
   go_region_held3 (fun W'=>W'.cell? ⟨s,0,none⟩=some (.pointer (some ⟨pg,0,none⟩))/\W'.cell? ⟨w.heap.size,0,none⟩=some (.int .i64 pa)/\W'.cell? ⟨w.heap.size,1,none⟩=some (.int .i64 pk)/\W'.cell? ⟨w.heap.size,2,none⟩=some (.int .i64 csize)) (go_keep) (first
    | (go_at_call 72;refine HCG.out.mono ?_;rintro e w3 ⟨v3,rfl,t3,b3⟩;obtain ⟨va,vc,hva,t3⟩:=t3;subst hva;have z0:=(b3.cell (p:=⟨s,0,none⟩) hs1).trans x0;have z1:=(b3.cell (p:=⟨w.heap.size,0,none⟩) hw1).trans y0;have z2:=(b3.cell (p:=⟨w.heap.size,1,none⟩) hw1).trans y1;have z3:=(b3.cell (p:=⟨w.heap.size,2,none⟩) hw1).trans y2;have HT3:=Za (show TldR w3 W1.drew.heap.size (.slice va G.1.length vc) G.1 from ⟨va,vc,rfl,t3⟩);have HB3:=Za b3;clear t3 b3))
   go_wp2;refine bodyPost_ret (by simp [results,Tryz.results41,go_sem];rfl) rfl ?_;refine ⟨.slice va G.1.length vc,by rw [HG0.out],?_,HBN.out.drew.trans (HB3.out.mono hsz)⟩;rw [HG0.out];obtain ⟨a,c,e1,e2,e3,e4,e5⟩:=HT3.out;exact ⟨a,c,e1,e2,e3,fun x hx=>⟨Nat.le_trans hsz (e4 x hx).1,(e4 x hx).2⟩,e5⟩
end Go.Proofs.YtdhebpnkfookcaaGreat
