import Derived.Test.YtdhebpnkfookcaaGreatSM02
set_option maxRecDepth 100000
set_option maxHeartbeats 4000000
namespace Go.Proofs.YtdhebpnkfookcaaGreat
open Go.RowKit Apo
section
attribute [local go_sem ↓] Apo.app_exec Apo.cp_exec Apo.cl_exec
theorem rcells_take:∀ (R:List (Nat × Nat)) (i:Nat),(Zb R).take (i * 2)=Zb (R.take i)
 | [],i=>by simp [Zb]
 | x :: R,0=>by simp [Zb]
 | x :: R,i+1=>by
  rw [show (i+1) * 2=i * 2+1+1 by omega];simp only [Zb,List.take_succ_cons,rcells_take R i]
theorem rcells_drop:∀ (R:List (Nat × Nat)) (i:Nat),(Zb R).drop (i * 2)=Zb (R.drop i)
 | [],i=>by simp [Zb]
 | x :: R,0=>by simp [Zb]
 | x :: R,i+1=>by
  rw [show (i+1) * 2=i * 2+1+1 by omega];simp only [Zb,List.drop_succ_cons,rcells_drop R i]
theorem ZR:∀ (R:List (Nat × Nat)),∀ v ∈ Zb R,v.oneCell'=true
 | [],v,h=>by simp [Zb] at h
 | x :: R,v,h=>by
  simp only [Zb,List.mem_cons] at h;rcases h with rfl | rfl | h
  ·rfl
  ·rfl
  ·exact ZR R v h
section
variable {O:Nat->Prop} {w w':World} {e:TypeId} {size n:Nat} {v:Value} {xs:List Value}
theorem row_ob (h:Row O w e size v n xs):(v=.slice none 0 0/\n=0/\xs=[])\/∃ g cap cur,v=.slice (some ⟨g,0,none⟩) n cap/\O g/\Ob w g e cur/\n<=cap/\cap<=maxLen/\cur.length=cap * size/\cur.take (n * size)=xs:=by
 rcases h.1.2 with ⟨rfl,hz⟩ | ⟨g,cap,cur,rfl,_,hg,h1,h2,h3,h4⟩
 ·left
  refine ⟨rfl,hz,?_⟩;have:=h.1.1;rw [hz,Nat.zero_mul] at this;exact List.eq_nil_of_length_eq_zero this
 ·exact .inr ⟨g,cap,cur.toList,rfl,h.2 g rfl,hg,h1,h2,by simpa using h3,h4⟩
theorem ob_row {g cap:Nat} {cur:List Value} (hO:O g) (h:Ob w g e cur) (h1:n<=cap) (h2:cap<=maxLen) (h3:cur.length=cap * size) (h4:cur.take (n * size)=xs):Row O w e size (.slice (some ⟨g,0,none⟩) n cap) n xs:=by
 refine ⟨⟨?_,.inr ⟨g,cap,cur.toArray,rfl,Nat.zero_le _,h,h1,h2,by simpa using h3,by simpa using h4⟩⟩,fun k hk=>?_⟩
 ·rw [<- h4,List.length_take,h3];exact Nat.min_eq_left (Nat.mul_le_mul_right _ h1)
 ·simp only [Value.ownBlock,Option.some.injEq] at hk;subst hk;exact hO
end
theorem add_off (g o j:Nat):(⟨g,o,none⟩:Addr).add j=⟨g,o+j,none⟩:=by unfold Addr.add;split <;> simp_all
theorem ob_src {w:World} {g t:Nat} {cur cs:List Value} {o:Nat} (h:Ob w g t cur) (hc:∀ j v,cs[j]?=some v->cur[o+j]?=some v):∀ j v,cs[j]?=some v->w.cell? ((⟨g,o,none⟩:Addr).add j)=some v:=by
 intro j v hv;rw [add_off,h.cell];exact hc j v hv
theorem over_no {w:World} {g h o o' la ca lb cb t t':Nat} {cur cur':List Value} (hne:g≠h) (hg:Ob w g t cur) (hh:Ob w h t' cur') (hc:cur'.length≠0) :
  (callFunc 207 #[.slice (some ⟨g,o,none⟩) la ca,.slice (some ⟨h,o',none⟩) lb cb]).run Tryz.prog w=.ok (.value (.bool false)) w:=by
 have hz:∀ w,(Go.sizeOf 108).run Tryz.prog w=.ok 2 w:=fun w=>by kernel_rfl
 rw [run_callFunc_extern (P:=Tryz.prog) (f:=207) Tryz.func207 (by kernel_rfl) (by kernel_rfl) (by kernel_rfl) (e:=Extern.SlicesOverlaps.overlaps #[208,208] #[4]) (by kernel_rfl),
  Lib.run_overlaps_apart w 208 4 108 Tryz.underlying208 2 hz ⟨g,o,none⟩ ⟨h,o',none⟩ la ca lb cb hne t t' cur.length cur'.length (by unfold World.shape?;rw [show w.heap[g]?=_ from hg];simp) (by unfold World.shape?;rw [show w.heap[h]?=_ from hh];simp) hc (hg.frozen _) (hg.frozen _)]
 rfl
theorem place2 {L A V B:List Value} {a b c:Nat} (ha:A.length=a) (hb:B.length=b) (hv:V.length=c) (hL:L.take (a+b)=A++B) (hl:a+c+b<=L.length):(splice (splice L (a+c) B) a V).take (a+c+b)=A++(V++B):=by
 have hat:∀ j,j < a+b->L[j]?=(A++B)[j]?:=fun j hj=>by rw [<- hL,List.getElem?_take_of_lt hj]
 apply List.ext_getElem?
 intro j;by_cases h:j < a+c+b
 ·rw [List.getElem?_take_of_lt h,splice_at _ _ _ (by rw [length_splice _ _ _ (by omega)];omega),splice_at _ _ _ (by omega)];by_cases h1:j < a
  ·rw [if_pos h1,if_pos (by omega),hat j (by omega),List.getElem?_append_left (by omega),List.getElem?_append_left (by omega)]
  ·rw [if_neg h1,List.getElem?_append_right (by omega),ha];by_cases h2:j < a+V.length
   ·rw [if_pos h2,List.getElem?_append_left (by omega)]
   ·rw [if_neg h2,if_neg (by omega),if_pos (by omega),List.getElem?_append_right (by omega)];congr 1
    omega
 ·rw [List.getElem?_eq_none (by simp;omega),List.getElem?_eq_none (by simp;omega)]
theorem insert_nil {w w5:World} {h m mc:Nat} {u:Value} (hm:0 < m) (hm2:m<=16384) (q1:AppRuns Tryz.prog w #[208,208] 208 #[.slice none 0 0,.slice (some ⟨h,0,none⟩) m mc])
  (q2:appVal Tryz.prog w #[208,208] 208 #[.slice none 0 0,.slice (some ⟨h,0,none⟩) m mc]=u) (q3:appWld Tryz.prog w #[208,208] 208 #[.slice none 0 0,.slice (some ⟨h,0,none⟩) m mc]=w5) :
  Calls Tryz.prog 206 #[.slice none 0 0,.int .i64 0,.slice (some ⟨h,0,none⟩) m mc] w fun e w'=>e=.returned u/\w'=w5:=by
 have hne:((m:Int) == 0)=false:=by simp;omega
 go_enter Tryz.func206,Tryz.ntmps206
 go_wp2;go_ret
 exact ⟨rfl,rfl⟩
theorem insert_end {w w5:World} {g n cap h m mc:Nat} {u:Value} (hm:0 < m) (hm2:m<=16384) (_:n<=cap) (_:n<=16384) (_:cap<=9223372036854775807) (q1:AppRuns Tryz.prog w #[208,208] 208 #[.slice (some ⟨g,0,none⟩) n cap,.slice (some ⟨h,0,none⟩) m mc])
  (q2:appVal Tryz.prog w #[208,208] 208 #[.slice (some ⟨g,0,none⟩) n cap,.slice (some ⟨h,0,none⟩) m mc]=u) (q3:appWld Tryz.prog w #[208,208] 208 #[.slice (some ⟨g,0,none⟩) n cap,.slice (some ⟨h,0,none⟩) m mc]=w5) :
  Calls Tryz.prog 206 #[.slice (some ⟨g,0,none⟩) n cap,.int .i64 n,.slice (some ⟨h,0,none⟩) m mc] w fun e w'=>e=.returned u/\w'=w5:=by
 have hne:((m:Int) == 0)=false:=by simp;omega
 go_enter Tryz.func206,Tryz.ntmps206
 go_wp2 <;> (go_ret;exact ⟨rfl,rfl⟩)
theorem insert_grow {w w1 w2 w3:World} {g n cap h m mc i J T k s2 c2:Nat} {z1 z2:Value} (hm:0 < m) (hm2:m<=16384) (hi:i < n) (hn:n<=cap) (_:n<=16384) (_:cap<=9223372036854775807) (hg:cap < T) (hJT:J < T) (hT:T<=c2) (_:T<=32768) (_:c2<=9223372036854775807)
  (eJ:IntKind.i64.wrap ((i:Int)+(m:Int))=(J:Int)) (eT:IntKind.i64.wrap ((n:Int)+(m:Int))=(T:Int)) (ek:IntKind.i64.wrap ((T:Int) - (i:Int))=(k:Int))
  (q1:AppRuns Tryz.prog w #[208,3] 208 #[.slice (some ⟨g,0,none⟩) i cap,.int .i64 k]) (q2:appVal Tryz.prog w #[208,3] 208 #[.slice (some ⟨g,0,none⟩) i cap,.int .i64 k]=.slice (some ⟨s2,0,none⟩) T c2) (q3:appWld Tryz.prog w #[208,3] 208 #[.slice (some ⟨g,0,none⟩) i cap,.int .i64 k]=w1)
  (r1:CpRuns Tryz.prog w1 #[208,208] 3 #[.slice (some ⟨s2,i * 2,none⟩) (T - i) (c2 - i),.slice (some ⟨h,0,none⟩) m mc]) (r2:cpVal Tryz.prog w1 #[208,208] 3 #[.slice (some ⟨s2,i * 2,none⟩) (T - i) (c2 - i),.slice (some ⟨h,0,none⟩) m mc]=z1) (r3:cpWld Tryz.prog w1 #[208,208] 3 #[.slice (some ⟨s2,i * 2,none⟩) (T - i) (c2 - i),.slice (some ⟨h,0,none⟩) m mc]=w2)
  (s1:CpRuns Tryz.prog w2.drew #[208,208] 3 #[.slice (some ⟨s2,J * 2,none⟩) (T - J) (c2 - J),.slice (some ⟨g,i * 2,none⟩) (n - i) (cap - i)]) (s2':cpVal Tryz.prog w2.drew #[208,208] 3 #[.slice (some ⟨s2,J * 2,none⟩) (T - J) (c2 - J),.slice (some ⟨g,i * 2,none⟩) (n - i) (cap - i)]=z2) (s3:cpWld Tryz.prog w2.drew #[208,208] 3 #[.slice (some ⟨s2,J * 2,none⟩) (T - J) (c2 - J),.slice (some ⟨g,i * 2,none⟩) (n - i) (cap - i)]=w3) :
  Calls Tryz.prog 206 #[.slice (some ⟨g,0,none⟩) n cap,.int .i64 i,.slice (some ⟨h,0,none⟩) m mc] w fun e w'=>e=.returned (.slice (some ⟨s2,0,none⟩) T c2)/\w'=w3:=by
 have hne:((m:Int) == 0)=false:=by simp;omega
 have hne2:((i:Int) == (n:Int))=false:=by simp;omega
 have ne1:cap≠i:=by omega
 have ne2:c2≠i:=by omega
 have ne3:c2≠J:=by omega
 go_enter Tryz.func206,Tryz.ntmps206
 go_wp2;go_region
 go_wp2;go_ret
 exact ⟨rfl,rfl⟩
theorem insert_room {w w2 w3:World} {g n cap h m mc i J T:Nat} {z1 z2:Value} (hm:0 < m) (hm2:m<=16384) (hi:i < n) (hnT:n < T) (_:n<=16384) (_:cap<=9223372036854775807) (hg:T<=cap) (hJT:J < T) (hT2:T<=32768)
  (eJ:IntKind.i64.wrap ((i:Int)+(m:Int))=(J:Int)) (eT:IntKind.i64.wrap ((n:Int)+(m:Int))=(T:Int))
  (ov:(callFunc 207 #[.slice (some ⟨h,0,none⟩) m mc,.slice (some ⟨g,J * 2,none⟩) (T - J) (cap - J)]).run Tryz.prog w=.ok (.value (.bool false)) w)
  (r1:CpRuns Tryz.prog w.drew #[208,208] 3 #[.slice (some ⟨g,J * 2,none⟩) (T - J) (cap - J),.slice (some ⟨g,i * 2,none⟩) (T - i) (cap - i)]) (r2:cpVal Tryz.prog w.drew #[208,208] 3 #[.slice (some ⟨g,J * 2,none⟩) (T - J) (cap - J),.slice (some ⟨g,i * 2,none⟩) (T - i) (cap - i)]=z1) (r3:cpWld Tryz.prog w.drew #[208,208] 3 #[.slice (some ⟨g,J * 2,none⟩) (T - J) (cap - J),.slice (some ⟨g,i * 2,none⟩) (T - i) (cap - i)]=w2)
  (s1:CpRuns Tryz.prog w2 #[208,208] 3 #[.slice (some ⟨g,i * 2,none⟩) (T - i) (cap - i),.slice (some ⟨h,0,none⟩) m mc]) (s2':cpVal Tryz.prog w2 #[208,208] 3 #[.slice (some ⟨g,i * 2,none⟩) (T - i) (cap - i),.slice (some ⟨h,0,none⟩) m mc]=z2) (s3:cpWld Tryz.prog w2 #[208,208] 3 #[.slice (some ⟨g,i * 2,none⟩) (T - i) (cap - i),.slice (some ⟨h,0,none⟩) m mc]=w3) :
  Calls Tryz.prog 206 #[.slice (some ⟨g,0,none⟩) n cap,.int .i64 i,.slice (some ⟨h,0,none⟩) m mc] w fun e w'=>e=.returned (.slice (some ⟨g,0,none⟩) T cap)/\w'=w3:=by
 have hne:((m:Int) == 0)=false:=by simp;omega
 have hne2:((i:Int) == (n:Int))=false:=by simp;omega
 have ne1:cap≠i:=by omega
 have ne3:cap≠J:=by omega
 go_enter Tryz.func206,Tryz.ntmps206
 go_wp2;go_region
 go_wp2;go_ret
 exact ⟨rfl,rfl⟩
theorem span_size:(Tryz.prog.info? 108).map (·.size)=some 2:=by kernel_rfl
theorem Z6 {x:Int} {n:Nat} (h:x=n) (hn:n<=9223372036854775807):IntKind.i64.wrap x=(n:Int):=by rw [h,IntKind.wrap_i64];omega
theorem row_src {R:List (Nat × Nat)} {cur:List Value} {n:Nat} (hn:n=R.length) (h:cur.take (n * 2)=Zb R) (j:Nat):∀ k u,(Zb (R.drop j))[k]?=some u->cur[j * 2+k]?=some u:=by
 intro k u hu;have hk:=(List.getElem?_eq_some_iff.1 hu).1;rw [Zs,List.length_drop] at hk;rw [<- rcells_drop,List.getElem?_drop,<- h,List.getElem?_take_of_lt (by omega)] at hu;exact hu
theorem row_pre {R:List (Nat × Nat)} {cur:List Value} {n:Nat} (hn:n=R.length) (h:cur.take (n * 2)=Zb R) {i:Nat} (hi:i<=n):cur.take (i * 2)=Zb (R.take i):=by
 rw [<- rcells_take,<- h,List.take_take,Nat.min_eq_left (by omega)]
theorem insert_any {O U:Nat->Prop} {w:World} {v vv:Value} {R V:List (Nat × Nat)} {i:Nat} (hr:Row O w 108 2 v R.length (Zb R)) (hv:Row U w 108 2 vv V.length (Zb V)) (hap:∀ g,v.ownBlock=some g->vv.ownBlock≠some g)
  (hi:i<=R.length) (hV:0 < V.length) (hVl:V.length<=16384) (hRl:R.length<=16384) :
  Calls Tryz.prog 206 #[v,.int .i64 i,vv] w fun e w'=>∃ u,e=.returned u/\Row (Gro O w w') w' 108 2 u (R.length+V.length) (Zb (R.take i++(V++R.drop i)))/\w.grownBy w' v.ownBlock:=by
 obtain ⟨i0,hi0,hz0,hz1,hz2⟩:=info_parts info_span;rcases row_ob hv with ⟨_,h0,_⟩ | ⟨h,vc,vcur,rfl,hUh,bV,hv1,hv2,hv3,hv4⟩
 ·omega
 have hvsrc:∀ j u,(Zb V)[j]?=some u->vcur[j]?=some u:=fun j u hu=>by
  have hj:=(List.getElem?_eq_some_iff.1 hu).1;rw [Zs] at hj;rwa [<- hv4,List.getElem?_take_of_lt hj] at hu
 have hnews:∀ j u,(Zb V)[j]?=some u->w.cell? ((⟨h,0,none⟩:Addr).add j)=some u:=ob_src bV (fun j u hu=>by rw [Nat.zero_add];exact hvsrc j u hu)
 have hlen:(Zb (R.take i++(V++R.drop i))).length=(R.length+V.length) * 2:=by
  rw [Zs];simp;omega
 by_cases hin:i=R.length
 ·subst hin;obtain ⟨v5,w5,RR,r5,g5,_,ho5⟩:=run_append_own_at (P:=Tryz.prog) w 0 208 208 108 i0 _ 2 16 Tryz.underlying208 hi0 hz0 hz1 hz2 rfl (by decide) v R.length (Zb R) hr.1 ⟨h,0,none⟩ V.length vc (Zb V) (Zs V) hnews (ZR V) (by unfold maxLen;omega) (by omega) (Nat.zero_le _);obtain ⟨q1,q2,q3⟩:=Zi RR
  have R5:Row (Gro O w w5) w5 108 2 v5 (R.length+V.length) (Zb (R.take R.length++(V++R.drop R.length))):=by
   refine ⟨by rw [List.take_length,List.drop_length,List.append_nil,Z7];exact r5,fun g hg=>?_⟩;rcases ho5 with q | q
   ·exact .inl (hr.2 g (q ▸ hg))
   ·rw [q] at hg;cases hg
    exact Gro.new (Nat.le_refl _) (r5.lt _ q).2
  rcases row_ob hr with ⟨rfl,h0,_⟩ | ⟨g,cap,cur,rfl,_,_,hr1,hr2,_,_⟩
  ·rw [h0] at R5 ⊢;exact (insert_nil hV hVl q1 q2 q3).mono (fun e w' ⟨h1,h2⟩=>by subst h2;exact ⟨v5,h1,R5,g5⟩)
  ·exact (insert_end hV hVl hr1 hRl (by unfold maxLen at hr2;omega) q1 q2 q3).mono (fun e w' ⟨h1,h2⟩=>by subst h2;exact ⟨v5,h1,R5,g5⟩)
 ·rcases row_ob hr with ⟨_,h0,_⟩ | ⟨g,cap,cur,rfl,hOg,bR,hr1,hr2,hr3,hr4⟩
  ·omega
  have hgh:g≠h:=fun e=>hap g rfl (by rw [e];rfl)
  have hcap:cap<=9223372036854775807:=by unfold maxLen at hr2;omega
  have hsrcR:=row_src rfl hr4 i;have hpreR:=row_pre rfl hr4 hi;have hdl:(Zb (R.drop i)).length=(R.length - i) * 2:=by rw [Zs,List.length_drop]
  have htl:(Zb (R.take i)).length=i * 2:=by rw [Zs,List.length_take,Nat.min_eq_left hi]
  by_cases hroom:R.length+V.length<=cap
  ·have bR1:Ob w.drew g 108 cur:=bR
   obtain ⟨w2,RA,o2,g2⟩:=ZC (P:=Tryz.prog) (w:=w.drew) (dT:=208) (sT:=208) (ty:=3) Tryz.underlying208 span_size g ((i+V.length) * 2) cur bR1 (some ⟨g,(i+V.length) * 2,none⟩) (some ⟨g,i * 2,none⟩) (R.length+V.length - (i+V.length)) (cap - (i+V.length)) (R.length+V.length - i) (cap - i) (Zb (R.drop i))
    (by rw [hdl];congr 1;simp only [Nat.min_def];split <;> omega) (fun _=>⟨rfl,_,rfl,ob_src bR1 hsrcR⟩) (by decide) (by rw [hdl];omega) (ZR _)
   have bV2:Ob w2 h 108 vcur:=Ob.kept (w:=w.drew) bV g2 (fun e=>hgh (Option.some.inj e))
   obtain ⟨w3,RB,o3,g3⟩:=ZC (P:=Tryz.prog) (w:=w2) (dT:=208) (sT:=208) (ty:=3) Tryz.underlying208 span_size g (i * 2) _ o2 (some ⟨g,i * 2,none⟩) (some ⟨h,0,none⟩) (R.length+V.length - i) (cap - i) V.length vc (Zb V)
    (by rw [Zs];congr 1;simp only [Nat.min_def];split <;> omega) (fun _=>⟨rfl,_,rfl,ob_src bV2 (fun j u hu=>by rw [Nat.zero_add];exact hvsrc j u hu)⟩) (by decide) (by rw [length_splice _ _ _ (by rw [hdl];omega),Zs];omega) (ZR _)
   obtain ⟨r1,r2,r3⟩:=cp_runs RA;obtain ⟨s1,s2,s3⟩:=cp_runs RB
   have hfin:(splice (splice cur ((i+V.length) * 2) (Zb (R.drop i))) (i * 2) (Zb V)).take ((R.length+V.length) * 2)=Zb (R.take i++(V++R.drop i)):=by
    have:=place2 (L:=cur) (A:=Zb (R.take i)) (V:=Zb V) (B:=Zb (R.drop i)) (a:=i * 2) (b:=(R.length - i) * 2) (c:=V.length * 2) htl hdl (Zs V) (by rw [<- Z7,List.take_append_drop,<- hr4];congr 1;omega) (by omega);rw [Z7,Z7,<- this];congr 1
    ·omega
    ·congr 1
     congr 1
     omega
   have R3:Row (Gro O w w3) w3 108 2 (.slice (some ⟨g,0,none⟩) (R.length+V.length) cap) (R.length+V.length) (Zb (R.take i++(V++R.drop i))) :=
    ob_row (Gro.of g hOg) o3 hroom hr2 (by rw [length_splice _ _ _ (by rw [length_splice _ _ _ (by rw [hdl];omega),Zs];omega),length_splice _ _ _ (by rw [hdl];omega)];exact hr3) hfin
   have G3:w.grownBy w3 (some g):=Ze (Ze (Zm _ ((Below.refl _ w).drew)) g2) g3;exact (insert_room hV hVl (by omega) (by omega) hRl hcap hroom (by omega) (by omega) (Z6 (n:=i+V.length) (by omega) (by omega)) (Z6 (n:=R.length+V.length) (by omega) (by omega)) (over_no (Ne.symm hgh) bV bR (by omega)) r1 r2 r3 s1 s2 s3).mono (fun e w' ⟨h1,h2⟩=>by subst h2;exact ⟨_,h1,R3,G3⟩)
  ·obtain ⟨c2,w1,Z,RA,o1,hZ,hc1,hc2,b1,hz1'⟩:=run_append_zeros (P:=Tryz.prog) (w:=w) (t:=208) (tn:=3) (ty:=208) Tryz.underlying208 (by kernel_rfl) hi0 hz0 hz1 hz2 rfl (by decide) ⟨g,0,none⟩ i cap (R.length+V.length - i) (Zb (R.take i)) htl
    (ob_src bR (fun j u hu=>by
      have hj:=(List.getElem?_eq_some_iff.1 hu).1;rw [<- hpreR,List.getElem?_take_of_lt (by omega)] at hu;rw [Nat.zero_add];exact hu)) (by omega) (by omega) (by unfold maxLen;omega) (by omega)
   have eT:i+(R.length+V.length - i)=R.length+V.length:=by omega
   rw [eT] at RA hc1;have bV1:Ob w1 h 108 vcur:=bV.old b1;have bR1:Ob w1 g 108 cur:=bR.old b1;have hgs:g≠w.heap.size:=Nat.ne_of_lt bR.lt;have hhs:h≠w.heap.size:=Nat.ne_of_lt bV.lt;have hzl:(Zb (R.take i)++Z).length=c2 * 2:=by rw [List.length_append];omega
   obtain ⟨w2,RB,o2,g2⟩:=ZC (P:=Tryz.prog) (w:=w1) (dT:=208) (sT:=208) (ty:=3) Tryz.underlying208 span_size w.heap.size (i * 2) _ o1 (some ⟨w.heap.size,i * 2,none⟩) (some ⟨h,0,none⟩) (R.length+V.length - i) (c2 - i) V.length vc (Zb V)
    (by rw [Zs];congr 1;simp only [Nat.min_def];split <;> omega) (fun _=>⟨rfl,_,rfl,ob_src bV1 (fun j u hu=>by rw [Nat.zero_add];exact hvsrc j u hu)⟩) (by decide) (by rw [hzl,Zs];omega) (ZR _)
   have bR2:Ob w2.drew g 108 cur:=Ob.kept (w:=w1) (w':=w2) bR1 g2 (fun e=>hgs (Option.some.inj e).symm);have hl2:(splice (Zb (R.take i)++Z) (i * 2) (Zb V)).length=c2 * 2:=by rw [length_splice _ _ _ (by rw [hzl,Zs];omega),hzl]
   obtain ⟨w3,RC,o3,g3⟩:=ZC (P:=Tryz.prog) (w:=w2.drew) (dT:=208) (sT:=208) (ty:=3) Tryz.underlying208 span_size w.heap.size ((i+V.length) * 2) _ o2 (some ⟨w.heap.size,(i+V.length) * 2,none⟩) (some ⟨g,i * 2,none⟩) (R.length+V.length - (i+V.length)) (c2 - (i+V.length)) (R.length - i) (cap - i) (Zb (R.drop i))
    (by rw [hdl];congr 1;simp only [Nat.min_def];split <;> omega) (fun _=>⟨rfl,_,rfl,ob_src bR2 hsrcR⟩) (by decide) (by rw [hl2,hdl];omega) (ZR _)
   obtain ⟨p1,p2,p3⟩:=Zi RA;obtain ⟨r1,r2,r3⟩:=cp_runs RB;obtain ⟨s1,s2,s3⟩:=cp_runs RC
   have hfin:(splice (splice (Zb (R.take i)++Z) (i * 2) (Zb V)) ((i+V.length) * 2) (Zb (R.drop i))).take ((R.length+V.length) * 2)=Zb (R.take i++(V++R.drop i)):=by
    rw [Z7,Z7];apply List.ext_getElem?
    intro j;have hvl:=Zs V;by_cases hj:j < (R.length+V.length) * 2
    ·rw [List.getElem?_take_of_lt hj,splice_at _ _ _ (by rw [hl2,hdl];omega),splice_at _ _ _ (by rw [hzl,Zs];omega)];by_cases h1:j < i * 2
     ·rw [if_pos (by omega),if_pos h1,List.getElem?_append_left (by omega),List.getElem?_append_left (by omega)]
     ·rw [List.getElem?_append_right (l₁:=Zb (R.take i)) (l₂:=Zb V++Zb (R.drop i)) (by omega),htl];by_cases h2:j < (i+V.length) * 2
      ·rw [if_pos h2,if_neg h1,if_pos (by omega),List.getElem?_append_left (by omega)]
      ·rw [if_neg h2,if_pos (by omega),List.getElem?_append_right (by omega)];congr 1
       omega
    ·rw [List.getElem?_eq_none (by simp;omega),List.getElem?_eq_none (by simp;omega)]
   have B2:Below w.heap.size w w2:=b1.grown g2 b1.size (fun k hk=>by cases hk;exact Nat.le_refl _);have B3:Below w.heap.size w w3:=(B2.drew).grown g3 (by have:=B2.size;simpa using this) (fun k hk=>by cases hk;exact Nat.le_refl _)
   have R3:Row (Gro O w w3) w3 108 2 (.slice (some ⟨w.heap.size,0,none⟩) (R.length+V.length) c2) (R.length+V.length) (Zb (R.take i++(V++R.drop i))) :=
    ob_row (Gro.new (Nat.le_refl _) o3.lt) o3 hc1 hc2 (by rw [length_splice _ _ _ (by rw [hl2,hdl];omega),hl2]) hfin
   exact (insert_grow hV hVl (by omega) hr1 hRl hcap (by omega) (by omega) hc1 (by omega) (by unfold maxLen at hc2;omega) (Z6 (n:=i+V.length) (by omega) (by omega)) (Z6 (n:=R.length+V.length) (by omega) (by omega)) (Z6 (n:=R.length+V.length - i) (by omega) (by omega)) p1 p2 p3 r1 r2 r3 s1 s2 s3).mono (fun e w' ⟨h1,h2⟩=>by subst h2;exact ⟨_,h1,R3,Zm _ B3⟩)
end
section
attribute [local go_sem ↓] Apo.app_exec Apo.cp_exec Apo.cl_exec
theorem replace_ins0 {w:World} {va:Option Addr} {m mc:Nat} {Q:Value->World->Prop} (hI:Calls Tryz.prog 206 #[.slice none 0 0,.int .i64 0,.slice va m mc] w fun e w'=>∃ a n2 c2,e=.returned (.slice a n2 c2)/\Q (.slice a n2 c2) w') :
  Calls Tryz.prog 184 #[.slice none 0 0,.int .i64 0,.int .i64 0,.slice va m mc] w fun e w'=>∃ u,e=.returned u/\Q u w':=by
 go_enter Tryz.func184,Tryz.ntmps184
 go_wp2_with fail
 refine hI.mono ?_;rintro e w' ⟨a,n2,c2,rfl,hq⟩;have HQ:=Za hq;clear hq hI;go_wp2;go_ret
 exact ⟨_,rfl,HQ.out⟩
theorem replace_ins {w:World} {va:Option Addr} {m mc:Nat} {g n cap i:Nat} {Q:Value->World->Prop} (hi:i<=n) (hn:n<=cap) (_:n<=16384) (hc:cap<=9223372036854775807) (hI:Calls Tryz.prog 206 #[.slice (some ⟨g,0,none⟩) n cap,.int .i64 i,.slice va m mc] w fun e w'=>∃ a n2 c2,e=.returned (.slice a n2 c2)/\Q (.slice a n2 c2) w') :
  Calls Tryz.prog 184 #[.slice (some ⟨g,0,none⟩) n cap,.int .i64 i,.int .i64 i,.slice va m mc] w fun e w'=>∃ u,e=.returned u/\Q u w':=by
 rcases Nat.eq_or_lt_of_le (Nat.le_trans hi hn) with hci | hci
 all_goals
  first | subst hci | have ne1:cap≠i:=by omega
  go_enter Tryz.func184,Tryz.ntmps184
  go_wp2_with fail
  refine hI.mono ?_;rintro e w' ⟨a,n2,c2,rfl,hq⟩;have HQ:=Za hq;clear hq hI;go_wp2;go_ret
  exact ⟨_,rfl,HQ.out⟩
theorem replace_endn {w w1:World} {g n cap i m mc T c2:Nat} {va a2:Option Addr} (hi:i < n) (hn:n<=cap) (_:n<=16384) (_:cap<=9223372036854775807) (hT:n<=T)
  (q1:AppRuns Tryz.prog w #[208,208] 208 #[.slice (some ⟨g,0,none⟩) i cap,.slice va m mc]) (q2:appVal Tryz.prog w #[208,208] 208 #[.slice (some ⟨g,0,none⟩) i cap,.slice va m mc]=.slice a2 T c2) (q3:appWld Tryz.prog w #[208,208] 208 #[.slice (some ⟨g,0,none⟩) i cap,.slice va m mc]=w1) :
  Calls Tryz.prog 184 #[.slice (some ⟨g,0,none⟩) n cap,.int .i64 i,.int .i64 n,.slice va m mc] w fun e w'=>e=.returned (.slice a2 T c2)/\w'=w1:=by
 have hne:((i:Int) == (n:Int))=false:=by simp;omega
 have ne1:cap≠i:=by omega
 go_enter Tryz.func184,Tryz.ntmps184
 go_wp2;go_ret
 exact ⟨rfl,rfl⟩
theorem replace_endc {w w1 w2:World} {g n cap i m mc T c2:Nat} {va a2:Option Addr} {z:Value} (hi:i < n) (hn:n<=cap) (_:n<=16384) (_:cap<=9223372036854775807) (hT:T < n)
  (q1:AppRuns Tryz.prog w #[208,208] 208 #[.slice (some ⟨g,0,none⟩) i cap,.slice va m mc]) (q2:appVal Tryz.prog w #[208,208] 208 #[.slice (some ⟨g,0,none⟩) i cap,.slice va m mc]=.slice a2 T c2) (q3:appWld Tryz.prog w #[208,208] 208 #[.slice (some ⟨g,0,none⟩) i cap,.slice va m mc]=w1)
  (r1:ClRuns Tryz.prog w1 #[208] 0 #[.slice (some ⟨g,T * 2,none⟩) (n - T) (cap - T)]) (r2:clVal Tryz.prog w1 #[208] 0 #[.slice (some ⟨g,T * 2,none⟩) (n - T) (cap - T)]=z) (r3:clWld Tryz.prog w1 #[208] 0 #[.slice (some ⟨g,T * 2,none⟩) (n - T) (cap - T)]=w2) :
  Calls Tryz.prog 184 #[.slice (some ⟨g,0,none⟩) n cap,.int .i64 i,.int .i64 n,.slice va m mc] w fun e w'=>e=.returned (.slice a2 T c2)/\w'=w2:=by
 have hne:((i:Int) == (n:Int))=false:=by simp;omega
 have ne1:cap≠i:=by omega
 have ne2:cap≠T:=by omega
 go_enter Tryz.func184,Tryz.ntmps184
 go_wp2;go_ret
 exact ⟨rfl,rfl⟩
theorem replace_grow {w w1 w2 w3:World} {g n cap i j m mc J T k s2 c2:Nat} {va:Option Addr} {z1 z2:Value} (hij:i < j) (hj:j < n) (hn:n<=cap) (_:n<=16384) (_:m<=16384) (_:cap<=9223372036854775807) (eJ:IntKind.i64.wrap ((i:Int)+(m:Int))=(J:Int)) (eT:IntKind.i64.wrap ((J:Int)+((n - j:Nat):Int))=(T:Int)) (hg:cap < T) (hJT:J < T) (hiT:i < T) (hT:T<=c2) (_:T<=32768) (_:c2<=9223372036854775807) (ek:IntKind.i64.wrap ((T:Int) - (i:Int))=(k:Int))
  (q1:AppRuns Tryz.prog w.drew #[208,3] 208 #[.slice (some ⟨g,0,none⟩) i cap,.int .i64 k]) (q2:appVal Tryz.prog w.drew #[208,3] 208 #[.slice (some ⟨g,0,none⟩) i cap,.int .i64 k]=.slice (some ⟨s2,0,none⟩) T c2) (q3:appWld Tryz.prog w.drew #[208,3] 208 #[.slice (some ⟨g,0,none⟩) i cap,.int .i64 k]=w1)
  (r1:CpRuns Tryz.prog w1 #[208,208] 3 #[.slice (some ⟨s2,i * 2,none⟩) (T - i) (c2 - i),.slice va m mc]) (r2:cpVal Tryz.prog w1 #[208,208] 3 #[.slice (some ⟨s2,i * 2,none⟩) (T - i) (c2 - i),.slice va m mc]=z1) (r3:cpWld Tryz.prog w1 #[208,208] 3 #[.slice (some ⟨s2,i * 2,none⟩) (T - i) (c2 - i),.slice va m mc]=w2)
  (s1:CpRuns Tryz.prog w2.drew #[208,208] 3 #[.slice (some ⟨s2,J * 2,none⟩) (T - J) (c2 - J),.slice (some ⟨g,j * 2,none⟩) (n - j) (cap - j)]) (s2':cpVal Tryz.prog w2.drew #[208,208] 3 #[.slice (some ⟨s2,J * 2,none⟩) (T - J) (c2 - J),.slice (some ⟨g,j * 2,none⟩) (n - j) (cap - j)]=z2) (s3:cpWld Tryz.prog w2.drew #[208,208] 3 #[.slice (some ⟨s2,J * 2,none⟩) (T - J) (c2 - J),.slice (some ⟨g,j * 2,none⟩) (n - j) (cap - j)]=w3) :
  Calls Tryz.prog 184 #[.slice (some ⟨g,0,none⟩) n cap,.int .i64 i,.int .i64 j,.slice va m mc] w fun e w'=>e=.returned (.slice (some ⟨s2,0,none⟩) T c2)/\w'=w3:=by
 have hne:((i:Int) == (j:Int))=false:=by simp;omega
 have hne2:((j:Int) == (n:Int))=false:=by simp;omega
 have ne1:cap≠i:=by omega
 have ne2:cap≠j:=by omega
 have ne3:c2≠i:=by omega
 have ne4:c2≠J:=by omega
 go_enter Tryz.func184,Tryz.ntmps184
 go_wp2;go_region
 go_wp2;go_region
 go_wp2;go_ret
 exact ⟨rfl,rfl⟩
theorem replace_fit {w w2 w3 w4:World} {g n cap i j m mc J T:Nat} {va:Option Addr} {z1 z2 z3:Value} (hij:i < j) (hj:j < n) (hn:n<=cap) (_:n<=16384) (_:m<=16384) (_:cap<=9223372036854775807) (eJ:IntKind.i64.wrap ((i:Int)+(m:Int))=(J:Int)) (eT:IntKind.i64.wrap ((J:Int)+((n - j:Nat):Int))=(T:Int)) (hg:T < cap) (hJj:J<=j) (hJT:J < T) (hiT:i < T) (hTn:T<=n)
  (r1:CpRuns Tryz.prog w.drew #[208,208] 3 #[.slice (some ⟨g,i * 2,none⟩) (T - i) (cap - i),.slice va m mc]) (r2:cpVal Tryz.prog w.drew #[208,208] 3 #[.slice (some ⟨g,i * 2,none⟩) (T - i) (cap - i),.slice va m mc]=z1) (r3:cpWld Tryz.prog w.drew #[208,208] 3 #[.slice (some ⟨g,i * 2,none⟩) (T - i) (cap - i),.slice va m mc]=w2)
  (s1:CpRuns Tryz.prog w2.drew #[208,208] 3 #[.slice (some ⟨g,J * 2,none⟩) (T - J) (cap - J),.slice (some ⟨g,j * 2,none⟩) (n - j) (cap - j)]) (s2:cpVal Tryz.prog w2.drew #[208,208] 3 #[.slice (some ⟨g,J * 2,none⟩) (T - J) (cap - J),.slice (some ⟨g,j * 2,none⟩) (n - j) (cap - j)]=z2) (s3:cpWld Tryz.prog w2.drew #[208,208] 3 #[.slice (some ⟨g,J * 2,none⟩) (T - J) (cap - J),.slice (some ⟨g,j * 2,none⟩) (n - j) (cap - j)]=w3)
  (c1:ClRuns Tryz.prog w3 #[208] 0 #[.slice (some ⟨g,T * 2,none⟩) (n - T) (cap - T)]) (c2:clVal Tryz.prog w3 #[208] 0 #[.slice (some ⟨g,T * 2,none⟩) (n - T) (cap - T)]=z3) (c3:clWld Tryz.prog w3 #[208] 0 #[.slice (some ⟨g,T * 2,none⟩) (n - T) (cap - T)]=w4) :
  Calls Tryz.prog 184 #[.slice (some ⟨g,0,none⟩) n cap,.int .i64 i,.int .i64 j,.slice va m mc] w fun e w'=>e=.returned (.slice (some ⟨g,0,none⟩) T cap)/\w'=w4:=by
 have hne:((i:Int) == (j:Int))=false:=by simp;omega
 have hne2:((j:Int) == (n:Int))=false:=by simp;omega
 have ne1:cap≠i:=by omega
 have ne2:cap≠j:=by omega
 have ne3:cap≠J:=by omega
 have ne4:cap≠T:=by omega
 go_enter Tryz.func184,Tryz.ntmps184
 go_wp2;go_region
 go_wp2;go_region
 go_wp2;go_ret
 exact ⟨rfl,rfl⟩
theorem replace_full {w w2 w3 w4:World} {g n i j m mc J:Nat} {va:Option Addr} {z1 z2 z3:Value} (hij:i < j) (hj:j < n) (_:n<=16384) (_:m<=16384) (_:n<=9223372036854775807) (eJ:IntKind.i64.wrap ((i:Int)+(m:Int))=(J:Int)) (eT:IntKind.i64.wrap ((J:Int)+((n - j:Nat):Int))=(n:Int)) (hJj:J<=j) (hJT:J < n)
  (r1:CpRuns Tryz.prog w.drew #[208,208] 3 #[.slice (some ⟨g,i * 2,none⟩) (n - i) (n - i),.slice va m mc]) (r2:cpVal Tryz.prog w.drew #[208,208] 3 #[.slice (some ⟨g,i * 2,none⟩) (n - i) (n - i),.slice va m mc]=z1) (r3:cpWld Tryz.prog w.drew #[208,208] 3 #[.slice (some ⟨g,i * 2,none⟩) (n - i) (n - i),.slice va m mc]=w2)
  (s1:CpRuns Tryz.prog w2.drew #[208,208] 3 #[.slice (some ⟨g,J * 2,none⟩) (n - J) (n - J),.slice (some ⟨g,j * 2,none⟩) (n - j) (n - j)]) (s2:cpVal Tryz.prog w2.drew #[208,208] 3 #[.slice (some ⟨g,J * 2,none⟩) (n - J) (n - J),.slice (some ⟨g,j * 2,none⟩) (n - j) (n - j)]=z2) (s3:cpWld Tryz.prog w2.drew #[208,208] 3 #[.slice (some ⟨g,J * 2,none⟩) (n - J) (n - J),.slice (some ⟨g,j * 2,none⟩) (n - j) (n - j)]=w3)
  (c1:ClRuns Tryz.prog w3 #[208] 0 #[.slice (some ⟨g,0,none⟩) 0 0]) (c2:clVal Tryz.prog w3 #[208] 0 #[.slice (some ⟨g,0,none⟩) 0 0]=z3) (c3:clWld Tryz.prog w3 #[208] 0 #[.slice (some ⟨g,0,none⟩) 0 0]=w4) :
  Calls Tryz.prog 184 #[.slice (some ⟨g,0,none⟩) n n,.int .i64 i,.int .i64 j,.slice va m mc] w fun e w'=>e=.returned (.slice (some ⟨g,0,none⟩) n n)/\w'=w4:=by
 have hne:((i:Int) == (j:Int))=false:=by simp;omega
 have hne2:((j:Int) == (n:Int))=false:=by simp;omega
 have ne1:n≠i:=by omega
 have ne2:n≠j:=by omega
 have ne3:n≠J:=by omega
 go_enter Tryz.func184,Tryz.ntmps184
 go_wp2;go_region
 go_wp2;go_region
 go_wp2;go_ret
 exact ⟨rfl,rfl⟩
theorem replace_more {w w2 w3:World} {g h n cap i j m mc J T:Nat} {z1 z2:Value} (hij:i < j) (hj:j < n) (hn:n<=cap) (_:n<=16384) (_:m<=16384) (_:cap<=9223372036854775807) (eJ:IntKind.i64.wrap ((i:Int)+(m:Int))=(J:Int)) (eT:IntKind.i64.wrap ((J:Int)+((n - j:Nat):Int))=(T:Int)) (hg:T<=cap) (hJj:j < J) (hJT:J < T) (hiT:i < T)
  (ov:(callFunc 207 #[.slice (some ⟨g,J * 2,none⟩) (T - J) (cap - J),.slice (some ⟨h,0,none⟩) m mc]).run Tryz.prog w.drew=.ok (.value (.bool false)) w.drew)
  (r1:CpRuns Tryz.prog w.drew.drew #[208,208] 3 #[.slice (some ⟨g,J * 2,none⟩) (T - J) (cap - J),.slice (some ⟨g,j * 2,none⟩) (n - j) (cap - j)]) (r2:cpVal Tryz.prog w.drew.drew #[208,208] 3 #[.slice (some ⟨g,J * 2,none⟩) (T - J) (cap - J),.slice (some ⟨g,j * 2,none⟩) (n - j) (cap - j)]=z1) (r3:cpWld Tryz.prog w.drew.drew #[208,208] 3 #[.slice (some ⟨g,J * 2,none⟩) (T - J) (cap - J),.slice (some ⟨g,j * 2,none⟩) (n - j) (cap - j)]=w2)
  (s1:CpRuns Tryz.prog w2 #[208,208] 3 #[.slice (some ⟨g,i * 2,none⟩) (T - i) (cap - i),.slice (some ⟨h,0,none⟩) m mc]) (s2:cpVal Tryz.prog w2 #[208,208] 3 #[.slice (some ⟨g,i * 2,none⟩) (T - i) (cap - i),.slice (some ⟨h,0,none⟩) m mc]=z2) (s3:cpWld Tryz.prog w2 #[208,208] 3 #[.slice (some ⟨g,i * 2,none⟩) (T - i) (cap - i),.slice (some ⟨h,0,none⟩) m mc]=w3) :
  Calls Tryz.prog 184 #[.slice (some ⟨g,0,none⟩) n cap,.int .i64 i,.int .i64 j,.slice (some ⟨h,0,none⟩) m mc] w fun e w'=>e=.returned (.slice (some ⟨g,0,none⟩) T cap)/\w'=w3:=by
 have hne:((i:Int) == (j:Int))=false:=by simp;omega
 have hne2:((j:Int) == (n:Int))=false:=by simp;omega
 have ne1:cap≠i:=by omega
 have ne2:cap≠j:=by omega
 have ne3:cap≠J:=by omega
 go_enter Tryz.func184,Tryz.ntmps184
 go_wp2;go_region
 go_wp2;go_region
 go_wp2;go_ret
 exact ⟨rfl,rfl⟩
end
theorem replace_any {O U:Nat->Prop} {w:World} {v vv:Value} {R V:List (Nat × Nat)} {i j:Nat} (hr:Row O w 108 2 v R.length (Zb R)) (hv:Row U w 108 2 vv V.length (Zb V)) (hap:∀ g,v.ownBlock=some g->vv.ownBlock≠some g)
  (hnil:V=[]->vv=.slice none 0 0) (hij:i<=j) (hj:j<=R.length) (hV:i=j->0 < V.length) (hVl:V.length<=16384) (hRl:R.length<=16384) :
  Calls Tryz.prog 184 #[v,.int .i64 i,.int .i64 j,vv] w fun e w'=>∃ u,e=.returned u/\(Row (Gro O w w') w' 108 2 u (i+V.length+(R.length - j)) (Zb (R.take i++(V++R.drop j)))/\w.grownBy w' v.ownBlock):=by
 obtain ⟨i0,hi0,hz0,hz1,hz2⟩:=info_parts info_span
 have hvf:∃ va mc,vv=.slice va V.length mc:=by
  obtain ⟨a,c,e⟩:=own_len2 hv.1;exact ⟨a,c,e⟩
 rcases Nat.eq_or_lt_of_le hij with rfl | hlt
 ·have hI:=insert_any hr hv hap hj (hV rfl) hVl hRl
  have hI':Calls Tryz.prog 206 #[v,.int .i64 i,vv] w (fun e w'=>∃ a n2 c2,e=.returned (.slice a n2 c2)/\(Row (Gro O w w') w' 108 2 (.slice a n2 c2) (i+V.length+(R.length - i)) (Zb (R.take i++(V++R.drop i)))/\w.grownBy w' v.ownBlock)):=hI.mono (fun e w' ⟨u,h1,h2,h3⟩=>by
   obtain ⟨a,c,e⟩:=own_len2 h2.1;subst e;exact ⟨a,_,c,h1,by rw [show i+V.length+(R.length - i)=R.length+V.length by omega];exact h2,h3⟩)
  obtain ⟨va,mc,rfl⟩:=hvf;rcases row_ob hr with ⟨rfl,h0,_⟩ | ⟨g,cap,cur,rfl,_,_,hr1,hr2,_,_⟩
  ·have e:i=0:=by omega
   subst e;exact replace_ins0 (Q:=fun u w'=>Row (Gro O w w') w' 108 2 u (0+V.length+(R.length - 0)) (Zb (R.take 0++(V++R.drop 0)))/\w.grownBy w' _) hI'
  ·exact replace_ins (Q:=fun u w'=>Row (Gro O w w') w' 108 2 u (i+V.length+(R.length - i)) (Zb (R.take i++(V++R.drop i)))/\w.grownBy w' _) hj hr1 hRl (by unfold maxLen at hr2;omega) hI'
 rcases row_ob hr with ⟨_,h0,_⟩ | ⟨g,cap,cur,rfl,hOg,bR,hr1,hr2,hr3,hr4⟩
 ·omega
 have hcap:cap<=9223372036854775807:=by unfold maxLen at hr2;omega
 have hsrcR:=row_src rfl hr4 j;have hpreR:=row_pre rfl hr4 (Nat.le_trans hij hj);have hdl:(Zb (R.drop j)).length=(R.length - j) * 2:=by rw [Zs,List.length_drop]
 have htl:(Zb (R.take i)).length=i * 2:=by rw [Zs,List.length_take,Nat.min_eq_left (by omega)]
 have hvl:=Zs V;obtain ⟨va,mc,hvv⟩:=hvf
 -- the values that come,at any world in which v's block alone was changed
 have hsv:∀ W:World,w.grownBy W (some g)->0 < V.length->∃ a,va=some a/\∀ k u,(Zb V)[k]?=some u->W.cell? (a.add k)=some u:=by
  intro W hW h0;rcases row_ob hv with ⟨_,h1,_⟩ | ⟨h,vc,vcur,e,_,bV,hv1,hv2,hv3,hv4⟩
  ·omega
  ·rw [hvv] at e;cases e
   have hgh:g≠h:=fun q=>hap g rfl (by rw [hvv,q];rfl)
   refine ⟨_,rfl,ob_src (Ob.kept bV hW (fun q=>hgh (Option.some.inj q))) (fun k u hu=>?_)⟩;have hk:=(List.getElem?_eq_some_iff.1 hu).1;rw [hvl] at hk;rw [<- hv4,List.getElem?_take_of_lt hk] at hu;rw [Nat.zero_add];exact hu
 have hsv0:=hsv w (Zm _ (Below.refl _ _));have hwd:w.grownBy w.drew (some g):=Zm _ ((Below.refl _ w).drew);subst hvv;rcases Nat.eq_or_lt_of_le hj with rfl | hjl
 ·-- up to the end
  have hd0:R.drop R.length=[]:=List.drop_length;rw [hd0,List.append_nil,Nat.sub_self,Nat.add_zero,Z7];by_cases hroom:i+V.length<=cap
  ·obtain ⟨w1,RA,o1,g1⟩:=run_append_in (P:=Tryz.prog) (w:=w) (t:=208) (ty:=208) Tryz.underlying208 hi0 hz1 g i cap cur bR va V.length mc (Zb V) hvl hsv0 hroom (by omega) (ZR V);obtain ⟨q1,q2,q3⟩:=Zi RA;have hl1:(splice cur (i * 2) (Zb V)).length=cap * 2:=by rw [length_splice _ _ _ (by omega),hr3]
   have hfin:(splice cur (i * 2) (Zb V)).take ((i+V.length) * 2)=Zb (R.take i)++Zb V:=by
    have:=place_xb (L:=cur) (A:=Zb (R.take i)) (X:=Zb V) (B:=[]) (a:=i * 2) (b:=0) (c:=V.length * 2) rfl hvl hpreR (by omega);rw [List.append_nil,Nat.add_zero] at this;rw [<- this,show splice (splice cur (i * 2) (Zb V)) (i * 2+V.length * 2) []=splice cur (i * 2) (Zb V) by simp [splice]];congr 1
    omega
   by_cases hT:i+V.length < R.length
   ·obtain ⟨w2,zs,RB,hzl,o2,g2⟩:=run_clear_ob (P:=Tryz.prog) (w:=w1) (T:=208) (ty:=0) Tryz.underlying208 hi0 hz0 (size:=2) rfl (by simp [Value.cells,Value.oneCell']) g ((i+V.length) * 2) _ o1 (some ⟨g,(i+V.length) * 2,none⟩) (R.length - (i+V.length)) (cap - (i+V.length)) (fun _=>rfl) (by rw [hl1];omega);obtain ⟨r1,r2,r3⟩:=cl_runs RB
    have R2:Row (Gro O w w2) w2 108 2 (.slice (some ⟨g,0,none⟩) (i+V.length) cap) (i+V.length) (Zb (R.take i)++Zb V) :=
     ob_row (Gro.of g hOg) o2 hroom hr2 (by rw [length_splice _ _ _ (by rw [hl1,hzl];omega),hl1]) (by rw [splice_take _ _ _ _ (Nat.le_refl _) (by rw [hl1];omega)];exact hfin)
    exact (replace_endc hlt hr1 hRl hcap hT q1 q2 q3 r1 r2 r3).mono (fun e w' ⟨h1,h2⟩=>by subst h2;exact ⟨_,h1,R2,Ze g1 g2⟩)
   ·have R2:Row (Gro O w w1) w1 108 2 (.slice (some ⟨g,0,none⟩) (i+V.length) cap) (i+V.length) (Zb (R.take i)++Zb V):=ob_row (Gro.of g hOg) o1 hroom hr2 hl1 hfin;exact (replace_endn hlt hr1 hRl hcap (by omega) q1 q2 q3).mono (fun e w' ⟨h1,h2⟩=>by subst h2;exact ⟨_,h1,R2,g1⟩)
  ·have hrow:w.ownsRow 0 108 2 (.slice (some ⟨g,0,none⟩) i cap) i (Zb (R.take i)):=(ob_row (O:=O) hOg bR (by omega) hr2 hr3 hpreR).1;obtain ⟨a,rfl,hnews⟩:=hsv0 (by omega);obtain ⟨v5,w5,RR,r5,g5,_,ho5⟩:=run_append_own_at (P:=Tryz.prog) w 0 208 208 108 i0 _ 2 16 Tryz.underlying208 hi0 hz0 hz1 hz2 rfl (by decide) (.slice (some ⟨g,0,none⟩) i cap) i (Zb (R.take i)) hrow a V.length mc (Zb V) hvl hnews (ZR V) (by unfold maxLen;omega) (by omega) (Nat.zero_le _);obtain ⟨a5,c5,e5⟩:=own_len2 r5;subst e5;obtain ⟨q1,q2,q3⟩:=Zi RR
   have R5:Row (Gro O w w5) w5 108 2 (.slice a5 (i+V.length) c5) (i+V.length) (Zb (R.take i)++Zb V):=by
    refine ⟨r5,fun k hk=>?_⟩;rcases ho5 with q | q
    ·rw [hk] at q;cases q
     exact Gro.of _ hOg
    ·rw [q] at hk;cases hk
     exact Gro.new (Nat.le_refl _) (r5.lt _ q).2
   exact (replace_endn hlt hr1 hRl hcap (by omega) q1 q2 q3).mono (fun e w' ⟨h1,h2⟩=>by subst h2;exact ⟨_,h1,R5,g5⟩)
 ·-- in the midst
  have eJ:IntKind.i64.wrap ((i:Int)+(V.length:Int))=((i+V.length:Nat):Int):=Z6 (by omega) (by omega);have eT:IntKind.i64.wrap (((i+V.length:Nat):Int)+((R.length - j:Nat):Int))=((i+V.length+(R.length - j):Nat):Int):=Z6 (by omega) (by omega);have bR1:Ob w.drew g 108 cur:=bR;rw [Z7,Z7];have eTT:i * 2+V.length * 2+(R.length - j) * 2=(i+V.length+(R.length - j)) * 2:=by omega
  have eJJ:i * 2+V.length * 2=(i+V.length) * 2:=by omega
  by_cases hroom:i+V.length+(R.length - j)<=cap
  ·by_cases hJj:i+V.length<=j
   ·-- what comes fits where something goes
    obtain ⟨w2,RA,o2,g2⟩:=ZC (P:=Tryz.prog) (w:=w.drew) (dT:=208) (sT:=208) (ty:=3) Tryz.underlying208 span_size g (i * 2) cur bR1 (some ⟨g,i * 2,none⟩) va (i+V.length+(R.length - j) - i) (cap - i) V.length mc (Zb V)
     (by rw [hvl];congr 1;simp only [Nat.min_def];split <;> omega) (fun h=>⟨rfl,hsv w.drew hwd (by omega)⟩) (by decide) (by omega) (ZR _)
    have hl2:(splice cur (i * 2) (Zb V)).length=cap * 2:=by rw [length_splice _ _ _ (by omega),hr3]
    have o2d:Ob w2.drew g 108 (splice cur (i * 2) (Zb V)):=o2
    obtain ⟨w3,RB,o3,g3⟩:=ZC (P:=Tryz.prog) (w:=w2.drew) (dT:=208) (sT:=208) (ty:=3) Tryz.underlying208 span_size g ((i+V.length) * 2) _ o2d (some ⟨g,(i+V.length) * 2,none⟩) (some ⟨g,j * 2,none⟩) (i+V.length+(R.length - j) - (i+V.length)) (cap - (i+V.length)) (R.length - j) (cap - j) (Zb (R.drop j))
     (by rw [hdl];congr 1;simp only [Nat.min_def];split <;> omega)
     (fun _=>⟨rfl,_,rfl,ob_src o2d (fun k u hu=>by rw [splice_at _ _ _ (by omega),if_neg (by omega),if_neg (by omega)];exact hsrcR k u hu)⟩) (by decide) (by rw [hl2,hdl];omega) (ZR _)
    have hl3:(splice (splice cur (i * 2) (Zb V)) ((i+V.length) * 2) (Zb (R.drop j))).length=cap * 2:=by rw [length_splice _ _ _ (by rw [hl2,hdl];omega),hl2]
    have hfin:(splice (splice cur (i * 2) (Zb V)) ((i+V.length) * 2) (Zb (R.drop j))).take ((i+V.length+(R.length - j)) * 2)=Zb (R.take i)++(Zb V++Zb (R.drop j)):=by
     have:=place_xb (L:=cur) (A:=Zb (R.take i)) (X:=Zb V) (B:=Zb (R.drop j)) hdl hvl hpreR (by omega);rw [eTT,eJJ] at this;exact this
    have G3:w.grownBy w3 (some g):=Ze (Ze (Ze hwd g2) (Zm _ ((Below.refl _ w2).drew))) g3;obtain ⟨r1,r2,r3⟩:=cp_runs RA;obtain ⟨s1,s2,s3⟩:=cp_runs RB
    have fin:∀ w4 zs,Ob w4 g 108 (splice (splice (splice cur (i * 2) (Zb V)) ((i+V.length) * 2) (Zb (R.drop j))) ((i+V.length+(R.length - j)) * 2) zs)->zs.length=(R.length - (i+V.length+(R.length - j))) * 2 ->
      Row (Gro O w w4) w4 108 2 (.slice (some ⟨g,0,none⟩) (i+V.length+(R.length - j)) cap) (i+V.length+(R.length - j)) (Zb (R.take i)++(Zb V++Zb (R.drop j))):=fun w4 zs o4 hzl =>
     ob_row (Gro.of g hOg) o4 hroom hr2 (by rw [length_splice _ _ _ (by rw [hl3,hzl];omega),hl3]) (by rw [splice_take _ _ _ _ (Nat.le_refl _) (by rw [hl3];omega)];exact hfin)
    rcases Nat.eq_or_lt_of_le hroom with hfull | hfull
    ·have eC:cap=R.length:=by omega
     have eT2:i+V.length+(R.length - j)=R.length:=by omega
     obtain ⟨w4,zs,RC,hzl,o4,g4⟩:=run_clear_ob (P:=Tryz.prog) (w:=w3) (T:=208) (ty:=0) Tryz.underlying208 hi0 hz0 (size:=2) rfl (by simp [Value.cells,Value.oneCell']) g ((i+V.length+(R.length - j)) * 2) _ o3 (some ⟨g,0,none⟩) 0 0 (fun h=>by omega) (by rw [hl3];omega);have R4:=fin w4 zs o4 (by omega);obtain ⟨c1,c2,c3⟩:=cl_runs RC;rw [eT2] at R4 eT r1 r2 r3 s1 s2 s3 ⊢;subst eC;exact (replace_full hlt hjl hRl hVl hcap eJ eT hJj (by omega) r1 r2 r3 s1 s2 s3 c1 c2 c3).mono (fun e w' ⟨h1,h2⟩=>by subst h2;exact ⟨_,h1,R4,Ze G3 g4⟩)
    ·obtain ⟨w4,zs,RC,hzl,o4,g4⟩:=run_clear_ob (P:=Tryz.prog) (w:=w3) (T:=208) (ty:=0) Tryz.underlying208 hi0 hz0 (size:=2) rfl (by simp [Value.cells,Value.oneCell']) g ((i+V.length+(R.length - j)) * 2) _ o3 (some ⟨g,(i+V.length+(R.length - j)) * 2,none⟩) (R.length - (i+V.length+(R.length - j))) (cap - (i+V.length+(R.length - j))) (fun _=>rfl) (by rw [hl3];omega);have R4:=fin w4 zs o4 hzl;obtain ⟨c1,c2,c3⟩:=cl_runs RC;exact (replace_fit hlt hjl hr1 hRl hVl hcap eJ eT hfull hJj (by omega) (by omega) (by omega) r1 r2 r3 s1 s2 s3 c1 c2 c3).mono (fun e w' ⟨h1,h2⟩=>by subst h2;exact ⟨_,h1,R4,Ze G3 g4⟩)
   ·-- more comes than goes
    rcases row_ob hv with ⟨_,h0,_⟩ | ⟨h,vc,vcur,e,_,bV,hv1,hv2,hv3,hv4⟩
    ·omega
    cases e
    have hgh:g≠h:=fun q=>hap g rfl (by rw [q];rfl)
    have bRd:Ob w.drew.drew g 108 cur:=bR
    obtain ⟨w2,RA,o2,g2⟩:=ZC (P:=Tryz.prog) (w:=w.drew.drew) (dT:=208) (sT:=208) (ty:=3) Tryz.underlying208 span_size g ((i+V.length) * 2) cur bRd (some ⟨g,(i+V.length) * 2,none⟩) (some ⟨g,j * 2,none⟩) (i+V.length+(R.length - j) - (i+V.length)) (cap - (i+V.length)) (R.length - j) (cap - j) (Zb (R.drop j))
     (by rw [hdl];congr 1;simp only [Nat.min_def];split <;> omega) (fun _=>⟨rfl,_,rfl,ob_src bRd hsrcR⟩) (by decide) (by rw [hdl];omega) (ZR _)
    have hl2:(splice cur ((i+V.length) * 2) (Zb (R.drop j))).length=cap * 2:=by rw [length_splice _ _ _ (by rw [hdl];omega),hr3]
    have G2:w.grownBy w2 (some g):=Ze (Zm _ (((Below.refl _ w).drew).drew)) g2
    obtain ⟨w3,RB,o3,g3⟩:=ZC (P:=Tryz.prog) (w:=w2) (dT:=208) (sT:=208) (ty:=3) Tryz.underlying208 span_size g (i * 2) _ o2 (some ⟨g,i * 2,none⟩) (some ⟨h,0,none⟩) (i+V.length+(R.length - j) - i) (cap - i) V.length mc (Zb V)
     (by rw [hvl];congr 1;simp only [Nat.min_def];split <;> omega) (fun _=>⟨rfl,hsv w2 G2 (by omega)⟩) (by decide) (by rw [hl2];omega) (ZR _)
    have hfin:(splice (splice cur ((i+V.length) * 2) (Zb (R.drop j))) (i * 2) (Zb V)).take ((i+V.length+(R.length - j)) * 2)=Zb (R.take i)++(Zb V++Zb (R.drop j)):=by
     have:=place_bx (L:=cur) (A:=Zb (R.take i)) (X:=Zb V) (B:=Zb (R.drop j)) hdl hvl hpreR (by omega);rw [eTT,eJJ] at this;exact this
    obtain ⟨r1,r2,r3⟩:=cp_runs RA;obtain ⟨s1,s2,s3⟩:=cp_runs RB
    have R3:Row (Gro O w w3) w3 108 2 (.slice (some ⟨g,0,none⟩) (i+V.length+(R.length - j)) cap) (i+V.length+(R.length - j)) (Zb (R.take i)++(Zb V++Zb (R.drop j))) :=
     ob_row (Gro.of g hOg) o3 hroom hr2 (by rw [length_splice _ _ _ (by rw [hl2];omega),hl2]) hfin
    have bVd:Ob w.drew h 108 vcur:=bV;exact (replace_more hlt hjl hr1 hRl hVl hcap eJ eT hroom (by omega) (by omega) (by omega) (over_no hgh bR1 bVd (by omega)) r1 r2 r3 s1 s2 s3).mono (fun e w' ⟨h1,h2⟩=>by subst h2;exact ⟨_,h1,R3,Ze G2 g3⟩)
  ·-- no room
   obtain ⟨c2,w1,Z,RA,o1,hZ,hc1,hc2,b1,_⟩:=run_append_zeros (P:=Tryz.prog) (w:=w.drew) (t:=208) (tn:=3) (ty:=208) Tryz.underlying208 (by kernel_rfl) hi0 hz0 hz1 hz2 rfl (by decide) ⟨g,0,none⟩ i cap (i+V.length+(R.length - j) - i) (Zb (R.take i)) htl
    (ob_src bR1 (fun k u hu=>by
      have hk:=(List.getElem?_eq_some_iff.1 hu).1;rw [<- hpreR,List.getElem?_take_of_lt (by omega)] at hu;rw [Nat.zero_add];exact hu)) (by omega) (by omega) (by unfold maxLen;omega) (by omega)
   have eI:i+(i+V.length+(R.length - j) - i)=i+V.length+(R.length - j):=by omega
   have eS:w.drew.heap.size=w.heap.size:=rfl;rw [eI,eS] at RA;rw [eI] at hc1;rw [eS] at o1 b1;have B1:Below w.heap.size w w1:=((Below.refl _ w).drew).trans b1;have hgs:g≠w.heap.size:=Nat.ne_of_lt bR.lt;have bR2:Ob w1 g 108 cur:=bR.old B1;have hzl:(Zb (R.take i)++Z).length=c2 * 2:=by rw [List.length_append];omega
   obtain ⟨w2,RB,o2,g2⟩:=ZC (P:=Tryz.prog) (w:=w1) (dT:=208) (sT:=208) (ty:=3) Tryz.underlying208 span_size w.heap.size (i * 2) _ o1 (some ⟨w.heap.size,i * 2,none⟩) va (i+V.length+(R.length - j) - i) (c2 - i) V.length mc (Zb V)
    (by rw [hvl];congr 1;simp only [Nat.min_def];split <;> omega) (fun _=>⟨rfl,hsv w1 (Zm _ B1) (by omega)⟩) (by decide) (by rw [hzl];omega) (ZR _)
   have bR3:Ob w2.drew g 108 cur:=Ob.kept (w:=w1) (w':=w2) bR2 g2 (fun e=>hgs (Option.some.inj e).symm);have hl2:(splice (Zb (R.take i)++Z) (i * 2) (Zb V)).length=c2 * 2:=by rw [length_splice _ _ _ (by rw [hzl];omega),hzl]
   have o2d:Ob w2.drew w.heap.size 108 (splice (Zb (R.take i)++Z) (i * 2) (Zb V)):=o2
   obtain ⟨w3,RC,o3,g3⟩:=ZC (P:=Tryz.prog) (w:=w2.drew) (dT:=208) (sT:=208) (ty:=3) Tryz.underlying208 span_size w.heap.size ((i+V.length) * 2) _ o2d (some ⟨w.heap.size,(i+V.length) * 2,none⟩) (some ⟨g,j * 2,none⟩) (i+V.length+(R.length - j) - (i+V.length)) (c2 - (i+V.length)) (R.length - j) (cap - j) (Zb (R.drop j))
    (by rw [hdl];congr 1;simp only [Nat.min_def];split <;> omega) (fun _=>⟨rfl,_,rfl,ob_src bR3 hsrcR⟩) (by decide) (by rw [hl2,hdl];omega) (ZR _)
   obtain ⟨p1,p2,p3⟩:=Zi RA;obtain ⟨r1,r2,r3⟩:=cp_runs RB;obtain ⟨s1,s2,s3⟩:=cp_runs RC
   have hfin:(splice (splice (Zb (R.take i)++Z) (i * 2) (Zb V)) ((i+V.length) * 2) (Zb (R.drop j))).take ((i+V.length+(R.length - j)) * 2)=Zb (R.take i)++(Zb V++Zb (R.drop j)):=by
    have:=place_xb (L:=Zb (R.take i)++Z) (A:=Zb (R.take i)) (X:=Zb V) (B:=Zb (R.drop j)) (a:=i * 2) hdl hvl (by rw [<- htl];exact List.take_left) (by rw [hzl];omega);rw [eTT,eJJ] at this;exact this
   have B2:Below w.heap.size w w2:=B1.grown g2 B1.size (fun k hk=>by cases hk;exact Nat.le_refl _);have B3:Below w.heap.size w w3:=(B2.drew).grown g3 (by have:=B2.size;simpa using this) (fun k hk=>by cases hk;exact Nat.le_refl _)
   have R3:Row (Gro O w w3) w3 108 2 (.slice (some ⟨w.heap.size,0,none⟩) (i+V.length+(R.length - j)) c2) (i+V.length+(R.length - j)) (Zb (R.take i)++(Zb V++Zb (R.drop j))) :=
    ob_row (Gro.new (Nat.le_refl _) o3.lt) o3 hc1 hc2 (by rw [length_splice _ _ _ (by rw [hl2,hdl];omega),hl2]) hfin
   exact (replace_grow hlt hjl hr1 hRl hVl hcap eJ eT (by omega) (by omega) (by omega) hc1 (by omega) (by unfold maxLen at hc2;omega) (Z6 (n:=i+V.length+(R.length - j) - i) (by omega) (by omega)) p1 p2 p3 r1 r2 r3 s1 s2 s3).mono (fun e w' ⟨h1,h2⟩=>by subst h2;exact ⟨_,h1,R3,Zm _ B3⟩)
end Go.Proofs.YtdhebpnkfookcaaGreat
