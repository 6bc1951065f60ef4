import Derived.PlainAid
import Derived.Test.YtdhebpnkfookcaaGreatSM03
set_option maxRecDepth 100000
set_option maxHeartbeats 4000000
namespace Apo
open Go Go.RowKit
def Zj (l:List Nat):List Value:=l.map (fun (i:Nat)=>Value.int .u64 ((i:Nat):Int))
theorem ZI (l:List Nat):(Zj l).length=l.length:=by simp [Zj]
theorem ucells_take (l:List Nat) (i:Nat):(Zj l).take i=Zj (l.take i):=by simp [Zj,List.map_take]
theorem ucells_drop (l:List Nat) (i:Nat):(Zj l).drop i=Zj (l.drop i):=by simp [Zj,List.map_drop]
theorem ucells_app (a b:List Nat):Zj (a++b)=Zj a++Zj b:=by simp [Zj]
theorem ucells_one (l:List Nat):∀ v ∈ Zj l,v.oneCell'=true:=by
 intro v hv;simp only [Zj,List.mem_map] at hv;obtain ⟨i,_,rfl⟩:=hv;rfl
end Apo
namespace Go.Proofs.YtdhebpnkfookcaaGreat
open Go.RowKit Apo
section
attribute [local go_sem ↓] Apo.app_exec Apo.cp_exec Apo.cl_exec
theorem uinfo:(Tryz.prog.info? 27).map (fun i=>(i.zero,i.size,i.bytes))=some (some (.int .u64 0),1,8):=by kernel_rfl
theorem uover_no {w:World} {g h o o' la ca lb cb t t':Nat} {cur cur':List Value} (hne:g≠h) (hg:Ob w g t cur) (hh:Ob w h t' cur') (hc:cur'.length≠0) :
  (callFunc 146 #[.slice (some ⟨g,o,none⟩) la ca,.slice (some ⟨h,o',none⟩) lb cb]).run Tryz.prog w=.ok (.value (.bool false)) w:=by
 have hz:∀ w,(Go.sizeOf 27).run Tryz.prog w=.ok 1 w:=fun w=>by kernel_rfl
 rw [run_callFunc_extern (P:=Tryz.prog) (f:=146) Tryz.func146 (by kernel_rfl) (by kernel_rfl) (by kernel_rfl) (e:=Extern.SlicesOverlaps.overlaps #[169,169] #[4]) (by kernel_rfl),
  Lib.run_overlaps_apart w 169 4 27 Tryz.underlying169 1 hz ⟨g,o,none⟩ ⟨h,o',none⟩ la ca lb cb hne t t' cur.length cur'.length (by unfold World.shape?;rw [show w.heap[g]?=_ from hg];simp) (by unfold World.shape?;rw [show w.heap[h]?=_ from hh];simp) hc (hg.frozen _) (hg.frozen _)]
 rfl
theorem uinsert_nil {w w5:World} {h m mc:Nat} {u:Value} (hm:0 < m) (hm2:m<=16384) (q1:AppRuns Tryz.prog w #[169,169] 169 #[.slice none 0 0,.slice (some ⟨h,0,none⟩) m mc])
  (q2:appVal Tryz.prog w #[169,169] 169 #[.slice none 0 0,.slice (some ⟨h,0,none⟩) m mc]=u) (q3:appWld Tryz.prog w #[169,169] 169 #[.slice none 0 0,.slice (some ⟨h,0,none⟩) m mc]=w5) :
  Calls Tryz.prog 97 #[.slice none 0 0,.int .i64 0,.slice (some ⟨h,0,none⟩) m mc] w fun e w'=>e=.returned u/\w'=w5:=by
 have hne:((m:Int) == 0)=false:=by simp;omega
 go_enter Tryz.func97,Tryz.ntmps97
 go_wp2;go_ret
 exact ⟨rfl,rfl⟩
theorem uinsert_end {w w5:World} {g n cap h m mc:Nat} {u:Value} (hm:0 < m) (hm2:m<=16384) (_:n<=cap) (_:n<=16384) (_:cap<=9223372036854775807) (q1:AppRuns Tryz.prog w #[169,169] 169 #[.slice (some ⟨g,0,none⟩) n cap,.slice (some ⟨h,0,none⟩) m mc])
  (q2:appVal Tryz.prog w #[169,169] 169 #[.slice (some ⟨g,0,none⟩) n cap,.slice (some ⟨h,0,none⟩) m mc]=u) (q3:appWld Tryz.prog w #[169,169] 169 #[.slice (some ⟨g,0,none⟩) n cap,.slice (some ⟨h,0,none⟩) m mc]=w5) :
  Calls Tryz.prog 97 #[.slice (some ⟨g,0,none⟩) n cap,.int .i64 n,.slice (some ⟨h,0,none⟩) m mc] w fun e w'=>e=.returned u/\w'=w5:=by
 have hne:((m:Int) == 0)=false:=by simp;omega
 go_enter Tryz.func97,Tryz.ntmps97
 go_wp2 <;> (go_ret;exact ⟨rfl,rfl⟩)
theorem uinsert_grow {w w1 w2 w3:World} {g n cap h m mc i J T k s2 c2:Nat} {z1 z2:Value} (hm:0 < m) (hm2:m<=16384) (hi:i < n) (hn:n<=cap) (_:n<=16384) (_:cap<=9223372036854775807) (hg:cap < T) (hJT:J < T) (hT:T<=c2) (_:T<=32768) (_:c2<=9223372036854775807)
  (eJ:IntKind.i64.wrap ((i:Int)+(m:Int))=(J:Int)) (eT:IntKind.i64.wrap ((n:Int)+(m:Int))=(T:Int)) (ek:IntKind.i64.wrap ((T:Int) - (i:Int))=(k:Int))
  (q1:AppRuns Tryz.prog w #[169,3] 169 #[.slice (some ⟨g,0,none⟩) i cap,.int .i64 k]) (q2:appVal Tryz.prog w #[169,3] 169 #[.slice (some ⟨g,0,none⟩) i cap,.int .i64 k]=.slice (some ⟨s2,0,none⟩) T c2) (q3:appWld Tryz.prog w #[169,3] 169 #[.slice (some ⟨g,0,none⟩) i cap,.int .i64 k]=w1)
  (r1:CpRuns Tryz.prog w1 #[169,169] 3 #[.slice (some ⟨s2,i,none⟩) (T - i) (c2 - i),.slice (some ⟨h,0,none⟩) m mc]) (r2:cpVal Tryz.prog w1 #[169,169] 3 #[.slice (some ⟨s2,i,none⟩) (T - i) (c2 - i),.slice (some ⟨h,0,none⟩) m mc]=z1) (r3:cpWld Tryz.prog w1 #[169,169] 3 #[.slice (some ⟨s2,i,none⟩) (T - i) (c2 - i),.slice (some ⟨h,0,none⟩) m mc]=w2)
  (s1:CpRuns Tryz.prog w2.drew #[169,169] 3 #[.slice (some ⟨s2,J,none⟩) (T - J) (c2 - J),.slice (some ⟨g,i,none⟩) (n - i) (cap - i)]) (s2':cpVal Tryz.prog w2.drew #[169,169] 3 #[.slice (some ⟨s2,J,none⟩) (T - J) (c2 - J),.slice (some ⟨g,i,none⟩) (n - i) (cap - i)]=z2) (s3:cpWld Tryz.prog w2.drew #[169,169] 3 #[.slice (some ⟨s2,J,none⟩) (T - J) (c2 - J),.slice (some ⟨g,i,none⟩) (n - i) (cap - i)]=w3) :
  Calls Tryz.prog 97 #[.slice (some ⟨g,0,none⟩) n cap,.int .i64 i,.slice (some ⟨h,0,none⟩) m mc] w fun e w'=>e=.returned (.slice (some ⟨s2,0,none⟩) T c2)/\w'=w3:=by
 have hne:((m:Int) == 0)=false:=by simp;omega
 have hne2:((i:Int) == (n:Int))=false:=by simp;omega
 have ne1:cap≠i:=by omega
 have ne2:c2≠i:=by omega
 have ne3:c2≠J:=by omega
 go_enter Tryz.func97,Tryz.ntmps97
 go_wp2;go_region
 go_wp2;go_ret
 exact ⟨rfl,rfl⟩
theorem uinsert_room {w w2 w3:World} {g n cap h m mc i J T:Nat} {z1 z2:Value} (hm:0 < m) (hm2:m<=16384) (hi:i < n) (hnT:n < T) (_:n<=16384) (_:cap<=9223372036854775807) (hg:T<=cap) (hJT:J < T) (hT2:T<=32768)
  (eJ:IntKind.i64.wrap ((i:Int)+(m:Int))=(J:Int)) (eT:IntKind.i64.wrap ((n:Int)+(m:Int))=(T:Int))
  (ov:(callFunc 146 #[.slice (some ⟨h,0,none⟩) m mc,.slice (some ⟨g,J,none⟩) (T - J) (cap - J)]).run Tryz.prog w=.ok (.value (.bool false)) w)
  (r1:CpRuns Tryz.prog w.drew #[169,169] 3 #[.slice (some ⟨g,J,none⟩) (T - J) (cap - J),.slice (some ⟨g,i,none⟩) (T - i) (cap - i)]) (r2:cpVal Tryz.prog w.drew #[169,169] 3 #[.slice (some ⟨g,J,none⟩) (T - J) (cap - J),.slice (some ⟨g,i,none⟩) (T - i) (cap - i)]=z1) (r3:cpWld Tryz.prog w.drew #[169,169] 3 #[.slice (some ⟨g,J,none⟩) (T - J) (cap - J),.slice (some ⟨g,i,none⟩) (T - i) (cap - i)]=w2)
  (s1:CpRuns Tryz.prog w2 #[169,169] 3 #[.slice (some ⟨g,i,none⟩) (T - i) (cap - i),.slice (some ⟨h,0,none⟩) m mc]) (s2':cpVal Tryz.prog w2 #[169,169] 3 #[.slice (some ⟨g,i,none⟩) (T - i) (cap - i),.slice (some ⟨h,0,none⟩) m mc]=z2) (s3:cpWld Tryz.prog w2 #[169,169] 3 #[.slice (some ⟨g,i,none⟩) (T - i) (cap - i),.slice (some ⟨h,0,none⟩) m mc]=w3) :
  Calls Tryz.prog 97 #[.slice (some ⟨g,0,none⟩) n cap,.int .i64 i,.slice (some ⟨h,0,none⟩) m mc] w fun e w'=>e=.returned (.slice (some ⟨g,0,none⟩) T cap)/\w'=w3:=by
 have hne:((m:Int) == 0)=false:=by simp;omega
 have hne2:((i:Int) == (n:Int))=false:=by simp;omega
 have ne1:cap≠i:=by omega
 have ne3:cap≠J:=by omega
 go_enter Tryz.func97,Tryz.ntmps97
 go_wp2;go_region
 go_wp2;go_ret
 exact ⟨rfl,rfl⟩
theorem uspan_size:(Tryz.prog.info? 27).map (·.size)=some 1:=by kernel_rfl
theorem urow_src {R:List Nat} {cur:List Value} {n:Nat} (_:n=R.length) (h:cur.take (n)=Zj R) (j:Nat):∀ k u,(Zj (R.drop j))[k]?=some u->cur[j+k]?=some u:=by
 intro k u hu;have hk:=(List.getElem?_eq_some_iff.1 hu).1;rw [ZI,List.length_drop] at hk;rw [<- ucells_drop,List.getElem?_drop,<- h,List.getElem?_take_of_lt (by omega)] at hu;exact hu
theorem urow_pre {R:List Nat} {cur:List Value} {n:Nat} (_:n=R.length) (h:cur.take (n)=Zj R) {i:Nat} (hi:i<=n):cur.take (i)=Zj (R.take i):=by
 rw [<- ucells_take,<- h,List.take_take,Nat.min_eq_left (by omega)]
theorem uinsert_any {O U:Nat->Prop} {w:World} {v vv:Value} {R V:List Nat} {i:Nat} (hr:Row O w 27 1 v R.length (Zj R)) (hv:Row U w 27 1 vv V.length (Zj V)) (hap:∀ g,v.ownBlock=some g->vv.ownBlock≠some g)
  (hi:i<=R.length) (hV:0 < V.length) (hVl:V.length<=16384) (hRl:R.length<=16384) :
  Calls Tryz.prog 97 #[v,.int .i64 i,vv] w fun e w'=>∃ u,e=.returned u/\Row (Gro O w w') w' 27 1 u (R.length+V.length) (Zj (R.take i++(V++R.drop i)))/\w.grownBy w' v.ownBlock:=by
 obtain ⟨i0,hi0,hz0,hz1,hz2⟩:=info_parts uinfo;rcases row_ob hv with ⟨_,h0,_⟩ | ⟨h,vc,vcur,rfl,hUh,bV,hv1,hv2,hv3,hv4⟩
 ·omega
 rw [Nat.mul_one] at hv3 hv4
 have hvsrc:∀ j u,(Zj V)[j]?=some u->vcur[j]?=some u:=fun j u hu=>by
  have hj:=(List.getElem?_eq_some_iff.1 hu).1;rw [ZI] at hj;rwa [<- hv4,List.getElem?_take_of_lt hj] at hu
 have hnews:∀ j u,(Zj V)[j]?=some u->w.cell? ((⟨h,0,none⟩:Addr).add j)=some u:=ob_src bV (fun j u hu=>by rw [Nat.zero_add];exact hvsrc j u hu)
 have hlen:(Zj (R.take i++(V++R.drop i))).length=(R.length+V.length):=by
  rw [ZI];simp;omega
 by_cases hin:i=R.length
 ·subst hin;obtain ⟨v5,w5,RR,r5,g5,_,ho5⟩:=run_append_own_at (P:=Tryz.prog) w 0 169 169 27 i0 _ 1 8 Tryz.underlying169 hi0 hz0 hz1 hz2 rfl (by decide) v R.length (Zj R) hr.1 ⟨h,0,none⟩ V.length vc (Zj V) (by rw [ZI,Nat.mul_one]) hnews (ucells_one V) (by unfold maxLen;omega) (by omega) (Nat.zero_le _);obtain ⟨q1,q2,q3⟩:=Zi RR
  have R5:Row (Gro O w w5) w5 27 1 v5 (R.length+V.length) (Zj (R.take R.length++(V++R.drop R.length))):=by
   refine ⟨by rw [List.take_length,List.drop_length,List.append_nil,ucells_app];exact r5,fun g hg=>?_⟩;rcases ho5 with q | q
   ·exact .inl (hr.2 g (q ▸ hg))
   ·rw [q] at hg;cases hg
    exact Gro.new (Nat.le_refl _) (r5.lt _ q).2
  rcases row_ob hr with ⟨rfl,h0,_⟩ | ⟨g,cap,cur,rfl,_,_,hr1,hr2,_,_⟩
  ·rw [h0] at R5 ⊢;exact (uinsert_nil hV hVl q1 q2 q3).mono (fun e w' ⟨h1,h2⟩=>by subst h2;exact ⟨v5,h1,R5,g5⟩)
  ·exact (uinsert_end hV hVl hr1 hRl (by unfold maxLen at hr2;omega) q1 q2 q3).mono (fun e w' ⟨h1,h2⟩=>by subst h2;exact ⟨v5,h1,R5,g5⟩)
 ·rcases row_ob hr with ⟨_,h0,_⟩ | ⟨g,cap,cur,rfl,hOg,bR,hr1,hr2,hr3,hr4⟩
  ·omega
  rw [Nat.mul_one] at hr3 hr4;have hgh:g≠h:=fun e=>hap g rfl (by rw [e];rfl)
  have hcap:cap<=9223372036854775807:=by unfold maxLen at hr2;omega
  have hsrcR:=urow_src rfl hr4 i;have hpreR:=urow_pre rfl hr4 hi;have hdl:(Zj (R.drop i)).length=(R.length - i):=by rw [ZI,List.length_drop]
  have htl:(Zj (R.take i)).length=i:=by rw [ZI,List.length_take,Nat.min_eq_left hi]
  by_cases hroom:R.length+V.length<=cap
  ·have bR1:Ob w.drew g 27 cur:=bR
   obtain ⟨w2,RA,o2,g2⟩:=ZC (P:=Tryz.prog) (w:=w.drew) (dT:=169) (sT:=169) (ty:=3) Tryz.underlying169 uspan_size g ((i+V.length)) cur bR1 (some ⟨g,(i+V.length),none⟩) (some ⟨g,i,none⟩) (R.length+V.length - (i+V.length)) (cap - (i+V.length)) (R.length+V.length - i) (cap - i) (Zj (R.drop i))
    (by rw [hdl];congr 1;simp only [Nat.min_def];split <;> omega) (fun _=>⟨rfl,_,rfl,ob_src bR1 hsrcR⟩) (by decide) (by rw [hdl];omega) (ucells_one _)
   have bV2:Ob w2 h 27 vcur:=Ob.kept (w:=w.drew) bV g2 (fun e=>hgh (Option.some.inj e))
   obtain ⟨w3,RB,o3,g3⟩:=ZC (P:=Tryz.prog) (w:=w2) (dT:=169) (sT:=169) (ty:=3) Tryz.underlying169 uspan_size g (i) _ o2 (some ⟨g,i,none⟩) (some ⟨h,0,none⟩) (R.length+V.length - i) (cap - i) V.length vc (Zj V)
    (by rw [ZI];congr 1;simp only [Nat.min_def];split <;> omega) (fun _=>⟨rfl,_,rfl,ob_src bV2 (fun j u hu=>by rw [Nat.zero_add];exact hvsrc j u hu)⟩) (by decide) (by rw [length_splice _ _ _ (by rw [hdl];omega),ZI];omega) (ucells_one _)
   obtain ⟨r1,r2,r3⟩:=cp_runs RA;obtain ⟨s1,s2,s3⟩:=cp_runs RB
   have hfin:(splice (splice cur ((i+V.length)) (Zj (R.drop i))) (i) (Zj V)).take ((R.length+V.length))=Zj (R.take i++(V++R.drop i)):=by
    have:=place2 (L:=cur) (A:=Zj (R.take i)) (V:=Zj V) (B:=Zj (R.drop i)) (a:=i) (b:=(R.length - i)) (c:=V.length) htl hdl (ZI V) (by rw [<- ucells_app,List.take_append_drop,<- hr4];congr 1;omega) (by omega);rw [ucells_app,ucells_app,<- this];congr 1
    omega
   have R3:Row (Gro O w w3) w3 27 1 (.slice (some ⟨g,0,none⟩) (R.length+V.length) cap) (R.length+V.length) (Zj (R.take i++(V++R.drop i))) :=
    ob_row (Gro.of g hOg) o3 hroom hr2 (by rw [length_splice _ _ _ (by rw [length_splice _ _ _ (by rw [hdl];omega),ZI];omega),length_splice _ _ _ (by rw [hdl];omega),Nat.mul_one];exact hr3) (by rw [Nat.mul_one];exact hfin)
   have G3:w.grownBy w3 (some g):=Ze (Ze (Zm _ ((Below.refl _ w).drew)) g2) g3;exact (uinsert_room hV hVl (by omega) (by omega) hRl hcap hroom (by omega) (by omega) (Z6 (n:=i+V.length) (by omega) (by omega)) (Z6 (n:=R.length+V.length) (by omega) (by omega)) (uover_no (Ne.symm hgh) bV bR (by omega)) r1 r2 r3 s1 s2 s3).mono (fun e w' ⟨h1,h2⟩=>by subst h2;exact ⟨_,h1,R3,G3⟩)
  ·obtain ⟨c2,w1,Z,RA,o1,hZ,hc1,hc2,b1,hz1'⟩:=run_append_zeros (P:=Tryz.prog) (w:=w) (t:=169) (tn:=3) (ty:=169) Tryz.underlying169 (by kernel_rfl) hi0 hz0 hz1 hz2 rfl (by decide) ⟨g,0,none⟩ i cap (R.length+V.length - i) (Zj (R.take i)) (by rw [Nat.mul_one];exact htl)
    (ob_src bR (fun j u hu=>by
      have hj:=(List.getElem?_eq_some_iff.1 hu).1;rw [<- hpreR,List.getElem?_take_of_lt (by omega)] at hu;rw [Nat.zero_add];exact hu)) (by omega) (by omega) (by unfold maxLen;omega) (by omega)
   have eT:i+(R.length+V.length - i)=R.length+V.length:=by omega
   rw [eT] at RA hc1;have bV1:Ob w1 h 27 vcur:=bV.old b1;have bR1:Ob w1 g 27 cur:=bR.old b1;have hgs:g≠w.heap.size:=Nat.ne_of_lt bR.lt;have hhs:h≠w.heap.size:=Nat.ne_of_lt bV.lt;have hzl:(Zj (R.take i)++Z).length=c2:=by rw [List.length_append];omega
   obtain ⟨w2,RB,o2,g2⟩:=ZC (P:=Tryz.prog) (w:=w1) (dT:=169) (sT:=169) (ty:=3) Tryz.underlying169 uspan_size w.heap.size (i) _ o1 (some ⟨w.heap.size,i,none⟩) (some ⟨h,0,none⟩) (R.length+V.length - i) (c2 - i) V.length vc (Zj V)
    (by rw [ZI];congr 1;simp only [Nat.min_def];split <;> omega) (fun _=>⟨rfl,_,rfl,ob_src bV1 (fun j u hu=>by rw [Nat.zero_add];exact hvsrc j u hu)⟩) (by decide) (by rw [hzl,ZI];omega) (ucells_one _)
   have bR2:Ob w2.drew g 27 cur:=Ob.kept (w:=w1) (w':=w2) bR1 g2 (fun e=>hgs (Option.some.inj e).symm);have hl2:(splice (Zj (R.take i)++Z) (i) (Zj V)).length=c2:=by rw [length_splice _ _ _ (by rw [hzl,ZI];omega),hzl]
   obtain ⟨w3,RC,o3,g3⟩:=ZC (P:=Tryz.prog) (w:=w2.drew) (dT:=169) (sT:=169) (ty:=3) Tryz.underlying169 uspan_size w.heap.size ((i+V.length)) _ o2 (some ⟨w.heap.size,(i+V.length),none⟩) (some ⟨g,i,none⟩) (R.length+V.length - (i+V.length)) (c2 - (i+V.length)) (R.length - i) (cap - i) (Zj (R.drop i))
    (by rw [hdl];congr 1;simp only [Nat.min_def];split <;> omega) (fun _=>⟨rfl,_,rfl,ob_src bR2 hsrcR⟩) (by decide) (by rw [hl2,hdl];omega) (ucells_one _)
   obtain ⟨p1,p2,p3⟩:=Zi RA;obtain ⟨r1,r2,r3⟩:=cp_runs RB;obtain ⟨s1,s2,s3⟩:=cp_runs RC
   have hfin:(splice (splice (Zj (R.take i)++Z) (i) (Zj V)) ((i+V.length)) (Zj (R.drop i))).take ((R.length+V.length))=Zj (R.take i++(V++R.drop i)):=by
    rw [ucells_app,ucells_app];apply List.ext_getElem?
    intro j;have hvl:=ZI V;by_cases hj:j < (R.length+V.length)
    ·rw [List.getElem?_take_of_lt hj,splice_at _ _ _ (by rw [hl2,hdl];omega),splice_at _ _ _ (by rw [hzl,ZI];omega)];by_cases h1:j < i
     ·rw [if_pos (by omega),if_pos h1,List.getElem?_append_left (by omega),List.getElem?_append_left (by omega)]
     ·rw [List.getElem?_append_right (l₁:=Zj (R.take i)) (l₂:=Zj V++Zj (R.drop i)) (by omega),htl];by_cases h2:j < (i+V.length)
      ·rw [if_pos h2,if_neg h1,if_pos (by omega),List.getElem?_append_left (by omega)]
      ·rw [if_neg h2,if_pos (by omega),List.getElem?_append_right (by omega)];congr 1
       omega
    ·rw [List.getElem?_eq_none (by simp;omega),List.getElem?_eq_none (by simp;omega)]
   have B2:Below w.heap.size w w2:=b1.grown g2 b1.size (fun k hk=>by cases hk;exact Nat.le_refl _);have B3:Below w.heap.size w w3:=(B2.drew).grown g3 (by have:=B2.size;simpa using this) (fun k hk=>by cases hk;exact Nat.le_refl _)
   have R3:Row (Gro O w w3) w3 27 1 (.slice (some ⟨w.heap.size,0,none⟩) (R.length+V.length) c2) (R.length+V.length) (Zj (R.take i++(V++R.drop i))) :=
    ob_row (Gro.new (Nat.le_refl _) o3.lt) o3 hc1 hc2 (by rw [length_splice _ _ _ (by rw [hl2,hdl];omega),hl2,Nat.mul_one]) (by rw [Nat.mul_one];exact hfin)
   exact (uinsert_grow hV hVl (by omega) hr1 hRl hcap (by omega) (by omega) hc1 (by omega) (by unfold maxLen at hc2;omega) (Z6 (n:=i+V.length) (by omega) (by omega)) (Z6 (n:=R.length+V.length) (by omega) (by omega)) (Z6 (n:=R.length+V.length - i) (by omega) (by omega)) p1 p2 p3 r1 r2 r3 s1 s2 s3).mono (fun e w' ⟨h1,h2⟩=>by subst h2;exact ⟨_,h1,R3,Zm _ B3⟩)
end
theorem cnan_any (w:World) (a:Int):Calls Tryz.prog 185 #[.int .u64 a] w fun e w'=>e=.returned (.bool false)/\w=w':=by
 have h:(a != a)=false:=by simp
 go_enter Tryz.func185,Tryz.ntmps185
 go_wp2;go_ret
 exact ⟨rfl,rfl⟩
theorem less_any (w:World) (a b:Int):Calls Tryz.prog 144 #[.int .u64 a,.int .u64 b] w fun e w'=>e=.returned (.bool (decide (a < b)))/\w=w':=by
 have C:=cnan_any w a;cases q:decide (a < b)
 all_goals
  go_enter Tryz.func144,Tryz.ntmps144
  go_wp2_with fail
  refine C.mono ?_;rintro e wx ⟨rfl,rfl⟩;go_wp2;go_ret
  exact ⟨rfl,rfl⟩
theorem snan_any (w:World) (a:Int):Calls Tryz.prog 145 #[.int .u64 a] w fun e w'=>e=.returned (.bool false)/\w=w':=by
 have h:(a != a)=false:=by simp
 go_enter Tryz.func145,Tryz.ntmps145
 go_wp2;go_ret
 exact ⟨rfl,rfl⟩
def BsP (n:Nat) (w:World) (e:Ending) (w':World):Prop:=∃ (i:Nat) (b:Bool),e=.returned (.tuple #[.int .i64 i,.bool b])/\i<=n/\w=w'
theorem bsearch_any {O:Nat->Prop} {w:World} {v:Value} {l:List Nat} (hr:Row O w 27 1 v l.length (Zj l)) (hl:l.length<=1099511627776) (x:Int) :
  Calls Tryz.prog 96 #[v,.int .u64 x] w (BsP l.length w):=by
 obtain ⟨n,hn⟩:∃ n,n=l.length:=⟨_,rfl⟩;rw [<- hn] at hr hl ⊢;by_cases h0:n=0
 ·obtain ⟨a,cap,rfl,h1,_,_,_⟩:=hr.form;subst h0;clear hr;go_enter Tryz.func96,Tryz.ntmps96
  go_wp2;go_loop [7,8] (fun i j=>i=.int .i64 0/\j=.int .i64 0) (fun _ _=>0)
  case atStart=>exact ⟨rfl,by rw [<- hn];rfl⟩
  case round =>
   obtain ⟨rfl,rfl⟩:=hrel;rw [<- hn];go_wp2;refine bodyPost_ret (by simp [results,Tryz.results96,go_sem];rfl) rfl ?_;exact ⟨0,false,rfl,Nat.zero_le _,rfl⟩
 ·obtain ⟨g,cap,rfl,hO,hg,h1,h2,hc,_⟩:=hr.shape (by omega)
  have hcell:∀ k:Nat,k < n->∃ z:Int,w.cell? ⟨g,k,none⟩=some (.int .u64 z):=fun k hk=>by
   have:=hc k (by omega);have h3:k < (Zj l).length:=by rw [ZI];omega
   rw [List.getElem?_eq_getElem h3] at this;refine ⟨(l[k]'(by omega):Nat),?_⟩;rw [this];simp [Zj]
  have HC:=Za hcell;have hcap:cap<=9223372036854775807:=by unfold maxLen at h2;omega
  clear hr hc hcell hn h2;go_enter Tryz.func96,Tryz.ntmps96
  go_wp2;go_loop [7,8] (fun i j=>∃ I J:Nat,I<=J/\J<=n/\i=.int .i64 I/\j=.int .i64 J) (fun i j=>(intOf j).toNat - (intOf i).toNat)
  case atStart=>exact ⟨0,n,by omega,by omega,rfl,rfl⟩
  case round =>
   obtain ⟨I,J,hIJ,hJ,rfl,rfl⟩:=hrel;by_cases hlt:I < J
   ·obtain ⟨z,hz⟩:=HC.out ((I+J) / 2) (by omega);have C:=less_any w z x;cases q:decide (z < x)
    all_goals
     rw [q] at C;have HCC:=Za C;clear C q;go_wp2_with fail
     refine HCC.out.mono ?_;rintro e wx ⟨rfl,rfl⟩;go_wp2;go_round
    ·exact ⟨I,(I+J) / 2,by omega,by omega,rfl,by simp⟩
    ·simp [intOf];omega
    ·exact ⟨(I+J) / 2+1,J,by omega,by omega,by simp,rfl⟩
    ·simp [intOf];omega
   ·obtain rfl:I=J:=by omega
    by_cases hIn:I < n
    ·obtain ⟨z,hz⟩:=HC.out I hIn;have C:=snan_any w z;have hb:(z == x)=true\/(z == x)=false:=by cases (z == x) <;> simp
     rcases hb with hb | hb
     ·clear C;go_wp2;refine bodyPost_ret (by simp [results,Tryz.results96,go_sem];rfl) rfl ?_;exact ⟨I,_,rfl,by omega,rfl⟩
     ·have HCC:=Za C;clear C;go_wp2_with fail
      refine HCC.out.mono ?_;rintro e wx ⟨rfl,rfl⟩;go_wp2;refine bodyPost_ret (by simp [results,Tryz.results96,go_sem];rfl) rfl ?_;exact ⟨I,_,rfl,by omega,rfl⟩
    ·go_wp2;refine bodyPost_ret (by simp [results,Tryz.results96,go_sem];rfl) rfl ?_;exact ⟨I,_,rfl,by omega,rfl⟩
end Go.Proofs.YtdhebpnkfookcaaGreat
namespace Apo
open Go Go.RowKit Go.PlainAid
def stp (h c:Int):Int:=IntKind.u64.wrap (bits .xor .u64 h c * 1099511628211)
def fm (s:ByteArray) (h:Int):Nat->Int
 | 0=>h
 | k+1=>stp (fm s h k) (bt s k)
def more (h:Int) (s:ByteArray):Int:=fm s h s.size
def fnvStart:Int:=14695981039346656037
def folded (h:Int):Int:=bits .xor .u32 (h / 4294967296) (h % 4294967296)
theorem stp_bd (h c:Int):0<=stp h c/\stp h c<=18446744073709551615:=by
 unfold stp;simp only [IntKind.wrap_u64];omega
theorem fm_bd (s:ByteArray) (h:Int) (h0:0<=h) (h1:h<=18446744073709551615):∀ k,0<=fm s h k/\fm s h k<=18446744073709551615
 | 0=>⟨h0,h1⟩
 | _+1=>stp_bd _ _
theorem more_bd (s:ByteArray) (h:Int) (h0:0<=h) (h1:h<=18446744073709551615):0<=more h s/\more h s<=18446744073709551615:=fm_bd s h h0 h1 _
theorem fm_end {s:ByteArray} {h y:Int} {k:Nat} (hk:k<=s.size) (hn:¬ k < s.size) (hf:fm s h k=y):y=more h s:=by
 have:k=s.size:=by omega
 subst this;exact hf.symm
end Apo
namespace Go.Proofs.YtdhebpnkfookcaaGreat
open Go.RowKit Apo
theorem more_any (h:Int) (s:ByteArray) (w:World) (h0:0<=h) (h1:h<=18446744073709551615) (hs:s.size<=1099511627776) :
  Calls Tryz.prog 148 #[.int .u64 h,.string s] w fun e w'=>e=.returned (.int .u64 (more h s))/\w=w':=by
 have hb:=PlainAid.get_bt s;go_enter Tryz.func148,Tryz.ntmps148
 go_wp2;go_loop [0,8] (fun x i=>∃ k:Nat,k<=s.size/\i=.int .i64 k/\∃ y:Int,x=.int .u64 y/\0<=y/\y<=18446744073709551615/\Hid (fm s h k=y)) (fun _ i=>s.size - (intOf i).toNat)
 case atStart=>exact ⟨0,Nat.zero_le _,rfl,h,rfl,h0,h1,rfl⟩
 case round =>
  obtain ⟨k,hk,rfl,y,rfl,hy0,hy1,hf⟩:=hrel;by_cases hlt:k < s.size
  ·have hz0:=PlainAid.bt_nonneg s k;have hz1:=PlainAid.bt_le s k;go_wp2;go_round
   case rel=>exact ⟨k+1,hlt,rfl,_,rfl,(stp_bd _ _).1,(stp_bd _ _).2,by show stp (fm s h k) _=_;rw [hf.out];rfl⟩
   case measure=>simp [intOf];omega
  ·go_wp2;go_ret
   exact ⟨by rw [<- fm_end hk hlt hf.out];rfl,rfl⟩
theorem sum_any (s:ByteArray) (w:World) (hs:s.size<=1099511627776) :
  Calls Tryz.prog 98 #[.string s] w fun e w'=>e=.returned (.int .u64 (more fnvStart s))/\w=w':=by
 go_enter Tryz.func98,Tryz.ntmps98
 go_wp2_with fail
 refine (more_any fnvStart s _ (by decide) (by decide) hs).mono ?_;rintro e w1 ⟨rfl,rfl⟩;go_wp2;go_ret
 exact ⟨rfl,rfl⟩
theorem fold_any (h:Int) (w:World) (h0:0<=h) (h1:h<=18446744073709551615) :
  Calls Tryz.prog 196 #[.int .u64 h] w fun e w'=>e=.returned (.int .u32 (folded h))/\w=w':=by
 go_enter Tryz.func196,Tryz.ntmps196
 go_wp2;go_ret
 exact ⟨rfl,rfl⟩
end Go.Proofs.YtdhebpnkfookcaaGreat
