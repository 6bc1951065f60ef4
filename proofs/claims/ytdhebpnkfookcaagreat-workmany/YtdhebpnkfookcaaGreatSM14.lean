import Derived.Test.YtdhebpnkfookcaaGreatSM13
import Derived.Test.YtdhebpnkfookcaaGreatSM12
set_option maxRecDepth 100000
set_option maxHeartbeats 4000000
namespace Go.Proofs.YtdhebpnkfookcaaGreat
open Go.RowKit Apo
theorem csave_any {O:Nat->Prop} {w:World} {p:Nat} {st:Sd} (h:CDev O w p st) (hlt:∀ i,O i->i < w.heap.size) (hc:st.C.length < 1099511627776) (s:Sup) (hs:s.Ok) :
  Calls Tryz.prog 85 #[.pointer (some ⟨p,0,none⟩),s.val] w fun e w'=>e=.returned (.int .i64 (st.save s).1)/\CDev (Gro O w w') w' p (st.save s).2/\Onl O w w':=by
 have hse:=hs.e
 have hmod:IntKind.i64.wrap ((s.e:Int).tmod 2)=(s.e:Int) % 2:=by
  rw [Int.tmod_eq_emod_of_nonneg (by omega),IntKind.wrap_i64];omega
 have HH:=Za h;have HLT:=Za hlt;have HS:=Za hs;clear h hlt hs;have k0:Ob (w.alloc (.cells s.cells.toArray 154)) w.heap.size 154 s.cells:=Ob.new w s.cells 154;have z0:(w.alloc (.cells s.cells.toArray 154)).heap.size=w.heap.size+1:=by simp
 have o0:Onl O w (w.alloc (.cells s.cells.toArray 154)):=(Onl.refl _ w).alloc _;have d0:CDev O (w.alloc (.cells s.cells.toArray 154)) p st:=HH.out.onl (F:=fun _=>False) ((Onl.refl _ w).alloc _) (fun _ _ q=>q);unfold Sup.cells at k0 z0 o0 d0;have HV:=Za (put_any s HS.out);unfold Sup.val Sup.cells at HV;unfold Sup.val Sup.cells;generalize hW0:w.alloc (.cells [.int .u64 s.e,.int .u32 s.st,.int .u32 s.pg,.int .u32 s.sz].toArray 154)=W0 at k0 z0 o0 d0;have HK0:=Za k0;have HO0:=Za o0;have HD0:=Za d0;clear k0 o0 d0;go_enter Tryz.func85,Tryz.ntmps85
 go_wp2_with fail
 refine (cflush_any HD0.out (by omega)).mono ?_;rintro e w1 ⟨rfl,d1,o1⟩;have k1:=HK0.out.onl o1 (fun q=>absurd (HLT.out _ q) (Nat.lt_irrefl _))
 have c1:st.flushed.2.C.length<=st.C.length:=by
  unfold Sd.flushed;split
  ·simp
  ·rw [acted_C];simp
 have x0:=k1.cell 0;have x1:=k1.cell 1;have x2:=k1.cell 2;have x3:=k1.cell 3;simp only [List.getElem?_cons_zero,List.getElem?_cons_succ] at x0 x1 x2 x3;have z1:=o1.size;have HK1:=Za k1;have HD1:=Za d1;have HO1:=Za (HO0.out.trans o1);clear k1 d1 o1;rcases flushed_vals st with hf | hf
 ·have HSV:Hid (st.save s=(if (st.flushed.2.wrote ((s.e:Int) % 2) (Zh s)).1=0 then (st.flushed.2.wrote ((s.e:Int) % 2) (Zh s)).2.flushed else st.flushed.2.wrote ((s.e:Int) % 2) (Zh s))):=by
   show st.save s=_
   unfold Sd.save;rw [if_pos hf]
  rw [hf];have HF:=Za hf;clear hf;generalize st.flushed.2=st1 at *;go_wp2
  go_region_held3 (fun W'=>W'.cell? ⟨w.heap.size,0,none⟩=some (.int .u64 s.e)/\W'.cell? ⟨w.heap.size,1,none⟩=some (.int .u32 s.st)/\W'.cell? ⟨w.heap.size,2,none⟩=some (.int .u32 s.pg)/\W'.cell? ⟨w.heap.size,3,none⟩=some (.int .u32 s.sz)) (go_keep) (first
   | (go_at_call 130;refine (HV.out w1.drew).mono ?_;rintro e w2 ⟨v2,rfl,r2,b2⟩;obtain ⟨a2,c2,hv2⟩:=own_len r2;subst hv2;have k2:=Ob.old (w:=w1.drew) HK1.out b2;have y0:=k2.cell 0;have y1:=k2.cell 1;have y2:=k2.cell 2;have y3:=k2.cell 3;simp only [List.getElem?_cons_zero,List.getElem?_cons_succ] at y0 y1 y2 y3;have HR2:=Za (rdown r2);have HD2:=Za (HD1.out.onl (F:=fun _=>False) ((Onl.refl _ w1).drew.trans (Onl.ofBelow b2)) (fun _ _ q=>q));have HO2:=Za (HO1.out.drew.trans (Onl.ofBelow b2));have HK2:=Za k2;have z2:=b2.size;clear r2 b2 k2)
   | (go_at_call 84;have KW:=cwrite_any HD2.out (by omega) ((s.e:Int) % 2) a2 c2 (Zh s) HR2.out.1 (fun x hx _ q=>by have h1:=HR2.out.2.2.2 x hx;have h2:=HLT.out _ q;have h3:w1.drew.heap.size=w1.heap.size:=rfl;omega) (superB_byt s);rw [ZT] at KW;refine KW.mono ?_;rintro e w3 ⟨rfl,d3,o3⟩;have k3:=HK2.out.onl o3 (fun q=>absurd (HLT.out _ q) (Nat.lt_irrefl _));have u0:=k3.cell 0;have u1:=k3.cell 1;have u2:=k3.cell 2;have u3:=k3.cell 3;simp only [List.getElem?_cons_zero,List.getElem?_cons_succ] at u0 u1 u2 u3;have HD3:=Za d3;have HO3:=Za (HO2.out.trans o3);have z3:=o3.size;clear d3 o3 k3 KW))
  have c3:(st1.wrote ((s.e:Int) % 2) (Zh s)).2.C.length<=st1.C.length+1:=by
   unfold Sd.wrote;split
   ·simp
   ·split
    ·split
     ·simp
     ·rw [acted_C];simp
    ·simp
  have hv3:=wrote_vals st1 ((s.e:Int) % 2) (Zh s);have hz2:w.heap.size<=w2.heap.size:=by have h3:w1.drew.heap.size=w1.heap.size:=rfl;omega
  generalize hst3:(st1.wrote ((s.e:Int) % 2) (Zh s)).2=st3 at *;generalize hz3:(st1.wrote ((s.e:Int) % 2) (Zh s)).1=e3 at *;have HST3:=Za hst3;have HZ3:=Za hz3;clear hst3 hz3;by_cases he3:e3=0
  ·subst he3
   have HS2:Hid (st.save s=st3.flushed):=by
    show st.save s=_
    rw [HSV.out];simp
   clear hv3;go_wp2_with fail
   refine (cflush_any HD3.out (by omega)).mono ?_;rintro e w4 ⟨rfl,d4,o4⟩;have HD4:=Za d4;have HO4:=Za (HO3.out.more o4 (fun i hi=>hi.elim .inl (fun q=>.inr (by omega))));have z4:=o4.size;clear d4 o4;go_wp2;go_ret
   refine ⟨by rw [HS2.out];rfl,?_,HO4.out⟩;rw [HS2.out];exact HD4.out.mono (fun i hi=>hi.elim .inl (fun q=>.inr ⟨by omega,by omega⟩))
  ·have HS2:Hid (st.save s=(e3,st3)):=by
    show st.save s=_
    rw [HSV.out,if_neg he3,<- HZ3.out,<- HST3.out]
   have hb3:(e3 != 0)=true:=by simpa using he3
   clear he3 hv3;go_wp2;go_ret
   refine ⟨by rw [HS2.out];rfl,?_,HO3.out⟩;rw [HS2.out];exact HD3.out.mono (fun i hi=>hi.elim .inl (fun q=>.inr ⟨by omega,by omega⟩))
 ·have HS2:Hid (st.save s=st.flushed):=by
   show st.save s=_
   unfold Sd.save;rw [if_neg (by rw [hf];decide)]
  rw [hf];have HF:=Za hf;clear hf;go_wp2;go_ret
  refine ⟨by rw [HS2.out,HF.out];rfl,?_,HO1.out⟩;rw [HS2.out];exact HD1.out.mono Gro.of
end Go.Proofs.YtdhebpnkfookcaaGreat
namespace Apo
open Go Go.RowKit
theorem put_C (c:Cg) (st:Sd) (b:List Int):(c.put st b).2.2.C.length<=st.C.length+4232:=by
 have:∀ a,(st.wrText2 a b).2.C.length<=st.C.length+4232:=by
  intro a;unfold Sd.wrText2;split
  ·simp
  ·have:=layTo_C st a b (Zc b.length);have:=needP_le (b.length:Int);omega
 unfold Cg.put;split
 ·simp
 ·split
  ·simp
  ·split
   ·simp
   ·split
    ·exact this _
    ·exact this _
end Apo
namespace Go.Proofs.YtdhebpnkfookcaaGreat
section
open Go.RowKit Apo
end
section
open Go.RowKit Go.Shelf Apo
attribute [local go_sem] Oper.semAt_some
/-! the laws at whole arrays,inside a fence -/
theorem ld_sem65 {ro:Option Nat} {P:Program} {w:World} {ρ:Operand->Value} {dst:Option Tmp} {x:Operand} {ty:TypeId} {pos:String} {after:Array Edge} {guard:Option (Nat × Bool)} (h:LdRuns P w 216 (ρ x)) :
  (Oper.semAt ro ρ { dst,op:=.load 216 x,type:=ty,pos,after,guard }).run P w=.ok (.value (ldVal P w 216 (ρ x))) w:=by
 rw [Oper.semAt_eq _ _ _ (by simp)];exact ld_exec h
theorem ld_sem67 {ro:Option Nat} {P:Program} {w:World} {ρ:Operand->Value} {dst:Option Tmp} {x:Operand} {ty:TypeId} {pos:String} {after:Array Edge} {guard:Option (Nat × Bool)} (h:LdRuns P w 218 (ρ x)) :
  (Oper.semAt ro ρ { dst,op:=.load 218 x,type:=ty,pos,after,guard }).run P w=.ok (.value (ldVal P w 218 (ρ x))) w:=by
 rw [Oper.semAt_eq _ _ _ (by simp)];exact ld_exec h
theorem st_sem65 {ro:Option Nat} {P:Program} {w:World} {ρ:Operand->Value} {dst:Option Tmp} {x y:Operand} {ty:TypeId} {pos:String} {after:Array Edge} {guard:Option (Nat × Bool)} (h:StRuns P w 216 (ρ x) (ρ y)) :
  (Oper.semAt ro ρ { dst,op:=.store 216 x y,type:=ty,pos,after,guard }).run P w=.ok .skip (stWld P w 216 (ρ x) (ρ y)):=by
 rw [Oper.semAt_eq _ _ _ (by simp)];exact st_exec h
theorem st_sem67 {ro:Option Nat} {P:Program} {w:World} {ρ:Operand->Value} {dst:Option Tmp} {x y:Operand} {ty:TypeId} {pos:String} {after:Array Edge} {guard:Option (Nat × Bool)} (h:StRuns P w 218 (ρ x) (ρ y)) :
  (Oper.semAt ro ρ { dst,op:=.store 218 x y,type:=ty,pos,after,guard }).run P w=.ok .skip (stWld P w 218 (ρ x) (ρ y)):=by
 rw [Oper.semAt_eq _ _ _ (by simp)];exact st_exec h
theorem al_sem65 {ro:Option Nat} {w:World} {ρ:Operand->Value} {dst:Option Tmp} {ty:TypeId} {pos:String} {after:Array Edge} {guard:Option (Nat × Bool)} :
  (Oper.semAt ro ρ { dst,op:=.alloc 216,type:=ty,pos,after,guard }).run Tryz.prog w=.ok (.value (.pointer (some ⟨w.heap.size,0,none⟩))) (w.alloc (.cells (zc Tryz.prog 216) 216)):=by
 rw [Oper.semAt_eq _ _ _ (by simp)];exact al_exec al_sec
theorem al_sem67 {ro:Option Nat} {w:World} {ρ:Operand->Value} {dst:Option Tmp} {ty:TypeId} {pos:String} {after:Array Edge} {guard:Option (Nat × Bool)} :
  (Oper.semAt ro ρ { dst,op:=.alloc 218,type:=ty,pos,after,guard }).run Tryz.prog w=.ok (.value (.pointer (some ⟨w.heap.size,0,none⟩))) (w.alloc (.cells (zc Tryz.prog 218) 218)):=by
 rw [Oper.semAt_eq _ _ _ (by simp)];exact al_exec al_wri
attribute [local go_sem ↓] ld_sem67
structure Wx where
 i:Nat
 x:Nat × List Int
 ok:Sec x.2
def wxAt (C:List (Nat × List Int)) (hC:∀ x ∈ C,Sec x.2) (j:Nat):Wx :=
 ⟨C.length - 1 - j,C.getD (C.length - 1 - j) (0,zeros),by
  simp only [List.getD];cases hq:C[C.length - 1 - j]? with
  | none=>exact sec_zeros
  | some x=>exact hC x (List.mem_of_getElem? hq)⟩
def upto {α:Type} (f:Nat->α) (k:Nat):List α:=(List.range k).map f
theorem upto_succ {α:Type} (f:Nat->α) (k:Nat):upto f (k+1)=upto f k++[f k]:=by simp [upto,List.range_succ]
theorem upto_length {α:Type} (f:Nat->α) (k:Nat):(upto f k).length=k:=by simp [upto]
theorem cback1_in (F:Fence) (n:Nat) (h42:F.fn 213) (hro:F.round=none) (hn:1<=n) (l Bs n₀ g cap:Nat) (C:List (Nat × List Int)) (hC:∀ x ∈ C,Sec x.2) (hreach:C.length<=1099511627776) (hg:g < n₀) (hBn:Bs < n₀) (J Jx:List Wx->World->Prop)
  (hY:∀ pre x W,J pre W->pre.length < C.length->YieldAt F (n - 1) Tryz.prog l #[.int .i64 (x.i:Int),.agg (wrA x.x)] W fun e W' =>
    (e=.returned (.bool true)/\J (pre++[x]) W'/\Below n₀ W W')\/(e=.returned (.bool false)/\Jx (pre++[x]) W'))
  (W:World) (hBs:W.cell? ⟨Bs,0,none⟩=some (.slice (some ⟨g,0,none⟩) C.length cap)) (hc:∀ i x,C[i]?=some x->∀ j,j < 33->W.cell? ⟨g,i * 33+j,none⟩=(wrV x)[j]?) (h0:J [] W) :
  CallsIn F n Tryz.prog 213 #[.func (.yield l) #[] #[],.pointer (some ⟨Bs,0,none⟩)] W fun e W'=>(∃ v,e=.returned v) /\
   ((∃ ys,ys=upto (wxAt C hC) C.length/\J ys W')\/(∃ pre,(∃ k,k<=C.length/\pre=upto (wxAt C hC) k)/\Jx pre W')):=by
 refine callsIn_of_wp Tryz.func213 rfl h42 ?_ hro;simp only [Tryz.ntmps213,List.size_toArray,List.length_cons,List.length_nil,Nat.reduceAdd,Nat.reduceSub,Array.replicate_succ,Array.replicate_zero,List.push_toArray,List.append_toArray,List.nil_append,List.cons_append];gi_wp2
 gi_loopw [3] (fun i wr=>∃ k:Nat,k<=C.length/\i=.int .i64 ((C.length:Int) - 1 - k)/\J (upto (wxAt C hC) k) wr/\Below n₀ W wr)
  (fun i _=>(intOf i+1).toNat)
 case atStart=>exact ⟨0,Nat.zero_le _,by simp,h0,Below.refl _ _⟩
 case round =>
  obtain ⟨k,hk,rfl,hJs,hnx⟩:=hrel;have hBs':wr.cell? ⟨Bs,0,none⟩=some (.slice (some ⟨g,0,none⟩) C.length cap):=(hnx.cell (p:=⟨Bs,0,none⟩) hBn).trans hBs;by_cases hlt:k < C.length
  ·have hi:C.length - 1 - k < C.length:=by omega
   have hx0:C[C.length - 1 - k]?=some C[C.length - 1 - k]:=List.getElem?_eq_getElem hi
   have hsx:=hC _ (List.getElem_mem hi);have e1:(wxAt C hC k).x=C[C.length - 1 - k]:=by simp [wxAt,List.getD,hx0]
   have e2:(wxAt C hC k).i=C.length - 1 - k:=rfl;obtain ⟨fn,tmps,assign,body,hy,hR⟩:=hY _ (wxAt C hC k) wr hJs (by rw [upto_length];exact hlt);rw [e1,e2] at hy;have e3:(C.length:Int) - 1 - (k:Int)=((C.length - 1 - k:Nat):Int):=by omega
   rw [e3];obtain ⟨l1,l2⟩:=ld_wri (w:=wr) (g:=g) (o:=(C.length - 1 - k) * 33) (x:=C[C.length - 1 - k]) ⟨hsx.1⟩ (fun j hj=>(hnx.cell (p:=⟨g,(C.length - 1 - k) * 33+j,none⟩) hg).trans (hc _ _ hx0 j hj));generalize hqi:C.length - 1 - k=i at *;generalize hqx:C[i]=x at *;have HI:=Za hqi;have HX:=Za hx0;have HJ:=Za hJs;have HE:=Za e3;clear hqi hx0 hJs e3 e1 e2 hqx;gi_wp2
   refine hR.mono ?_;rintro e W3 (⟨rfl,hJ3,hk3⟩ | ⟨rfl,hJx3⟩)
   ·have hBs3:=(hk3.cell (p:=⟨Bs,0,none⟩) hBn).trans hBs';gi_wp2
    go_roundw
    case rel=>exact ⟨k+1,by omega,by have:=HE.out;simp;omega,by rw [upto_succ];exact hJ3,hnx.trans hk3⟩
    case measure=>simp [intOf]
   ·gi_wp2
    refine bodyPost_ret (results_none rfl _ _ _) rfl ?_;exact ⟨⟨_,rfl⟩,.inr ⟨_,⟨k+1,by omega,(upto_succ _ _).symm⟩,hJx3⟩⟩
  ·obtain rfl:k=C.length:=by omega
   gi_wp2
   go_end0
   exact ⟨⟨_,rfl⟩,.inl ⟨_,rfl,hJs⟩⟩
theorem cback1_nil_in (F:Fence) (n:Nat) (h42:F.fn 213) (hro:F.round=none) (l Bs:Nat) (J:List Wx->World->Prop) (W:World) (hBs:W.cell? ⟨Bs,0,none⟩=some (.slice none 0 0)) (h0:J [] W) :
  CallsIn F n Tryz.prog 213 #[.func (.yield l) #[] #[],.pointer (some ⟨Bs,0,none⟩)] W fun e W'=>(∃ v,e=.returned v)/\J [] W':=by
 refine callsIn_of_wp Tryz.func213 rfl h42 ?_ hro;simp only [Tryz.ntmps213,List.size_toArray,List.length_cons,List.length_nil,Nat.reduceAdd,Nat.reduceSub,Array.replicate_succ,Array.replicate_zero,List.push_toArray,List.append_toArray,List.nil_append,List.cons_append];gi_wp2
 gi_loopw [3] (fun i wr=>i=.int .i64 (-1)/\J [] wr) (fun _ _=>0)
 case atStart=>exact ⟨rfl,h0⟩
 case round =>
  obtain ⟨rfl,hJs⟩:=hrel;gi_wp2
  go_end0
  exact ⟨⟨_,rfl⟩,hJs⟩
theorem cback_in (F:Fence) (n:Nat) (h40:F.fn 198) (hro:F.round=none) (a:Option Addr) (len cap:Nat) (w:World) :
  CallsIn F n Tryz.prog 198 #[.slice a len cap] w fun e w'=>e=.returned (.func (.func 213) #[] #[.pointer (some ⟨w.heap.size,0,none⟩)])/\w'=w.alloc (.cells #[.slice a len cap] 114):=by
 refine callsIn_of_wp Tryz.func198 rfl h40 ?_ hro;simp only [Tryz.ntmps198,List.size_toArray,List.length_cons,List.length_nil,Nat.reduceAdd,Nat.reduceSub,Array.replicate_succ,Array.replicate_zero,List.push_toArray,List.append_toArray,List.nil_append,List.cons_append];gi_wp2
 go_ret
 exact ⟨rfl,rfl⟩
theorem cback_stops (F:Fence) (n:Nat) (h42:F.fn 213) (hro:F.round=none) (hn:1<=n) (Bs n₀:Nat) (ca:Option Addr) (cap:Nat) (C:List (Nat × List Int)) (hC:∀ x ∈ C,Sec x.2) (hreach:C.length<=1099511627776) (w:World) (hBs:Bs < n₀) (hn₀:n₀<=w.heap.size)
  (hc:w.cell? ⟨Bs,0,none⟩=some (.slice ca C.length cap)) (hnil:ca=none->C=[]/\cap=0) (hca:∀ x,ca=some x->∃ g,x=⟨g,0,none⟩/\g < n₀/\∀ i x,C[i]?=some x->∀ j,j < 33->w.cell? ⟨g,i * 33+j,none⟩=(wrV x)[j]?) :
  SeqStopsK F n Tryz.prog 213 #[.pointer (some ⟨Bs,0,none⟩)] (fun x:Wx=>#[Value.int .i64 (x.i:Int),Value.agg (wrA x.x)]) (Below n₀) (fun ys=>ys=upto (wxAt C hC) C.length)
   (fun pre=>∃ k,k<=C.length/\pre=upto (wxAt C hC) k) C.length w:=fun l J Jx W hW _ _ hY h0=>by
 have hc':=(hW.cell (p:=⟨Bs,0,none⟩) (Nat.lt_of_lt_of_le hBs hn₀)).trans hc;cases ca with
 | none =>
  obtain ⟨rfl,rfl⟩:=hnil rfl;exact (cback1_nil_in F n h42 hro l Bs J W hc' h0).mono fun e W' ⟨he,hj⟩=>⟨he,.inl ⟨_,rfl,hj⟩⟩
 | some x =>
  obtain ⟨g,rfl,hg,hcs⟩:=hca x rfl;exact cback1_in F n h42 hro hn l Bs n₀ g cap C hC hreach hg hBs J Jx hY W hc' (fun i x hx j hj=>(hW.cell (p:=⟨g,i * 33+j,none⟩) (Nat.lt_of_lt_of_le hg hn₀)).trans (hcs i x hx j hj)) h0
end
section
open Go.RowKit Go.Shelf Apo
attribute [local go_sem] Oper.semAt_some
attribute [local go_sem ↓] ld_sem65 ld_sem67 st_sem65 st_sem67 al_sem65 al_sem67 ld_exec65 ld_exec67 st_exec65 st_exec67 al_exec65 al_exec67
theorem st_sec_ob {W:World} {g:Nat} {q r:List Int} (hq:Len32 q) (hr:Len32 r) (h:Ob W g 216 (Zq q)):∃ W',(StRuns Tryz.prog W 216 (.pointer (some ⟨g,0,none⟩)) (.agg (secA r))/\stWld Tryz.prog W 216 (.pointer (some ⟨g,0,none⟩)) (.agg (secA r))=W')/\Ob W' g 216 (Zq r)/\Onl (fun k=>k=g) W W':=by
 obtain ⟨W',h1,h2,h3⟩:=run_storeAt_cells (P:=Tryz.prog) (w:=W) 216 216 g 0 (Zq q) (Zq r) (by rw [size_sec];simp [Zq,hr.len]) (secV_one _) h (by simp [Zq,hq.len,hr.len])
 have e:over (Zq q) 0 (Zq r)=Zq r:=by
  have:(Zq r).length=(Zq q).length:=by simp [Zq,hq.len,hr.len]
  simp [over,this]
 rw [e] at h2;exact ⟨W',st_runs h1,h2,h3⟩
theorem grown_onl {W W':World} {g:Nat} (h:Onl (fun k=>k=g) W W'):W.grownBy W' (some g):=⟨h.os,h.tape,h.output,h.size,fun i hi hr=>h.block i hi (fun e=>hr (by rw [e]))⟩
theorem ob_own {β:Type} (B:Nat) (t:TypeId) (f:β->List Value):Own (fun s W=>Ob W B t (f s)):=fun s X Y row hs hg hrow =>
 hs.kept hg (fun e'=>by obtain ⟨o,ho,hc⟩:=hrow B e';rw [show X.heap[B]?=_ from hs] at ho;cases ho;cases hc)
/-! the last of the cached writes of a sector -/
theorem lastOf_none:∀ {C:List (Nat × List Int)} {i:Nat} (b:List Int),(∀ x ∈ C,x.1≠i)->lastOf C i b=b
 | [],_,_,_=>rfl
 | x :: C,i,b,h=>by
  have h1:=h x (by simp);have h2:=lastOf_none (C:=C) b (fun y hy=>h y (by simp [hy]));simp only [lastOf,List.foldl_cons,if_neg h1] at h2 ⊢;exact h2
theorem lastOf_some {C:List (Nat × List Int)} {i q:Nat} {x:Nat × List Int} (b:List Int) (hx:C[q]?=some x) (hi:x.1=i) (h:∀ r y,q < r->C[r]?=some y->y.1≠i):lastOf C i b=x.2:=by
 have hq:q < C.length:=(List.getElem?_eq_some_iff.1 hx).1
 have e:C=C.take q++(x :: C.drop (q+1)):=by
  have:=List.take_append_drop q C;rw [List.drop_eq_getElem_cons hq] at this;rw [<- (List.getElem?_eq_some_iff.1 hx).2];exact this.symm
 rw [e]
 have h2:=lastOf_none (C:=C.drop (q+1)) (i:=i) x.2 (fun y hy=>by
  obtain ⟨k,hk⟩:=List.getElem?_of_mem hy
  rw [List.getElem?_drop] at hk;exact h (q+1+k) y (by omega) hk)
 simp only [lastOf,List.foldl_append,List.foldl_cons,if_pos hi] at h2 ⊢;exact h2
theorem last_all {C:List (Nat × List Int)} {hC:∀ x ∈ C,Sec x.2} {i:Nat} (b:List Int) (h:∀ y ∈ upto (wxAt C hC) C.length,y.x.1≠i):lastOf C i b=b:=by
 refine lastOf_none b (fun x hx=>?_);obtain ⟨k,hk⟩:=List.getElem?_of_mem hx
 have hkl:=(List.getElem?_eq_some_iff.1 hk).1;have:=h (wxAt C hC (C.length - 1 - k)) (by simp only [upto,List.mem_map,List.mem_range];exact ⟨C.length - 1 - k,by omega,rfl⟩);have e:C.length - 1 - (C.length - 1 - k)=k:=by omega
 simp only [wxAt,e,List.getD,hk] at this;exact this
theorem last_at {C:List (Nat × List Int)} {hC:∀ x ∈ C,Sec x.2} {i k:Nat} (b:List Int) (hk:k<=C.length) {ini:List Wx} {z:Wx} (e:upto (wxAt C hC) k=ini++[z]) (h:∀ y ∈ ini,y.x.1≠i) (hz:z.x.1=i):lastOf C i b=z.x.2:=by
 obtain ⟨k',rfl⟩:∃ k',k=k'+1:=by
  cases k with
  | zero=>simp [upto] at e
  | succ k'=>exact ⟨k',rfl⟩
 rw [upto_succ] at e;obtain ⟨rfl,e5⟩:=List.append_inj' e rfl;obtain rfl:wxAt C hC k'=z:=by simpa using e5
 have hq:C.length - 1 - k' < C.length:=by omega
 have hx:C[C.length - 1 - k']?=some C[C.length - 1 - k']:=List.getElem?_eq_getElem hq
 have ex:(wxAt C hC k').x=C[C.length - 1 - k']:=by simp [wxAt,List.getD,hx]
 rw [ex] at hz ⊢;refine lastOf_some b hx hz (fun r y hr hy=>?_);have hrl:=(List.getElem?_eq_some_iff.1 hy).1;have:=h (wxAt C hC (C.length - 1 - r)) (by simp only [upto,List.mem_map,List.mem_range];exact ⟨C.length - 1 - r,by omega,rfl⟩);have e:C.length - 1 - (C.length - 1 - r)=r:=by omega
 simp only [wxAt,e,List.getD,hy] at this;exact this
theorem clast_in {O:Nat->Prop} {w:World} {p:Nat} {st:Sd} {vK vC:Value} {m:Nat} {lf:Int} (h:CParts O w p st vK vC m lf) (hc:st.C.length<=1099511627776) (i:Nat) (hi:i < st.S.length) :
  CallsIn Fence.wide 3 Tryz.prog 170 #[.pointer (some ⟨p,0,none⟩),.int .i64 i] w fun e W'=>e=.returned (.agg (secA (lastOf st.C i (st.S.getD i []))))/\Below w.heap.size w W':=by
 have h1:1<=3:=by omega
 have hro:Fence.wide.round=none:=rfl;have h33:Fence.wide.fn 170:=trivial;have h40:Fence.wide.fn 198:=trivial;have h42:Fence.wide.fn 213:=trivial;have c2:=h.ob.cell 2;obtain ⟨ca,ccap,hvC,hc1,hc2,hc3,hc4⟩:=h.sC.form;subst hvC;simp only [List.getElem?_cons_zero,List.getElem?_cons_succ] at c2;have hplt:=h.ob.lt;have H:=Za h;have HC:=Za hc4;have HC3:=Za hc3;clear h hc4 hc3;refine callsIn_of_wp_marks Tryz.func170 rfl h33 ?_ hro;simp only [Tryz.ntmps170,List.size_toArray,List.length_cons,List.length_nil,Nat.reduceAdd,Nat.reduceSub,Array.replicate_succ,Array.replicate_zero,List.push_toArray,List.append_toArray,List.nil_append,List.cons_append];gi_wp2_with (gi_at_call 198;refine (cback_in Fence.wide _ h40 hro _ _ _ _).mono ?_;rintro e w' ⟨rfl,rfl⟩)
 have bA:Boxed (((w.alloc (.cells #[.int .i64 i] 3)).alloc (.cells (zc Tryz.prog 216) 216)).alloc (.cells #[.slice ca st.C.length ccap] 114)) w.heap.size 3 (.int .i64 i):=((Boxed.new w 3 (.int .i64 i)).alloc _).alloc _
 have bR:Ob (((w.alloc (.cells #[.int .i64 i] 3)).alloc (.cells (zc Tryz.prog 216) 216)).alloc (.cells #[.slice ca st.C.length ccap] 114)) (w.heap.size+1) 216 (Zq zeros):=by
  have:=(Ob.new (w.alloc (.cells #[.int .i64 i] 3)) (Zq zeros) 216).alloc (.cells #[.slice ca st.C.length ccap] 114);rw [World.size_alloc] at this;rw [zc_sec];exact this
 have bS:=Boxed.new ((w.alloc (.cells #[.int .i64 i] 3)).alloc (.cells (zc Tryz.prog 216) 216)) 114 (.slice ca st.C.length ccap);simp only [World.size_alloc] at bS;have hB0:Below w.heap.size w (((w.alloc (.cells #[.int .i64 i] 3)).alloc (.cells (zc Tryz.prog 216) 216)).alloc (.cells #[.slice ca st.C.length ccap] 114)):=(((Below.refl _ w).alloc (Nat.le_refl _) _).alloc (by simp) _).alloc (by simp;omega) _;have hsz:(((w.alloc (.cells #[.int .i64 i] 3)).alloc (.cells (zc Tryz.prog 216) 216)).alloc (.cells #[.slice ca st.C.length ccap] 114)).heap.size=w.heap.size+3:=by simp
 obtain ⟨W0,hW0⟩:∃ W0,((w.alloc (.cells #[.int .i64 i] 3)).alloc (.cells (zc Tryz.prog 216) 216)).alloc (.cells #[.slice ca st.C.length ccap] 114)=W0:=⟨_,rfl⟩;rw [hW0] at bA bR bS hB0 hsz ⊢;clear hW0;have hS:∀ x ∈ st.C,Sec x.2:=fun x hx=>(H.out.ok.cach x hx).2
 have P0:=H.out.kept (Onl.ofBelow hB0)
 refine wpIn_rangeFunc_ownH hro h1 (gf:=213) (lb:=#[.pointer (some ⟨w.heap.size+1+1,0,none⟩)]) rfl h42 (enters_of Tryz.func213 (by kernel_rfl) rfl)
  (cback_stops Fence.wide 2 h42 hro (by omega) (w.heap.size+1+1) W0.heap.size ca ccap st.C hS hc W0 (by omega) (Nat.le_refl _) bS.cell
    (fun e=>⟨List.eq_nil_of_length_eq_zero (by have:=HC3.out e;omega),HC3.out e⟩)
    (fun x e=>by
      obtain ⟨g,rfl,_⟩:=HC.out x e;subst e;refine ⟨g,rfl,P0.sC.lt g rfl,fun k y hy j hj=>?_⟩;have hlen:∀ y ∈ st.C,(wrV y).length=33:=fun y hy=>by simp [wrV,Zq,(hS y hy).1]
      have hk:k < st.C.length:=(List.getElem?_eq_some_iff.1 hy).1;exact (P0.sC.1.cellAt _ (by omega)).trans (flat_at hlen hy hj)))
  belowK_t (belowK_b (Nat.le_refl _)) (Below.refl _ _) (fun _=>rfl)
  (fun pre W=>(((∀ y ∈ pre,y.x.1≠i)/\Ob W (w.heap.size+1) 216 (Zq zeros))/\Boxed W w.heap.size 3 (.int .i64 i))/\(W0.heap.size<=W.heap.size/\Below w.heap.size w W))
  (fun c pre W=>((c=.ret/\∃ ini last,pre=ini++[last]/\(∀ y ∈ ini,y.x.1≠i)/\last.x.1=i/\Ob W (w.heap.size+1) 216 (Zq last.x.2)))/\Below w.heap.size w W)
  (OwnFrom.and (OwnFrom.and (OwnFrom.and (ownFrom_pure _ _) (Own.from (ob_own _ _ _) _)) (Own.from (boxed_own _ _ _) _)) (OwnFrom.and (fun _ _ _ _ hs hg _=>Nat.le_trans hs hg.size) (ownFrom_below (Nat.le_refl _) (by omega))))
  (fun c=>OwnFrom.and (fun s A B row hs hg hr=>by obtain ⟨hcc,ini,last,e1,e2,e3,e4⟩:=hs;exact ⟨hcc,ini,last,e1,e2,e3,ob_own (w.heap.size+1) 216 (fun (_:Unit)=>Zq last.x.2) () A B row e4 hg (fun r e=>(hr r e).2)⟩) (ownFrom_below (Nat.le_refl _) (by omega)))
  ⟨⟨⟨by simp,bR⟩,bA⟩,Nat.le_refl _,hB0⟩
  (fun x a' W=>∃ Bx,w.heap.size+2 < Bx/\Ob W Bx 218 (wrV x.x)/\a'={ tmps:=#[.pointer (some ⟨p,0,none⟩),.int .i64 i,undef,.pointer (some ⟨w.heap.size,0,none⟩),.pointer (some ⟨w.heap.size+1,0,none⟩),undef,.pointer (some ⟨Bx,0,none⟩),.pointer (some ⟨p,0,none⟩),.pointer (some ⟨p,0,none⟩),.pointer (some ⟨p,2,none⟩),.slice ca st.C.length ccap,.func (.func 213) #[] #[.pointer (some ⟨w.heap.size+1+1,0,none⟩)],.int .i64 (x.i:Int),.agg (wrA x.x),undef,undef,undef,undef,undef,undef,undef,undef,undef,undef,undef,undef,undef],defers:=[] })
  (fun x a' _ X Y row hs hg hr=>by obtain ⟨Bx,e1,e2,e3⟩:=hs;exact ⟨Bx,e1,ob_own Bx 218 (fun (_:Unit)=>wrV x.x) () X Y row e2 hg (fun r e=>(hr r e).2),e3⟩)
  ?assign ?body ?done ?stop
 case assign =>
  rintro l pre x W K hI hK;obtain ⟨s1,s2⟩:=st_new_wri W (x:=x.x) ⟨x.ok.1⟩;obtain ⟨⟨⟨hne,hR⟩,hA⟩,hsW,hB⟩:=hI;gi_wp2
  exact hK _ _ ((KeepsOthers.alloc _ _).from _) ((Below.refl _ W).alloc hsW _) ⟨⟨⟨hne,hR.alloc _⟩,hA.alloc _⟩,by simp;omega,hB.alloc (by omega) _⟩ ⟨W.heap.size,by omega,Ob.new W (wrV x.x) 218,rfl⟩
 case body =>
  rintro l pre x a' W hl ⟨r,hr⟩ ⟨⟨⟨hne,hR⟩,hA⟩,hsW,hB⟩ ⟨Bx,hBx,bX,rfl⟩ hlt;have x0:W.cell? ⟨Bx,0,none⟩=some (.int .i64 x.x.1):=by have:=bX.cell 0;simpa [wrV] using this
  have a0:=hA.cell;by_cases hxi:x.x.1=i
  ·have hq:((x.x.1:Int) == (i:Int))=true:=by simp [hxi]
   obtain ⟨l1,l2⟩:=ld_sec (w:=W) (g:=Bx) (o:=1) (r:=x.x.2) ⟨x.ok.1⟩ (fun j hj=>by
    have:=bX.cell (1+j);rw [Nat.add_comm 1 j] at this ⊢;simpa [wrV] using this)
   obtain ⟨W',⟨s1,s2⟩,k1,o1⟩:=st_sec_ob zeros32 ⟨x.ok.1⟩ hR;have HK:=Za k1;have HO:=Za o1;have HX:=Za hxi;have HR:=Za hR;clear k1 o1 hxi hR;gi_wp2
   refine ⟨KeepsFrom.of_grownBy (grown_onl HO.out) (fun j e=>by cases e;omega),⟨rfl,pre,x,rfl,hne,HX.out,HK.out⟩,hB.grown (grown_onl HO.out) hB.size (fun k e=>by cases e;omega)⟩
  ·have hq:((x.x.1:Int) == (i:Int))=false:=by simp;omega
   have HX:=Za hxi;clear hxi;gi_wp2
   exact ⟨KeepsFrom.refl _ _,Below.refl _ _,⟨⟨fun y hy=>(List.mem_append.1 hy).elim (hne y) (fun e=>by simp at e;subst e;exact HX.out),hR⟩,hA⟩,hsW,hB⟩
 case done =>
  rintro D ys W hD rfl ⟨⟨⟨hne,hR⟩,hA⟩,hsW,hB⟩ hK;have hl:=last_all (st.S.getD i []) hne;have PW:=H.out.kept (Onl.ofBelow hB);obtain ⟨gs,scap,hvK,hgs,hgslt,hsl,hsm,hscell,_⟩:=PW.sS.shape (by omega);subst hvK;have c1:=PW.ob.cell 1;simp only [List.getElem?_cons_zero,List.getElem?_cons_succ] at c1;have hr0:st.S[i]?=some st.S[i]:=List.getElem?_eq_getElem hi
  have hS0:Sec st.S[i]:=PW.ok.secs _ (List.getElem_mem hi);have hgd:st.S.getD i []=st.S[i]:=by simp [List.getD,hi]
  rw [hgd] at hl;generalize hrr:st.S[i]=r0 at hr0 hS0 hl hgd;clear hrr;have hlen:∀ y ∈ st.S,(Zq y).length=32:=fun y hy=>by simp [Zq,(PW.ok.secs y hy).1]
  obtain ⟨l1,l2⟩:=ld_sec (w:=W.drew) (g:=gs) (o:=i * 32) (r:=r0) ⟨hS0.1⟩ (fun j hj=>(hscell _ (by omega)).trans (flat_at hlen hr0 hj));have hRd:Ob W.drew (w.heap.size+1) 216 (Zq zeros):=hR;obtain ⟨W',⟨s1,s2⟩,k1,o1⟩:=st_sec_ob zeros32 (r:=r0) ⟨hS0.1⟩ hRd;have a0:=hA.cell;have hsz2:=PW.ok.size;have HK:=Za k1;have HO:=Za o1;have HR:=Za hR;have HS:=Za hscell;have HP:=Za PW;have HH:=Za hK;have HL:=Za hl;have HG:=Za hgd;have HL2:=Za hlen;have H0:=Za hr0;clear k1 o1 hR hscell PW hK hl hlen hr0 hgd hRd;gi_wp2
  gi_region
  gi_wp2
  have hK':W'.heap[D]?=some (.deferred (some [])):=by
   refine Eq.trans (HO.out.block D ?_ ?_) HH.out
   ·exact (Array.getElem?_eq_some_iff.1 HH.out).1
   ·intro e;have q:=HR.out;unfold Ob at q;rw [<- e,HH.out] at q;cases q
  refine ⟨by simp,.inl ⟨_,_,rfl,run_takeDeferred hK',?_⟩⟩;have hob:Ob (W'.putObj D (.deferred none)) (w.heap.size+1) 216 (Zq r0):=ob_own (w.heap.size+1) 216 (fun (_:Unit)=>Zq r0) () W' _ (some D) HK.out (grownBy_putObj' _ D (.deferred none)) (fun r e=>by cases e;exact ⟨_,hK',rfl⟩);refine ⟨.agg (secA r0),results_cell_row rfl _ _ (w.heap.size+1) 216 (secA r0) (0,0) _ (by simp) hob Tryz.underlying216 rfl (by rw [secA_size ⟨hS0.1⟩];exact size_sec),by rw [HG.out,HL.out],?_⟩;have b1:Below w.heap.size w W':=hB.drew.grown (grown_onl HO.out) hB.size (fun k e=>by cases e;omega);exact b1.trans (belowK_b (w:=w) (Nat.le_refl _) _ D _ _ (by omega) hK' rfl rfl)
 case stop =>
  rintro D c pre W hD ⟨k,hk,rfl⟩ ⟨⟨rfl,ini,last,e1,e2,e3,hcr⟩,hB⟩ hK;gi_wp2
  refine ⟨by simp,.inl ⟨_,_,rfl,run_takeDeferred hK,?_⟩⟩;have hob:Ob (W.putObj D (.deferred none)) (w.heap.size+1) 216 (Zq last.x.2):=ob_own (w.heap.size+1) 216 (fun (_:Unit)=>Zq last.x.2) () W _ (some D) hcr (grownBy_putObj' _ D (.deferred none)) (fun r e=>by cases e;exact ⟨_,hK,rfl⟩);refine ⟨.agg (secA last.x.2),results_cell_row rfl _ _ (w.heap.size+1) 216 (secA last.x.2) (0,0) _ (by simp) hob Tryz.underlying216 rfl (by rw [secA_size ⟨last.ok.1⟩];exact size_sec),by rw [last_at (st.S.getD i []) hk e1 e2 e3],?_⟩;exact hB.trans (belowK_b (w:=w) (Nat.le_refl _) _ D _ _ (by omega) hK rfl rfl)
theorem clast_any {O:Nat->Prop} {w:World} {p:Nat} {st:Sd} {vK vC:Value} {m:Nat} {lf:Int} (h:CParts O w p st vK vC m lf) (hc:st.C.length<=1099511627776) (i:Nat) (hi:i < st.S.length) :
  Calls Tryz.prog 170 #[.pointer (some ⟨p,0,none⟩),.int .i64 i] w fun e W'=>e=.returned (.agg (secA (lastOf st.C i (st.S.getD i []))))/\Below w.heap.size w W':=callsIn_wide.1 (clast_in h hc i hi)
end
end Go.Proofs.YtdhebpnkfookcaaGreat
