import Derived.Test.YtdhebpnkfookcaaGreatSM07
import Derived.Test.YtdhebpnkfookcaaGreatSM06
set_option maxRecDepth 100000
set_option maxHeartbeats 4000000
namespace Go.Proofs.YtdhebpnkfookcaaGreat
open Go.RowKit Apo
theorem fill_one {n:Nat} {cs vs:List Value} {v:Value} (hv:v.cells=vs.toArray) (h1:vs.length=n) (h2:cs.length=n):Instr.fill (fun i=>some (i * n,n)) cs.toArray [(0,v)]=some vs.toArray:=by
 have e1:=fold_over vs cs 0 0 (by omega)
 have q1:(v.cells.zipIdx.foldl (fun (cs:Array Value) (c:Value × Nat)=>cs.setIfInBounds (0 * n+c.2) c.1) cs.toArray)=vs.toArray:=by
  rw [hv,<- Array.foldl_toList];have e2:over cs 0 vs=vs:=by simp [over,h1,<- h2]
  simp only [Nat.zero_add] at e1;rw [e2] at e1;simpa using e1
 have c1:(decide (v.cells.size≠n) || decide (0 * n+v.cells.size > cs.toArray.size))=false:=by rw [hv];simp;omega
 unfold Instr.fill;simp only;rw [c1];simp only [Bool.false_eq_true,if_false];rw [q1];rfl
def Is33 (v:Value):Prop:=v.cells.size=33
theorem is33 {x:Nat × List Int} (h:Len32 x.2):Is33 (.agg (wrA x)):=wrA_size h
theorem run_wris (w:World) (v:Value) (h:Is33 v):(Instr.buildSlice 114 1 #[(0,v)]).run Tryz.prog w=.ok (.slice (some ⟨w.heap.size,0,none⟩) 1 1) (w.alloc (.cells v.cells 218)):=by
 obtain ⟨i,hi,hz,hs,_⟩:=info_parts info_wri;have e:=fill_one (n:=33) (cs:=((Array.range 33).map ((wrA (0,zeros))[· % (wrA (0,zeros)).size]!)).toList) (v:=v) (vs:=v.cells.toList) (by simp) (by simp;exact h) (by simp);simp only [Array.toArray_toList] at e;have hz2:(zeroValue 218).run Tryz.prog w=.ok (.agg (wrA (0,zeros))) w:=by simp [zeroValue,typeInfo,hi,hz]
 simp only [Instr.buildSlice,Sem.run_bind,run_underlying Tryz.underlying114,Result.andThen_ok,Tryz.sizeOf218];simp [hz2,Value.cells]
 rw [e];simp [newRow]
 rfl
theorem bs_exec60 {w:World} {ρ:Operand->Value} {dst:Option Tmp} {x:Operand} {ty:TypeId} {pos:String} {after:Array Edge} {guard:Option (Nat × Bool)} (h:Is33 (ρ x)) :
  (execOp ρ { dst,op:=.buildSlice 114 1 #[(0,x)],type:=ty,pos,after,guard }).run Tryz.prog w=.ok (.value (.slice (some ⟨w.heap.size,0,none⟩) 1 1)) (w.alloc (.cells (ρ x).cells 218)):=by
 have h1:=run_wris w _ h;simp only [execOp,Sem.run_bind];rw [show (#[(0,x)]:Array (Nat × Operand)).map (fun (i,x)=>(i,ρ x))=#[(0,ρ x)] by simp,h1];simp [Result.andThen]
theorem run_arr (a:Addr) (c:Nat) (w:World):(Instr.arrayAt 216 (.slice (some a) 32 c)).run Tryz.prog w=.ok (.pointer (some a)) w:=by
 simp [Instr.arrayAt,run_underlying Tryz.underlying216]
theorem cwrite_app {O:Nat->Prop} {w w1:World} {p:Nat} {st:Sd} {vK:Value} {ca:Option Addr} {ccap m:Nat} {lf:Int} (h:CParts O w1 p st.acted vK (.slice ca st.acted.C.length ccap) m lf) (hc:st.C.length<=1099511627776)
  {b:List Int} (hb:Sec b) {k:Nat} (ok:OkS { st.acted with C:=st.C++[(k,b)] }) (ho:Onl O w w1) :
  ∃ v2 w4 gc gcap,v2=.slice (some ⟨gc,0,none⟩) (st.acted.C.length+1) gcap /\
   (Builtin.append_ #[114,114] 114 #[.slice ca st.acted.C.length ccap,.slice (some ⟨w1.heap.size,0,none⟩) 1 1]).run Tryz.prog (w1.alloc (.cells (wrA (k,b)) 218)).drew=.ok v2 w4 /\
   w4.cell? ⟨p,2,none⟩=some (.slice ca st.acted.C.length ccap)/\w4.frozen? ⟨p,2,none⟩=false /\
   CDev (Gro O w (w4.setCell ⟨p,2,none⟩ v2)) (w4.setCell ⟨p,2,none⟩ v2) p { st.acted with C:=st.C++[(k,b)] }/\Onl O w (w4.setCell ⟨p,2,none⟩ v2):=by
 obtain ⟨j0,ji,jz0,jz1,jz2⟩:=info_parts info_wri;have eC:=acted_C st;have hsz:=ho.size;have Lb:Len32 b:=⟨hb.1⟩;have o23:Onl (fun _=>False) w1 (w1.alloc (.cells (wrA (k,b)) 218)).drew:=((Onl.refl _ w1).alloc _).drew;have h3:=h.kept o23
 have hz3:(w1.alloc (.cells (wrA (k,b)) 218)).drew.heap.size=w1.heap.size+1:=by
  show (w1.alloc (.cells (wrA (k,b)) 218)).heap.size=_
  simp
 have hnews:∀ j u,(wrV (k,b))[j]?=some u->(w1.alloc (.cells (wrA (k,b)) 218)).drew.cell? ((⟨w1.heap.size,0,none⟩:Addr).add j)=some u:=by
  intro j u hu;have:=(Ob.new w1 (wrV (k,b)) 218).cell j;rw [hu] at this;have e:(⟨w1.heap.size,0,none⟩:Addr).add j=⟨w1.heap.size,j,none⟩:=by unfold Addr.add;split <;> simp_all
  rw [e];exact this
 obtain ⟨v2,w4,R2,r2,g2,_,hloc⟩:=run_append_own_at (P:=Tryz.prog) (w1.alloc (.cells (wrA (k,b)) 218)).drew 0 114 114 218 j0 _ 33 40 Tryz.underlying114 ji jz0 jz1 jz2 (wrA_size (x:=(0,zeros)) zeros32) (by decide) (.slice ca st.acted.C.length ccap) st.acted.C.length (ZD st.acted.C) h3.sC.1 ⟨w1.heap.size,0,none⟩ 1 1 (wrV (k,b)) (by simp [wrV,Zq,Lb.len]) hnews (wrV_one _) (by rw [eC];unfold maxLen;omega) (by rw [eC];omega) (Nat.zero_le _);have hown:∀ g,(Value.slice ca st.acted.C.length ccap).ownBlock=some g->O g/\g < w1.heap.size/\g≠p:=fun g hg=>⟨h.sC.2 g hg,h.sC.lt g hg,fun e=>h.sC.apartOb h.ob (by decide) (by rw [hg,e])⟩
 obtain ⟨gc,gcap,hv2,hgc2⟩:∃ gc gcap,v2=.slice (some ⟨gc,0,none⟩) (st.acted.C.length+1) gcap/\gc < w4.heap.size:=by
  have r2':=r2;rcases r2.2 with ⟨_,hz⟩ | ⟨g,cap,cur,hv,_⟩
  ·omega
  ·exact ⟨g,cap,hv,(r2'.lt g (by rw [hv];rfl)).2⟩
 have o34:Onl (fun i=>(Value.slice ca st.acted.C.length ccap).ownBlock=some i) (w1.alloc (.cells (wrA (k,b)) 218)).drew w4:=(Onl.refl _ _).grown g2 (fun i hi=>.inl hi);have k4:Ob w4 p 116 _:=h3.ob.onl o34 (fun q=>(hown p q).2.2 rfl);have hsz4:=o34.size;have hp5:(w4.setCell ⟨p,2,none⟩ v2).heap.size=w4.heap.size:=by simp [World.setCell]
 have c4:=k4.cell 2;simp only [List.getElem?_cons_zero,List.getElem?_cons_succ] at c4;have o1:Onl (fun i=>i=p) w4 (w4.setCell ⟨p,2,none⟩ v2):=Onl.set (O:=fun k=>k=p) (Onl.refl _ w4) (.inl rfl) _;have oAll:Onl O w w4:=(ho.more o23 (fun _ q=>q.elim)).more o34 (fun i hi=>.inl (hown i hi).1);refine ⟨v2,w4,gc,gcap,hv2,R2,c4,k4.frozen 2,?_,oAll.set (.inl h.own) _⟩
 have gcO:Gro O w (w4.setCell ⟨p,2,none⟩ v2) gc:=by
  have hob:v2.ownBlock=some gc:=by rw [hv2];rfl
  rcases hloc with e | e
  ·exact .inl (hown gc (by rw [<- e,hob])).1
  ·rw [hob] at e;cases e
   exact .inr ⟨by omega,by omega⟩
 have s4:Row (Gro O w (w4.setCell ⟨p,2,none⟩ v2)) w4 218 33 v2 (st.acted.C.length+1) (ZD st.acted.C++wrV (k,b)):=⟨r2,fun g hg=>by rw [hv2] at hg;cases hg;exact gcO⟩;have sS4:=h3.sS.onl o34 (fun g hg q=>h3.sS.apart h3.sC (by decide) g hg q);have mF4:=h3.mF.onl o34 (fun q=>h3.mF.neRow h3.sC q);refine ⟨vK,v2,m,lf,⟨k4.set 2 v2,Gro.of _ h.own,(sS4.onl o1 (fun g hg q=>sS4.apartOb k4 (by decide) (by rw [hg,q]))).mono Gro.of,?_,Gro.of _ h.mO,mF4.onl o1 (mF4.ne k4),h.hlf,ok⟩⟩;have e1:ZD (st.C++[(k,b)])=ZD st.acted.C++wrV (k,b):=by rw [eC];simp [ZD]
 have:=s4.onl o1 (fun g hg q=>s4.apartOb k4 (by decide) (by rw [hg,q]));simp only [List.length_append,List.length_cons,List.length_nil];rw [e1,<- eC];exact this
attribute [local go_sem ↓] ld_exec65 bd_exec67 bs_exec60 Apo.app_exec
theorem cwrite_any {O:Nat->Prop} {w:World} {p:Nat} {st:Sd} (h:CDev O w p st) (hc:st.C.length<=1099511627776) (a:Int) (ba:Option Addr) (bc:Nat) (b:List Int) (hr:Rd .u8 w ba b) (hbo:∀ x,ba=some x->0 < b.length->¬ O x.block) (hby:∀ z ∈ b,0<=z/\z<=255) :
  Calls Tryz.prog 84 #[.pointer (some ⟨p,0,none⟩),.int .i64 a,.slice ba b.length bc] w fun e w'=>e=.returned (.int .i64 (st.wrote a b).1)/\CDev (Gro O w w') w' p (st.wrote a b).2/\Onl O w w':=by
 have okw:=h.ok.wrote a hby;have hR:=Za h;have hRd:=Za hr;clear h hr;by_cases hd:st.dead=true
 ·have e1:st.wrote a b=(40,st):=by simp [Sd.wrote,hd]
  rw [e1];clear e1 okw;go_enter Tryz.func84,Tryz.ntmps84
  go_wp2_with fail
  refine (cdead_any hR.out).mono ?_;rintro e w1 ⟨rfl,rfl⟩;rw [hd];go_wp2;go_ret
  exact ⟨rfl,hR.out.mono Gro.of,Onl.refl _ _⟩
 ·have hd':st.dead=false:=by simpa using hd
  by_cases ha:st.has a=true
  ·by_cases hl:b.length=32
   ·by_cases hact:st.acts=true
    ·have e1:st.wrote a b=(0,{ st.acted with C:=st.C++[(a.toNat,b)] }):=by simp [Sd.wrote,hd',ha,hl,hact]
     rw [e1] at okw ⊢;have ha2:=has_iff.1 ha;obtain ⟨k,rfl⟩:=Int.eq_ofNat_of_zero_le ha2.1;simp only [Int.toNat_natCast] at okw ⊢;have hSb:Sec b:=⟨hl,hby⟩;have HL:=Za hl;have HB:=Za hSb;have HOK:=Za okw;have HBO:=Za hbo;have HD:=Za hd';rw [hl];clear e1 hd hd' okw hbo hl hSb hby;go_enter Tryz.func84,Tryz.ntmps84
     go_wp2_with fail
     refine (cdead_any hR.out).mono ?_;rintro e w1 ⟨rfl,rfl⟩;rw [HD.out];go_wp2_with fail
     refine (chas_any hR.out k).mono ?_;rintro e w1 ⟨rfl,rfl⟩;rw [ha];go_wp2_with fail
     refine (cdies_any hR.out HD.out).mono ?_;rintro e w1 ⟨rfl,hr1,ho1⟩;rw [hact];have HO1:=Za ho1;obtain ⟨vK,vC,m,lf,hP⟩:=hr1;obtain ⟨ca,ccap,hvC,hc1,hc2,hc3,hc4⟩:=hP.sC.form;subst hvC;rw [acted_C] at hc1;have e1:st.acted.C.length=st.C.length:=by rw [acted_C]
     obtain ⟨v2,w4,gc,gcap,hv2,R2,Fin⟩:=cwrite_app hP hc HB.out HOK.out ho1;subst hv2;rw [e1] at R2 Fin;have d1:w1.cell? ⟨p,2,none⟩=some (.slice ca st.C.length ccap):=by have:=hP.ob.cell 2;rw [<- e1];exact this
     have d4:w4.cell? ⟨p,2,none⟩=some (.slice ca st.C.length ccap):=Fin.1;have f4:w4.frozen? ⟨p,2,none⟩=false:=Fin.2.1;have hp1:p < w1.heap.size:=World.block_lt_of_cell? w1 _ d1;have HF:=Za Fin.2.2;obtain ⟨y1,y2,y3⟩:=Zi R2;have hrd:=hRd.out.onl HO1.out HBO.out;obtain ⟨bb,off,hba,_⟩:=hrd 0 (by rw [HL.out];decide);subst hba;have Lb:Len32 b:=⟨HL.out⟩
     obtain ⟨l1,l2⟩:=ld_sec (w:=w1.drew) (g:=bb) (o:=off) Lb (fun j hj=>by
      obtain ⟨b',off',e,hcc⟩:=hrd j (by rw [HL.out];exact hj);cases e
      refine Eq.trans ?_ (hcc.trans ?_)
      ·rfl
      ·simp [Zq,HL.out,hj])
     obtain ⟨n1,n2⟩:=bd_wri (k:=k) Lb;have n3:=is33 (x:=(k,b)) Lb;have HHC:=Za hc4;have ar:=run_arr;clear R2 Fin hP ho1 hc4 hrd e1;go_wp2;go_region
     all_goals
      go_wp2;go_ret
      exact ⟨rfl,HF.out.1,HF.out.2⟩
    ·have hact':st.acts=false:=by simpa using hact
     have e1:st.wrote a b=(40,st.acted):=by simp [Sd.wrote,hd',ha,hl,hact']
     rw [e1];have HD:=Za hd';clear e1 okw hd hd';go_enter Tryz.func84,Tryz.ntmps84
     go_wp2_with fail
     refine (cdead_any hR.out).mono ?_;rintro e w1 ⟨rfl,rfl⟩;rw [HD.out];go_wp2_with fail
     refine (chas_any hR.out a).mono ?_;rintro e w1 ⟨rfl,rfl⟩;rw [ha];go_wp2_with fail
     refine (cdies_any hR.out HD.out).mono ?_;rintro e w1 ⟨rfl,hr1,ho1⟩;rw [hact'];have HR1:=Za hr1;have HO1:=Za ho1;clear hr1 ho1;go_wp2;go_ret
     exact ⟨rfl,HR1.out.mono Gro.of,HO1.out⟩
   ·have e1:st.wrote a b=(1,st):=by simp [Sd.wrote,hd',ha,hl]
    rw [e1];have hl2:((b.length:Int) != 32)=true:=by simp;omega
    have HD:=Za hd';clear e1 okw hd hd';go_enter Tryz.func84,Tryz.ntmps84
    go_wp2_with fail
    refine (cdead_any hR.out).mono ?_;rintro e w1 ⟨rfl,rfl⟩;rw [HD.out];go_wp2_with fail
    refine (chas_any hR.out a).mono ?_;rintro e w1 ⟨rfl,rfl⟩;rw [ha];go_wp2;go_ret
    exact ⟨rfl,hR.out.mono Gro.of,Onl.refl _ _⟩
  ·have ha':st.has a=false:=by simpa using ha
   have e1:st.wrote a b=(1,st):=by simp [Sd.wrote,hd',ha']
   rw [e1];have HD:=Za hd';clear e1 okw hd hd';go_enter Tryz.func84,Tryz.ntmps84
   go_wp2_with fail
   refine (cdead_any hR.out).mono ?_;rintro e w1 ⟨rfl,rfl⟩;rw [HD.out];go_wp2_with fail
   refine (chas_any hR.out a).mono ?_;rintro e w1 ⟨rfl,rfl⟩;rw [ha'];go_wp2;go_ret
   exact ⟨rfl,hR.out.mono Gro.of,Onl.refl _ _⟩
end Go.Proofs.YtdhebpnkfookcaaGreat
namespace Apo
open Go Go.RowKit
def layK (st:Sd) (a:Int) (p:List Int):Nat->Int × Sd
 | 0=>(0,st)
 | k+1=>if (layK st a p k).1=0 then (layK st a p k).2.wrote (a+k) (cutS p k) else layK st a p k
def layTo (st:Sd) (a:Int) (b:List Int):Nat->Int × Sd
 | 0=>(0,st)
 | i+1=>if (layTo st a b i).1=0 then layK (layTo st a b i).2 (a+4 * i) (Z4 (ZB b i)) 4 else layTo st a b i
def Sd.wrText2 (st:Sd) (a:Int) (b:List Int):Int × Sd:=if Zc b.length=0 then (2,st) else layTo st a b (Zc b.length)
theorem layK_stuck {st:Sd} {a:Int} {P:List Int} {k:Nat} (h:(layK st a P k).1≠0):∀ m,layK st a P (k+m)=layK st a P k
 | 0=>rfl
 | m+1=>by
  have ih:=layK_stuck h m;show layK st a P (k+m+1)=_
  simp only [layK];rw [ih,if_neg h]
theorem layTo_stuck {st:Sd} {a:Int} {b:List Int} {i:Nat} (h:(layTo st a b i).1≠0):∀ m,layTo st a b (i+m)=layTo st a b i
 | 0=>rfl
 | m+1=>by
  have ih:=layTo_stuck h m;show layTo st a b (i+m+1)=_
  simp only [layTo];rw [ih,if_neg h]
theorem layK_C (st:Sd) (a:Int) (p:List Int):∀ k,(layK st a p k).2.C.length<=st.C.length+k
 | 0=>Nat.le_refl _
 | k+1=>by
  have ih:=layK_C st a p k;simp only [layK];split
  ·have:=wrote_C (layK st a p k).2 (a+k) (cutS p k);omega
  ·omega
theorem layTo_C (st:Sd) (a:Int) (b:List Int):∀ i,(layTo st a b i).2.C.length<=st.C.length+4 * i
 | 0=>Nat.le_refl _
 | i+1=>by
  have ih:=layTo_C st a b i;simp only [layTo];split
  ·have:=layK_C (layTo st a b i).2 (a+4 * i) (Z4 (ZB b i)) 4;omega
  ·omega
theorem layK_page {st:Sd} {s i:Nat} {p:List Int} (hs:(s+i) * 4<=131072):∀ k,k<=4->layK st ((s:Int) * 4+4 * i) p k=wrPage st s i p k
 | 0,_=>rfl
 | k+1,hk=>by
  have ih:=layK_page (st:=st) (p:=p) hs k (by omega);simp only [layK,wrPage,ih];rw [show (s:Int) * 4+4 * i+k=sAt s i k by rw [sAt_nat (by omega)];omega]
theorem layTo_text {st:Sd} {s:Nat} {b:List Int}:∀ i,(s+i) * 4<=131072->layTo st ((s:Int) * 4) b i=wrTo st s b i
 | 0,_=>rfl
 | i+1,hi=>by
  have ih:=layTo_text (st:=st) (s:=s) (b:=b) i (by omega);simp only [layTo,wrTo,ih];rw [layK_page (by omega) 4 (Nat.le_refl _)]
theorem wrText2_eq {st:Sd} {s:Nat} {b:List Int} (hs:s < 16384):st.wrText2 ((s:Int) * 4) b=st.wrText s b:=by
 unfold Sd.wrText2 Sd.wrText;have:=needP_le (b.length:Int);rw [layTo_text _ (by omega)]
end Apo
namespace Go.Proofs.YtdhebpnkfookcaaGreat
open Go.RowKit Apo
section
theorem enter_write:∀ args w,(callFunc 84 args).run Tryz.prog w=.ok (.enter 84 args) w:=fun _ _=>by kernel_rfl
structure Wtx (O:Nat->Prop) (w:World) (p:Nat) (st:Sd) (W:World) (O':Nat->Prop):Prop where
 d:CDev O' W p st
 onl:Onl O w W
 inn:∀ i,O' i->O i\/w.heap.size<=i
 lt:∀ i,O' i->i < W.heap.size
theorem Wtx.below {O O':Nat->Prop} {w W W':World} {p:Nat} {st:Sd} (h:Wtx O w p st W O') (b:Below W.heap.size W W'):Wtx O w p st W' O' :=
 ⟨h.d.onl (F:=fun _=>False) (Onl.ofBelow b) (fun _ _ q=>q),h.onl.trans (Onl.ofBelow b),h.inn,fun i hi=>Nat.lt_of_lt_of_le (h.lt i hi) b.size⟩
theorem Wtx.turn {O O':Nat->Prop} {w W W':World} {p:Nat} {st st':Sd} (h:Wtx O w p st W O') (d:CDev (Gro O' W W') W' p st') (o:Onl O' W W'):Wtx O w p st' W' (Gro O' W W') :=
 ⟨d,h.onl.more o h.inn,fun i hi=>hi.elim (h.inn i) (fun q=>.inr (Nat.le_trans h.onl.size q.1)),Gro.lt h.lt o.size⟩
theorem Wtx.out {O O':Nat->Prop} {w W:World} {p:Nat} {st:Sd} (h:Wtx O w p st W O'):CDev (Gro O w W) W p st/\Onl O w W :=
 ⟨h.d.mono (fun j hj=>(h.inn j hj).elim (fun q=>.inl q) (fun q=>.inr ⟨q,h.lt j hj⟩)),h.onl⟩
theorem Wtx.new {O:Nat->Prop} {w:World} {p:Nat} {st:Sd} (h:CDev O w p st) (hO:∀ i,O i->i < w.heap.size):Wtx O w p st w O:=⟨h,Onl.refl _ _,fun _ hi=>.inl hi,hO⟩
theorem clay_any {O:Nat->Prop} {w:World} {p:Nat} {st:Sd} (h:CDev O w p st) (hO:∀ i,O i->i < w.heap.size) (hc:st.C.length<=1073741824) (a:Int) (ha1:-1<=a) (ha2:a<=1048576) (g:Nat) (P:List Int) (hr:Ob w g 5 (P.map (Value.int .u8))) (hl:P.length=128) (hbo:¬ O g) (hby:∀ z ∈ P,0<=z/\z<=255) :
  Calls Tryz.prog 141 #[.func (.func 84) #[.pointer (some ⟨p,0,none⟩)] #[],.int .i64 a,.slice (some ⟨g,0,none⟩) 128 128] w fun e w'=>e=.returned (.int .i64 (layK st a P 4).1)/\CDev (Gro O w w') w' p (layK st a P 4).2/\Onl O w w':=by
 have HR:=Za hr;have H0:=Za (Wtx.new h hO);have hE:=enter_write;have hgl:=hr.lt;clear hr h hO;go_enter Tryz.func141,Tryz.ntmps141
 go_wp2;go_loopw [11] (fun v wr=>∃ k:Nat,k<=4/\v=.int .i64 k/\Hid ((layK st a P k).1=0)/\∃ O',Hid (Wtx O w p (layK st a P k).2 wr O')) (fun v _=>4 - (intOf v).toNat)
 case atStart=>exact ⟨0,by omega,rfl,rfl,O,H0⟩
 case round =>
  obtain ⟨k,hk,rfl,hz,O',HW⟩:=hrel;by_cases hk4:k < 4
  ·have hgk:¬ O' g:=fun q=>(HW.out.inn g q).elim hbo (fun q=>by omega)
   have hCk:=layK_C st a P k
   have rk:Rd .u8 wr (some ⟨g,32 * k,none⟩) (cutS P k):=by
    have:=Rd.take (rd_drop (at':=32 * k) (rd_ob (HR.out.onl HW.out.onl hbo))) 32;rw [Nat.zero_add] at this;exact this
   have CW:=cwrite_any HW.out.d (by omega) (a+k) (some ⟨g,32 * k,none⟩) 32 (cutS P k) rk (fun x hx _=>by cases hx;exact hgk) (cutS_byt hby k);rw [cutS_len hl hk4] at CW;have esn:layK st a P (k+1)=(layK st a P k).2.wrote (a+k) (cutS P k):=by simp only [layK];rw [if_pos hz.out]
   obtain ⟨A,hA⟩:∃ A,A=a+(k:Int):=⟨_,rfl⟩;have wA:IntKind.i64.wrap (a+(k:Int))=A:=by rw [IntKind.wrap_i64];omega
   obtain ⟨J,hJ⟩:∃ J,J=32 * k:=⟨_,rfl⟩;obtain ⟨T,hT⟩:∃ T,T=J+32:=⟨_,rfl⟩;rw [<- hA] at CW esn;rw [<- hJ] at CW;have wJ:IntKind.i64.wrap ((k:Int) * 32)=(J:Int):=by rw [IntKind.wrap_i64];omega
   have wT:IntKind.i64.wrap ((J:Int)+32)=(T:Int):=by rw [IntKind.wrap_i64];omega
   have t1:J<=T:=by omega
   have t2:T<=128:=by omega
   have t3:T - J=32:=by omega
   have HE:=Za esn;have HCW:=Za CW;have HA:=Za hA;have HJ:=Za hJ;have HT:=Za hT;clear esn CW hA hJ hT rk hCk;go_wp2_with fail
   refine HCW.out.mono ?_;rintro e W2 ⟨rfl,d2,o2⟩;have HW2:=Za (HW.out.turn d2 o2);clear d2 o2;by_cases hq:((layK st a P k).2.wrote A (cutS P k)).1=0
   ·rw [hq];go_wp2;go_roundw
    case rel=>exact ⟨k+1,by omega,by simp,Za (by rw [HE.out];exact hq),_,by rw [HE.out];exact HW2⟩
    case measure=>simp [intOf];omega
   ·have efin:layK st a P 4=(layK st a P k).2.wrote A (cutS P k):=by
     have hs1:(layK st a P (k+1)).1≠0:=by rw [HE.out];exact hq
     have e4:=layK_stuck hs1 (4 - (k+1));rw [show k+1+(4 - (k+1))=4 by omega,HE.out] at e4;exact e4
    have HEF:=Za efin;generalize (layK st a P k).2.wrote A (cutS P k)=res at *;have hres:(res.1 == 0)=false:=by simpa using hq
    clear efin;go_wp2;go_ret
    rw [HEF.out];exact ⟨rfl,HW2.out.out⟩
  ·obtain rfl:k=4:=by omega
   go_wp2;go_ret
   rw [hz.out];exact ⟨rfl,HW.out.out⟩
theorem firstP_bd (s:Int):-1<=Zw s/\Zw s<=65536:=by unfold Zw;split <;> omega
theorem cwtext_any {O:Nat->Prop} {w:World} {p:Nat} {st:Sd} (h:CDev O w p st) (hO:∀ i,O i->i < w.heap.size) (hc:st.C.length<=536870912) (start:Int) (ba:Option Addr) (bc:Nat) (b:List Int) (hr:Rd .u8 w ba b) (hn:ba=none->bc=0) (hbc:b.length<=bc) (hbo:∀ x,ba=some x->0 < b.length->¬ O x.block) (hby:∀ z ∈ b,0<=z/\z<=255) :
  Calls Tryz.prog 95 #[.pointer (some ⟨p,0,none⟩),.int .i64 start,.slice ba b.length bc] w fun e w'=>e=.returned (.int .i64 (st.wrText2 (Zw start) b).1)/\CDev (Gro O w w') w' p (st.wrText2 (Zw start) b).2/\Onl O w w':=by
 have C1:=cneed_any (b.length:Int) w;have C2:=cfirst_any start w;obtain ⟨a1,a2⟩:=firstP_bd start;generalize Zw start=a at *;have H0:=Za (Wtx.new h hO);have HR:=Za hr;have HBO:=Za hbo;have HBY:=Za hby;have HN:=Za hn;have hnl:=needP_le (b.length:Int);clear h hO hr hbo hby hn;by_cases hnd:Zc b.length=0
 ·have ew:st.wrText2 a b=(2,st):=by unfold Sd.wrText2;rw [if_pos hnd]
  rw [ew];rw [hnd] at C1;clear ew;go_enter Tryz.func95,Tryz.ntmps95
  go_wp2_with fail
  refine C1.mono ?_;rintro e wx ⟨rfl,rfl⟩;go_wp2;go_ret
  exact ⟨rfl,H0.out.out⟩
 ·have ew:st.wrText2 a b=layTo st a b (Zc b.length):=by unfold Sd.wrText2;rw [if_neg hnd]
  rw [ew];obtain ⟨n,hnn⟩:∃ n,n=Zc b.length:=⟨_,rfl⟩;rw [<- hnn] at hnd C1 hnl ⊢;have hn0:((n:Int) == 0)=false:=by simp;omega
  have HNN:=Za hnn;clear hnn ew;go_enter Tryz.func95,Tryz.ntmps95
  go_wp2_with fail
  refine C1.mono ?_;rintro e wx ⟨rfl,rfl⟩;go_wp2_with fail
  refine C2.mono ?_;rintro e wx ⟨rfl,rfl⟩;go_wp2;go_loopw [22] (fun v wr=>∃ i:Nat,i<=n/\v=.int .i64 i/\Hid ((layTo st a b i).1=0)/\∃ O',Hid (Wtx O w p (layTo st a b i).2 wr O')) (fun v _=>n - (intOf v).toNat)
  case atStart=>exact ⟨0,by omega,rfl,rfl,O,H0⟩
  case round =>
   obtain ⟨i,hi,rfl,hz,O',HW⟩:=hrel;by_cases hlt:i < n
   ·have hRb:Rd .u8 wr ba b:=HR.out.onl HW.out.onl HBO.out;have C3:=ccut_any ba bc b hRb HN.out hbc i (by rw [<- HNN.out];exact hlt);obtain ⟨D,hD⟩:∃ D:Int,D=a+4 * i:=⟨_,rfl⟩;have w1:IntKind.i64.wrap ((i:Int) * 4)=(i:Int) * 4:=by rw [IntKind.wrap_i64];omega
    have w2:IntKind.i64.wrap (a+(i:Int) * 4)=D:=by rw [IntKind.wrap_i64];omega
    have hCi:=layTo_C st a b i;have HD:=Za hD;have HC3:=Za C3;clear hRb C3 hD;go_wp2_with fail
    refine HC3.out.mono ?_;rintro e wx ⟨⟨a3,c3,rfl,r3,n3,_,o3⟩,rfl⟩;have C4:=cpage_any a3 c3 (ZB b i) r3 (chunkB_len b i) (chunkB_byt HBY.out i);have HC4:=Za C4;clear C4 r3 n3 o3;generalize (ZB b i).length=L at *;go_wp2_with fail
    refine HC4.out.mono ?_;rintro e W1 ⟨rfl,k4,b4⟩;have hw1:=HW.out.below b4;have C5:=clay_any hw1.d hw1.lt (by omega) D (by rw [HD.out];omega) (by rw [HD.out];omega) wr.heap.size (Z4 (ZB b i)) k4 (pageB_len (chunkB_len b i)) (fun q=>absurd (HW.out.lt _ q) (Nat.lt_irrefl _)) (pageB_byt (chunkB_byt HBY.out i));have esn:layTo st a b (i+1)=layK (layTo st a b i).2 D (Z4 (ZB b i)) 4:=by simp only [layTo];rw [if_pos hz.out,<- HD.out]
    obtain ⟨res,hres⟩:∃ r,r=layK (layTo st a b i).2 D (Z4 (ZB b i)) 4:=⟨_,rfl⟩;rw [<- hres] at C5 esn;have HE:=Za esn;have HC5:=Za C5;have HW1:=Za hw1;clear esn C5 hw1 k4 b4 hCi hres;go_wp2_with fail
    refine HC5.out.mono ?_;rintro e W2 ⟨rfl,d2,o2⟩;have HW2:=Za (HW1.out.turn d2 o2);clear d2 o2;by_cases hq:res.1=0
    ·have HQ:=Za hq;rw [hq];clear hq;go_wp2;go_roundw
     case rel=>exact ⟨i+1,by omega,by simp,Za (by rw [HE.out];exact HQ.out),_,Za (by rw [HE.out];exact HW2.out)⟩
     case measure=>simp [intOf];omega
    ·have efin:layTo st a b n=res:=by
      have hs1:(layTo st a b (i+1)).1≠0:=by rw [HE.out];exact hq
      have e4:=layTo_stuck hs1 (n - (i+1));rw [show i+1+(n - (i+1))=n by omega,HE.out] at e4;exact e4
     have HEF:=Za efin;have hres:(res.1 == 0)=false:=by simpa using hq
     clear efin;go_wp2;go_ret
     rw [HEF.out];exact ⟨rfl,HW2.out.out⟩
   ·obtain rfl:i=n:=by omega
    go_wp2;go_ret
    rw [hz.out];exact ⟨rfl,HW.out.out⟩
theorem end_any {a k T:Int} (hT:IntKind.i64.wrap (a+k)=T) (w:World):Calls Tryz.prog 183 #[.agg #[.int .i64 a,.int .i64 k]] w fun e w'=>e=.returned (.int .i64 T)/\Below w.heap.size w w':=by
 have HB:=Za ((Below.refl w.heap.size w).alloc (Nat.le_refl _) (.cells #[.int .i64 a,.int .i64 k] 108));go_enter Tryz.func183,Tryz.ntmps183
 go_wp2;go_ret
 exact ⟨rfl,HB.out⟩
theorem between_any {a b T:Int} (hT:IntKind.i64.wrap (b - a)=T) (w:World):Calls Tryz.prog 122 #[.int .i64 a,.int .i64 b] w fun e w'=>e=.returned (.agg #[.int .i64 a,.int .i64 T])/\Below w.heap.size w w':=by
 have HB:=Za ((Below.refl w.heap.size w).alloc (Nat.le_refl _) (.cells #[.int .i64 a,.int .i64 T] 108));go_enter Tryz.func122,Tryz.ntmps122
 go_wp2;refine bodyPost_ret (by simp [results,Tryz.results122,go_sem];rfl) rfl ?_;exact ⟨rfl,HB.out⟩
def XOk (x:Nat × Nat):Prop:=x.1<=16384/\x.2<=16384
theorem below2 (w:World) (o1 o2:Obj):Below w.heap.size w ((w.alloc o1).alloc o2):=((Below.refl w.heap.size w).alloc (Nat.le_refl _) o1).alloc (by simp) o2
theorem fits_any (s:Spn) (x:Nat × Nat) (w:World):Calls Tryz.prog 137 #[.agg #[.int .i64 s.a,.int .i64 s.k],.agg #[.int .i64 x.1,.int .i64 x.2]] w fun e w'=>e=.returned (.bool (ftb s.k x))/\Below w.heap.size w w':=by
 have e:∀ b,decide (1<=s.k)=b->ftb s.k x=(b && decide (s.k<=(x.2:Int))):=fun b h=>by unfold ftb;rw [h]
 by_cases h1:1<=s.k
 ·rw [e _ (decide_eq_true h1),Bool.true_and];clear e;go_enter Tryz.func137,Tryz.ntmps137
  go_wp2;go_ret
  exact ⟨rfl,below2 w _ _⟩
 ·rw [e _ (decide_eq_false h1),Bool.false_and];clear e;go_enter Tryz.func137,Tryz.ntmps137
  go_wp2;go_ret
  exact ⟨rfl,below2 w _ _⟩
theorem within_any (s:Spn) (hs:Spn.Ok s) (x:Nat × Nat) (hx:XOk x) (w:World):Calls Tryz.prog 139 #[.agg #[.int .i64 s.a,.int .i64 s.k],.agg #[.int .i64 x.1,.int .i64 x.2]] w fun e w'=>e=.returned (.bool (wnb s x))/\Below w.heap.size w w':=by
 obtain ⟨hx1,hx2⟩:=hx;obtain ⟨s1,s2,s3,s4⟩:=hs;have e:∀ b c,decide (1<=s.k)=b->decide ((x.1:Int)<=s.a)=c->wnb s x=(b && (c && decide (s.k<=(x.2:Int) - (s.a - x.1)))):=fun b c h h2=>by unfold wnb;rw [h,h2]
 by_cases h1:1<=s.k
 ·by_cases h2:(x.1:Int)<=s.a
  ·rw [e _ _ (decide_eq_true h1) (decide_eq_true h2),Bool.true_and,Bool.true_and];have w1:IntKind.i64.wrap (s.a - (x.1:Int))=s.a - (x.1:Int):=by rw [IntKind.wrap_i64];omega
   have w2:IntKind.i64.wrap ((x.2:Int) - (s.a - (x.1:Int)))=(x.2:Int) - (s.a - (x.1:Int)):=by rw [IntKind.wrap_i64];omega
   clear e;go_enter Tryz.func139,Tryz.ntmps139
   go_wp2;go_ret
   exact ⟨rfl,below2 w _ _⟩
  ·rw [e _ _ (decide_eq_true h1) (decide_eq_false h2),Bool.true_and,Bool.false_and];clear e;go_enter Tryz.func139,Tryz.ntmps139
   go_wp2;go_ret
   exact ⟨rfl,below2 w _ _⟩
 ·rw [e _ _ (decide_eq_false h1) rfl,Bool.false_and];clear e;go_enter Tryz.func139,Tryz.ntmps139
  go_wp2;go_ret
  exact ⟨rfl,below2 w _ _⟩
attribute [local go_sem ↓] Go.wp_at_zero Go.wp_at_succ
end
def Tells (fid:Nat) (r:Value) (P:Nat × Nat->Bool) (R:List (Nat × Nat)):Prop :=
 (∀ args w,(callFunc fid args).run Tryz.prog w=.ok (.enter fid args) w)/\∀ x ∈ R,∀ W,Calls Tryz.prog fid #[r,.agg #[.int .i64 (x.1:Int),.int .i64 (x.2:Int)]] W fun e W'=>e=.returned (.bool (P x))/\Below W.heap.size W W'
theorem index_any {fid:Nat} {a k:Int} {P:Nat × Nat->Bool} {R:List (Nat × Nat)} (hT:Tells fid (.agg #[.int .i64 a,.int .i64 k]) P R) (hR:R.length<=16384) {w:World} {g cap:Nat} {cur:List Value} (hg:Ob w g 108 cur) (hc:cur.take (R.length * 2)=Zb R) :
  Calls Tryz.prog 182 #[.slice (some ⟨g,0,none⟩) R.length cap,.func (.func fid) #[.agg #[.int .i64 a,.int .i64 k]] #[]] w fun e w'=>e=.returned (.int .i64 (idx P R))/\Below w.heap.size w w':=by
 obtain ⟨hE,hT⟩:=hT
 have hcell:∀ K x,R[K]?=some x->w.cell? ⟨g,K * 2,none⟩=some (.int .i64 (x.1:Int))/\w.cell? ⟨g,K * 2+1,none⟩=some (.int .i64 (x.2:Int)):=fun K x hx=>by
  have hK:=(List.getElem?_eq_some_iff.1 hx).1;obtain ⟨h1,h2⟩:=rcells_at hx;rw [<- hc,List.getElem?_take_of_lt (by omega)] at h1 h2;exact ⟨(hg.cell _).trans h1,(hg.cell _).trans h2⟩
 have hgl:=hg.lt;have HT:=Za hT;clear hT hc hg;go_enter Tryz.func182,Tryz.ntmps182
 go_wp2;go_loopw [8] (fun i wr=>∃ K:Nat,K<=R.length/\i=.int .i64 K/\(∀ j y,j < K->R[j]?=some y->P y=false)/\Below w.heap.size w wr) (fun i _=>R.length - (intOf i).toNat)
 case atStart=>exact ⟨0,Nat.zero_le _,rfl,fun j y h=>by omega,Below.refl _ _⟩
 case round =>
  obtain ⟨K,hK,rfl,hno,hb⟩:=hrel;by_cases hlt:K < R.length
  ·have hx0:R[K]?=some R[K]:=List.getElem?_eq_getElem hlt
   obtain ⟨q1,q2⟩:=hcell _ _ hx0;have p1:=(hb.cell (p:=⟨g,K * 2,none⟩) hgl).trans q1;have p2:=(hb.cell (p:=⟨g,K * 2+1,none⟩) hgl).trans q2;have hmem:=List.getElem_mem hlt;generalize hxe:R[K]=x at *;have HX:=Za hx0;have HN:=Za hno;have HB:=Za hb;clear hx0 hno hxe q1 q2 hb;go_wp2_with fail
   refine (HT.out x hmem wr).mono ?_;rintro e W2 ⟨rfl,b⟩;have HB2:=Za (HB.out.trans (b.mono HB.out.size));clear b;cases hp:P x with
   | true =>
    go_wp2;go_ret
    exact ⟨by rw [idx_some HX.out hp HN.out];rfl,HB2.out⟩
   | false =>
    go_wp2;go_roundw
    case rel=>exact ⟨K+1,by omega,by simp,fun j y hj hy=>by
     rcases Nat.lt_or_ge j K with q | q
     ·exact HN.out j y q hy
     ·have:j=K:=by omega
      subst this;rw [HX.out] at hy;cases hy
      exact hp,HB2.out⟩
    case measure=>simp [intOf];omega
  ·obtain rfl:K=R.length:=by omega
   go_wp2;go_ret
   exact ⟨by rw [idx_none (fun j y hy=>hno j y (List.getElem?_eq_some_iff.1 hy).1 hy)];rfl,hb⟩
theorem index_nil {fn:Fn} {b c:Array Value} (w:World) :
  Calls Tryz.prog 182 #[.slice none 0 0,.func fn b c] w fun e w'=>e=.returned (.int .i64 (-1))/\Below w.heap.size w w':=by
 go_enter Tryz.func182,Tryz.ntmps182
 go_wp2;go_loopw [8] (fun i wr=>i=.int .i64 0/\Below w.heap.size w wr) (fun _ _=>0)
 case atStart=>exact ⟨rfl,Below.refl _ _⟩
 case round =>
  obtain ⟨rfl,hb⟩:=hrel;go_wp2;go_ret
  exact ⟨rfl,hb⟩
structure CFr (O:Nat->Prop) (w:World) (p:Nat) (f:Fr):Prop where
 ok:OkFr f
 own:O p
 mem:∃ v,Ob w p 210 [.bool true,.int .i64 (f.whole.1:Int),.int .i64 (f.whole.2:Int),v]/\Row O w 108 2 v f.rows.length (Zb f.rows)
theorem CFr.onl {O F:Nat->Prop} {w w':World} {p:Nat} {f:Fr} (h:CFr O w p f) (ho:Onl F w w') (hF:∀ i,O i->¬ F i):CFr O w' p f:=by
 obtain ⟨v,h1,h2⟩:=h.mem;exact ⟨h.ok,h.own,v,h1.onl ho (hF p h.own),h2.onl ho (fun g hg=>hF g (h2.2 g hg))⟩
theorem CFr.below {O:Nat->Prop} {w w':World} {p:Nat} {f:Fr} (h:CFr O w p f) (hb:Below w.heap.size w w'):CFr O w' p f:=h.onl (F:=fun _=>False) (Onl.ofBelow hb) (fun _ _ q=>q)
theorem CFr.mono {O O':Nat->Prop} {w:World} {p:Nat} {f:Fr} (h:CFr O w p f) (ho:∀ i,O i->O' i):CFr O' w p f:=by
 obtain ⟨v,h1,h2⟩:=h.mem;exact ⟨h.ok,ho p h.own,v,h1,h2.mono ho⟩
theorem whole_ok {f:Fr} (h:OkFr f):f.whole.1<=16384/\f.whole.2<=16384:=by
 have:=h.len;unfold Fr.whole;split <;> simp only <;> omega
theorem crows_len {f:Fr} (ok:OkFr f):f.rows.length<=16384:=Nat.le_trans (spans_len f.L f.L.length) ok.len
theorem crow_ok {f:Fr} (ok:OkFr f):∀ x ∈ f.rows,XOk x:=fun x hx=>by
 have:=row_low ok hx;have:=ok.len;exact ⟨by omega,by omega⟩
theorem find_any {fid:Nat} {a k:Int} {P:Nat × Nat->Bool} {O:Nat->Prop} {w:World} {p:Nat} {f:Fr} (h:CFr O w p f) (hT:Tells fid (.agg #[.int .i64 a,.int .i64 k]) P f.rows) :
  Calls Tryz.prog 136 #[.pointer (some ⟨p,0,none⟩),.func (.func fid) #[.agg #[.int .i64 a,.int .i64 k]] #[]] w fun e w'=>e=.returned (.int .i64 (idx P f.rows))/\Below w.heap.size w w':=by
 obtain ⟨v,h1,h2⟩:=h.mem;have x3:=h1.cell 3;simp only [List.getElem?_cons_succ,List.getElem?_cons_zero] at x3;have hrl:=crows_len h.ok;rcases row_ob h2 with ⟨rfl,h0,_⟩ | ⟨g,cap,cur,rfl,_,bR,_,_,_,hr4⟩
 ·have e:f.rows=[]:=List.eq_nil_of_length_eq_zero h0;have C:=index_nil (fn:=.func fid) (b:=#[.agg #[.int .i64 a,.int .i64 k]]) (c:=#[]) w;have hq:idx P f.rows=-1:=by rw [e];rfl
  rw [hq];clear h1 h2 h hT hq;go_enter Tryz.func136,Tryz.ntmps136
  go_wp2_with fail
  refine C.mono ?_;rintro e w' ⟨rfl,b⟩;go_wp2;go_ret
  exact ⟨rfl,b⟩
 ·have C:=index_any hT hrl (cap:=cap) bR hr4;clear h1 h2 h hT bR hr4;go_enter Tryz.func136,Tryz.ntmps136
  go_wp2_with fail
  refine C.mono ?_;rintro e w' ⟨rfl,b⟩;go_wp2;go_ret
  exact ⟨rfl,b⟩
theorem tells_within (s:Spn) (hs:Spn.Ok s) {R:List (Nat × Nat)} (hR:∀ x ∈ R,XOk x):Tells 139 (.agg #[.int .i64 s.a,.int .i64 s.k]) (wnb s) R:=⟨fun _ _=>by kernel_rfl,fun x hx W=>within_any s hs x (hR x hx) W⟩
theorem tells_fits (n:Int) (R:List (Nat × Nat)):Tells 137 (.agg #[.int .i64 0,.int .i64 n]) (ftb n) R:=⟨fun _ _=>by kernel_rfl,fun x _ W=>fits_any ⟨0,n⟩ x W⟩
end Go.Proofs.YtdhebpnkfookcaaGreat
