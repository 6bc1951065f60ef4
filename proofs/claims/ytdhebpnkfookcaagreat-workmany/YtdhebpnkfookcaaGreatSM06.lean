import Derived.Test.YtdhebpnkfookcaaGreatSM05
set_option maxRecDepth 100000
set_option maxHeartbeats 1000000
namespace Apo
def Zw (s:Int):Int:=if s < 0\/16384<=s then -1 else s * 4
end Apo
namespace Go.Proofs.YtdhebpnkfookcaaGreat
open Go.RowKit Apo
theorem cneed_any (size:Int) (w:World):Calls Tryz.prog 91 #[.int .i64 size] w fun e w'=>e=.returned (.int .i64 (Zc size))/\w=w':=by
 by_cases h1:size < 0
 ·have e:Zc size=0:=by unfold Zc;rw [if_pos (.inl h1)]
  rw [e];go_enter Tryz.func91,Tryz.ntmps91
  go_wp2;go_ret
  exact ⟨rfl,rfl⟩
 ·by_cases h2:131072 < size
  ·have e:Zc size=0:=by unfold Zc;rw [if_pos (.inr h2)]
   rw [e];have h1':0<=size:=by omega
   go_enter Tryz.func91,Tryz.ntmps91
   go_wp2;go_ret
   exact ⟨rfl,rfl⟩
  ·have h1':0<=size:=by omega
   have h2':size<=131072:=by omega
   by_cases h3:size=0
   ·subst h3;go_enter Tryz.func91,Tryz.ntmps91
    go_wp2;go_ret
    exact ⟨rfl,rfl⟩
   ·have e:(Zc size:Int)=(size+123) / 124:=by unfold Zc;rw [if_neg (by omega),if_neg h3];omega
    rw [e];have w1:IntKind.i64.wrap (size+124)=size+124:=by rw [IntKind.wrap_i64];omega
    have w2:IntKind.i64.wrap (size+124 - 1)=size+123:=by rw [IntKind.wrap_i64];omega
    have w3:IntKind.i64.wrap ((size+123).tdiv 124)=(size+123) / 124:=by rw [Int.tdiv_eq_ediv_of_nonneg (by omega),IntKind.wrap_i64];omega
    obtain ⟨Q,hQ⟩:∃ Q,Q=(size+123) / 124:=⟨_,rfl⟩;have hm:(if (1:Int) < Q then Q else 1)=Q:=by split <;> omega
    have hm2:(if Q < 1 then (1:Int) else Q)=Q:=by split <;> omega
    have hm3:(if (1:Int)<=Q then Q else 1)=Q:=by split <;> omega
    rw [<- hQ] at w3 ⊢;have HQ:=Za hQ;clear e hQ;go_enter Tryz.func91,Tryz.ntmps91
    go_wp2;go_ret
    exact ⟨rfl,rfl⟩
theorem cfirst_any (s:Int) (w:World):Calls Tryz.prog 140 #[.int .i64 s] w fun e w'=>e=.returned (.int .i64 (Zw s))/\w=w':=by
 by_cases h1:s < 0
 ·have e:Zw s=-1:=by unfold Zw;rw [if_pos (.inl h1)]
  rw [e];go_enter Tryz.func140,Tryz.ntmps140
  go_wp2;go_ret
  exact ⟨rfl,rfl⟩
 ·have h1':0<=s:=by omega
  by_cases h2:16384<=s
  ·have e:Zw s=-1:=by unfold Zw;rw [if_pos (.inr h2)]
   rw [e];go_enter Tryz.func140,Tryz.ntmps140
   go_wp2;go_ret
   exact ⟨rfl,rfl⟩
  ·have e:Zw s=s * 4:=by unfold Zw;rw [if_neg (by omega)]
   rw [e];have h2':s < 16384:=by omega
   have w1:IntKind.i64.wrap (s * 4)=s * 4:=by rw [IntKind.wrap_i64];omega
   clear e;go_enter Tryz.func140,Tryz.ntmps140
   go_wp2;go_ret
   exact ⟨rfl,rfl⟩
theorem chunk_rd {W:World} {g o:Nat} {b:List Int} (h:Rd .u8 W (some ⟨g,o,none⟩) b) (i:Nat):Rd .u8 W (some ⟨g,o+124 * i,none⟩) (ZB b i):=Rd.take (rd_drop (at':=124 * i) h) 124
theorem chunk_length (b:List Int) {i n:Nat} (hn:n=Zc b.length) (hi:i < n):124 * i<=b.length/\(ZB b i).length=min 124 (b.length - 124 * i)/\(0 < b.length->124 * i < b.length):=by
 refine ⟨?_,by simp [ZB],?_⟩
 ·unfold Zc at hn;split at hn
  ·omega
  ·split at hn <;> omega
 ·unfold Zc at hn;split at hn
  ·omega
  ·split at hn <;> omega
def CutOf (w:World) (ba:Option Addr) (b l:List Int) (e:Ending):Prop:=∃ a c,e=.returned (.slice a l.length c)/\Rd .u8 w a l/\(a=none->c=0)/\l.length<=c/\∀ x,a=some x->0 < l.length->∃ y,ba=some y/\0 < b.length/\x.block=y.block
theorem ccut_any {w:World} (ba:Option Addr) (bc:Nat) (b:List Int) (hr:Rd .u8 w ba b) (hn:ba=none->bc=0) (hbc:b.length<=bc) (i:Nat) (hi:i < Zc b.length) :
  Calls Tryz.prog 143 #[.slice ba b.length bc,.int .i64 i] w fun e w'=>CutOf w ba b (ZB b i) e/\w=w':=by
 have hnz:Zc b.length≠0:=by omega
 have hroom:=needP_room (size:=(b.length:Int)) hnz;obtain ⟨c1,c2,c3⟩:=chunk_length b rfl hi;by_cases h0:b.length=0
 ·obtain rfl:b=[]:=List.eq_nil_of_length_eq_zero h0;obtain rfl:i=0:=by simp at c1;omega
  have e1:ZB [] 0=[]:=rfl;rw [e1];clear c2 c3 hroom hnz hi;cases ba with
  | none =>
   obtain rfl:=hn rfl;go_enter Tryz.func143,Tryz.ntmps143
   go_wp2;go_ret
   exact ⟨⟨_,_,rfl,fun j hj=>by simp at hj,fun _=>rfl,Nat.le_refl _,fun x hx hl=>by simp at hl⟩,rfl⟩
  | some y =>
   go_enter Tryz.func143,Tryz.ntmps143
   go_wp2;go_ret
   exact ⟨⟨_,_,rfl,fun j hj=>by simp at hj,fun _=>rfl,Nat.zero_le _,fun x hx hl=>by simp at hl⟩,rfl⟩
 ·have h0':0 < b.length:=by omega
  obtain ⟨g,o,rfl,_⟩:=hr 0 h0';have c3':=c3 h0';have hrc:=chunk_rd hr i;obtain ⟨I,hI⟩:∃ I,I=124 * i:=⟨_,rfl⟩;obtain ⟨T,hT⟩:∃ T,T=I+124:=⟨_,rfl⟩;rw [<- hI] at c1 c3' hrc;have wI:IntKind.i64.wrap ((i:Int) * 124)=(I:Int):=by rw [IntKind.wrap_i64];omega
  have wT:IntKind.i64.wrap ((I:Int)+124)=(T:Int):=by rw [IntKind.wrap_i64];omega
  have hIc:I < 131072:=by omega
  have hTI:I < T:=by omega
  by_cases hbig:T<=b.length
  ·have hL:(ZB b i).length=T - I:=by rw [c2];omega
   have HL:=Za hL;have HRC:=Za hrc;have hne:T - I≠0:=by omega
   clear hrc hI hT c2 hr hroom hL c1 c3 hn hi hnz;generalize hB:b.length=B at *;have HBB:=Za hB;clear hB;go_enter Tryz.func143,Tryz.ntmps143
   go_wp2;go_ret
   refine ⟨⟨_,T - I,?_,HRC.out,(fun e=>by cases e),by rw [HL.out];exact Nat.le_refl _,fun x hx _=>?_⟩,rfl⟩
   ·rw [HL.out];rfl
   ·cases hx
    exact ⟨_,rfl,by rw [HBB.out];exact h0',rfl⟩
  ·have hL:(ZB b i).length=b.length - I:=by rw [c2];omega
   have HL:=Za hL;have HRC:=Za hrc;have hne:b.length - I≠0:=by omega
   have hbig':b.length < T:=by omega
   clear hrc hI hT c2 hr hroom hL c1 c3 hn hi hnz;generalize hB:b.length=B at *;have HBB:=Za hB;clear hB;go_enter Tryz.func143,Tryz.ntmps143
   go_wp2;go_ret
   refine ⟨⟨_,B - I,?_,HRC.out,(fun e=>by cases e),by rw [HL.out];exact Nat.le_refl _,fun x hx _=>?_⟩,rfl⟩
   ·rw [HL.out];rfl
   ·cases hx
    exact ⟨_,rfl,by rw [HBB.out];exact h0',rfl⟩
theorem own_old8 {W W':World} {base e size n:Nat} {v:Value} {xs:List Value} (h:W.ownsRow base e size v n xs) (b:Below W.heap.size W W'):W'.ownsRow base e size v n xs:=h.kept (Zm none b) (by cases v.ownBlock <;> simp)
theorem own_cap0 {W:World} {base e size n len c:Nat} {xs:List Value} (h:W.ownsRow base e size (.slice none len c) n xs):c=0:=by
 rcases h.2 with ⟨q,_⟩ | ⟨g,cap,cur,q,_⟩
 ·cases q;rfl
 ·cases q
theorem folded_bd (h:Int):0<=folded h/\folded h<=4294967295:=bounds_u32 (wf_bits .xor .u32 (h / 4294967296) (h % 4294967296))
theorem str_size {l:List Int} (h:∀ z ∈ l,0<=z/\z<=255):(strOfNums l).size=l.length:=by
 have:=ZU (strOfNums l);rw [nums_strOfNums h] at this;exact this.symm
theorem csum_any {w:World} (a:Option Addr) (cap:Nat) (l:List Int) (hr:Rd .u8 w a l) (hl:l.length<=131072) (hb:∀ z ∈ l,0<=z/\z<=255) :
  Calls Tryz.prog 161 #[.slice a l.length cap] w fun e w'=>e=.returned (.slice (some ⟨w.heap.size,0,none⟩) 4 4)/\Ob w' w.heap.size 5 ((sum4 l).map (Value.int .u8))/\Below w.heap.size w w':=by
 have hsz:=str_size hb;have hcv:=hr.conv (P:=Tryz.prog) 41 5 9 Tryz.underlying41 Tryz.underlying5 Tryz.underlying9 cap;have C1:=sum_any (strOfNums l) w (by rw [hsz];omega);have hmb:=more_bd (strOfNums l) fnvStart (by decide) (by decide);have C2:=fold_any (more fnvStart (strOfNums l)) w hmb.1 hmb.2;have hfb:=folded_bd (more fnvStart (strOfNums l));have e4:sum4 l=be 4 (folded (more fnvStart (strOfNums l))).toNat:=rfl;rw [e4];generalize more fnvStart (strOfNums l)=M at *;generalize strOfNums l=str at *;obtain ⟨N,hN⟩:∃ N:Nat,N=(folded M).toNat:=⟨_,rfl⟩;have hF:folded M=(N:Int):=by omega
 rw [<- hN];rw [hF] at C2;have hN2:N<=4294967295:=by omega
 clear hN hF hfb hmb hsz e4 hr hb;go_enter Tryz.func161,Tryz.ntmps161
 go_wp2_with fail
 refine C1.mono ?_;rintro e wx ⟨rfl,rfl⟩;go_wp2_with fail
 refine C2.mono ?_;rintro e wx ⟨rfl,rfl⟩;go_wp2;go_ret
 have eb:(be 4 N).map (Value.int .u8)=[.int .u8 ((N:Int) / 16777216),.int .u8 ((N:Int) / 65536 % 256),.int .u8 ((N:Int) / 256 % 256),.int .u8 ((N:Int) % 256)]:=by
  simp only [be,List.map_cons,List.map_nil,List.cons.injEq,Value.int.injEq,true_and,and_true];refine ⟨?_,?_,?_,?_⟩ <;> simp <;> omega
 refine ⟨rfl,?_,(Below.refl _ w).alloc (Nat.le_refl _) _⟩;rw [eb];exact Ob.new w _ 5
/-! a page -/
def zrow8:Array Value:=madeCells #[.int .u8 0] 128
theorem zrow8_list:zrow8.toList=List.replicate 128 (Value.int .u8 0):=by
 unfold zrow8;rw [toList_madeCells_one]
theorem mk128 (wx:World):(Instr.makeSlice 41 (.int .i64 128) (.int .i64 128)).run Tryz.prog wx=.ok (.slice (some ⟨wx.heap.size,0,none⟩) 128 128) (wx.alloc (.cells zrow8 5)):=by
 obtain ⟨i1,hi,hz0,hz1,hz2⟩:=info_parts info_u8;have:=run_makeSlice (P:=Tryz.prog) wx 41 5 i1 (.int .u8 0) Tryz.underlying41 hi hz0 .i64 .i64 128 128 (by decide) (by decide) (by rw [hz1];decide) (by rw [hz2];decide) (by decide);rw [hz1] at this;exact this
theorem size_u8:(Tryz.prog.info? 5).map (·.size)=some 1:=by kernel_rfl
theorem rd_ob {w:World} {p:Nat} {l:List Int} (h:Ob w p 5 (l.map (Value.int .u8))):Rd .u8 w (some ⟨p,0,none⟩) l:=by
 intro i hi;refine ⟨p,0,rfl,?_⟩;rw [h.cell];simp [hi]
theorem rd_src {w:World} {g o:Nat} {l:List Int} (h:Rd .u8 w (some ⟨g,o,none⟩) l):∀ j v,(l.map (Value.int .u8))[j]?=some v->w.cell? ((⟨g,o,none⟩:Addr).add j)=some v:=by
 intro j v hj;have hjl:j < l.length:=by simpa using (List.getElem?_eq_some_iff.1 hj).1
 obtain ⟨b,off,ha,hc⟩:=h j hjl;cases ha
 have e:(⟨g,o,none⟩:Addr).add j=⟨g,o+j,none⟩:=by unfold Addr.add;split <;> simp_all
 rw [e,hc];simp [hjl] at hj
 simp [List.getD,hjl,hj]
attribute [local go_sem] mk128
attribute [local go_sem ↓] Apo.cp_exec
theorem cpage_any {w:World} (a:Option Addr) (cap:Nat) (l:List Int) (hr:Rd .u8 w a l) (hl:l.length<=124) (hb:∀ z ∈ l,0<=z/\z<=255) :
  Calls Tryz.prog 142 #[.slice a l.length cap] w fun e w'=>e=.returned (.slice (some ⟨w.heap.size,0,none⟩) 128 128)/\Ob w' w.heap.size 5 ((Z4 l).map (Value.int .u8))/\Below w.heap.size w w':=by
 have k0:Ob (w.alloc (.cells zrow8 5)) w.heap.size 5 (List.replicate 128 (Value.int .u8 0)):=by
  rw [<- zrow8_list];exact Ob.new w zrow8.toList 5
 have b0:Below w.heap.size w (w.alloc (.cells zrow8 5)):=(Below.refl _ w).alloc (Nat.le_refl _) _;have r0:Rd .u8 (w.alloc (.cells zrow8 5)) a l:=hr.below b0
 obtain ⟨w1,R1,k1,g1⟩:=ZC (P:=Tryz.prog) (w:=w.alloc (.cells zrow8 5)) (dT:=41) (sT:=41) (ty:=3) Tryz.underlying41 size_u8 w.heap.size 4 _ k0 (some ⟨w.heap.size,4,none⟩) a 124 124 l.length cap (l.map (Value.int .u8)) (by rw [List.length_map];show _=(min l.length 124) * 1;omega)
  (fun hp=>by
    rw [List.length_map] at hp;obtain ⟨g,o,rfl,_⟩:=r0 0 hp;exact ⟨rfl,_,rfl,rd_src r0⟩) (by decide) (by simp;omega) (ints_oneCell _ _)
 have e1:splice (List.replicate 128 (Value.int .u8 0)) 4 (l.map (Value.int .u8))=(List.replicate 4 0++ZJ l).map (Value.int .u8):=by
  unfold splice ZJ;rw [List.length_map,List.take_replicate,List.drop_replicate];simp only [List.map_append,List.map_replicate];rw [show 128 - (4+l.length)=124 - l.length by omega,show min 4 128=4 by decide]
 rw [e1] at k1;have b1:Below w.heap.size w w1:=below_grew b0 g1 (by simp) (Nat.le_refl _)
 have r1:Rd .u8 w1 (some ⟨w.heap.size,4,none⟩) (ZJ l):=by
  have:=rd_drop (at':=4) (rd_ob k1);rw [List.drop_left' (by simp)] at this;exact this
 have hpl:=padded_len hl;have C1:=csum_any (some ⟨w.heap.size,4,none⟩) 124 (ZJ l) r1 (by omega) (padded_byt hb);rw [hpl] at C1;have hs4:=sum4_len (ZJ l);obtain ⟨q1,q2,q3⟩:=cp_runs R1;have HK1:=Za k1;have HB1:=Za b1;have hz1:w.heap.size < w1.heap.size:=k1.lt;clear R1 k1 g1 e1 r0 r1 k0 b0;go_enter Tryz.func142,Tryz.ntmps142
 go_wp2_with fail
 refine C1.mono ?_;rintro e w2 ⟨rfl,k2,b2⟩;have m2:=HK1.out.old b2
 obtain ⟨w3,R3,k3,g3⟩:=ZC (P:=Tryz.prog) (w:=w2) (dT:=41) (sT:=41) (ty:=3) Tryz.underlying41 size_u8 w.heap.size 0 _ m2 (some ⟨w.heap.size,0,none⟩) (some ⟨w1.heap.size,0,none⟩) 128 128 4 4 ((sum4 (ZJ l)).map (Value.int .u8)) (by rw [List.length_map,hs4];rfl)
  (fun _=>⟨rfl,_,rfl,rd_src (rd_ob k2)⟩) (by decide) (by simp [hpl,hs4]) (ints_oneCell _ _)
 have e3:splice ((List.replicate 4 0++ZJ l).map (Value.int .u8)) 0 ((sum4 (ZJ l)).map (Value.int .u8))=(Z4 l).map (Value.int .u8):=by
  unfold splice Z4;rw [List.length_map,hs4,List.map_append,List.map_append,List.take_zero,List.nil_append,Nat.zero_add,List.drop_left' (by simp)]
 rw [e3] at k3;have b3:Below w.heap.size w w3:=below_grew (HB1.out.trans (b2.mono (by omega))) g3 (by have:=b2.size;omega) (Nat.le_refl _);obtain ⟨s1,s2,s3⟩:=cp_runs R3;have HK3:=Za k3;have HB3:=Za b3;clear R3 k3 b3 g3 e3 m2 k2 b2;go_wp2;go_ret
 exact ⟨rfl,HK3.out,HB3.out⟩
end Go.Proofs.YtdhebpnkfookcaaGreat
