import Derived.Test.YtdhebpnkfookcaaGreatSM25
set_option maxRecDepth 100000
set_option maxHeartbeats 1000000
namespace Apo
open Go Go.RowKit
theorem run_append_rdo {P:Program} {w:World} {O:Nat->Prop} (t ty e:TypeId) (i:TypeInfo) (z:Value) (bytes:Nat) (h1:P.underlying t=some (.slice e)) (h2:P.info? e=some i) (h3:i.zero=some z) (h4:i.size=1) (h5:i.bytes=bytes) (h6:z.cells.size=1)
  (k:IntKind) (v:Value) (cur:List Int) (hown:Row O w e 1 v cur.length (cur.map (Value.int k))) (ao:Option Addr) (c:Nat) (l:List Int) (hr:Rd k w ao l) (hn:ao=none->c=0)
  (b1:cur.length+l.length<=maxLen) (b2:(cur.length+l.length) * bytes<=140737488355328) :
  ∃ v' w',(Builtin.append_ #[t,t] ty #[v,.slice ao l.length c]).run P w=.ok v' w'/\Row (Gro O w w') w' e 1 v' (cur++l).length ((cur++l).map (Value.int k))/\Onl O w w':=by
 cases ao with
 | none =>
  have hl:l=[]:=by
   rcases Nat.eq_zero_or_pos l.length with h | h
   ·exact List.eq_nil_of_length_eq_zero h
   ·obtain ⟨_,_,h',_⟩:=hr 0 h;cases h'
  subst hl;have hc:=hn rfl;subst hc;exact ⟨v,w,run_append_owned_none (P:=P) w 0 t ty e i 1 h1 h2 v _ _ hown.1,by simpa using hown.mono (fun i q=>.inl q),Onl.refl _ _⟩
 | some ad =>
  obtain ⟨v',w',hrun,r1,r2,_,hl⟩:=run_append_own_at (P:=P) w 0 t ty e i z 1 bytes h1 h2 h3 h4 h5 h6 (by decide) v _ _ hown.1 ad l.length c (l.map (Value.int k)) (by simp) hr.news (ints_oneCell _ _) b1 b2 (Nat.zero_le _);refine ⟨v',w',hrun,⟨by simpa using r1,fun g hg=>?_⟩,(Onl.refl O w).grown r2 (fun k hk=>.inl (hown.2 k hk))⟩;rcases hl with q | q
  ·rw [q] at hg;exact .inl (hown.2 g hg)
  ·have:=(r1.lt g hg).2;rw [q] at hg;cases hg
   exact .inr ⟨Nat.le_refl _,this⟩
theorem step_append_rdo {P:Program} {ops:Array Oper} {o:Oper} {a:Act} {w:World} {K:Act->World->Prop} {Q:Exit->Act->World->Prop} {E:Prop} {O:Nat->Prop}
  (hgd:o.guard=none) (s x:Operand) (t:TypeId) (hop:o.op=Op.call { callee:=Callee.builtin Builtin.append,args:=#[s,x],argTypes:=#[t,t] })
  (e:TypeId) (i:TypeInfo) (z:Value) (bytes:Nat) (h1:P.underlying t=some (.slice e)) (h2:P.info? e=some i) (h3:i.zero=some z) (h4:i.size=1) (h5:i.bytes=bytes) (h6:z.cells.size=1)
  (k:IntKind) (v:Value) (cur:List Int) (hs:a.eval s=v) (hown:Row O w e 1 v cur.length (cur.map (Value.int k))) (ao:Option Addr) (c:Nat) (l:List Int) (hx:a.eval x=.slice ao l.length c) (hr:Rd k w ao l) (hn:ao=none->c=0)
  (b1:cur.length+l.length<=maxLen) (b2:(cur.length+l.length) * bytes<=140737488355328)
  (hK:∀ v' w',Row (Gro O w w') w' e 1 v' (cur++l).length ((cur++l).map (Value.int k))->Onl O w w'->K (a.put o.dst v') w') :
  if Region.wanted o (yielded ops a.tmps)=true then Oper.wp P o a w K Q else E:=by
 have hw:Region.wanted o (yielded ops a.tmps)=true:=by simp [Region.wanted,hgd]
 rw [if_pos hw];obtain ⟨v',w',hrun,r1,r2⟩:=run_append_rdo (P:=P) t o.type e i z bytes h1 h2 h3 h4 h5 h6 k v cur hown ao c l hr hn b1 b2;unfold Oper.wp;simp [execOp,hop,resolve,invoke,builtin,hs,hx,hrun,Result.andThen]
 exact hK v' w' r1 r2
end Apo
namespace Go.Proofs.YtdhebpnkfookcaaGreat
open Go.RowKit Apo
section
def Wro (O:Nat->Prop) (w:World) (p:Nat) (l:List Int):Prop:=O p/\∃ v,Ob w p 283 [v]/\Row O w 5 1 v l.length (l.map (Value.int .u8))
theorem Wro.lt {O:Nat->Prop} {w:World} {p:Nat} {l:List Int} (h:Wro O w p l):p < w.heap.size:=by
 obtain ⟨_,v,h1,_⟩:=h;exact h1.lt
theorem Wro.onl {O F:Nat->Prop} {w w':World} {p:Nat} {l:List Int} (h:Wro O w p l) (o:Onl F w w') (hF:∀ i,O i->¬ F i):Wro O w' p l:=by
 obtain ⟨h0,v,h1,h2⟩:=h;exact ⟨h0,v,h1.onl o (hF p h0),h2.onl o (fun g hg=>hF g (h2.2 g hg))⟩
theorem Wro.old {O:Nat->Prop} {w w':World} {p:Nat} {l:List Int} (h:Wro O w p l) (b:Below w.heap.size w w'):Wro O w' p l:=h.onl (F:=fun _=>False) (Onl.ofBelow b) (fun _ _ q=>q)
theorem Wro.mono {O O':Nat->Prop} {w:World} {p:Nat} {l:List Int} (h:Wro O w p l) (hO:∀ i,O i->O' i):Wro O' w p l:=by
 obtain ⟨h0,v,h1,h2⟩:=h;exact ⟨hO p h0,v,h1,h2.mono hO⟩
theorem Wro.new (w:World):Wro (fun i=>i=w.heap.size) (w.alloc (.cells #[.slice none 0 0] 283)) w.heap.size []:=⟨rfl,.slice none 0 0,Ob.new w [.slice none 0 0] 283,Row.nil _ _ _ _⟩
theorem wro_step {O:Nat->Prop} {w w1 w2:World} {p:Nat} {v v2:Value} {cur l:List Int} {n:Nat} (hp:O p) (hob:Ob w p 283 [v]) (hown:Row O w 5 1 v cur.length (cur.map (Value.int .u8))) (hb:Below w.heap.size w w1)
  (hg:Onl (fun g=>v.ownBlock=some g) w1 w2) (h2:Row (Gro (fun g=>v.ownBlock=some g) w1 w2) w2 5 1 v2 n (l.map (Value.int .u8))) :
  w2.cell? ⟨p,0,none⟩=some v/\w2.frozen? ⟨p,0,none⟩=false/\(n=l.length->Wro (Gro O w (w2.setCell ⟨p,0,none⟩ v2)) (w2.setCell ⟨p,0,none⟩ v2) p l)/\Onl O w (w2.setCell ⟨p,0,none⟩ v2):=by
 have hne:v.ownBlock≠some p:=hown.apartOb hob (by decide);have o2:Ob w2 p 283 [v]:=(hob.old hb).onl hg hne;have hs1:=hb.size;have hs2:=hg.size;have hne2:v2.ownBlock≠some p:=h2.apartOb o2 (by decide);have fr:Onl O w w2:=(Onl.ofBelow hb).more hg (fun i q=>.inl (hown.2 i q));refine ⟨o2.cell 0,o2.frozen 0,fun e=>⟨.inl hp,v2,o2.set 0 v2,?_⟩,fr.set (.inl hp) _⟩;subst e;have q:Row (Gro (fun g=>v.ownBlock=some g) w1 w2) (w2.setCell ⟨p,0,none⟩ v2) 5 1 v2 l.length (l.map (Value.int .u8)):=h2.onl (F:=fun g=>g=p) ((Onl.refl (fun g=>g=p) w2).set (p:=p) (i:=0) (.inl rfl) v2) (fun g hg e=>hne2 (by rw [hg,e]));refine q.mono (fun i z=>?_);rcases z with z | z
 ·exact .inl (hown.2 i z)
 ·exact .inr ⟨by omega,by simpa [World.setCell] using z.2⟩
attribute [local go_sem ↓] Go.wp_at_zero Go.wp_at_succ
theorem wnum_o {O:Nat->Prop} (p:Nat) (cur:List Int) (a:Option Addr) (cap:Nat) (l:List Int) (w:World) (hw:Wro O w p cur) (hr:Rd .u64 w a l) (hu:InU l) (hc:cur.length<=1099511627776) (hl:l.length<=1099511627776) :
  Calls Tryz.prog 190 #[.pointer (some ⟨p,0,none⟩),.slice a l.length cap] w fun e w'=>e=.returned (.tuple #[])/\Wro (Gro O w w') w' p (cur++encs l)/\Onl O w w':=by
 obtain ⟨i0,hi,hz0,hz1,hz2⟩:=info_parts infoU8;obtain ⟨h0,v,hob,hown⟩:=hw;obtain ⟨av,cv,hv,_⟩:=hown.form;have hT:=encs_len l;have hp:=hob.lt;have hR:=Za hr;have hO:=Za hob;have hP:=Za h0;have hW:=Za hown;have c0:=hob.cell 0;have f0:=hob.frozen 0;simp only [List.getElem?_cons_zero] at c0;subst hv;have hbd:Below w.heap.size w w.drew:=(Below.refl _ _).drew;clear hown hob hr h0;go_enter Tryz.func190,Tryz.ntmps190
 go_wp2
 go_region_law (first
  | (refine step_append_rdo (by rfl) _ _ 41 (by rfl) 5 i0 (.int .u8 0) 1 Tryz.underlying41 hi hz0 hz1 hz2 rfl .u8 _ cur (by rfl) hW1.out a1 c1 (encs l) (by rfl) hR1.out hN1.out (by unfold maxLen;omega) (by omega) ?_;intro v2 w2 hown2 hgrow2;obtain ⟨a2,c2,hv2,_⟩:=hown2.form;subst hv2;obtain ⟨k1,k2,k3,k4⟩:=wro_step hP.out hO.out hW.out hb1 hgrow2 hown2;have K3:=Za (k3 rfl);have K4:=Za k4;simp only [List.length_append] at K4 K3;clear hown2 hgrow2 k3 k4)
  | (go_simp;first
   | (go_at_call 211;refine (lput_any none 0 [] a cap l w.drew (Rd.nil _ _ _) (fun _=>rfl) (hR.out.below hbd) hu (by simp) hl).mono ?_;rintro e w1 ⟨v1,rfl,hown1,hb1'⟩;have hb1:Below w.heap.size w w1:=hbd.trans hb1';have hs1:=hb1.size;rw [List.nil_append] at hown1;obtain ⟨a1,c1,hv1,_,hn1⟩:=own_form hown1;subst hv1;have hR1:=Za (Rd.own hown1).1;have hN1:=Za hn1;have hW1:Hid (Row (fun g=>(Value.slice av cur.length cv).ownBlock=some g) w1 5 1 (.slice av cur.length cv) cur.length (cur.map (Value.int .u8))):=Za ⟨(hW.out.onl (F:=fun _=>False) (Onl.ofBelow hb1) (fun _ _ q=>q)).1,fun g hg=>hg⟩;have d0:=(hb1.cell (p:=⟨p,0,none⟩) hp).trans c0;have g0:=(hb1.frozen (p:=⟨p,0,none⟩) hp).trans f0;clear hown1 hb1' hn1)))
 all_goals
  go_wp2;go_returns
  exact ⟨rfl,K3.out,K4.out⟩
theorem wnum_one_o {O:Nat->Prop} (p:Nat) (cur:List Int) (n:Int) (w:World) (q:Nat) (hq:q=w.heap.size) (hw:Wro O w p cur) (h0:0<=n) (h1:n<=18446744073709551615) (hc:cur.length<=1099511627776) :
  Calls Tryz.prog 190 #[.pointer (some ⟨p,0,none⟩),.slice (some ⟨q,0,none⟩) 1 1] (w.alloc (.cells #[.int .u64 n] 27)) fun e w'=>e=.returned (.tuple #[])/\Wro (Gro O w w') w' p (cur++enc n.toNat)/\Onl O w w':=by
 subst hq;have hb:Below w.heap.size w (w.alloc (.cells #[.int .u64 n] 27)):=(Below.refl _ _).alloc (Nat.le_refl _) _;refine (wnum_o p cur (some ⟨w.heap.size,0,none⟩) 1 [n] _ (hw.old hb) (rd_lit1 _ _ _ _) (by intro z hz;simp at hz;omega) hc (by simp)).mono ?_;rintro e w' ⟨rfl,h2,h3⟩;rw [encs_one] at h2;have z:=h3.size;simp at z
 exact ⟨rfl,h2.mono (fun i y=>y.elim .inl (fun t=>.inr ⟨by have:=t.1;simp at this;omega,t.2⟩)),(Onl.ofBelow hb).trans h3⟩
theorem wnum_two_o {O:Nat->Prop} (p:Nat) (cur:List Int) (n m:Int) (w:World) (q:Nat) (hq:q=w.heap.size) (hw:Wro O w p cur) (h0:0<=n) (h1:n<=18446744073709551615) (h2:0<=m) (h3:m<=18446744073709551615) (hc:cur.length<=1099511627776) :
  Calls Tryz.prog 190 #[.pointer (some ⟨p,0,none⟩),.slice (some ⟨q,0,none⟩) 2 2] (w.alloc (.cells #[.int .u64 n,.int .u64 m] 27)) fun e w'=>e=.returned (.tuple #[])/\Wro (Gro O w w') w' p (cur++(enc n.toNat++enc m.toNat))/\Onl O w w':=by
 subst hq;have hb:Below w.heap.size w (w.alloc (.cells #[.int .u64 n,.int .u64 m] 27)):=(Below.refl _ _).alloc (Nat.le_refl _) _;refine (wnum_o p cur (some ⟨w.heap.size,0,none⟩) 2 [n,m] _ (hw.old hb) (rd_lit2 _ _ _ _ _) (by intro z hz;simp at hz;omega) hc (by simp)).mono ?_;rintro e w' ⟨rfl,k2,k3⟩;have z:=k3.size;simp at z
 have e2:encs [n,m]=enc n.toNat++enc m.toNat:=by simp [encs]
 rw [e2] at k2;exact ⟨rfl,k2.mono (fun i y=>y.elim .inl (fun t=>.inr ⟨by have:=t.1;simp at this;omega,t.2⟩)),(Onl.ofBelow hb).trans k3⟩
attribute [local go_sem ↓] Apo.app_exec
theorem wtext_o {O:Nat->Prop} (p:Nat) (cur:List Int) (s:ByteArray) (w:World) (hw:Wro O w p cur) (hc:cur.length+s.size<=100000000000) :
  Calls Tryz.prog 191 #[.pointer (some ⟨p,0,none⟩),.string s] w fun e w'=>e=.returned (.tuple #[])/\Wro (Gro O w w') w' p (cur++(enc s.size++nums s))/\Onl O w w':=by
 have hW:=Za hw;have hp:=hw.lt;have hel:=enc_len s.size;clear hw;go_enter Tryz.func191,Tryz.ntmps191
 go_wp2_with fail
 refine (wnum_one_o p cur s.size w _ rfl hW.out (by omega) (by omega) (by omega)).mono ?_;rintro e w1 ⟨rfl,⟨hp1,v,hob,hown⟩,o1⟩;simp only [Int.toNat_natCast] at hown;obtain ⟨av,cv,hv,_⟩:=hown.form;subst hv;have hown':Row (fun g=>(Value.slice av (cur++enc s.size).length cv).ownBlock=some g) w1 5 1 (.slice av (cur++enc s.size).length cv) (cur++enc s.size).length ((cur++enc s.size).map (Value.int .u8)):=⟨hown.1,fun g hg=>hg⟩;obtain ⟨v2,w2,RR,r2,o2⟩:=app_txt hown' (by rw [List.length_append];omega) s (by rw [List.length_append];omega);obtain ⟨k1,k2,k3,k4⟩:=wro_step hp1 hob hown (Below.refl _ _) o2 r2;have c0:=hob.cell 0;have f0:=hob.frozen 0;simp only [List.getElem?_cons_zero] at c0;have z1:=o1.size;have z2:=o2.size
 have K3:Hid (Wro (Gro O w (w2.setCell ⟨p,0,none⟩ v2)) (w2.setCell ⟨p,0,none⟩ v2) p (cur++(enc s.size++nums s))):=by
  refine Za ?_;rw [<- List.append_assoc];refine (k3 rfl).mono (fun i y=>?_);rcases y with (y | y) | y
  ·exact .inl y
  ·exact .inr ⟨y.1,by have:=k4.size;omega⟩
  ·exact .inr ⟨by omega,y.2⟩
 have K4:Hid (Onl O w (w2.setCell ⟨p,0,none⟩ v2)):=Za (o1.more k4 (fun i y=>y.elim .inl (fun t=>.inr t.1)));obtain ⟨a2,c2,hv2,_⟩:=r2.form;subst hv2;obtain ⟨s1,s2,s3⟩:=Zi RR;obtain ⟨L1,hL1⟩:∃ L1,L1=(cur++enc s.size).length:=⟨_,rfl⟩;obtain ⟨L2,hL2⟩:∃ L2,L2=(cur++enc s.size++nums s).length:=⟨_,rfl⟩;rw [<- hL1] at c0 k1 s1 s2 s3;rw [<- hL2] at s2 K3 K4;clear hown hown' hob RR r2 o2 o1 k3 k4 hL1 hL2 hp1 z1 z2;go_wp2;go_returns
 exact ⟨rfl,K3.out,K4.out⟩
end
theorem enc_nth:∀ (i n:Nat),n < top->i < (enc n).length ->
  (i=0\/1<=n / 128 ^ i)/\(n / 128 ^ i < 128->(enc n)[i]?=some ((n / 128 ^ i:Nat):Int)/\(enc n).length=i+1) /\
  (128<=n / 128 ^ i->(enc n)[i]?=some ((n / 128 ^ i % 128+128:Nat):Int)/\i+1 < (enc n).length)
 | 0,n,hn,_=>by
  refine ⟨.inl rfl,fun h=>?_,fun h=>?_⟩
  ·simp only [Nat.pow_zero,Nat.div_one] at h ⊢;rw [enc_lt h];simp
  ·simp only [Nat.pow_zero,Nat.div_one] at h ⊢;rw [enc_ge h hn];have:=enc_len (n / 128);simp only [List.getElem?_cons_zero,List.length_cons,true_and];omega
 | i+1,n,hn,hi=>by
  have hge:128<=n:=by
   rcases Nat.lt_or_ge n 128 with h | h
   ·rw [enc_lt h] at hi;simp at hi
   ·exact h
  rw [enc_ge hge hn] at hi ⊢;have ih:=enc_nth i (n / 128) (by unfold top at *;omega) (by simpa using hi);have e:n / 128 ^ (i+1)=n / 128 / 128 ^ i:=by rw [Nat.pow_succ,Nat.div_div_eq_div_mul,Nat.mul_comm]
  rw [e];refine ⟨.inr ?_,fun h=>?_,fun h=>?_⟩
  ·rcases ih.1 with h | h
   ·subst h;simp only [Nat.pow_zero,Nat.div_one];omega
   ·exact h
  ·have:=ih.2.1 h;simp only [List.getElem?_cons_succ,List.length_cons];exact ⟨this.1,by omega⟩
  ·have:=ih.2.2 h;simp only [List.getElem?_cons_succ,List.length_cons];exact ⟨this.1,by omega⟩
theorem andNot128 {z:Int} (h0:0<=z) (h1:z<=255):bits .andNot .u8 z 128=z % 128:=by
 obtain ⟨n,rfl⟩:=Int.eq_ofNat_of_zero_le h0;have e2:=u8_andNot_nat n 128 (by omega) (by omega)
 have e3:(n &&& (255 - 128))=n % 128:=by
  have:∀ q:Fin 256,(q.1 &&& (255 - 128))=q.1 % 128:=by decide +kernel
  exact this ⟨n,by omega⟩
 rw [e3] at e2;exact e2.trans (by omega)
theorem or_step {n k:Nat} {z A:Int} (hn:n < top) (h0:0<=z) (h1:z<=255) (hA:A=((n % 128 ^ k:Nat):Int)) (hz:z % 128=((n / 128 ^ k % 128:Nat):Int)) :
  bits .or .u64 A (IntKind.u64.wrap (IntKind.u64.wrap (bits .andNot .u8 z 128) * 2 ^ (7 * k)))=((n % 128 ^ (k+1):Nat):Int):=by
 rw [andNot128 h0 h1,hz,hA];have hp:(128:Nat) ^ k=2 ^ (7 * k):=by rw [show (128:Nat)=2 ^ 7 from rfl,<- Nat.pow_mul]
 have hpi:((2:Int) ^ (7 * k))=((128 ^ k:Nat):Int):=by rw [hp];simp
 have hpos:0 < 128 ^ k:=Nat.pow_pos (by decide);rw [hpi];have hlt:n % 128 ^ k < 128 ^ k:=Nat.mod_lt _ hpos;have e1:n % 128 ^ (k+1)=n % 128 ^ k+128 ^ k * (n / 128 ^ k % 128):=Nat.mod_pow_succ;have hle:n % 128 ^ (k+1)<=n:=Nat.mod_le _ _;generalize hd:n / 128 ^ k % 128=d at *;have hd128:d < 128:=by omega
 have w1:IntKind.u64.wrap (d:Int)=(d:Int):=by rw [IntKind.wrap_u64];omega
 have e4:(d:Int) * ((128 ^ k:Nat):Int)=((128 ^ k * d:Nat):Int):=by rw [Nat.mul_comm];simp
 rw [w1,e4];generalize hA2:n % 128 ^ k=A2 at *;have hlt2:128 ^ k * d < top:=by omega
 have w2:IntKind.u64.wrap ((128 ^ k * d:Nat):Int)=((128 ^ k * d:Nat):Int):=by
  rw [IntKind.wrap_u64];unfold top at hlt2;omega
 rw [w2,u64_or_nat _ _ (by unfold top at *;omega) (by unfold top at *;omega)];rw [e1]
 have e5:A2 ||| 128 ^ k * d=A2+128 ^ k * d:=by
  rw [hp] at hlt ⊢;have:=Nat.two_pow_add_eq_or_of_lt hlt d;rw [Nat.or_comm,<- this,Nat.add_comm]
 rw [e5]
theorem ret3 {k1 k2 k3:IntKind} {a b c a' b' c':Int} (h1:a=a') (h2:b=b') (h3:c=c') :
  Ending.returned (.tuple #[.int k1 a,.int k2 b,.int k3 c])=.returned (.tuple #[.int k1 a',.int k2 b',.int k3 c']):=by rw [h1,h2,h3]
theorem of_at {l r:List Int} {n k:Nat} {z:Int} (hn:n < top) (he:l=enc n++r) (hk:k < (enc n).length) (hz:l[k]?=some z) :
  0<=z/\z<=255/\(k=0\/1<=n / 128 ^ k)/\z % 128=((n / 128 ^ k % 128:Nat):Int)/\(z < 128->z=((n / 128 ^ k:Nat):Int)/\(enc n).length=k+1/\n % 128 ^ (k+1)=n)/\(128<=z->k+1 < (enc n).length):=by
 have h:=enc_nth k n hn hk;have hzz:(enc n)[k]?=some z:=by rw [he,List.getElem?_append_left hk] at hz;exact hz
 have hb:=enc_byte hn z (List.mem_of_getElem? hzz);refine ⟨hb.1,hb.2,h.1,?_,fun hlt=>?_,fun hge=>?_⟩
 ·rcases Nat.lt_or_ge (n / 128 ^ k) 128 with hm | hm
  ·have:=(h.2.1 hm).1;rw [hzz] at this;cases this;omega
  ·have:=(h.2.2 hm).1;rw [hzz] at this;cases this;omega
 ·rcases Nat.lt_or_ge (n / 128 ^ k) 128 with hm | hm
  ·have h2:=(h.2.1 hm);have:=h2.1;rw [hzz] at this;cases this;refine ⟨rfl,h2.2,?_⟩;refine Nat.mod_eq_of_lt ?_;rw [Nat.pow_succ];exact (Nat.div_lt_iff_lt_mul (Nat.pow_pos (by decide))).1 hm |> fun q=>by rw [Nat.mul_comm] at q;exact q
  ·have:=(h.2.2 hm).1;rw [hzz] at this;cases this;omega
 ·rcases Nat.lt_or_ge (n / 128 ^ k) 128 with hm | hm
  ·have:=(h.2.1 hm).1;rw [hzz] at this;cases this;omega
  ·exact (h.2.2 hm).2
theorem of_nine {n k:Nat} (hn:n < top) (hk:k=9) (h1:1<=n / 128 ^ k):n / 128 ^ k=1:=by
 subst hk;have:(128:Nat) ^ 9=9223372036854775808:=by decide
 rw [this] at *;unfold top at hn;omega
theorem of_yes (a : Option Addr) (cap : Nat) (l : List Int) (n : Nat) (r : List Int) (w : World) (hr : Rd .u8 w a l) (hn : n < top) (he : l = enc n ++ r) :
    Calls Tryz.prog 178 #[.slice a l.length cap] w fun e w' => e = .returned (.tuple #[.int .u64 n, .int .i64 ((enc n).length : Nat), .int .i64 0]) /\ w = w' := by
  have hR : Hid (Rd .u8 w a l) := hr;have HE : Hid (l = enc n ++ r) := he;have hlen : (enc n).length <= l.length := by rw [he];simp
  have hel := enc_len n;clear hr he;go_enter Tryz.func178, Tryz.ntmps178
  go_wp2;go_loop [2, 5] (fun t i => ∃ k : Nat, k < (enc n).length /\ i = .int .i64 k /\ ∃ A : Int, Hid (A = ((n % 128 ^ k : Nat) : Int)) /\ t = .int .u64 A) (fun _ i => 10 - (intOf i).toNat)
  case atStart => exact ⟨0, by omega, rfl, 0, by show (0 : Int) = _;simp [Nat.mod_one], rfl⟩
  case round =>
    obtain ⟨k, hk, rfl, A, hA, rfl⟩ := hrel;obtain ⟨b, off, z, rfl, hc, hz, _⟩ := hR.out.at (i := k) (by omega);obtain ⟨z0, z1, hpos, hzm, hzs, hzc⟩ := of_at hn HE.out hk hz.out;have HS : Hid (bits .or .u64 A (IntKind.u64.wrap (IntKind.u64.wrap (bits .andNot .u8 z 128) * 2 ^ (7 * k))) = ((n % 128 ^ (k + 1) : Nat) : Int)) := or_step hn z0 z1 hA.out hzm;by_cases hge : 128 <= z
    · have hk1 := hzc hge
      clear hzs hzc hpos hzm hz;go_wp2_with fail
      go_round
      case rel => exact ⟨k + 1, by omega, by go_num, _, HS, rfl⟩
      case measure => simp [intOf];omega
    · have H3 : Hid (z = ((n / 128 ^ k : Nat) : Int) /\ (enc n).length = k + 1 /\ n % 128 ^ (k + 1) = n) := hzs (by omega)
      have hd : decide (((k : Int) = 9 /\ z = 1) \/ ((k : Int) ≠ 9 /\ (z ≠ 0 \/ (k : Int) = 0))) = true := by
        rw [decide_eq_true_iff];have h3 := H3.out;by_cases h9 : k = 9
        · left
          have := of_nine hn h9 (by rcases hpos with h | h;· omega
                                    · exact h)
          omega
        · right
          refine ⟨by omega, ?_⟩;rcases hpos with h | h
          · right;omega
          · left;omega
      clear hzs hzc hpos hzm hz;go_wp2_with (go_at_call 202;refine (mayEnd_any z k _ (by omega) (by omega) (by omega) (by omega)).mono ?_;rintro e w' ⟨rfl, rfl⟩;rw [hd])
      go_ret3
      have h3 := H3.out;exact ⟨ret3 (by rw [HS.out, h3.2.2]) (by omega) rfl, rfl⟩
def NoNum (l:List Int):Prop:=∀ n r,n < top->l≠enc n++r
def InB (l:List Int):Prop:=∀ z ∈ l,0<=z/\z<=255
theorem nonum_at {l:List Int} {k:Nat} {z:Int} (hb:InB l) (hno:NoNum l) (hk:k<=9) (hz:l[k]?=some z) (hpre:∀ x ∈ l.take k,128<=x) (hlt:z < 128) :
  decide (((k:Int)=9/\z=1)\/((k:Int)≠9/\(z≠0\/(k:Int)=0)))=false:=by
 rw [decide_eq_false_iff_not];intro h;have hkl:=(List.getElem?_eq_some_iff.1 hz).1;have hz0:=hb z (List.mem_of_getElem? hz);have htl:(l.take k).length=k:=by simp;omega
 obtain ⟨n,hn,e⟩:=canon (l.take k) z (fun x hx=>⟨hpre x hx,(hb x (List.mem_of_mem_take hx)).2⟩) hz0.1 hlt (by omega) (by omega) (by rw [htl];omega);refine hno n (l.drop (k+1)) hn ?_;rw [e,<- take_snoc hz];exact (List.take_append_drop _ _).symm
theorem of_no (a:Option Addr) (cap:Nat) (l:List Int) (w:World) (hr:Rd .u8 w a l) (hl:l.length<=1099511627776) (hb:InB l) (hno:NoNum l) :
  Calls Tryz.prog 178 #[.slice a l.length cap] w fun e w'=>e=.returned (.tuple #[.int .u64 0,.int .i64 0,.int .i64 20])/\w=w':=by
 have hR:Hid (Rd .u8 w a l):=hr;have hB:Hid (InB l):=hb;have hN:Hid (NoNum l):=hno;clear hr hb hno;go_enter Tryz.func178,Tryz.ntmps178
 go_wp2;go_loop [2,5] (fun t i=>∃ k:Nat,k<=10/\k<=l.length/\i=.int .i64 k/\Hid (∀ x ∈ l.take k,128<=x)/\∃ A:Int,t=.int .u64 A) (fun _ i=>10 - (intOf i).toNat)
 case atStart=>exact ⟨0,by omega,by omega,rfl,by intro x hx;simp at hx,0,rfl⟩
 case round =>
  obtain ⟨k,hk,hk2,rfl,hpre,A,rfl⟩:=hrel;by_cases hlt:k < l.length
  ·by_cases h10:k < 10
   ·obtain ⟨b,off,z,rfl,hc,hz,hm⟩:=hR.out.at hlt;obtain ⟨z0,z1⟩:=hB.out z hm;clear hm;by_cases hge:128<=z
    ·have hpre1:Hid (∀ x ∈ l.take (k+1),128<=x):=by
      intro x hx;rw [take_snoc hz.out,List.mem_append,List.mem_singleton] at hx;rcases hx with hx | hx
      ·exact hpre.out x hx
      ·omega
     clear hz hpre;go_wp2_with fail
     go_round
     case rel=>exact ⟨k+1,by omega,by omega,by go_num,hpre1,_,rfl⟩
     case measure=>simp [intOf];omega
    ·have hd:=nonum_at hB.out hN.out (by omega) hz.out hpre.out (by omega);clear hz hpre;go_wp2_with (go_at_call 202;refine (mayEnd_any z k _ (by omega) (by omega) (by omega) (by omega)).mono ?_;rintro e w' ⟨rfl,rfl⟩;rw [hd])
     go_ret3
     exact ⟨rfl,rfl⟩
   ·go_wp2;go_ret3
    exact ⟨rfl,rfl⟩
  ·have hd:decide ((k:Int) < (l.length:Int))=false:=by simp;omega
   go_wp2;go_ret3
   exact ⟨rfl,rfl⟩
end Go.Proofs.YtdhebpnkfookcaaGreat
