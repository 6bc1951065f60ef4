import Derived.Test.YtdhebpnkfookcaaGreatSM26
set_option maxRecDepth 100000
set_option maxHeartbeats 1000000
namespace Go.Proofs.YtdhebpnkfookcaaGreat
section
open Go.RowKit Apo
open Classical in
noncomputable def num1 (l:List Int):Option (Nat × List Int):=if h:∃ x:Nat × List Int,x.1 < top/\l=enc x.1++x.2 then some (Classical.choose h) else none
theorem num1_yes {n:Nat} {r l:List Int} (hn:n < top) (hl:l=enc n++r):num1 l=some (n,r):=by
 have h:∃ x:Nat × List Int,x.1 < top/\l=enc x.1++x.2:=⟨(n,r),hn,hl⟩;rw [num1,dif_pos h];have hc:=Classical.choose_spec h;obtain ⟨e1,e2⟩:=enc_prefix hc.1 hn (hc.2.symm.trans hl);congr 1
 exact Prod.ext e1 e2
theorem num1_no {l:List Int} (h:NoNum l):num1 l=none:=by
 rw [num1,dif_neg];rintro ⟨⟨n,r⟩,h1,h2⟩;exact h n r h1 h2
theorem num1_cases (l:List Int):(∃ n r,n < top/\l=enc n++r/\num1 l=some (n,r))\/(NoNum l/\num1 l=none):=by
 by_cases h:∃ n r,n < top/\l=enc n++r
 ·obtain ⟨n,r,h1,h2⟩:=h;exact Or.inl ⟨n,r,h1,h2,num1_yes h1 h2⟩
 ·have hn:NoNum l:=fun n r h1 h2=>h ⟨n,r,h1,h2⟩
  exact Or.inr ⟨hn,num1_no hn⟩
abbrev St:=Option (List Int)
noncomputable def Zr (st:St) (most:Int):Int × St :=
 match st with
 | none=>(0,none)
 | some l=>match num1 l with
  | some (n,r)=>if (n:Int)<=most then (n,some r) else (0,none)
  | none=>(0,none)
noncomputable def ZF (st:St) (most:Int):List Int × St :=
 if most < 0 then ([],none) else
 match Zr st most with
 | (n,some r)=>if n<=r.length then (r.take n.toNat,some (r.drop n.toNat)) else ([],none)
 | (_,none)=>([],none)
def Rr (w:World) (p:Nat) (t:TypeId) (g:Nat):St->Prop
 | none=>Ob w p t [.slice none 0 0,.bool true]
 | some l=>∃ a cap,Ob w p t [.slice a l.length cap,.bool false]/\Rd .u8 w a l/\l.length<=cap/\(a=none->cap=0)/\(∀ x,a=some x->0 < l.length->x.block=g/\x.block≠p/\x.block < w.heap.size)/\InB l/\l.length<=1099511627776
theorem Rr.ob {w:World} {p g:Nat} {t:TypeId} {st:St} (h:Rr w p t g st):∃ c0 c1,Ob w p t [c0,c1]:=by
 cases st with
 | none=>exact ⟨_,_,h⟩
 | some l=>obtain ⟨a,cap,h,_⟩:=h;exact ⟨_,_,h⟩
theorem Rr.lt {w:World} {p g:Nat} {t:TypeId} {st:St} (h:Rr w p t g st):p < w.heap.size:=by
 obtain ⟨_,_,h⟩:=h.ob;exact h.lt
theorem Rr.kept {w w':World} {p g:Nat} {t:TypeId} {st:St} {row:Option Nat} (h:Rr w p t g st) (hg:w.grownBy w' row) (hp:row≠some p) (hr:row≠some g):Rr w' p t g st:=by
 cases st with
 | none=>exact Ob.kept h hg hp
 | some l =>
  obtain ⟨a,cap,h1,h2,h3,h4,h5,h6,h7⟩:=h;exact ⟨a,cap,h1.kept hg hp,h2.grew hg (fun x hx h0=>by rw [(h5 x hx h0).1];exact hr),h3,h4,fun x hx h0=>⟨(h5 x hx h0).1,(h5 x hx h0).2.1,Nat.lt_of_lt_of_le (h5 x hx h0).2.2 hg.size⟩,h6,h7⟩
theorem Rr.old {w w':World} {p g:Nat} {t:TypeId} {st:St} (h:Rr w p t g st) (hb:Below w.heap.size w w'):Rr w' p t g st :=
 h.kept (Zm none hb) (by simp) (by simp)
theorem Rr.drop {w:World} {p g:Nat} {t:TypeId} {b off cap:Nat} {l:List Int} {k:Nat} {a:Addr} {c:Nat} (h1:Ob w p t [.slice (some ⟨b,off,none⟩) l.length cap,.bool false]) (h2:Rd .u8 w (some ⟨b,off,none⟩) l)
  (h5:∀ x,some (⟨b,off,none⟩:Addr)=some x->0 < l.length->x.block=g/\x.block≠p/\x.block < w.heap.size) (h6:InB l) (h7:l.length<=1099511627776) (hk:k<=l.length) (ha:a=⟨b,off+k,none⟩\/(k=l.length/\a=⟨b,off,none⟩)) (hc:l.length - k<=c) :
  Rr (w.setCell ⟨p,0,none⟩ (.slice (some a) (l.length - k) c)) p t g (some (l.drop k)):=by
 have hab:a.block=b:=by rcases ha with rfl | ⟨_,rfl⟩ <;> rfl
 have h5':=h5 _ rfl;have hl0:0 < (l.drop k).length->0 < l.length:=fun h=>by rw [List.length_drop] at h;omega
 have hR:Rd .u8 w (some a) (l.drop k):=by
  rcases ha with rfl | ⟨rfl,rfl⟩
  ·exact rd_drop h2
  ·rw [List.drop_length];exact Rd.nil _ _ _
 refine ⟨some a,c,?_,hR.grew (Zv w p 0 _) (fun x hx h0=>?_),by rw [List.length_drop];exact hc,by simp,fun x hx h0=>?_,fun z hz=>h6 z (List.mem_of_mem_drop hz),by rw [List.length_drop];omega⟩
 ·rw [List.length_drop];exact h1.set 0 _
 ·cases hx;rw [hab];intro e;cases e;exact (h5' (hl0 h0)).2.1 rfl
 ·cases hx;rw [hab];exact ⟨(h5' (hl0 h0)).1,(h5' (hl0 h0)).2.1,by simpa [World.setCell] using (h5' (hl0 h0)).2.2⟩
theorem Rr.again {w:World} {p g:Nat} {t:TypeId} {a:Option Addr} {cap:Nat} (h1:Ob w p t [.slice a 0 cap,.bool false]) (h4:a=none->cap=0) :
  Rr (w.setCell ⟨p,0,none⟩ (.slice a 0 cap)) p t g (some []) :=
 ⟨a,cap,h1.set 0 _,Rd.nil _ _ _,by simp,h4,fun x _ h0=>absurd h0 (by simp),by intro z hz;simp at hz,by simp⟩
theorem rfail_any (p g:Nat) (c0 c1:Value) (w:World) (h:Ob w p 224 [c0,c1]) :
  Calls Tryz.prog 179 #[.pointer (some ⟨p,0,none⟩)] w fun e w'=>e=.returned (.tuple #[])/\Rr w' p 224 g none/\w.grownBy w' (some p):=by
 have k0:=h.cell 0;have k1:=h.cell 1;have f0:=h.frozen 0;have f1:=h.frozen 1;simp only [List.getElem?_cons_zero,List.getElem?_cons_succ] at k0 k1;have HR:Hid (Rr ((w.setCell ⟨p,0,none⟩ (.slice none 0 0)).setCell ⟨p,1,none⟩ (.bool true)) p 224 g none):=(h.set 0 (.slice none 0 0)).set 1 (.bool true);have HG:=Za (Ze (Zv w p 0 (.slice none 0 0)) (Zv _ p 1 (.bool true)));clear h;go_enter Tryz.func179,Tryz.ntmps179
 go_wp2;go_returns
 exact ⟨rfl,HR,HG⟩
theorem rdnum_any (p g:Nat) (st:St) (most:Int) (w:World) (h:Rr w p 224 g st) :
  Calls Tryz.prog 131 #[.pointer (some ⟨p,0,none⟩),.int .u64 most] w fun e w'=>e=.returned (.int .u64 (Zr st most).1)/\Rr w' p 224 g (Zr st most).2/\w.grownBy w' (some p):=by
 have hfail:∀ c0 c1,Ob w p 224 [c0,c1]->Hid (Calls Tryz.prog 179 #[.pointer (some ⟨p,0,none⟩)] w fun e w'=>e=.returned (.tuple #[])/\Rr w' p 224 g none/\w.grownBy w' (some p)):=fun c0 c1 hh=>rfail_any p g c0 c1 w hh
 cases st with
 | none =>
  have hno:NoNum []:=by
   intro n r _ e;have:=congrArg List.length e;have:=enc_len n;simp at *
   omega
  have HF:=hfail _ _ h;have c0:=Ob.cell h 0;simp only [List.getElem?_cons_zero] at c0;have HC:=Za (of_no none 0 [] w (Rd.nil _ _ _) (by simp) (by intro z hz;simp at hz) hno);clear hfail h;go_enter Tryz.func131,Tryz.ntmps131
  go_wp2_with fail
  refine HC.out.mono ?_;rintro e w1 ⟨rfl,rfl⟩;go_wp2_with fail
  refine HF.out.mono ?_;rintro e w2 ⟨rfl,r1,r2⟩;go_wp2;go_ret
  exact ⟨rfl,r1,r2⟩
 | some l =>
  obtain ⟨a,cap,k1,k2,k3,k4,k5,k6,k7⟩:=h;rcases num1_cases l with ⟨n,r,g1,g2,g3⟩ | ⟨g2,g3⟩
  ·have hel:=enc_len n;have hnt:(n:Int)<=18446744073709551615:=by unfold top at g1;omega
   have HC:=Za (of_yes a cap l n r w k2 g1 g2);have c0:=Ob.cell k1 0;have f0:=Ob.frozen k1 0;simp only [List.getElem?_cons_zero] at c0;have HF:=hfail _ _ k1;by_cases hm:(n:Int)<=most
   ·have HV:Hid (Zr (some l) most=((n:Int),some r)):=by show _=_;simp [Zr,g3,hm]
    have hll:l.length=(enc n).length+r.length:=by rw [g2,List.length_append]
    obtain ⟨b,off,rfl,_⟩:=k2 0 (by omega);have K1:=Za k1;have K2:=Za k2;have K5:=Za k5;have K6:=Za k6;have G2:=Za g2;have hR:Hid (l.drop (enc n).length=r):=by show _=_;rw [g2,List.drop_left]
    have hql:(enc n).length<=l.length:=by omega
    clear hfail HF hll k1 k2 k4 k5 k6 g2 g3;generalize (enc n).length=q at *;go_enter Tryz.func131,Tryz.ntmps131
    go_wp2_with fail
    refine HC.out.mono ?_;rintro e w1 ⟨rfl,rfl⟩;clear HC;go_wp2;rotate_left
    ·go_ret
     rw [HV.out];refine ⟨rfl,?_,Zv _ _ _ _⟩;have:=Rr.drop (k:=q) (a:=⟨b,off+q,none⟩) (c:=cap - q) K1.out K2.out K5.out K6.out k7 hql (Or.inl rfl) (by omega);rw [hR.out] at this;exact this
    ·go_ret
     rw [HV.out];refine ⟨rfl,?_,Zv _ _ _ _⟩;have:=Rr.drop (k:=q) (a:=⟨b,off,none⟩) (c:=0) K1.out K2.out K5.out K6.out k7 hql (Or.inr ⟨by omega,rfl⟩) (by omega);rw [hR.out] at this;exact this
   ·have HV:Hid (Zr (some l) most=(0,none)):=by show _=_;simp [Zr,g3,hm]
    clear hfail k1 k2 k4 k5 k6 g2 g3;generalize (enc n).length=q at *;go_enter Tryz.func131,Tryz.ntmps131
    go_wp2_with fail
    refine HC.out.mono ?_;rintro e w1 ⟨rfl,rfl⟩;clear HC;go_wp2_with fail
    refine HF.out.mono ?_;rintro e w2 ⟨rfl,r1,r2⟩;go_wp2;go_ret
    rw [HV.out];exact ⟨rfl,r1,r2⟩
  ·have HF:=hfail _ _ k1;have c0:=Ob.cell k1 0;simp only [List.getElem?_cons_zero] at c0;have HC:=Za (of_no a cap l w k2 k7 k6 g2);have HV:Hid (Zr (some l) most=(0,none)):=by show _=_;simp [Zr,g3]
   clear hfail k1 k2 k4 k5 k6 g2 g3;go_enter Tryz.func131,Tryz.ntmps131
   go_wp2_with fail
   refine HC.out.mono ?_;rintro e w1 ⟨rfl,rfl⟩;go_wp2_with fail
   refine HF.out.mono ?_;rintro e w2 ⟨rfl,r1,r2⟩;go_wp2;go_ret
   rw [HV.out];exact ⟨rfl,r1,r2⟩
theorem left_of {w:World} {p g:Nat} {t:TypeId} {st:St} (h:Rr w p t g st):∃ a cap,Ob w p t [.slice a (st.getD []).length cap,.bool st.isNone]:=by
 cases st with
 | none=>exact ⟨none,0,h⟩
 | some l=>obtain ⟨a,cap,h,_⟩:=h;exact ⟨a,cap,h⟩
theorem rdleft_any (p g:Nat) (st:St) (w:World) (h:Rr w p 224 g st) :
  Calls Tryz.prog 197 #[.pointer (some ⟨p,0,none⟩)] w fun e w'=>e=.returned (.int .i64 ((st.getD []).length:Nat))/\w=w':=by
 obtain ⟨a,cap,ho⟩:=left_of h;have c0:=ho.cell 0;simp only [List.getElem?_cons_zero] at c0;clear h ho;go_enter Tryz.func197,Tryz.ntmps197
 go_wp2;go_ret
 exact ⟨rfl,rfl⟩
theorem rddone_any (p g:Nat) (st:St) (w:World) (h:Rr w p 224 g st) :
  Calls Tryz.prog 117 #[.pointer (some ⟨p,0,none⟩)] w fun e w'=>e=.returned (.bool (decide (st=some [])))/\w=w':=by
 obtain ⟨a,cap,ho⟩:=left_of h;have c0:=ho.cell 0;have c1:=ho.cell 1;simp only [List.getElem?_cons_zero,List.getElem?_cons_succ] at c0 c1;clear h ho;cases st with
 | none =>
  go_enter Tryz.func117,Tryz.ntmps117
  go_wp2;go_ret
  exact ⟨rfl,rfl⟩
 | some l =>
  simp only [Option.isNone_some,Option.getD_some] at c0 c1;go_enter Tryz.func117,Tryz.ntmps117
  go_wp2;go_ret
  refine ⟨?_,rfl⟩;cases l <;> simp
  omega
theorem rnum_le {st:St} {most n:Int} {r:List Int} (h:Zr st most=(n,some r)):0<=n/\n<=most:=by
 cases st with
 | none=>simp [Zr] at h
 | some l =>
  rcases num1_cases l with ⟨m,q,_,_,g⟩ | ⟨_,g⟩
  ·by_cases hm:(m:Int)<=most
   ·simp [Zr,g,hm] at h;omega
   ·simp [Zr,g,hm] at h
  ·simp [Zr,g] at h
theorem rnum_bad {st:St} {most n:Int} (h:Zr st most=(n,none)):n=0:=by
 cases st with
 | none=>simp [Zr] at h;omega
 | some l =>
  rcases num1_cases l with ⟨m,q,_,_,g⟩ | ⟨_,g⟩
  ·by_cases hm:(m:Int)<=most
   ·simp [Zr,g,hm] at h
   ·simp [Zr,g,hm] at h;omega
  ·simp [Zr,g] at h;omega
theorem rdtext_any (p g:Nat) (st:St) (most:Int) (w:World) (h:Rr w p 224 g st) (h1:most<=9223372036854775807) :
  Calls Tryz.prog 132 #[.pointer (some ⟨p,0,none⟩),.int .i64 most] w fun e w'=>e=.returned (.string (strOfNums (ZF st most).1))/\Rr w' p 224 g (ZF st most).2/\w.grownBy w' (some p):=by
 by_cases hm:most < 0
 ·obtain ⟨c0,c1,ho⟩:=h.ob;have HF:=Za (rfail_any p g c0 c1 w ho);have HV:Hid (ZF st most=([],none)):=by show _=_;simp [ZF,hm]
  clear h ho;go_enter Tryz.func132,Tryz.ntmps132
  go_wp2_with fail
  refine HF.out.mono ?_;rintro e w2 ⟨rfl,r1,r2⟩;go_wp2;go_ret
  rw [HV.out];exact ⟨rfl,r1,r2⟩
 ·have HC:=Za (rdnum_any p g st most w h);have hmt:most.toNat=most:=by omega
  have hm0:0<=most:=by omega
  clear h;rcases hv:Zr st most with ⟨n,_ | r⟩
  ·have hn:=rnum_bad hv;subst hn;have HV:Hid (ZF st most=([],none)):=by show _=_;simp [ZF,hm,hv]
   rw [hv] at HC;clear hv hmt;go_enter Tryz.func132,Tryz.ntmps132
   go_wp2_with fail
   refine HC.out.mono ?_;rintro e w1 ⟨rfl,r1,r2⟩;have c0:=Ob.cell r1 0;have f0:=Ob.frozen r1 0;simp only [List.getElem?_cons_zero] at c0;have R1:=Za r1;have R2:=Za r2;clear HC r1 r2;have cv:=(Rd.nil .u8 w1 none).conv 41 5 9 Tryz.underlying41 Tryz.underlying5 Tryz.underlying9 0;simp only [List.length_nil] at cv;go_wp2;go_ret
   rw [HV.out];exact ⟨rfl,Ob.set R1.out 0 _,Ze R2.out (Zv _ _ _ _)⟩
  ·have hn:=rnum_le hv;rw [hv] at HC;by_cases hnr:n<=r.length
   ·have HV:Hid (ZF st most=(r.take n.toNat,some (r.drop n.toNat))):=by show _=_;simp [ZF,hm,hv,hnr]
    clear hv hmt;obtain ⟨k,rfl⟩:=Int.eq_ofNat_of_zero_le hn.1;simp only [Int.toNat_natCast] at HV;have hkr:k<=r.length:=by omega
    by_cases hr0:r.length=0
    ·have hr1:r=[]:=List.eq_nil_of_length_eq_zero hr0;have hk0:k=0:=by omega
     subst hr1 hk0;clear hr0 hnr hkr;go_enter Tryz.func132,Tryz.ntmps132
     go_wp2_with fail
     refine HC.out.mono ?_;rintro e w1 ⟨rfl,⟨a,cap,k1,k2,k3,k4,k5,k6,k7⟩,r2⟩;have c0:=Ob.cell k1 0;have f0:=Ob.frozen k1 0;simp only [List.getElem?_cons_zero,List.length_nil] at c0;have cv:=(Rd.nil .u8 w1 a).conv 41 5 9 Tryz.underlying41 Tryz.underlying5 Tryz.underlying9;simp only [List.length_nil] at cv;have K1:=Za k1;have K4:=Za k4;have K5:=Za k5;have R2:=Za r2;clear HC k1 k2 k4 k5 k6 k7 r2;cases a with
     | none =>
      have hcap:=K4.out rfl;subst hcap;go_wp2;go_ret
      rw [HV.out];exact ⟨rfl,Rr.again K1.out (by simp),Ze R2.out (Zv _ _ _ _)⟩
     | some x =>
      go_wp2;go_ret
      rw [HV.out];exact ⟨rfl,Rr.again K1.out (by simp),Ze R2.out (Zv _ _ _ _)⟩
    ·clear hnr;go_enter Tryz.func132,Tryz.ntmps132
     go_wp2_with fail
     refine HC.out.mono ?_;rintro e w1 ⟨rfl,⟨a,cap,k1,k2,k3,k4,k5,k6,k7⟩,r2⟩;obtain ⟨b,off,rfl,_⟩:=k2 0 (by omega);have c0:=Ob.cell k1 0;have f0:=Ob.frozen k1 0;simp only [List.getElem?_cons_zero] at c0;have cv:=(Rd.take k2 k).conv 41 5 9 Tryz.underlying41 Tryz.underlying5 Tryz.underlying9;simp only [List.length_take,Nat.min_eq_left hkr] at cv;have K1:=Za k1;have K2:=Za k2;have K5:=Za k5;have K6:=Za k6;have R2:=Za r2;have hkc:k<=cap:=by omega
     clear HC k1 k2 k4 k5 k6 r2;go_wp2;rotate_left
     ·go_ret
      rw [HV.out];refine ⟨rfl,?_,Ze R2.out (Zv _ _ _ _)⟩;exact Rr.drop (k:=k) (a:=⟨b,off+k,none⟩) (c:=cap - k) K1.out K2.out K5.out K6.out k7 hkr (Or.inl rfl) (by omega)
     ·go_ret
      rw [HV.out];refine ⟨rfl,?_,Ze R2.out (Zv _ _ _ _)⟩;exact Rr.drop (k:=k) (a:=⟨b,off,none⟩) (c:=0) K1.out K2.out K5.out K6.out k7 hkr (Or.inr ⟨by omega,rfl⟩) (by omega)
   ·have HV:Hid (ZF st most=([],none)):=by show _=_;simp [ZF,hm,hv,hnr]
    clear hv hmt;obtain ⟨k,rfl⟩:=Int.eq_ofNat_of_zero_le hn.1;have hkr:r.length < k:=by omega
    clear hnr;go_enter Tryz.func132,Tryz.ntmps132
    go_wp2_with fail
    refine HC.out.mono ?_;rintro e w1 ⟨rfl,⟨a,cap,k1,k2,k3,k4,k5,k6,k7⟩,r2⟩;have c0:=Ob.cell k1 0;simp only [List.getElem?_cons_zero] at c0;have HF:=Za (rfail_any p g _ _ w1 k1);have R2:=Za r2;clear HC k1 k2 k4 k5 k6 r2;go_wp2_with fail
    refine HF.out.mono ?_;rintro e w2 ⟨rfl,r3,r4⟩;go_wp2;go_ret
    rw [HV.out];exact ⟨rfl,r3,Ze R2.out r4⟩
end
section
open Go Go.RowKit Apo
def blockOf (a:Option Addr) (l:List Int) (p:Nat):Nat:=match a,l with | some x,_ :: _=>x.block | _,_=>p
theorem rr_new {w:World} {a:Option Addr} {cap:Nat} {l:List Int} (t:TypeId) (hr:Rd .u8 w a l) (hcap:l.length<=cap) (hn:a=none->cap=0) (hb:InB l) (hl:l.length<=1099511627776) :
  Rr (w.alloc (.cells #[.slice a l.length cap,.bool false] t)) w.heap.size t (blockOf a l w.heap.size) (some l):=by
 refine ⟨a,cap,Ob.new w [.slice a l.length cap,.bool false] t,hr.below ((Below.refl _ _).alloc (Nat.le_refl _) _),hcap,hn,fun x hx h0=>?_,hb,hl⟩;subst hx;have:=hr.lt h0;cases l with
 | nil=>simp at h0
 | cons _ _=>exact ⟨rfl,by omega,by simp;omega⟩
end
section
open Go.RowKit Apo
theorem bclone_any (a:Option Addr) (cap:Nat) (l:List Int) (w:World) (hr:Rd .u8 w a l) (hn:a=none->cap=0) (hl:l.length<=1099511627776) :
  Calls Tryz.prog 134 #[.slice a l.length cap] w fun e w'=>∃ v,e=.returned v/\w'.ownsRow w.heap.size 5 1 v l.length (l.map (Value.int .u8))/\Below w.heap.size w w':=by
 obtain ⟨i0,hi,hz0,hz1,hz2⟩:=info_parts infoU8;cases a with
 | none =>
  have h0:l=[]:=by
   rcases Nat.eq_zero_or_pos l.length with h | h
   ·exact List.eq_nil_of_length_eq_zero h
   ·obtain ⟨_,_,h',_⟩:=hr 0 h;cases h'
  subst h0;have hc:=hn rfl;subst hc;clear hr hn;have hq:=fun wx=>Lib.run_eql_slice_nil (P:=Tryz.prog) wx 41 5 none 0 0 0 0 Tryz.underlying41
  go_enter Tryz.func134,Tryz.ntmps134
  go_wp2;go_ret
  exact ⟨_,rfl,World.ownsRow_nil _ _ _ _,Below.refl _ _⟩
 | some x =>
  have hR:=Za hr;have hb:Below w.heap.size w (w.alloc (.cells #[] 5)):=(Below.refl _ _).alloc (Nat.le_refl _) _;have HL:Hid ((w.alloc (.cells #[] 5)).ownsRow w.heap.size 5 1 (.slice (some ⟨w.heap.size,0,none⟩) 0 0) 0 []):=World.ownsRow_lit w #[] 0 (Nat.le_refl _) (by decide) rfl;clear hr hn;have hq:=fun wx=>Lib.run_eql_slice_nil (P:=Tryz.prog) wx 41 5 (some x) l.length cap 0 0 Tryz.underlying41
  go_enter Tryz.func134,Tryz.ntmps134
  go_wp2_with (at_builtin;refine wpList_append_own _ rfl _ _ 41 rfl w.heap.size 5 i0 (.int .u8 0) 1 1 Tryz.underlying41 hi hz0 hz1 hz2 rfl (by decide) _ 0 [] rfl HL.out x l.length cap (l.map (Value.int .u8)) rfl (by simp) (hR.out.below hb).news (ints_oneCell _ _) (by unfold maxLen;omega) (by omega) (by simp) ?_)
  intro v2 w2 hown2 hgrow2 _
  have O2:Hid (w2.ownsRow w.heap.size 5 1 v2 l.length (l.map (Value.int .u8))):=by
   show World.ownsRow _ _ _ _ _ _ _
   simpa using hown2
  have B2:=Za (hb.grown hgrow2 (by simp) (fun q hq=>(HL.out.lt q hq).1));clear hown2 hgrow2;go_wp2;go_ret
  exact ⟨_,rfl,O2,B2⟩
theorem read_any (a:Option Addr) (cap:Nat) (l:List Int) (w:World) (hr:Rd .u8 w a l) (hn:a=none->cap=0) (hb:InB l) (hl:l.length<=1099511627776) :
  Calls Tryz.prog 87 #[.slice a l.length cap] w fun e w'=>∃ p g,e=.returned (.pointer (some ⟨p,0,none⟩))/\Rr w' p 224 g (some l)/\w.heap.size<=p/\w.heap.size<=g/\p < w'.heap.size/\g < w'.heap.size/\Below w.heap.size w w':=by
 have HC:=Za (bclone_any a cap l w hr hn hl);have hB:=Za hb;clear hr hn hb;go_enter Tryz.func87,Tryz.ntmps87
 go_wp2_with fail
 refine HC.out.mono ?_;rintro e w1 ⟨v,rfl,o1,b1⟩;obtain ⟨a1,c1,rfl,hc1,hn1⟩:=own_form o1;have hs1:=b1.size
 have hal:∀ x,a1=some x->w.heap.size<=x.block/\x.block < w1.heap.size:=fun x hx=>by
  subst hx;exact o1.lt x.block rfl
 have HR:=Za (rr_new 224 (Rd.own o1).1 hc1 hn1 hB.out hl)
 have hg1:w.heap.size<=blockOf a1 l w1.heap.size/\blockOf a1 l w1.heap.size<=w1.heap.size:=by
  cases a1 with
  | none=>exact ⟨hs1,Nat.le_refl _⟩
  | some x =>
   cases l with
   | nil=>exact ⟨hs1,Nat.le_refl _⟩
   | cons _ _=>exact ⟨(hal x rfl).1,Nat.le_of_lt (hal x rfl).2⟩
 have B1:=Za b1;clear HC o1 b1 hal hn1;generalize blockOf a1 l w1.heap.size=g at *;go_wp2;go_ret
 exact ⟨w1.heap.size,g,rfl,HR,hs1,hg1.1,by simp,by simp;omega,B1.out.alloc hs1 _⟩
theorem wbytes_o (p:Nat) (v:Value) (l:List Int) (w:World) (hob:Ob w p 283 [v]) (hown:w.ownsRow 0 5 1 v l.length (l.map (Value.int .u8))) (hl:l.length<=1099511627776) :
  Calls Tryz.prog 192 #[.pointer (some ⟨p,0,none⟩)] w fun e w'=>∃ v,e=.returned v/\w'.ownsRow w.heap.size 5 1 v l.length (l.map (Value.int .u8))/\Below w.heap.size w w':=by
 obtain ⟨a,c,hv,hc,hn⟩:=own_form hown;subst hv;have HC:=Za (bclone_any a c l w (Rd.own hown).1 hn hl);have c0:=hob.cell 0;simp only [List.getElem?_cons_zero] at c0;clear hown hob hn;go_enter Tryz.func192,Tryz.ntmps192
 go_wp2_with fail
 refine HC.out.mono ?_;rintro e w1 ⟨v,rfl,o1,b1⟩;have HO:=Za o1;have HB:=Za b1;clear HC o1 b1;go_wp2;go_ret
 exact ⟨_,rfl,HO,HB⟩
end
end Go.Proofs.YtdhebpnkfookcaaGreat
