import Derived.Laws.EntriesVeiled
import Derived.Test.YtdhebpnkfookcaaGreatSM05
import Derived.Test.YtdhebpnkfookcaaGreatSM07
set_option maxRecDepth 100000
set_option maxHeartbeats 4000000
namespace Go.Proofs.YtdhebpnkfookcaaGreat
open Go.RowKit Apo
section
def ZD (l:List Int):List Value:=l.map (Value.int .u8)++List.replicate (32 - l.length) (.int .u8 0)++[.int .i64 l.length]
theorem wcells_size {l:List Int} (h:l.length<=32):(ZD l)[32]?=some (.int .i64 l.length):=by
 unfold ZD;rw [List.getElem?_append_right (by simp;omega)];simp only [List.length_append,List.length_map,List.length_replicate];rw [show 32 - (l.length+(32 - l.length))=0 by omega];rfl
theorem wcells_at {l:List Int} (h:l.length < 32):(ZD l)[l.length]?=some (.int .u8 0):=by
 unfold ZD;rw [List.append_assoc,List.getElem?_append_right (by simp),List.getElem?_append_left (by simp;omega)];simp only [List.length_map,Nat.sub_self];rw [List.getElem?_replicate,if_pos (by omega)]
theorem wcells_step {l:List Int} (h:l.length < 32) (z:Int):((ZD l).set l.length (.int .u8 z)).set 32 (.int .i64 ((l.length:Int)+1))=ZD (l++[z]):=by
 obtain ⟨m,hm⟩:∃ m,32 - l.length=m+1:=⟨31 - l.length,by omega⟩;unfold ZD;rw [hm,List.append_assoc,List.set_append_right _ _ (by simp),List.replicate_succ];simp only [List.length_map,Nat.sub_self,List.cons_append,List.set_cons_zero];rw [List.set_append_right _ _ (by simp;omega)];simp only [List.length_map,List.length_append,List.length_cons,List.length_nil,List.map_append,List.map_cons,List.map_nil];rw [show 32 - l.length=m+1 from hm,List.set_cons_succ,List.set_append_right _ _ (by simp)];simp only [List.length_replicate,Nat.sub_self,List.set_cons_zero];rw [show 32 - (l.length+1)=m by omega];simp
theorem four_any {w:World} {p:Nat} (l:List Int) (n:Nat) (hl:l.length+4<=32) (h:Ob w p 266 (ZD l)) :
  Calls Tryz.prog 201 #[.pointer (some ⟨p,0,none⟩),.int .u64 n] w fun e w'=>e=.returned (.tuple #[])/\Ob w' p 266 (ZD (l++be 4 n))/\w.grownBy w' (some p):=by
 have HO:=Za h;clear h;go_enter Tryz.func201,Tryz.ntmps201
 go_wp2;go_loopw [7] (fun i wr=>∃ k:Nat,k<=4/\i=.int .i64 k/\Hid (Ob wr p 266 (ZD (l++(be 4 n).take k)))/\Hid (w.grownBy wr (some p))) (fun i _=>(4 - intOf i).toNat)
 case atStart=>exact ⟨0,by omega,rfl,by simpa using HO,World.grownBy.refl _ _⟩
 case round =>
  obtain ⟨k,hk,rfl,hO,hG⟩:=hrel;by_cases hlt:k < 4
  ·have k4:k=0\/k=1\/k=2\/k=3:=by omega
   have hL:(l++(be 4 n).take k).length=l.length+k:=by simp [be_len];omega
   have hlen:(l++(be 4 n).take k).length < 32:=by omega
   have cS:=hO.out.cell 32;rw [wcells_size (by omega)] at cS;have cA:=hO.out.cell (l++(be 4 n).take k).length;rw [wcells_at hlen] at cA;have fS:=hO.out.frozen 32;have fA:=hO.out.frozen (l++(be 4 n).take k).length;have HHL:=Za hL;clear hL;rcases k4 with rfl | rfl | rfl | rfl
   ·generalize hLL:(l++(be 4 n).take 0).length=L at *;have HL:=Za hLL;have hx:∀ W,(Instr.index 305 (.agg #[.int .i64 24,.int .i64 16,.int .i64 8,.int .i64 0]) (.int .i64 0)).run Tryz.prog W=.ok (.int .i64 24) W:=fun W=>by kernel_rfl
    have hst:=wcells_step (l:=l++(be 4 n).take 0) (by omega) ((n / 256 ^ 3 % 256:Nat):Int);rw [hLL,List.append_assoc,<- take_snoc (be_at n (show 0 < 4 by omega))] at hst;have hv:((n:Int) / 16777216 % 256)=((n / 256 ^ 3 % 256:Nat):Int):=by simp
    have o1:Ob (wr.drew.setCell ⟨p,L,none⟩ (.int .u8 ((n:Int) / 16777216 % 256))) p 266 _:=Ob.set (w:=wr.drew) hO.out L _;have cS2:=o1.cell 32;rw [List.getElem?_set_ne (by omega),wcells_size (by omega),hLL] at cS2;have fS2:=o1.frozen 32;have g1:w.grownBy (wr.drew.setCell ⟨p,L,none⟩ (.int .u8 ((n:Int) / 16777216 % 256))) (some p):=Ze (Ze hG.out (Zm _ (Below.refl _ wr).drew)) (Zv _ _ _ _);have HO1:=Za o1;have HS:=Za hst;have HV:=Za hv;have HG1:=Za g1;clear hLL hst hv o1 g1 hO hG;go_wp2;go_region
    go_wp2;go_roundw
    case rel =>
     refine ⟨1,by omega,by simp,?_,Ze HG1.out (Zv _ _ _ _)⟩;have:=HO1.out.set 32 (.int .i64 ((L:Int)+1));rw [HV.out,HS.out] at this;exact this
    case measure=>simp [intOf]
   ·generalize hLL:(l++(be 4 n).take 1).length=L at *;have HL:=Za hLL;have hx:∀ W,(Instr.index 305 (.agg #[.int .i64 24,.int .i64 16,.int .i64 8,.int .i64 0]) (.int .i64 1)).run Tryz.prog W=.ok (.int .i64 16) W:=fun W=>by kernel_rfl
    have hst:=wcells_step (l:=l++(be 4 n).take 1) (by omega) ((n / 256 ^ 2 % 256:Nat):Int);rw [hLL,List.append_assoc,<- take_snoc (be_at n (show 1 < 4 by omega))] at hst;have hv:((n:Int) / 65536 % 256)=((n / 256 ^ 2 % 256:Nat):Int):=by simp
    have o1:Ob (wr.drew.setCell ⟨p,L,none⟩ (.int .u8 ((n:Int) / 65536 % 256))) p 266 _:=Ob.set (w:=wr.drew) hO.out L _;have cS2:=o1.cell 32;rw [List.getElem?_set_ne (by omega),wcells_size (by omega),hLL] at cS2;have fS2:=o1.frozen 32;have g1:w.grownBy (wr.drew.setCell ⟨p,L,none⟩ (.int .u8 ((n:Int) / 65536 % 256))) (some p):=Ze (Ze hG.out (Zm _ (Below.refl _ wr).drew)) (Zv _ _ _ _);have HO1:=Za o1;have HS:=Za hst;have HV:=Za hv;have HG1:=Za g1;clear hLL hst hv o1 g1 hO hG;go_wp2;go_region
    go_wp2;go_roundw
    case rel =>
     refine ⟨2,by omega,by simp,?_,Ze HG1.out (Zv _ _ _ _)⟩;have:=HO1.out.set 32 (.int .i64 ((L:Int)+1));rw [HV.out,HS.out] at this;exact this
    case measure=>simp [intOf]
   ·generalize hLL:(l++(be 4 n).take 2).length=L at *;have HL:=Za hLL;have hx:∀ W,(Instr.index 305 (.agg #[.int .i64 24,.int .i64 16,.int .i64 8,.int .i64 0]) (.int .i64 2)).run Tryz.prog W=.ok (.int .i64 8) W:=fun W=>by kernel_rfl
    have hst:=wcells_step (l:=l++(be 4 n).take 2) (by omega) ((n / 256 ^ 1 % 256:Nat):Int);rw [hLL,List.append_assoc,<- take_snoc (be_at n (show 2 < 4 by omega))] at hst;have hv:((n:Int) / 256 % 256)=((n / 256 ^ 1 % 256:Nat):Int):=by simp
    have o1:Ob (wr.drew.setCell ⟨p,L,none⟩ (.int .u8 ((n:Int) / 256 % 256))) p 266 _:=Ob.set (w:=wr.drew) hO.out L _;have cS2:=o1.cell 32;rw [List.getElem?_set_ne (by omega),wcells_size (by omega),hLL] at cS2;have fS2:=o1.frozen 32;have g1:w.grownBy (wr.drew.setCell ⟨p,L,none⟩ (.int .u8 ((n:Int) / 256 % 256))) (some p):=Ze (Ze hG.out (Zm _ (Below.refl _ wr).drew)) (Zv _ _ _ _);have HO1:=Za o1;have HS:=Za hst;have HV:=Za hv;have HG1:=Za g1;clear hLL hst hv o1 g1 hO hG;go_wp2;go_region
    go_wp2;go_roundw
    case rel =>
     refine ⟨3,by omega,by simp,?_,Ze HG1.out (Zv _ _ _ _)⟩;have:=HO1.out.set 32 (.int .i64 ((L:Int)+1));rw [HV.out,HS.out] at this;exact this
    case measure=>simp [intOf]
   ·generalize hLL:(l++(be 4 n).take 3).length=L at *;have HL:=Za hLL;have hx:∀ W,(Instr.index 305 (.agg #[.int .i64 24,.int .i64 16,.int .i64 8,.int .i64 0]) (.int .i64 3)).run Tryz.prog W=.ok (.int .i64 0) W:=fun W=>by kernel_rfl
    have hst:=wcells_step (l:=l++(be 4 n).take 3) (by omega) ((n / 256 ^ 0 % 256:Nat):Int);rw [hLL,List.append_assoc,<- take_snoc (be_at n (show 3 < 4 by omega))] at hst;have hv:((n:Int) % 256)=((n / 256 ^ 0 % 256:Nat):Int):=by simp
    have o1:Ob (wr.drew.setCell ⟨p,L,none⟩ (.int .u8 ((n:Int) % 256))) p 266 _:=Ob.set (w:=wr.drew) hO.out L _;have cS2:=o1.cell 32;rw [List.getElem?_set_ne (by omega),wcells_size (by omega),hLL] at cS2;have fS2:=o1.frozen 32;have g1:w.grownBy (wr.drew.setCell ⟨p,L,none⟩ (.int .u8 ((n:Int) % 256))) (some p):=Ze (Ze hG.out (Zm _ (Below.refl _ wr).drew)) (Zv _ _ _ _);have HO1:=Za o1;have HS:=Za hst;have HV:=Za hv;have HG1:=Za g1;clear hLL hst hv o1 g1 hO hG;go_wp2;go_region
    go_wp2;go_roundw
    case rel =>
     refine ⟨4,by omega,by simp,?_,Ze HG1.out (Zv _ _ _ _)⟩;have:=HO1.out.set 32 (.int .i64 ((L:Int)+1));rw [HV.out,HS.out] at this;show Ob _ _ _ _
     rw [HV.out];exact this
    case measure=>simp [intOf]
  ·have ek:(be 4 n).take k=be 4 n:=List.take_of_length_le (by rw [be_len];omega);rw [ek] at hO;go_wp2;go_end0
   exact ⟨rfl,hO.out,hG.out⟩
theorem clone_any (a:Option Addr) (cap:Nat) (l:List Int) (w:World) (hr:Rd .u8 w a l) (hn:a=none->cap=0) (hl:l.length<=1099511627776) :
  Calls Tryz.prog 134 #[.slice a l.length cap] w fun e w'=>∃ v,e=.returned v/\w'.ownsRow w.heap.size 5 1 v l.length (l.map (Value.int .u8))/\Below w.heap.size w w':=by
 obtain ⟨i0,hi,hz0,hz1,hz2⟩:=info_parts info_u8;cases a with
 | none =>
  have h0:l=[]:=by
   rcases Nat.eq_zero_or_pos l.length with h | h
   ·exact List.eq_nil_of_length_eq_zero h
   ·obtain ⟨_,_,h',_⟩:=hr 0 h;cases h'
  subst h0;have hc:=hn rfl;subst hc;clear hr hn;have hq:=fun wx=>Lib.run_eql_slice_nil (P:=Tryz.prog) wx 41 5 none 0 0 0 0 Tryz.underlying41
  go_enter Tryz.func134,Tryz.ntmps134
  go_wp2;go_ret
  exact ⟨_,rfl,World.ownsRow_nil _ _ _ _,Below.refl _ _⟩
 | some x =>
  have hR:=Za hr;have hb:Below w.heap.size w (w.alloc (.cells #[] 5)):=(Below.refl _ _).alloc (Nat.le_refl _) _;have HL:Hid ((w.alloc (.cells #[] 5)).ownsRow w.heap.size 5 1 (.slice (some ⟨w.heap.size,0,none⟩) 0 0) 0 []):=World.ownsRow_lit w #[] 0 (Nat.le_refl _) (by decide) rfl;clear hr hn;have hq:=fun wx=>Lib.run_eql_slice_nil (P:=Tryz.prog) wx 41 5 (some x) l.length cap 0 0 Tryz.underlying41
  go_enter Tryz.func134,Tryz.ntmps134
  go_wp2_with (at_builtin;refine wpList_append_own _ rfl _ _ 41 rfl w.heap.size 5 i0 (.int .u8 0) 1 1 Tryz.underlying41 hi hz0 hz1 hz2 rfl (by decide) _ 0 [] rfl HL.out x l.length cap (l.map (Value.int .u8)) rfl (by simp) (hR.out.below hb).news (ints_oneCell _ _) (by unfold maxLen;omega) (by omega) (by simp) ?_)
  intro v2 w2 hown2 hgrow2 _
  have O2:Hid (w2.ownsRow w.heap.size 5 1 v2 l.length (l.map (Value.int .u8))):=by
   show World.ownsRow _ _ _ _ _ _ _
   simpa using hown2
  have B2:=Za (hb.grown hgrow2 (by simp) (fun q hq=>(HL.out.lt q hq).1));clear hown2 hgrow2;go_wp2;go_ret
  exact ⟨_,rfl,O2,B2⟩
theorem be8 (n:Nat):be 8 n=be 4 (n / 4294967296)++be 4 n:=by
 simp [be,Nat.div_div_eq_div_mul]
theorem four_z {w:World} {p:Nat} (l:List Int) (n:Nat) (z:Int) (hz:z=n) (hl:l.length+4<=32) (h:Ob w p 266 (ZD l)) :
  Calls Tryz.prog 201 #[.pointer (some ⟨p,0,none⟩),.int .u64 z] w fun e w'=>e=.returned (.tuple #[])/\Ob w' p 266 (ZD (l++be 4 n))/\w.grownBy w' (some p):=by
 subst hz;exact four_any l n hl h
theorem eight_any {w:World} {p:Nat} (l:List Int) (n:Nat) (hl:l.length+8<=32) (h:Ob w p 266 (ZD l)) :
  Calls Tryz.prog 200 #[.pointer (some ⟨p,0,none⟩),.int .u64 n] w fun e w'=>e=.returned (.tuple #[])/\Ob w' p 266 (ZD (l++be 8 n))/\w.grownBy w' (some p):=by
 have HO:=Za h
 have HD:Hid ((n:Int) / 4294967296=((n / 4294967296:Nat):Int)):=by
  show _=_
  simp
 clear h;go_enter Tryz.func200,Tryz.ntmps200
 go_wp2_with fail
 refine (four_z l (n / 4294967296) _ HD.out (by omega) HO.out).mono ?_;rintro e w1 ⟨rfl,h1,g1⟩;have H1:=Za h1;have G1:=Za g1;clear h1 g1;go_wp2_with fail
 refine (four_z (l++be 4 (n / 4294967296)) n _ rfl (by rw [List.length_append,be_len];omega) H1.out).mono ?_;rintro e w2 ⟨rfl,h2,g2⟩;have H2:=Za h2;have G2:=Za (Ze G1.out g2);clear h2 g2;go_wp2;go_end0
 refine ⟨rfl,?_,G2.out⟩;rw [be8,<- List.append_assoc];exact H2.out
def fnV (k:Nat):Value:=.func (.func k) #[] #[]
def pcells (s:Sup):List Value:=[fnV 200,.int .u64 s.e,fnV 201,.int .u64 s.st,fnV 201,.int .u64 s.pg,fnV 201,.int .u64 s.sz,fnV 201,.int .u64 1634758503,fnV 200,.int .u64 s.e]
theorem parts_any (s:Sup) (hs:s.Ok) (w:World) :
  Calls Tryz.prog 177 #[s.val] w fun e w'=>e=.returned (.slice (some ⟨w.heap.size+1,0,none⟩) 6 6)/\Ob w' (w.heap.size+1) 271 (pcells s)/\Below w.heap.size w w'/\w'.heap.size=w.heap.size+2:=by
 have h1:=hs.st;have h2:=hs.pg;have h3:=hs.sz;have wS:IntKind.u64.wrap (s.st:Int)=s.st:=by simp [IntKind.wrap,IntKind.bits,IntKind.signed];omega
 have wP:IntKind.u64.wrap (s.pg:Int)=s.pg:=by simp [IntKind.wrap,IntKind.bits,IntKind.signed];omega
 have wZ:IntKind.u64.wrap (s.sz:Int)=s.sz:=by simp [IntKind.wrap,IntKind.bits,IntKind.signed];omega
 unfold Sup.val Sup.cells;go_enter Tryz.func177,Tryz.ntmps177
 go_wp2;go_ret
 refine ⟨rfl,?_,((Below.refl _ w).alloc (Nat.le_refl _) _).alloc (by simp) _,by simp⟩;have:=Ob.new (w.alloc (.cells #[.int .u64 s.e,.int .u32 s.st,.int .u32 s.pg,.int .u32 s.sz] 154)) (pcells s) 271;rw [World.size_alloc] at this;exact this
theorem superB_step (s:Sup) (i k n:Nat) (h:((Zh s).drop i).take k=be k n):(Zh s).take i++be k n=(Zh s).take (i+k):=by
 rw [List.take_add,h]
theorem rd_wcells {w:World} {p:Nat} {l:List Int} (h:Ob w p 266 (ZD l)):Rd .u8 w (some ⟨p,0,none⟩) l:=by
 intro i hi;refine ⟨p,0,rfl,?_⟩;rw [Nat.zero_add,h.cell i];unfold ZD;rw [List.append_assoc,List.getElem?_append_left (by simpa using hi)];simp [List.getD,hi]
theorem own_base {w:World} {B B' e len:Nat} {v:Value} {vs:List Value} (h:w.ownsRow B e 1 v len vs) (hb:B'<=B):w.ownsRow B' e 1 v len vs:=by
 refine ⟨h.1,?_⟩;rcases h.2 with h2 | ⟨g,c,cur,h1,h2,h3⟩
 ·exact Or.inl h2
 ·exact Or.inr ⟨g,c,cur,h1,Nat.le_trans hb h2,h3⟩
theorem put_any (s:Sup) (hs:s.Ok) (w:World) :
  Calls Tryz.prog 130 #[s.val] w fun e w'=>∃ v,e=.returned v/\w'.ownsRow w.heap.size 5 1 v 32 ((Zh s).map (Value.int .u8))/\Below w.heap.size w w':=by
 have k1:Ob ((w.alloc (.cells #[.int .u64 s.e,.int .u32 s.st,.int .u32 s.pg,.int .u32 s.sz] 154)).alloc (.cells (ZD []).toArray 266)) (w.heap.size+1) 266 (ZD []):=by
  have:=Ob.new (w.alloc (.cells #[.int .u64 s.e,.int .u32 s.st,.int .u32 s.pg,.int .u32 s.sz] 154)) (ZD []) 266;rw [World.size_alloc] at this;exact this
 have z1:((w.alloc (.cells #[.int .u64 s.e,.int .u32 s.st,.int .u32 s.pg,.int .u32 s.sz] 154)).alloc (.cells (ZD []).toArray 266)).heap.size=w.heap.size+2:=by simp
 have b1:Below w.heap.size w ((w.alloc (.cells #[.int .u64 s.e,.int .u32 s.st,.int .u32 s.pg,.int .u32 s.sz] 154)).alloc (.cells (ZD []).toArray 266)):=((Below.refl _ w).alloc (Nat.le_refl _) _).alloc (by simp) _;have hc:=parts_any s hs ((w.alloc (.cells #[.int .u64 s.e,.int .u32 s.st,.int .u32 s.pg,.int .u32 s.sz] 154)).alloc (.cells (ZD []).toArray 266));unfold Sup.val Sup.cells at hc ⊢;rw [z1] at hc;have K1:=Za k1;have B1:=Za b1;have HC:=Za hc;clear k1 b1 hc;go_enter Tryz.func130,Tryz.ntmps130
 go_wp2_with fail
 refine HC.out.mono ?_;rintro e w2 ⟨rfl,hp,hb,hz⟩;have K2:=Za (K1.out.below hb (by omega));have P2:=Za hp;have B2:=Za (B1.out.trans (hb.mono (by omega)));clear hp hb z1;go_wp2;go_loopw [11] (fun i wr=>∃ k:Nat,k<=6/\i=.int .i64 k/\Hid (Ob wr (w.heap.size+1) 266 (ZD ((Zh s).take ([0,8,12,16,20,24,32].getD k 0))))/\Hid (Ob wr (w.heap.size+2+1) 271 (pcells s))/\Hid (Below w.heap.size w wr)) (fun i _=>(6 - intOf i).toNat)
 case atStart=>exact ⟨0,by omega,rfl,K2,P2,B2⟩
 case round =>
  obtain ⟨k,hk,rfl,hM,hP,hB⟩:=hrel;by_cases hlt:k < 6
  ·have k6:k=0\/k=1\/k=2\/k=3\/k=4\/k=5:=by omega
   rcases k6 with rfl | rfl | rfl | rfl | rfl | rfl
   ·have c0:=hP.out.cell 0;have c1:=hP.out.cell 1;unfold pcells fnV at c0 c1;simp only [List.getElem?_cons_zero,List.getElem?_cons_succ] at c0 c1;have HM:Hid (Ob (wr.alloc (.cells #[.func (.func 200) #[] #[],.int .u64 s.e] 271)) (w.heap.size+1) 266 (ZD ((Zh s).take 0))):=hM.out.alloc _;have HE:Hid ((Zh s).take 0++be 8 s.e=(Zh s).take 8):=superB_step s 0 8 _ (by first | rfl | decide);go_wp2_with fail
    refine (eight_any _ s.e (by simp) HM.out).mono ?_;rintro e w3 ⟨rfl,m3,g3⟩;rw [HE.out] at m3;have M3:=Za m3;have P3:=Za ((hP.out.alloc (.cells #[.func (.func 200) #[] #[],.int .u64 s.e] 271)).kept g3 (by intro e;injection e;omega));have B3:=Za (below_grew (hB.out.alloc hB.out.size (.cells #[.func (.func 200) #[] #[],.int .u64 s.e] 271)) g3 (by have:=hB.out.size;simp;omega) (by omega));clear m3 g3;go_wp2;go_roundw
    case rel=>exact ⟨1,by omega,by simp,M3,P3,B3⟩
    case measure=>simp [intOf]
   ·have c0:=hP.out.cell 2;have c1:=hP.out.cell 3;unfold pcells fnV at c0 c1;simp only [List.getElem?_cons_zero,List.getElem?_cons_succ] at c0 c1;have HM:Hid (Ob (wr.alloc (.cells #[.func (.func 201) #[] #[],.int .u64 s.st] 271)) (w.heap.size+1) 266 (ZD ((Zh s).take 8))):=hM.out.alloc _;have HE:Hid ((Zh s).take 8++be 4 s.st=(Zh s).take 12):=superB_step s 8 4 _ (by first | rfl | decide);go_wp2_with fail
    refine (four_z _ s.st _ rfl (by simp [ZT]) HM.out).mono ?_;rintro e w3 ⟨rfl,m3,g3⟩;rw [HE.out] at m3;have M3:=Za m3;have P3:=Za ((hP.out.alloc (.cells #[.func (.func 201) #[] #[],.int .u64 s.st] 271)).kept g3 (by intro e;injection e;omega));have B3:=Za (below_grew (hB.out.alloc hB.out.size (.cells #[.func (.func 201) #[] #[],.int .u64 s.st] 271)) g3 (by have:=hB.out.size;simp;omega) (by omega));clear m3 g3;go_wp2;go_roundw
    case rel=>exact ⟨2,by omega,by simp,M3,P3,B3⟩
    case measure=>simp [intOf]
   ·have c0:=hP.out.cell 4;have c1:=hP.out.cell 5;unfold pcells fnV at c0 c1;simp only [List.getElem?_cons_zero,List.getElem?_cons_succ] at c0 c1;have HM:Hid (Ob (wr.alloc (.cells #[.func (.func 201) #[] #[],.int .u64 s.pg] 271)) (w.heap.size+1) 266 (ZD ((Zh s).take 12))):=hM.out.alloc _;have HE:Hid ((Zh s).take 12++be 4 s.pg=(Zh s).take 16):=superB_step s 12 4 _ (by first | rfl | decide);go_wp2_with fail
    refine (four_z _ s.pg _ rfl (by simp [ZT]) HM.out).mono ?_;rintro e w3 ⟨rfl,m3,g3⟩;rw [HE.out] at m3;have M3:=Za m3;have P3:=Za ((hP.out.alloc (.cells #[.func (.func 201) #[] #[],.int .u64 s.pg] 271)).kept g3 (by intro e;injection e;omega));have B3:=Za (below_grew (hB.out.alloc hB.out.size (.cells #[.func (.func 201) #[] #[],.int .u64 s.pg] 271)) g3 (by have:=hB.out.size;simp;omega) (by omega));clear m3 g3;go_wp2;go_roundw
    case rel=>exact ⟨3,by omega,by simp,M3,P3,B3⟩
    case measure=>simp [intOf]
   ·have c0:=hP.out.cell 6;have c1:=hP.out.cell 7;unfold pcells fnV at c0 c1;simp only [List.getElem?_cons_zero,List.getElem?_cons_succ] at c0 c1;have HM:Hid (Ob (wr.alloc (.cells #[.func (.func 201) #[] #[],.int .u64 s.sz] 271)) (w.heap.size+1) 266 (ZD ((Zh s).take 16))):=hM.out.alloc _;have HE:Hid ((Zh s).take 16++be 4 s.sz=(Zh s).take 20):=superB_step s 16 4 _ (by first | rfl | decide);go_wp2_with fail
    refine (four_z _ s.sz _ rfl (by simp [ZT]) HM.out).mono ?_;rintro e w3 ⟨rfl,m3,g3⟩;rw [HE.out] at m3;have M3:=Za m3;have P3:=Za ((hP.out.alloc (.cells #[.func (.func 201) #[] #[],.int .u64 s.sz] 271)).kept g3 (by intro e;injection e;omega));have B3:=Za (below_grew (hB.out.alloc hB.out.size (.cells #[.func (.func 201) #[] #[],.int .u64 s.sz] 271)) g3 (by have:=hB.out.size;simp;omega) (by omega));clear m3 g3;go_wp2;go_roundw
    case rel=>exact ⟨4,by omega,by simp,M3,P3,B3⟩
    case measure=>simp [intOf]
   ·have c0:=hP.out.cell 8;have c1:=hP.out.cell 9;unfold pcells fnV at c0 c1;simp only [List.getElem?_cons_zero,List.getElem?_cons_succ] at c0 c1;have HM:Hid (Ob (wr.alloc (.cells #[.func (.func 201) #[] #[],.int .u64 1634758503] 271)) (w.heap.size+1) 266 (ZD ((Zh s).take 20))):=hM.out.alloc _;have HE:Hid ((Zh s).take 20++be 4 1634758503=(Zh s).take 24):=superB_step s 20 4 _ (by first | rfl | decide);go_wp2_with fail
    refine (four_z _ 1634758503 _ rfl (by simp [ZT]) HM.out).mono ?_;rintro e w3 ⟨rfl,m3,g3⟩;rw [HE.out] at m3;have M3:=Za m3;have P3:=Za ((hP.out.alloc (.cells #[.func (.func 201) #[] #[],.int .u64 1634758503] 271)).kept g3 (by intro e;injection e;omega));have B3:=Za (below_grew (hB.out.alloc hB.out.size (.cells #[.func (.func 201) #[] #[],.int .u64 1634758503] 271)) g3 (by have:=hB.out.size;simp;omega) (by omega));clear m3 g3;go_wp2;go_roundw
    case rel=>exact ⟨5,by omega,by simp,M3,P3,B3⟩
    case measure=>simp [intOf]
   ·have c0:=hP.out.cell 10;have c1:=hP.out.cell 11;unfold pcells fnV at c0 c1;simp only [List.getElem?_cons_zero,List.getElem?_cons_succ] at c0 c1;have HM:Hid (Ob (wr.alloc (.cells #[.func (.func 200) #[] #[],.int .u64 s.e] 271)) (w.heap.size+1) 266 (ZD ((Zh s).take 24))):=hM.out.alloc _;have HE:Hid ((Zh s).take 24++be 8 s.e=(Zh s).take 32):=superB_step s 24 8 _ (by first | rfl | decide);go_wp2_with fail
    refine (eight_any _ s.e (by simp [ZT]) HM.out).mono ?_;rintro e w3 ⟨rfl,m3,g3⟩;rw [HE.out] at m3;have M3:=Za m3;have P3:=Za ((hP.out.alloc (.cells #[.func (.func 200) #[] #[],.int .u64 s.e] 271)).kept g3 (by intro e;injection e;omega));have B3:=Za (below_grew (hB.out.alloc hB.out.size (.cells #[.func (.func 200) #[] #[],.int .u64 s.e] 271)) g3 (by have:=hB.out.size;simp;omega) (by omega));clear m3 g3;go_wp2;go_roundw
    case rel=>exact ⟨6,by omega,by simp,M3,P3,B3⟩
    case measure=>simp [intOf]
  ·have ek:k=6:=by omega
   subst ek;have hT:(Zh s).take ([0,8,12,16,20,24,32].getD 6 0)=Zh s:=List.take_of_length_le (by rw [ZT];decide);rw [hT] at hM;have HC2:=Za (clone_any (some ⟨w.heap.size+1,0,none⟩) 32 (Zh s) wr (rd_wcells hM.out) (fun h=>by cases h) (by rw [ZT];decide));rw [ZT] at HC2;go_wp2_with fail
   refine HC2.out.mono ?_;rintro e w3 ⟨v3,rfl,r3,b3⟩;obtain ⟨a3,c3,hv3⟩:=own_len r3;subst hv3;have R3:=Za r3;have B3:=Za (hB.out.trans (b3.mono hB.out.size));clear r3 b3;go_wp2;go_ret
   exact ⟨_,rfl,own_base R3.out hB.out.size,B3.out⟩
theorem CParts.cached {O:Nat->Prop} {w:World} {p:Nat} {st:Sd} {vK vC:Value} {m:Nat} {lf:Int} (h:CParts O w p st vK vC m lf) {k:Nat} (hk:k < st.C.length) :
  ∃ g cap x,vC=.slice (some ⟨g,0,none⟩) st.C.length cap/\O g/\g < w.heap.size/\st.C.length<=cap/\cap<=maxLen/\st.C[k]?=some x/\(∀ j,j < 33->w.cell? ⟨g,k * 33+j,none⟩=(wrV x)[j]?)/\x.1 < st.S.length/\Sec x.2:=by
 obtain ⟨g,cap,rfl,hO,hlt,hnc,hcm,hcell,_⟩:=h.sC.shape (by omega);have e1:st.C[k]?=some st.C[k]:=List.getElem?_eq_getElem hk
 have hok:=h.ok.cach st.C[k] (List.getElem_mem hk);have hlen:∀ y ∈ st.C,(wrV y).length=33:=fun y hy=>by simp [wrV,Zq,(h.ok.cach y hy).2.1]
 exact ⟨g,cap,_,rfl,hO,hlt,hnc,hcm,e1,fun j hj=>(hcell _ (by omega)).trans (flat_at hlen e1 hj),hok.1,hok.2⟩
theorem CParts.clear {O:Nat->Prop} {w:World} {p:Nat} {st:Sd} {vK vC:Value} {m:Nat} {lf:Int} (h:CParts O w p st vK vC m lf):CParts O (w.setCell ⟨p,2,none⟩ (.slice none 0 0)) p { st with C:=[] } vK (.slice none 0 0) m lf:=by
 have o1:Onl (fun k=>k=p) w (w.setCell ⟨p,2,none⟩ (.slice none 0 0)):=Onl.set (O:=fun k=>k=p) (Onl.refl _ w) (.inl rfl) _;refine ⟨h.ob.set 2 _,h.own,?_,Row.nil _ _ _ _,h.mO,h.mF.onl o1 (h.mF.ne h.ob),h.hlf,?_⟩
 ·exact h.sS.onl o1 (fun g hg q=>h.sS.apartOb h.ob (by decide) (by rw [hg,q]))
 ·exact ⟨h.ok.secs,by simp,h.ok.bads,h.ok.size,h.ok.l0,h.ok.l1⟩
theorem mixed_all {x:Nat × List Int} {S:List (List Int)} (hx:Sec x.2) (hS:∀ r ∈ S,Sec r):mixed x S 32=x.2:=by
 have h1:(S.getD x.1 []).length<=32:=by
  simp only [List.getD];cases hq:S[x.1]? with
  | none=>simp
  | some r=>have:=(hS r (List.mem_of_getElem? hq)).1;simp [this]
 unfold mixed;rw [List.take_of_length_le (by rw [hx.1];omega),List.drop_eq_nil_of_le h1,List.append_nil]
attribute [local go_sem ↓] ld_exec67 st_exec67 al_exec67
theorem cflush_any {O:Nat->Prop} {w:World} {p:Nat} {st:Sd} (h:CDev O w p st) (hc:st.C.length<=1099511627776) :
  Calls Tryz.prog 129 #[.pointer (some ⟨p,0,none⟩)] w fun e w'=>e=.returned (.int .i64 st.flushed.1)/\CDev O w' p st.flushed.2/\Onl O w w':=by
 have HH:=Za h;obtain ⟨vK,vC,m,lf,h⟩:=h;have c6:=h.ob.cell 6;simp only [List.getElem?_cons_zero,List.getElem?_cons_succ] at c6;have H:=Za h;clear h;by_cases hd:st.dead=true
 ·have e1:st.acts=false:=by simp [Sd.acts,hd]
  have e0:st.acted=st:=by unfold Sd.acted;rw [e1];cases st;simp at hd;simp [hd]
  have e2:st.flushed=(40,st):=by simp [Sd.flushed,e1,e0]
  rw [e2];rw [hd] at c6;clear e1 e0 e2;go_enter Tryz.func129,Tryz.ntmps129
  go_wp2;go_ret
  exact ⟨rfl,HH.out,Onl.refl _ _⟩
 ·have hd':st.dead=false:=by simpa using hd
  rw [hd'] at c6;by_cases ha:st.acts=true
  ·have e2:st.flushed=(0,{ st.acted with S:=Zt st.C st.S,C:=[] }):=by simp [Sd.flushed,ha]
   rw [e2];clear e2;have HD:=Za hd';clear hd hd';go_enter Tryz.func129,Tryz.ntmps129
   go_wp2_with fail
   refine (cdies_any HH.out HD.out).mono ?_;rintro e w1 ⟨rfl,hr,ho⟩;rw [ha];rw [<- flK_zero] at hr;obtain ⟨vK1,vC1,m1,lf1,h⟩:=hr;obtain ⟨ca,ccap,hvC,hc1,hc2,hc3⟩:=h.sC.form;have c1:=h.ob.cell 2;simp only [List.getElem?_cons_zero,List.getElem?_cons_succ] at c1;subst hvC;have H1:=Za h;have HO:=Za ho;have HC:=Za hc3;clear h ho hc3;have ec:(flK st 0).C=st.C:=rfl;rw [ec] at c1 hc1;go_wp2;go_loopw [20] (fun i wr=>∃ k:Nat,k<=st.C.length/\i=.int .i64 k/\Hid (CParts O wr p (flK st k) vK1 (.slice ca st.C.length ccap) m1 lf1)/\Hid (Onl O w wr)) (fun i _=>st.C.length - (intOf i).toNat)
   case atStart=>exact ⟨0,Nat.zero_le _,rfl,H1.out,HO.out⟩
   case round =>
    obtain ⟨k,hk,rfl,hP,hOr⟩:=hrel;have f1:=hP.out.ob.frozen 2;have pc1:=hP.out.ob.cell 2;simp only [List.getElem?_cons_zero,List.getElem?_cons_succ] at pc1;by_cases hlt:k < st.C.length
    ·obtain ⟨g,cap,x,hvC,hg,hglt,hcl,hcm,hx,hcell,hxl,hsx⟩:=hP.out.cached (k:=k) hlt;cases hvC
     have Lx:Len32 x.2:=⟨hsx.1⟩;obtain ⟨l1,l2⟩:=ld_wri (x:=x) Lx hcell;obtain ⟨s1,s2⟩:=st_new_wri wr (x:=x) Lx;have k1:Ob (wr.alloc (.cells (wrA x) 218)) wr.heap.size 218 (wrV x):=Ob.new wr (wrV x) 218;have P1:=hP.out.kept ((Onl.refl _ wr).alloc (.cells (wrA x) 218));have O1:=hOr.out.alloc (.cells (wrA x) 218);generalize hW1:wr.alloc (.cells (wrA x) 218)=W1 at s2 k1 P1 O1;obtain ⟨l3,l4⟩:=ld_wri_ob Lx k1;have hmx:=mixed_all (x:=x) hsx P1.ok.secs;have HK:=ckeep_any P1 hxl hsx 32 (by omega);rw [hmx] at HK;have hx':st.C[k]?=some x:=hx;rw [flK_set hx'] at HK;have HKK:=Za HK;have HX:=Za hx;have HS:=Za hsx;have HO1:=Za O1;clear hx hx' hcell hsx k1 P1 O1 hmx HK hW1;go_wp2_with fail
     refine HKK.out.mono ?_;rintro e w2 ⟨rfl,hP2,hO2⟩;have HP2:=Za hP2;have HO2:=Za hO2;clear hP2 hO2;go_wp2;go_roundw
     case rel=>exact ⟨k+1,hlt,rfl,HP2.out,HO1.out.trans HO2.out⟩
     case measure=>simp [intOf];omega
    ·go_wp2;go_ret
     have h1:=hP.out.clear;rw [flK_end (st:=st) (k:=k) (by omega)] at h1;exact ⟨rfl,⟨_,_,_,_,h1⟩,hOr.out.set (.inl hP.out.own) _⟩
  ·have ha':st.acts=false:=by simpa using ha
   have e2:st.flushed=(40,st.acted):=by simp [Sd.flushed,ha']
   rw [e2];clear e2;have HD:=Za hd';clear hd hd';go_enter Tryz.func129,Tryz.ntmps129
   go_wp2_with fail
   refine (cdies_any HH.out HD.out).mono ?_;rintro e w1 ⟨rfl,hr,ho⟩;rw [ha'];have HR:=Za hr;have HO:=Za ho;clear hr ho;go_wp2;go_ret
   exact ⟨rfl,HR.out,HO.out⟩
end
section
attribute [local go_sem ↓] ld_exec67 st_exec67 al_exec67 Go.wp_at_zero Go.wp_at_succ
end
end Go.Proofs.YtdhebpnkfookcaaGreat
