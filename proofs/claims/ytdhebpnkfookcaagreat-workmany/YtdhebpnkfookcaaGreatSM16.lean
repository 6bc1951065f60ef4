import Derived.Test.YtdhebpnkfookcaaGreatSM13
set_option maxRecDepth 100000
set_option maxHeartbeats 8000000
namespace Go.Proofs.YtdhebpnkfookcaaGreat
open Go.RowKit Apo
theorem or_byte (m:Nat) (x:Int) (hx:0<=x/\x<=255) (hm:m * 256+x.toNat < 18446744073709551616):bits .or .u64 ((m:Int) * 256) x=((m * 256+x.toNat:Nat):Int):=by
 obtain ⟨y,rfl⟩:=Int.eq_ofNat_of_zero_le hx.1;have hy:y < 256:=by omega
 rw [Int.toNat_natCast] at hm;have h:=bits_or_u64_nat (m * 256) y (Nat.lt_of_le_of_lt (Nat.le_add_right _ _) hm) (Nat.lt_trans hy (by decide));rw [Int.toNat_natCast,show m * 256+y=(m * 256) ||| y from ?_,<- h]
 ·simp
 ·have:=Nat.two_pow_add_eq_or_of_lt (i:=8) (b:=y) (by omega) m;rw [Nat.mul_comm m 256];simpa using this
theorem number_any {w:World} (a:Option Addr) (cap:Nat) (l:List Int) (hr:Rd .u8 w a l) (hb:∀ z ∈ l,0<=z/\z<=255) (hl:l.length<=8) :
  Calls Tryz.prog 172 #[.slice a l.length cap] w fun e w'=>e=.returned (.int .u64 (numN l))/\w=w':=by
 have HR:=Za hr;have HB:=Za hb;clear hr hb;go_enter Tryz.func172,Tryz.ntmps172
 go_wp2;go_loop [3,8] (fun s i=>∃ k:Nat,k<=l.length/\i=.int .i64 k/\s=.int .u64 (numN (l.take k))) (fun _ i=>l.length - (intOf i).toNat)
 case atStart=>exact ⟨0,Nat.zero_le _,rfl,by simp [numN]⟩
 case round =>
  obtain ⟨k,hk,rfl,rfl⟩:=hrel;by_cases hlt:k < l.length
  ·obtain ⟨b,off,rfl,hc⟩:=HR.out k hlt;have hz:l[k]?=some l[k]:=List.getElem?_eq_getElem hlt
   have hbz:=HB.out _ (List.getElem_mem hlt);have hgd:l.getD k 0=l[k]:=by simp [List.getD,hlt]
   rw [hgd] at hc;have hsn:=num_snoc hz;generalize l[k]=x at hz hbz hc hsn
   have hn1:numN (l.take (k+1)) < 256 ^ 8:=by
    have:=num_lt (l:=l.take (k+1)) (fun z hz=>HB.out z (List.mem_of_mem_take hz));exact Nat.lt_of_lt_of_le this (Nat.pow_le_pow_right (by decide) (by simp;omega))
   have e8:(256:Nat) ^ 8=18446744073709551616:=by decide
   rw [e8] at hn1;rw [hsn] at hn1;have HZ:=Za hz;have HS:=Za hsn;clear hz hsn hgd e8;go_wp2;go_round
   case rel=>exact ⟨k+1,hlt,by simp,by rw [HS.out,or_byte _ _ hbz hn1]⟩
   case measure=>simp [intOf];omega
  ·go_wp2;go_ret
   have ek:l.take k=l:=List.take_of_length_le (by omega);rw [ek];exact ⟨rfl,rfl⟩
theorem sup_ext {s t:Sup} (h1:s.e=t.e) (h2:s.st=t.st) (h3:s.pg=t.pg) (h4:s.sz=t.sz):s=t:=by
 cases s;cases t;simp_all
instance:DecidableEq Sup:=fun a b=>decidable_of_iff (a.e=b.e/\a.st=b.st/\a.pg=b.pg/\a.sz=b.sz) ⟨fun h=>sup_ext h.1 h.2.1 h.2.2.1 h.2.2.2,fun h=>by subst h;exact ⟨rfl,rfl,rfl,rfl⟩⟩
theorem eqS (f g:Sup) (w:World):(binOp .eql 154 (.agg #[.int .u64 f.e,.int .u32 f.st,.int .u32 f.pg,.int .u32 f.sz]) (.agg #[.int .u64 g.e,.int .u32 g.st,.int .u32 g.pg,.int .u32 g.sz])).run Tryz.prog w=.ok (.bool (decide (f=g))) w:=by
 have u3:=Tryz.underlying27;have u36:=Tryz.underlying152;have hS:Tryz.prog.underlying 154=some (.struct (Tryz.prog.fieldsOf 154)):=by kernel_rfl
 have hp:Tryz.prog.stoodInHeld 154=false:=by kernel_rfl
 rw [run_eql_struct,show (10000:Nat)=9999+1 from rfl,run_equalIn_agg w 9999 154 _ _ hS hp];simp only [Program.fieldsOf,Tryz.underlying154];go_simp;by_cases h1:f.e=g.e
 ·by_cases h2:f.st=g.st
  ·by_cases h3:f.pg=g.pg
   ·by_cases h4:f.sz=g.sz
    ·have:f=g:=sup_ext h1 h2 h3 h4;subst this;simp
    ·have:f≠g:=fun e=>h4 (by rw [e])
     have h4':¬ (f.sz:Int)=g.sz:=by omega
     simp [h1,h2,h3,h4',this]
   ·have:f≠g:=fun e=>h3 (by rw [e])
    have h4':¬ (f.pg:Int)=g.pg:=by omega
    simp [h1,h2,h4',this]
  ·have:f≠g:=fun e=>h2 (by rw [e])
   have h4':¬ (f.st:Int)=g.st:=by omega
   simp [h1,h4',this]
 ·have:f≠g:=fun e=>h1 (by rw [e])
  have h4':¬ (f.e:Int)=g.e:=by omega
  simp [h4',this]
def s7:Sup:=⟨7,1,2,3⟩
theorem equal_any {w:World} (a a':Option Addr) (c c':Nat) (l l':List Int) (hr:Rd .u8 w a l) (hr':Rd .u8 w a' l') (hb:∀ z ∈ l,0<=z/\z<=255) (hb':∀ z ∈ l',0<=z/\z<=255) :
  Calls Tryz.prog 89 #[.slice a l.length c,.slice a' l'.length c'] w fun e w'=>e=.returned (.bool (decide (l=l')))/\w=w':=by
 have c1:=hr.conv (P:=Tryz.prog) 41 5 9 Tryz.underlying41 Tryz.underlying5 Tryz.underlying9 c;have c2:=hr'.conv (P:=Tryz.prog) 41 5 9 Tryz.underlying41 Tryz.underlying5 Tryz.underlying9 c'
 have hq:((strOfNums l).toList == (strOfNums l').toList)=decide (l=l'):=by
  by_cases h:l=l'
  ·simp [h]
  ·have:¬ (strOfNums l).toList=(strOfNums l').toList:=fun e=>h (str_inj hb hb' e)
   simp [h,this]
 have HQ:=Za hq;clear hq hr hr' hb hb';go_enter Tryz.func89,Tryz.ntmps89
 go_wp2;go_ret
 refine ⟨?_,rfl⟩;rw [<- HQ.out];rfl
theorem fin_of {W:World} {g:Nat} {s:Sup} {bb:Bool} {tmps:Array Value} {Q:Ending->World->Prop} (k:Ob W g 154 s.cells) (h2:tmps.getD 2 undef=.pointer (some ⟨g,0,none⟩)) (h3:tmps.getD 3 undef=.bool bb) (hq:Q (.returned (.tuple #[s.val,.bool bb])) W) :
  bodyPost Tryz.prog Tryz.f121 Q Exit.ret { tmps:=tmps,defers:=[] } W:=by
 have hl:=run_loadVar_row (P:=Tryz.prog) W g 154 154 s.cells.toArray (0,0) _ k Tryz.underlying154 rfl (by rw [size_sup];rfl);have h2':tmps[2]?.getD undef=.pointer (some ⟨g,0,none⟩):=by simpa using h2
 have h3':tmps[3]?.getD undef=.bool bb:=by simpa using h3
 refine bodyPost_ret (v:=.tuple #[s.val,.bool bb]) ?_ rfl hq;simp [results,Tryz.results121,asAddr,h2',h3',hl,Sup.val]
theorem supof_any {w:World} (b off cap:Nat) (l:List Int) (hr:Rd .u8 w (some ⟨b,off,none⟩) l) (hb:∀ z ∈ l,0<=z/\z<=255) (hl:l.length=32) (hc:32<=cap) :
  Calls Tryz.prog 121 #[.slice (some ⟨b,off,none⟩) 32 cap] w fun e w'=>e=.returned (.tuple #[(ZA l).val,.bool (ZX l)])/\Below w.heap.size w w':=by
 have n8:¬ cap=8:=by omega
 have n12:¬ cap=12:=by omega
 have n16:¬ cap=16:=by omega
 have n20:¬ cap=20:=by omega
 have L1:(l.take 8).length=8:=by simp [hl]
 have L2:((l.drop 8).take 4).length=4:=by simp [hl]
 have L3:((l.drop 12).take 4).length=4:=by simp [hl]
 have L4:((l.drop 16).take 4).length=4:=by simp [hl]
 have C1:∀ W:World,Below w.heap.size w W->Calls Tryz.prog 172 #[.slice (some ⟨b,off,none⟩) 8 cap] W fun e w'=>e=.returned (.int .u64 (numN (l.take 8)))/\W=w':=fun W hW=>by
  have:=number_any (w:=W) (some ⟨b,off,none⟩) cap (l.take 8) ((Rd.take hr 8).below hW) (fun z hz=>hb z (List.mem_of_mem_take hz)) (by rw [L1];omega);rw [L1] at this;exact this
 have C2:∀ W:World,Below w.heap.size w W->Calls Tryz.prog 172 #[.slice (some ⟨b,off+8,none⟩) 4 (cap - 8)] W fun e w'=>e=.returned (.int .u64 (numN ((l.drop 8).take 4)))/\W=w':=fun W hW=>by
  have:=number_any (w:=W) (some ⟨b,off+8,none⟩) (cap - 8) ((l.drop 8).take 4) ((Rd.take (rd_drop (at':=8) hr) 4).below hW) (fun z hz=>hb z (List.mem_of_mem_drop (List.mem_of_mem_take hz))) (by rw [L2];omega);rw [L2] at this;exact this
 have C3:∀ W:World,Below w.heap.size w W->Calls Tryz.prog 172 #[.slice (some ⟨b,off+12,none⟩) 4 (cap - 12)] W fun e w'=>e=.returned (.int .u64 (numN ((l.drop 12).take 4)))/\W=w':=fun W hW=>by
  have:=number_any (w:=W) (some ⟨b,off+12,none⟩) (cap - 12) ((l.drop 12).take 4) ((Rd.take (rd_drop (at':=12) hr) 4).below hW) (fun z hz=>hb z (List.mem_of_mem_drop (List.mem_of_mem_take hz))) (by rw [L3];omega);rw [L3] at this;exact this
 have C4:∀ W:World,Below w.heap.size w W->Calls Tryz.prog 172 #[.slice (some ⟨b,off+16,none⟩) 4 (cap - 16)] W fun e w'=>e=.returned (.int .u64 (numN ((l.drop 16).take 4)))/\W=w':=fun W hW=>by
  have:=number_any (w:=W) (some ⟨b,off+16,none⟩) (cap - 16) ((l.drop 16).take 4) ((Rd.take (rd_drop (at':=16) hr) 4).below hW) (fun z hz=>hb z (List.mem_of_mem_drop (List.mem_of_mem_take hz))) (by rw [L4];omega);rw [L4] at this;exact this
 have hok:=rdSup_ok hb;have hsup:rdSup l=⟨numN (l.take 8),numN ((l.drop 8).take 4),numN ((l.drop 12).take 4),numN ((l.drop 16).take 4)⟩:=rfl;generalize numN (l.take 8)=e1 at *;generalize numN ((l.drop 8).take 4)=e2 at *;generalize numN ((l.drop 12).take 4)=e3 at *;generalize numN ((l.drop 16).take 4)=e4 at *;rw [hsup] at hok;have o1:=hok.e;have o2:=hok.st;have o3:=hok.pg;have o4:=hok.sz;simp only at o1 o2 o3 o4;have wS:IntKind.u32.wrap (e2:Int)=e2:=by simp [IntKind.wrap,IntKind.bits,IntKind.signed];omega
 have wP:IntKind.u32.wrap (e3:Int)=e3:=by simp [IntKind.wrap,IntKind.bits,IntKind.signed];omega
 have wZ:IntKind.u32.wrap (e4:Int)=e4:=by simp [IntKind.wrap,IntKind.bits,IntKind.signed];omega
 have K1:=Za C1;have K2:=Za C2;have K3:=Za C3;have K4:=Za C4;have HR:=Za hr;have HB:=Za hb;have HL:=Za hl;have HS:=Za hsup;have HOK:=Za hok;clear C1 C2 C3 C4 hr hb hl hsup hok L1 L2 L3 L4;have B0:Below w.heap.size w (w.alloc (.cells #[.int .u64 0,.int .u32 0,.int .u32 0,.int .u32 0] 154)).drew:=((Below.refl _ w).alloc (Nat.le_refl _) _).drew;have B1:Below w.heap.size w ((w.alloc (.cells #[.int .u64 0,.int .u32 0,.int .u32 0,.int .u32 0] 154)).alloc (.cells #[.int .u64 0,.int .u32 0,.int .u32 0,.int .u32 0] 154)).drew:=(((Below.refl _ w).alloc (Nat.le_refl _) _).alloc (by simp) _).drew;have HB0:=Za B0;have HB1:=Za B1;clear B0 B1;have i8:(8:Int)<=(cap:Int):=by omega
 have i12:(12:Int)<=(cap:Int):=by omega
 have i16:(16:Int)<=(cap:Int):=by omega
 have i20:(20:Int)<=(cap:Int):=by omega
 go_enter Tryz.func121,Tryz.ntmps121
 go_wp2;go_cut [4] from 9 to 24 (fun s4 wx=>s4=.pointer (some ⟨w.heap.size+1,0,none⟩)/\wx=((w.alloc (.cells #[.int .u64 0,.int .u32 0,.int .u32 0,.int .u32 0] 154)).alloc (.cells #[.int .u64 e1,.int .u32 e2,.int .u32 e3,.int .u32 e4] 154)).drew)
 case first =>
  go_region_held3 (fun _=>True) (trivial) (first
   | (go_at_call 172;with_reducible refine (K1.out _ (by first | exact HB0.out | exact HB1.out)).mono ?_;rintro e w' ⟨rfl,rfl⟩)
   | (go_at_call 172;with_reducible refine (K2.out _ (by first | exact HB0.out | exact HB1.out)).mono ?_;rintro e w' ⟨rfl,rfl⟩)
   | (go_at_call 172;with_reducible refine (K3.out _ (by first | exact HB0.out | exact HB1.out)).mono ?_;rintro e w' ⟨rfl,rfl⟩)
   | (go_at_call 172;with_reducible refine (K4.out _ (by first | exact HB0.out | exact HB1.out)).mono ?_;rintro e w' ⟨rfl,rfl⟩))
  all_goals (go_wp2_with fail;go_meet;exact ⟨rfl,rfl⟩)
 case rest =>
  obtain ⟨rfl,rfl⟩:=hcut;have k0:Ob ((w.alloc (.cells #[.int .u64 0,.int .u32 0,.int .u32 0,.int .u32 0] 154)).alloc (.cells #[.int .u64 e1,.int .u32 e2,.int .u32 e3,.int .u32 e4] 154)).drew w.heap.size 154 [.int .u64 0,.int .u32 0,.int .u32 0,.int .u32 0]:=(Ob.new w [.int .u64 0,.int .u32 0,.int .u32 0,.int .u32 0] 154).alloc _
  have k1:Ob ((w.alloc (.cells #[.int .u64 0,.int .u32 0,.int .u32 0,.int .u32 0] 154)).alloc (.cells #[.int .u64 e1,.int .u32 e2,.int .u32 e3,.int .u32 e4] 154)).drew (w.heap.size+1) 154 [.int .u64 e1,.int .u32 e2,.int .u32 e3,.int .u32 e4]:=by
   have:=Ob.new (w.alloc (.cells #[.int .u64 0,.int .u32 0,.int .u32 0,.int .u32 0] 154)) [.int .u64 e1,.int .u32 e2,.int .u32 e3,.int .u32 e4] 154;rw [World.size_alloc] at this;exact this
  have B4:Below w.heap.size w ((w.alloc (.cells #[.int .u64 0,.int .u32 0,.int .u32 0,.int .u32 0] 154)).alloc (.cells #[.int .u64 e1,.int .u32 e2,.int .u32 e3,.int .u32 e4] 154)).drew:=(((Below.refl _ w).alloc (Nat.le_refl _) _).alloc (by simp) _).drew;generalize ((w.alloc (.cells #[.int .u64 0,.int .u32 0,.int .u32 0,.int .u32 0] 154)).alloc (.cells #[.int .u64 e1,.int .u32 e2,.int .u32 e3,.int .u32 e4] 154)).drew=W4 at *;have x0:=k1.cell 0;have x1:=k1.cell 1;have x2:=k1.cell 2;have x3:=k1.cell 3;have y0:=k0.cell 0;have y1:=k0.cell 1;have y2:=k0.cell 2;have y3:=k0.cell 3;have f0:=k0.frozen 0;have f1:=k0.frozen 1;have f2:=k0.frozen 2;have f3:=k0.frozen 3;simp only [List.getElem?_cons_zero,List.getElem?_cons_succ] at x0 x1 x2 x3 y0 y1 y2 y3;have HK0:=Za k0;have HK1:=Za k1;have HB4:=Za B4;clear k0 k1 B4;by_cases hz:e1=0
  ·have hzb:((e1:Int) == 0)=true:=by simp [hz]
   have hsf:ZX l=false:=by
    unfold ZX;rw [HS.out];simp [hz]
   have hso:ZA l=Sup.none:=by
    unfold ZA;rw [hsf];rfl
   have HZ:=Za hz;have HSO:=Za hso;have HSF:=Za hsf;clear hz hso hsf;go_wp2;have k9:=(((Ob.set HK0.out 0 (.int .u64 0)).set 1 (.int .u32 0)).set 2 (.int .u32 0)).set 3 (.int .u32 0);have b9:=((((HB4.out).setCell (p:=⟨w.heap.size,0,none⟩) (Nat.le_refl _) (.int .u64 0)).setCell (p:=⟨w.heap.size,1,none⟩) (Nat.le_refl _) (.int .u32 0)).setCell (p:=⟨w.heap.size,2,none⟩) (Nat.le_refl _) (.int .u32 0)).setCell (p:=⟨w.heap.size,3,none⟩) (Nat.le_refl _) (.int .u32 0);exact fin_of (s:=Sup.none) k9 rfl rfl ⟨by rw [HSO.out,HSF.out],b9⟩
  ·have hzb:((e1:Int) == 0)=false:=by simp;omega
   have okS:(⟨e1,e2,e3,e4⟩:Sup).Ok:=HOK.out;have HC:=Za (put_any ⟨e1,e2,e3,e4⟩ okS W4);have HZ:=Za hz;clear hz;go_wp2_with fail
   refine HC.out.mono ?_;rintro e w5 ⟨v5,rfl,r5,b5⟩;obtain ⟨a5,c5,hv5⟩:=own_len r5;subst hv5;have k5:=Ob.old HK1.out b5;have k6:=Ob.old HK0.out b5;have z0:=k5.cell 0;have z1:=k5.cell 1;have z2:=k5.cell 2;have z3:=k5.cell 3;have q0:=k6.cell 0;have q1:=k6.cell 1;have q2:=k6.cell 2;have q3:=k6.cell 3;have g0:=k6.frozen 0;have g1:=k6.frozen 1;have g2:=k6.frozen 2;have g3:=k6.frozen 3;simp only [List.getElem?_cons_zero,List.getElem?_cons_succ] at z0 z1 z2 z3 q0 q1 q2 q3;have hbb:=HB4.out.trans (b5.mono HB4.out.size);have HB5:=Za hbb;have HK6:=Za k6;have hrr:=Rd.own r5;have hE:=equal_any (w:=w5) (some ⟨b,off,none⟩) a5 cap c5 l (Zh ⟨e1,e2,e3,e4⟩) (HR.out.below hbb) hrr.1 HB.out (superB_byt _);rw [HL.out,ZT] at hE;have HE:=Za hE;clear r5 b5 k5 k6 hbb hrr hE;by_cases hq:Zh ⟨e1,e2,e3,e4⟩=l
   ·have hqb:decide (l=Zh ⟨e1,e2,e3,e4⟩)=true:=by simp [hq]
    have hsf:ZX l=true:=by
     unfold ZX;rw [HS.out];simp [HZ.out,hq,HL.out]
    have hso:ZA l=⟨e1,e2,e3,e4⟩:=by
     unfold ZA;rw [hsf,HS.out];rfl
    have HSO:=Za hso;have HSF:=Za hsf;have HQ:=Za hq;rw [hqb] at HE;clear hso hsf hq hqb;go_wp2_with (go_at_call 89;refine HE.out.mono ?_;rintro e w6 ⟨rfl,rfl⟩)
    have k9:=(((HK6.out.set 0 (.int .u64 e1)).set 1 (.int .u32 e2)).set 2 (.int .u32 e3)).set 3 (.int .u32 e4);have b9:=(((HB5.out.setCell (p:=⟨w.heap.size,0,none⟩) (Nat.le_refl _) (.int .u64 e1)).setCell (p:=⟨w.heap.size,1,none⟩) (Nat.le_refl _) (.int .u32 e2)).setCell (p:=⟨w.heap.size,2,none⟩) (Nat.le_refl _) (.int .u32 e3)).setCell (p:=⟨w.heap.size,3,none⟩) (Nat.le_refl _) (.int .u32 e4);exact fin_of (s:=⟨e1,e2,e3,e4⟩) k9 rfl rfl ⟨by rw [HSO.out,HSF.out],b9⟩
   ·have hqb:decide (l=Zh ⟨e1,e2,e3,e4⟩)=false:=by simp;exact fun h=>hq h.symm
    have hsf:ZX l=false:=by
     unfold ZX;rw [HS.out];simp [hq]
    have hso:ZA l=Sup.none:=by
     unfold ZA;rw [hsf];rfl
    have HSO:=Za hso;have HSF:=Za hsf;have HQ:=Za hq;rw [hqb] at HE;clear hso hsf hq hqb;go_wp2_with (go_at_call 89;refine HE.out.mono ?_;rintro e w6 ⟨rfl,rfl⟩)
    have k9:=(((HK6.out.set 0 (.int .u64 0)).set 1 (.int .u32 0)).set 2 (.int .u32 0)).set 3 (.int .u32 0);have b9:=(((HB5.out.setCell (p:=⟨w.heap.size,0,none⟩) (Nat.le_refl _) (.int .u64 0)).setCell (p:=⟨w.heap.size,1,none⟩) (Nat.le_refl _) (.int .u32 0)).setCell (p:=⟨w.heap.size,2,none⟩) (Nat.le_refl _) (.int .u32 0)).setCell (p:=⟨w.heap.size,3,none⟩) (Nat.le_refl _) (.int .u32 0);exact fin_of (s:=Sup.none) k9 rfl rfl ⟨by rw [HSO.out,HSF.out],b9⟩
theorem supno_any {w:World} (a:Option Addr) (cap:Nat) (l:List Int) (hl:l.length≠32) :
  Calls Tryz.prog 121 #[.slice a l.length cap] w fun e w'=>e=.returned (.tuple #[(ZA l).val,.bool (ZX l)])/\Below w.heap.size w w':=by
 have hnb:((l.length:Int) != 32)=true:=by simp;omega
 have hsf:ZX l=false:=by
  unfold ZX;simp [hl]
 have hso:ZA l=Sup.none:=by
  unfold ZA;rw [hsf];rfl
 rw [hso,hsf];have HL:=Za hl;clear hso hsf hl;go_enter Tryz.func121,Tryz.ntmps121
 go_wp2;have k9:=Ob.new w Sup.none.cells 154;have b9:Below w.heap.size w (w.alloc (.cells #[.int .u64 0,.int .u32 0,.int .u32 0,.int .u32 0] 154)):=(Below.refl _ w).alloc (Nat.le_refl _) _;exact fin_of (s:=Sup.none) k9 rfl rfl ⟨rfl,b9⟩
theorem sup_any {w:World} (a:Option Addr) (cap:Nat) (l:List Int) (hr:Rd .u8 w a l) (hb:∀ z ∈ l,0<=z/\z<=255) (hc:l.length<=cap) :
  Calls Tryz.prog 121 #[.slice a l.length cap] w fun e w'=>e=.returned (.tuple #[(ZA l).val,.bool (ZX l)])/\Below w.heap.size w w':=by
 by_cases hl:l.length=32
 ·obtain ⟨b,off,rfl,_⟩:=hr 0 (by omega);have:=supof_any b off cap l hr hb hl (by omega);rw [hl];exact this
 ·exact supno_any a cap l hl
end Go.Proofs.YtdhebpnkfookcaaGreat
