import Derived.Test.YtdhebpnkfookcaaGreatSM39
set_option maxRecDepth 100000
set_option maxHeartbeats 8000000
namespace Go.Proofs.YtdhebpnkfookcaaGreat
section
open Go.RowKit Apo
def RoE (w:World) (g:Nat) (d:List Ed) (ex:List Value):Prop:=Ob w g 46 (Zk cEd d++ex)
def aggE (x:Ed):Value:=.agg #[.string x.k,.string x.v,.bool x.g]
section
variable {w w':World} {g:Nat} {d:List Ed} {ex:List Value}
theorem RoE.old (h:RoE w g d ex) (b:Below w.heap.size w w'):RoE w' g d ex:=Ob.old h b
theorem RoE.drew (h:RoE w g d ex):RoE w.drew g d ex:=h.old (Below.refl _ _).drew
theorem RoE.at (h:RoE w g d ex) {i:Nat} {x:Ed} (hx:d[i]?=some x) (j:Nat) (u:Value) (hu:(cEd x)[j]?=some u):w.cell? ⟨g,i * 3+j,none⟩=some u:=by
 have hc:=Ob.cell h (i * 3+j);have:=gcells_at cEd_len d hx hu;rw [hc,List.getElem?_append_left (List.getElem?_eq_some_iff.1 this).1];exact this
theorem RoE.cells (h:RoE w g d ex) {i:Nat} {x:Ed} (hx:d[i]?=some x):w.cell? ⟨g,i * 3,none⟩=some (.string x.k)/\w.cell? ⟨g,i * 3+1,none⟩=some (.string x.v)/\w.cell? ⟨g,i * 3+2,none⟩=some (.bool x.g) :=
 ⟨h.at hx 0 _ rfl,h.at hx 1 _ rfl,h.at hx 2 _ rfl⟩
theorem gcells_set {α:Type} {c:α->List Value} {k:Nat} (hk:∀ x,(c x).length=k):∀ (l:List α) (i:Nat) (y:α),i < l.length->over (Zk c l) (i * k) (c y)=Zk c (l.set i y)
 | [],_,_,h=>by simp at h
 | x :: l,0,y,_=>by
  simp [over,Zk,hk]
 | x :: l,i+1,y,h=>by
  have ih:=gcells_set hk l i y (by simpa using h);have e1:Zk c ((x :: l).set (i+1) y)=c x++Zk c (l.set i y):=by simp [Zk]
  have e2:Zk c (x :: l)=c x++Zk c l:=by simp [Zk]
  rw [e1,e2,<- ih];unfold over;rw [show (i+1) * k=(c x).length+i * k by rw [hk,Nat.succ_mul];omega,Nat.add_assoc,List.take_length_add_append,List.drop_length_add_append];simp [List.append_assoc]
theorem size_ed:(Tryz.prog.info? 46).map (·.size)=some 3:=by kernel_rfl
theorem RoE.load (h:RoE w g d ex) {i:Nat} {x:Ed} (hx:d[i]?=some x):(Instr.loadAt 46 (.pointer (some ⟨g,i * 3,none⟩))).run Tryz.prog w=.ok (aggE x) w:=by
 refine run_loadAt_cells (P:=Tryz.prog) 46 _ Tryz.underlying46 rfl (cEd x) size_ed ⟨g,i * 3,none⟩ (fun j v hv=>?_);rw [show (⟨g,i * 3,none⟩:Addr).add j=⟨g,i * 3+j,none⟩ by unfold Addr.add;split <;> simp_all];exact h.at hx j v hv
theorem RoE.store (h:RoE w g d ex) {i:Nat} (hi:i < d.length) (y:Ed):∃ w',(Instr.storeAt 46 (.pointer (some ⟨g,i * 3,none⟩)) (aggE y)).run Tryz.prog w=.ok () w'/\RoE w' g (d.set i y) ex/\Onl (fun k=>k=g) w w':=by
 have hle:i * 3+3<=d.length * 3:=by omega
 obtain ⟨w',h1,h2,h3⟩:=run_storeAt_cells (P:=Tryz.prog) (w:=w) 46 46 g (i * 3) (Zk cEd d++ex) (cEd y) size_ed (cEd_one y) h (by rw [List.length_append,gcells_len cEd_len,cEd_len];omega);refine ⟨w',h1,?_,h3⟩;unfold RoE;rw [<- gcells_set cEd_len d i y hi]
 have:over (Zk cEd d++ex) (i * 3) (cEd y)=over (Zk cEd d) (i * 3) (cEd y)++ex:=by
  unfold over;rw [List.take_append_of_le_length (by rw [gcells_len cEd_len];omega),List.drop_append_of_le_length (by rw [gcells_len cEd_len,cEd_len];omega)];simp
 rw [<- this];exact h2
structure SwE (W:World) (g:Nat) (d:List Ed) (ex:List Value) (i j:Nat) (x y:Ed) (S1 S2:World):Prop where
 l1:LdRuns Tryz.prog W 46 (.pointer (some ⟨g,i * 3,none⟩))
 l2:ldVal Tryz.prog W 46 (.pointer (some ⟨g,i * 3,none⟩))=aggE x
 l3:LdRuns Tryz.prog W 46 (.pointer (some ⟨g,j * 3,none⟩))
 l4:ldVal Tryz.prog W 46 (.pointer (some ⟨g,j * 3,none⟩))=aggE y
 s1:StRuns Tryz.prog W 46 (.pointer (some ⟨g,i * 3,none⟩)) (aggE y)
 s2:stWld Tryz.prog W 46 (.pointer (some ⟨g,i * 3,none⟩)) (aggE y)=S1
 s3:StRuns Tryz.prog S1 46 (.pointer (some ⟨g,j * 3,none⟩)) (aggE x)
 s4:stWld Tryz.prog S1 46 (.pointer (some ⟨g,j * 3,none⟩)) (aggE x)=S2
 ro:RoE S2 g (swL d i j) ex
 on:Onl (fun k=>k=g) W S2
theorem RoE.swap (h:RoE w g d ex) {i j:Nat} (hi:i < d.length) (hj:j < d.length):∃ x y S1 S2,SwE w g d ex i j x y S1 S2:=by
 have e1:d[i]?=some d[i]:=List.getElem?_eq_getElem hi
 have e2:d[j]?=some d[j]:=List.getElem?_eq_getElem hj
 obtain ⟨S1,a1,r1,o1⟩:=h.store hi d[j];obtain ⟨S2,a2,r2,o2⟩:=r1.store (i:=j) (by simpa using hj) d[i];obtain ⟨b1,b2⟩:=ld_runs (h.load e1);obtain ⟨b3,b4⟩:=ld_runs (h.load e2);obtain ⟨c1,c2⟩:=st_runs a1;obtain ⟨c3,c4⟩:=st_runs a2;refine ⟨d[i],d[j],S1,S2,b1,b2,b3,b4,c1,c2,c3,c4,?_,o1.trans o2⟩;have:swL d i j=(d.set i d[j]).set j d[i]:=by unfold swL;rw [e1,e2]
 rw [this];exact r2
end
theorem ldE_exec {P:Program} {w:World} {ρ:Operand->Value} {dst:Option Tmp} {x:Operand} {ty:TypeId} {pos:String} {after:Array Edge} {guard:Option (Nat × Bool)} (h:LdRuns P w 46 (ρ x)) :
  (execOp ρ { dst,op:=.load 46 x,type:=ty,pos,after,guard }).run P w=.ok (.value (ldVal P w 46 (ρ x))) w:=ld_exec h
theorem stE_exec {P:Program} {w:World} {ρ:Operand->Value} {dst:Option Tmp} {x y:Operand} {ty:TypeId} {pos:String} {after:Array Edge} {guard:Option (Nat × Bool)} (h:StRuns P w 46 (ρ x) (ρ y)) :
  (execOp ρ { dst,op:=.store 46 x y,type:=ty,pos,after,guard }).run P w=.ok .skip (stWld P w 46 (ρ x) (ρ y)):=st_exec h
attribute [local go_sem ↓] ldE_exec stE_exec
def SoP (w:World) (g:Nat) (ex:List Value) (R:List Ed->Prop) (e:Ending) (w':World):Prop:=e=.returned (.tuple #[])/\∃ d',RoE w' g d' ex/\R d'/\Onl (fun j=>j=g) w w'
def swR (d:List Ed) (a b:Nat):Nat->List Ed
 | 0=>d
 | n+1=>swL (swR d a b n) (a+n) (b+n)
theorem swR_len (d:List Ed) (a b:Nat):∀ n,(swR d a b n).length=d.length
 | 0=>rfl
 | n+1=>by unfold swR;rw [swL_len,swR_len d a b n]
theorem swr_any (w:World) (g cap:Nat) (d:List Ed) (ex:List Value) (F:Value) (h:RoE w g d ex) (hl:d.length<=1000000) (a b n:Nat) (ha:a+n<=d.length) (hb:b+n<=d.length) :
  Calls Tryz.prog 219 #[.slice (some ⟨g,0,none⟩) d.length cap,.int .i64 a,.int .i64 b,.int .i64 n,F] w (SoP w g ex (fun d'=>d'=swR d a b n)):=by
 have HR:=Za h;obtain ⟨ln,hln⟩:∃ ln,ln=d.length:=⟨_,rfl⟩;have HLN:=Za hln;rw [<- hln] at ha hb hl ⊢;clear h hln;go_enter Tryz.func219,Tryz.ntmps219
 go_wp2;go_loopw [10] (fun v wr=>∃ i:Nat,i<=n/\v=.int .i64 i/\Hid (RoE wr g (swR d a b i) ex)/\Hid (Onl (fun j=>j=g) w wr)) (fun v _=>n - (intOf v).toNat)
 case atStart=>exact ⟨0,Nat.zero_le _,rfl,HR,Za (Onl.refl _ _)⟩
 case round =>
  obtain ⟨i,hi,rfl,HRo,HO⟩:=hrel;by_cases hin:i < n
  ·obtain ⟨x,y,S1,S2,sw⟩:=(HRo.out.drew).swap (i:=a+i) (j:=b+i) (by rw [swR_len];have:=HLN.out;omega) (by rw [swR_len];have:=HLN.out;omega);obtain ⟨l1,l2,l3,l4,s1,s2,s3,s4,ro,on⟩:=sw;have HF:Hid (RoE S2 g (swR d a b (i+1)) ex):=Za ro;have HO2:Hid (Onl (fun j=>j=g) w S2):=Za ((HO.out.drew).trans on);unfold aggE at l2 l4 s1 s2 s3 s4;obtain ⟨ai,hai⟩:∃ ai,ai=a+i:=⟨_,rfl⟩;obtain ⟨bi,hbi⟩:∃ bi,bi=b+i:=⟨_,rfl⟩;rw [<- hai] at l1 l2 s1 s2;rw [<- hbi] at l3 l4 s3 s4;have w1:IntKind.i64.wrap ((a:Int)+(i:Int))=(ai:Int):=by rw [IntKind.wrap_i64];omega
   have w2:IntKind.i64.wrap ((b:Int)+(i:Int))=(bi:Int):=by rw [IntKind.wrap_i64];omega
   have w3:(a:Int)+(i:Int)=(ai:Int):=by omega
   have w4:(b:Int)+(i:Int)=(bi:Int):=by omega
   have h1:ai < ln:=by omega
   have h2:bi < ln:=by omega
   clear ro on HR HRo HO hai hbi;go_wp2;go_region
   go_wp2;go_roundw
   case rel=>exact ⟨i+1,by omega,by simp,HF,HO2⟩
   case measure=>simp [intOf];omega
  ·obtain rfl:i=n:=by omega
   go_wp2;go_end0
   exact ⟨rfl,_,HRo.out,rfl,HO.out⟩
end
section
open Go.RowKit Apo
def exL (d:List Ed) (s m e:Nat):List Ed:=d.take s++((d.take e).drop m++((d.take m).drop s++d.drop e))
theorem exL_get {d:List Ed} {s m e:Nat} (h1:s<=m) (h2:m<=e) (h3:e<=d.length) (t:Nat):(exL d s m e)[t]?=if t < s then d[t]? else if t < s+(e - m) then d[t - s+m]? else if t < e then d[t - (e - m)]? else d[t]?:=by
 unfold exL;have l1:(d.take s).length=s:=by simp;omega
 have l2:((d.take e).drop m).length=e - m:=by simp;omega
 have l3:((d.take m).drop s).length=m - s:=by simp;omega
 by_cases q1:t < s
 ·rw [if_pos q1,List.getElem?_append_left (by omega),List.getElem?_take,if_pos q1]
 ·rw [if_neg q1,List.getElem?_append_right (by omega),l1];by_cases q2:t < s+(e - m)
  ·rw [if_pos q2,List.getElem?_append_left (by omega),List.getElem?_drop,List.getElem?_take,if_pos (by omega)];congr 1
   omega
  ·rw [if_neg q2,List.getElem?_append_right (by omega),l2];by_cases q3:t < e
   ·rw [if_pos q3,List.getElem?_append_left (by omega),List.getElem?_drop,List.getElem?_take,if_pos (by omega)];congr 1
    omega
   ·rw [if_neg q3,List.getElem?_append_right (by omega),l3,List.getElem?_drop];congr 1
    omega
theorem swR_get {d:List Ed} {a b:Nat}:∀ {n:Nat},a+n<=b->b+n<=d.length->∀ t,(swR d a b n)[t]?=if a<=t/\t < a+n then d[t - a+b]? else if b<=t/\t < b+n then d[t - b+a]? else d[t]?
 | 0,_,_,t=>by
  rw [if_neg (by omega),if_neg (by omega)];rfl
 | n+1,h1,h2,t=>by
  have ih:=swR_get (d:=d) (a:=a) (b:=b) (n:=n) (by omega) (by omega);unfold swR;rw [swL_get (by rw [swR_len];omega) (by rw [swR_len];omega)];by_cases q1:t=b+n
  ·rw [if_pos q1,ih,if_neg (by omega),if_neg (by omega),if_neg (by omega),if_pos (by omega)];congr 1
   omega
  ·rw [if_neg q1];by_cases q2:t=a+n
   ·rw [if_pos q2,ih,if_neg (by omega),if_neg (by omega),if_pos (by omega)];congr 1
    omega
   ·rw [if_neg q2,ih];by_cases q3:a<=t/\t < a+n
    ·rw [if_pos q3,if_pos (by omega)]
    ·rw [if_neg q3,if_neg (show ¬ (a<=t/\t < a+(n+1)) by omega)];by_cases q4:b<=t/\t < b+n
     ·rw [if_pos q4,if_pos (by omega)]
     ·rw [if_neg q4,if_neg (by omega)]
theorem rot_more {d:List Ed} {m i j:Nat} (hi:i<=m) (hj:m+j<=d.length) (h:j < i):exL (swR d (m - i) m j) (m - (i - j)) m (m+j)=exL d (m - i) m (m+j):=by
 refine List.ext_getElem? (fun t=>?_);rw [exL_get (by omega) (by omega) (by rw [swR_len];exact hj),exL_get (by omega) (by omega) hj];simp only [swR_get (show m - i+j<=m by omega) hj];repeat' split
 all_goals first | rfl | (exfalso;omega) | (congr 1;omega)
theorem rot_less {d:List Ed} {m i j:Nat} (hi:i<=m) (hj:m+j<=d.length) (h:i < j):exL (swR d (m - i) (m+j - i) i) (m - i) m (m+(j - i))=exL d (m - i) m (m+j):=by
 refine List.ext_getElem? (fun t=>?_);rw [exL_get (by omega) (by omega) (by rw [swR_len];omega),exL_get (by omega) (by omega) hj];simp only [swR_get (show m - i+i<=m+j - i by omega) (show m+j - i+i<=d.length by omega)];repeat' split
 all_goals first | rfl | (exfalso;omega) | (congr 1;omega)
theorem rot_same {d:List Ed} {m i:Nat} (hi:i<=m) (hj:m+i<=d.length):swR d (m - i) m i=exL d (m - i) m (m+i):=by
 refine List.ext_getElem? (fun t=>?_);rw [exL_get (by omega) (by omega) hj];simp only [swR_get (show m - i+i<=m by omega) hj];repeat' split
 all_goals first | rfl | (exfalso;omega) | (congr 1;omega)
theorem rot_any (w:World) (g cap:Nat) (d:List Ed) (ex:List Value) (F:Value) (h:RoE w g d ex) (hl:d.length<=1000000) (a m b:Nat) (ham:a < m) (hmb:m < b) (hb:b<=d.length) :
  Calls Tryz.prog 212 #[.slice (some ⟨g,0,none⟩) d.length cap,.int .i64 a,.int .i64 m,.int .i64 b,F] w (SoP w g ex (fun d'=>d'=exL d a m b)):=by
 have CS:∀ W d' a' b' n',RoE W g d' ex->d'.length=d.length->a'+n'<=d.length->b'+n'<=d.length->Calls Tryz.prog 219 #[.slice (some ⟨g,0,none⟩) d.length cap,.int .i64 ((a':Nat):Int),.int .i64 ((b':Nat):Int),.int .i64 ((n':Nat):Int),F] W (SoP W g ex (fun d''=>d''=swR d' a' b' n')):=fun W d' a' b' n' hr he h1 h2=>by
  have:=swr_any W g cap d' ex F hr (by omega) a' b' n' (by omega) (by omega);rwa [he] at this
 have HR:=Za h;obtain ⟨ln,hln⟩:∃ ln,ln=d.length:=⟨_,rfl⟩;have HLN:=Za hln;have HCS:=Za CS;rw [<- hln] at hb hl HCS ⊢;clear h hln CS;have w1:IntKind.i64.wrap ((m:Int) - (a:Int))=((m - a:Nat):Int):=by rw [IntKind.wrap_i64];omega
 have w2:IntKind.i64.wrap ((b:Int) - (m:Int))=((b - m:Nat):Int):=by rw [IntKind.wrap_i64];omega
 go_enter Tryz.func212,Tryz.ntmps212
 go_wp2;clear w1 w2;go_loopw [10,11] (fun v u wr=>∃ (i j:Nat) (d':List Ed),0 < i/\0 < j/\i<=m/\m+j<=ln/\v=.int .i64 i/\u=.int .i64 j/\Hid (RoE wr g d' ex/\d'.length=ln/\exL d' (m - i) m (m+j)=exL d a m b)/\Hid (Onl (fun j=>j=g) w wr)) (fun v u _=>(intOf v).toNat+(intOf u).toNat)
 case atStart=>exact ⟨m - a,b - m,d,by omega,by omega,by omega,by omega,rfl,rfl,Za ⟨HR.out,HLN.out.symm,by rw [show m - (m - a)=a by omega,show m+(b - m)=b by omega]⟩,Za (Onl.refl _ _)⟩
 case round =>
  obtain ⟨i,j,d',hi0,hj0,him,hjl,rfl,rfl,HRo,HO⟩:=hrel;have w3:IntKind.i64.wrap ((m:Int) - (i:Int))=((m - i:Nat):Int):=by rw [IntKind.wrap_i64];omega
  by_cases hij:i=j
  ·subst hij;have C:=HCS.out wr d' (m - i) m i HRo.out.1 HRo.out.2.1 (by omega) (by omega);have HC:=Za C;clear C;have hz:((i:Int) != (i:Int))=false:=by simp
   go_wp2_with fail
   refine HC.out.mono ?_;rintro e w2 ⟨rfl,d2,r2,rfl,o2⟩
   have HF:Hid (RoE w2 g (exL d a m b) ex):=by
    have h1:=rot_same (d:=d') (m:=m) (i:=i) him (by rw [HRo.out.2.1];exact hjl);rw [h1,HRo.out.2.2] at r2;exact Za r2
   have HO2:=Za (HO.out.trans o2);clear r2 o2;go_wp2;go_end0
   exact ⟨rfl,_,HF.out,rfl,HO2.out⟩
  ·have hz:((i:Int) != (j:Int))=true:=by simp;omega
   by_cases hlt:j < i
   ·have hd:decide ((j:Int) < (i:Int))=true:=decide_eq_true (by omega);have C:=HCS.out wr d' (m - i) m j HRo.out.1 HRo.out.2.1 (by omega) (by omega);have HC:=Za C;clear C;have w4:IntKind.i64.wrap ((i:Int) - (j:Int))=((i - j:Nat):Int):=by rw [IntKind.wrap_i64];omega
    go_wp2_with fail
    refine HC.out.mono ?_;rintro e w2 ⟨rfl,d2,r2,rfl,o2⟩;have HF:Hid (RoE w2 g (swR d' (m - i) m j) ex/\(swR d' (m - i) m j).length=ln/\exL (swR d' (m - i) m j) (m - (i - j)) m (m+j)=exL d a m b):=Za ⟨r2,by rw [swR_len];exact HRo.out.2.1,by rw [rot_more him (by rw [HRo.out.2.1];exact hjl) hlt];exact HRo.out.2.2⟩;have HO2:=Za (HO.out.trans o2);clear r2 o2;go_wp2;go_roundw
    case rel=>exact ⟨i - j,j,_,by omega,by omega,by omega,by omega,rfl,rfl,HF,HO2⟩
    case measure=>simp [intOf];omega
   ·have hd:decide ((j:Int) < (i:Int))=false:=decide_eq_false (by omega);have C:=HCS.out wr d' (m - i) (m+j - i) i HRo.out.1 HRo.out.2.1 (by omega) (by omega);have HC:=Za C;clear C;have w4:IntKind.i64.wrap ((j:Int) - (i:Int))=((j - i:Nat):Int):=by rw [IntKind.wrap_i64];omega
    have w5:IntKind.i64.wrap ((m:Int)+(j:Int) - (i:Int))=((m+j - i:Nat):Int):=by rw [IntKind.wrap_i64];omega
    have w6:IntKind.i64.wrap ((m:Int)+(j:Int))=((m+j:Nat):Int):=by rw [IntKind.wrap_i64];omega
    go_wp2_with fail
    refine HC.out.mono ?_;rintro e w2 ⟨rfl,d2,r2,rfl,o2⟩;have HF:Hid (RoE w2 g (swR d' (m - i) (m+j - i) i) ex/\(swR d' (m - i) (m+j - i) i).length=ln/\exL (swR d' (m - i) (m+j - i) i) (m - i) m (m+(j - i))=exL d a m b):=Za ⟨r2,by rw [swR_len];exact HRo.out.2.1,by rw [rot_less him (by rw [HRo.out.2.1];exact hjl) (by omega)];exact HRo.out.2.2⟩;have HO2:=Za (HO.out.trans o2);clear r2 o2;go_wp2;go_roundw
    case rel=>exact ⟨i,j - i,_,by omega,by omega,by omega,by omega,rfl,rfl,HF,HO2⟩
    case measure=>simp [intOf];omega
end
section
open Go.RowKit Apo Go.Sort
attribute [local go_sem ↓] ldE_exec stE_exec
def InI (d:List Ed) (a i j:Nat):Prop:=∀ p q,a<=p->p < q->q<=i->q≠j->leK (ZG d p) (ZG d q)
theorem InI.stop {d:List Ed} {a i j:Nat} (h:InI d a i j) (hji:j<=i) (hs:j<=a\/leK (ZG d (j - 1)) (ZG d j)):SrtIn d a (i+1):=fun p q h1 h2 h3=>by
 by_cases z:q=j
 ·subst z;rcases hs with y | y
  ·omega
  ·by_cases x:p=q - 1
   ·rw [x];exact y
   ·exact leK_trans (h p (q - 1) h1 (by omega) (by omega) (by omega)) y
 ·exact h p q h1 h2 (by omega) z
theorem InI.step {d:List Ed} {a i j:Nat} (h:InI d a i j) (haj:a < j) (hji:j<=i) (hil:i < d.length) (hlt:ZQ (ZG d j) (ZG d (j - 1))=true):InI (swL d j (j - 1)) a i (j - 1):=fun p q h1 h2 h3 h4=>by
 rw [swL_key (by omega) (by omega),swL_key (by omega) (by omega)];rw [if_neg h4];by_cases z:q=j
 ·rw [if_pos z];by_cases x:p=j - 1
  ·rw [if_pos x];exact leK_of hlt
  ·rw [if_neg x,if_neg (by omega)];exact h p (j - 1) h1 (by omega) (by omega) (by omega)
 ·rw [if_neg z];by_cases x:p=j - 1
  ·rw [if_pos x];exact h j q (by omega) (by omega) h3 z
  ·rw [if_neg x];by_cases y:p=j
   ·rw [if_pos y];exact h (j - 1) q (by omega) (by omega) h3 z
   ·rw [if_neg y];exact h p q h1 h2 h3 z
structure CmpE (cf:Nat):Prop where
 en:∀ args w,(callFunc cf args).run Tryz.prog w=.ok (.enter cf args) w
 gives:∀ (x y:Ed) (W:World),Calls Tryz.prog cf #[aggE x,aggE y] W fun e w'=>e=.returned (.int .i64 (cmpS x.k y.k))/\∃ q os,w'=grow (W.drewN q) os
structure Kee (w:World) (g:Nat) (ex:List Value) (d0:List Ed) (a b:Nat) (d:List Ed) (W:World):Prop where
 ro:RoE W g d ex
 stb:Stb d0 d
 out:Out d0 d a b
 frm:Frm d0 d a b
 on:Onl (fun j=>j=g) w W
theorem Kee.len {w:World} {g:Nat} {ex:List Value} {d0:List Ed} {a b:Nat} {d:List Ed} {W:World} (h:Kee w g ex d0 a b d W):d.length=d0.length:=h.stb.1
theorem Kee.grown {w:World} {g:Nat} {ex:List Value} {d0:List Ed} {a b:Nat} {d:List Ed} {W W':World} (h:Kee w g ex d0 a b d W) (hb:Below W.heap.size W W'):Kee w g ex d0 a b d W':=⟨h.ro.old hb,h.stb,h.out,h.frm,h.on.trans (Onl.ofBelow hb)⟩
theorem Kee.swap {w:World} {g:Nat} {ex:List Value} {d0:List Ed} {a b:Nat} {d:List Ed} {W S2:World} {i:Nat} (h:Kee w g ex d0 a b d W) (hr:RoE S2 g (swL d (i+1) i) ex) (ho:Onl (fun j=>j=g) W S2) (hi:i+1 < d.length) (ha:a<=i) (hb:i+1 < b) (hk:ZG d i≠ZG d (i+1)):Kee w g ex d0 a b (swL d (i+1) i) S2 :=
 ⟨hr,h.stb.trans (by rw [swL_comm hi (by omega)];exact swL_stb hi hk),Out.trans h.out (swL_out (a:=a) (b:=b) hi (by omega) (by omega) ha hb (by omega)) (Nat.le_refl _) (Nat.le_refl _) (Nat.le_refl _) (Nat.le_refl _),h.frm.trans (swL_frm hi (by omega) (by omega) ha hb (by omega)),h.on.trans ho⟩
theorem Kee.swap' {w:World} {g:Nat} {ex:List Value} {d0:List Ed} {a b:Nat} {d:List Ed} {W S2:World} {i:Nat} (h:Kee w g ex d0 a b d W) (hr:RoE S2 g (swL d i (i+1)) ex) (ho:Onl (fun j=>j=g) W S2) (hi:i+1 < d.length) (ha:a<=i) (hb:i+1 < b) (hk:ZG d i≠ZG d (i+1)):Kee w g ex d0 a b (swL d i (i+1)) S2 :=
 ⟨hr,h.stb.trans (swL_stb hi hk),Out.trans h.out (swL_out (a:=a) (b:=b) (by omega) hi ha (by omega) (by omega) hb) (Nat.le_refl _) (Nat.le_refl _) (Nat.le_refl _) (Nat.le_refl _),h.frm.trans (swL_frm (by omega) hi ha (by omega) (by omega) hb),h.on.trans ho⟩
theorem RoE.grown {w:World} {g:Nat} {d:List Ed} {ex:List Value} (h:RoE w g d ex) {i:Nat} {x:Ed} (hx:d[i]?=some x):(∀ n os,(grow (w.drewN n) os).cell? ⟨g,i * 3,none⟩=some (.string x.k))/\(∀ n os,(grow (w.drewN n) os).cell? ⟨g,i * 3+1,none⟩=some (.string x.v))/\∀ n os,(grow (w.drewN n) os).cell? ⟨g,i * 3+2,none⟩=some (.bool x.g) :=
 ⟨fun n os=>(h.old (below_grown_sl _ w n os (Nat.le_refl _))).at hx 0 _ rfl,fun n os=>(h.old (below_grown_sl _ w n os (Nat.le_refl _))).at hx 1 _ rfl,fun n os=>(h.old (below_grown_sl _ w n os (Nat.le_refl _))).at hx 2 _ rfl⟩
def InP (w:World) (g:Nat) (ex:List Value) (d:List Ed) (a b:Nat) (e:Ending) (w':World):Prop:=SoP w g ex (fun d'=>Stb d d'/\Out d d' a b/\Frm d d' a b/\SrtIn d' a b) e w'
theorem ins_any (cf:Nat) (hcf:CmpE cf) (w:World) (g cap:Nat) (d:List Ed) (ex:List Value) (h:RoE w g d ex) (hl:d.length<=1000000) (a b:Nat) (hab:a<=b) (hb:b<=d.length) :
  Calls Tryz.prog 193 #[.slice (some ⟨g,0,none⟩) d.length cap,.int .i64 a,.int .i64 b,.func (.func cf) #[] #[]] w (InP w g ex d a b):=by
 have eg:=hcf.en;have HC:=Za hcf;obtain ⟨ln,hln⟩:∃ ln,ln=d.length:=⟨_,rfl⟩;have HLN:=Za hln;have HK0:Hid (Kee w g ex d a b d w):=Za ⟨h,Stb.refl _,Out.refl _ _ _,Frm.refl _ _ _,Onl.refl _ _⟩;rw [<- hln] at hb hl ⊢;clear h hln hcf;have mixed:Tryz.prog.follows .mixedOrders=true:=by kernel_rfl
 go_enter Tryz.func193,Tryz.ntmps193
 go_wp2;go_loopw [8] (fun v wr=>∃ (i:Nat) (d':List Ed),a < i/\(i<=b\/i=a+1)/\v=.int .i64 i/\Hid (Kee w g ex d a b d' wr/\SrtIn d' a i)) (fun v _=>b+1 - (intOf v).toNat)
 case atStart=>exact ⟨a+1,d,by omega,.inr rfl,by go_num,Za ⟨HK0.out,fun i j h1 h2 h3=>by omega⟩⟩
 case round =>
  obtain ⟨i,d1,hai,hib,rfl,HK1⟩:=hrel;by_cases hlt:i < b
  ·have hltz:decide ((i:Int) < (b:Int))=true:=decide_eq_true (by omega);obtain ⟨w1,rfl⟩:∃ w1,w1=wr:=⟨_,rfl⟩;go_wp2;go_loopw [9] (fun v wr=>∃ (j:Nat) (d':List Ed),a<=j/\j<=i/\v=.int .i64 j/\Hid (Kee w g ex d a b d' wr/\InI d' a i j)) (fun v _=>(intOf v).toNat)
   case atStart=>exact ⟨i,d1,by omega,Nat.le_refl _,rfl,Za ⟨HK1.out.1,fun p q h1 h2 h3 h4=>HK1.out.2 p q h1 h2 (by omega)⟩⟩
   case round =>
    clear HK1;obtain ⟨j,d2,haj,hji,rfl,HK2⟩:=hrel;have hlen2:=HK2.out.1.len;have hlen3:=HLN.out;by_cases hja:a < j
    ·obtain ⟨jp,hjp⟩:∃ jp,jp=j - 1:=⟨_,rfl⟩;have hjaz:decide ((a:Int) < (j:Int))=true:=decide_eq_true (by omega);have hjaz2:(a:Int) < (j:Int):=by omega
     obtain ⟨xj,hxj⟩:∃ x,d2[j]?=some x:=⟨d2[j]'(by omega),List.getElem?_eq_getElem _⟩;obtain ⟨xp,hxp⟩:∃ x,d2[jp]?=some x:=⟨d2[jp]'(by omega),List.getElem?_eq_getElem _⟩;obtain ⟨j1,j2,j3⟩:=HK2.out.1.ro.grown hxj;obtain ⟨p1,p2,p3⟩:=HK2.out.1.ro.grown hxp;have HX:=Za (And.intro (ZS hxj) (ZS hxp));have hcg:∀ n os,Calls Tryz.prog cf #[aggE xj,aggE xp] (grow (wr.drewN n) os) fun e w'=>e=.returned (.int .i64 (cmpS xj.k xp.k))/\∃ q os',w'=grow ((grow (wr.drewN n) os).drewN q) os':=fun n os=>HC.out.gives xj xp _
     have HLE:Hid (cmpS xj.k xp.k < 0↔ZQ xj.k xp.k=true):=Za cmpS_lt;obtain ⟨z,hz⟩:∃ z,z=cmpS xj.k xp.k:=⟨_,rfl⟩;rw [<- hz] at hcg HLE;unfold aggE at hcg;have wj:IntKind.i64.wrap ((j:Int) - 1)=(jp:Int):=by rw [IntKind.wrap_i64];omega
     have wj2:(j:Int) - 1=(jp:Int):=by omega
     have wj3:IntKind.i64.wrap (jp:Int)=(jp:Int):=by rw [IntKind.wrap_i64];omega
     have g1:j < ln:=by omega
     have g2:jp < ln:=by omega
     have HG:Hid (∀ n os,Below wr.heap.size wr (grow (wr.drewN n) os)):=Za (fun n os=>below_grown_sl _ wr n os (Nat.le_refl _));have HJP:=Za hjp;clear hxj hxp hz hlen2 hlen3 hjp;by_cases hneg:z < 0
     ·have hd:decide (z < 0)=true:=decide_eq_true hneg;go_wp2_with fail
      go_quiet_grown (first | (go_at_fn cf;refine Calls.grown_of (hcg _ _)))
      go_wp2_with fail
      obtain ⟨W3,hW3⟩:∃ W3,W3=grow (wr.drewN nq) osq:=⟨_,rfl⟩;have b3:Below wr.heap.size wr W3:=by rw [hW3];exact HG.out nq osq
      rw [<- hW3];have K3:=HK2.out.1.grown b3;have hl3:=K3.len;obtain ⟨x,y,S1,S2,sw⟩:=(K3.ro.drew).swap (i:=j) (j:=jp) (by have:=HLN.out;omega) (by have:=HLN.out;omega);obtain ⟨l1,l2,l3,l4,s1,s2,s3,s4,ro,on⟩:=sw;have hjj:=HJP.out;have hslt:ZQ (ZG d2 j) (ZG d2 jp)=true:=by rw [HX.out.1,HX.out.2];exact HLE.out.1 hneg
      have HF:Hid (Kee w g ex d a b (swL d2 j jp) S2/\InI (swL d2 j jp) a i jp):=by
       obtain rfl:j=jp+1:=by omega
       refine Za ⟨K3.swap ro ((Onl.refl _ W3).drew.trans on) (by have:=HLN.out;omega) (by omega) (by omega) (fun q=>neK_lt hslt q.symm),?_⟩;have:=HK2.out.2.step (by omega) hji (by have:=HLN.out;omega) hslt;exact this
      unfold aggE at l2 l4 s1 s2 s3 s4;clear hW3 b3 K3 hl3 ro on hjj hslt j1 j2 j3 p1 p2 p3 hcg HK2 HG;go_region
      go_wp2;go_roundw
      case rel=>exact ⟨jp,_,by have:=HJP.out;omega,by have:=HJP.out;omega,rfl,HF⟩
      case measure=>have:=HJP.out;simp [intOf];omega
     ·have hd:decide (z < 0)=false:=decide_eq_false hneg
      have HS:Hid (SrtIn d2 a (i+1)):=by
       refine Za (HK2.out.2.stop hji (.inr ?_));rw [<- HJP.out,HX.out.1,HX.out.2];cases q:ZQ xj.k xp.k with
       | false=>exact q
       | true=>exact absurd (HLE.out.2 q) hneg
      go_wp2_with fail
      go_quiet_grown (first | (go_at_fn cf;refine Calls.grown_of (hcg _ _)))
      go_wp2;go_roundw
      case rel=>exact ⟨i+1,d2,by omega,.inl (by omega),by go_num,Za ⟨HK2.out.1.grown (HG.out nq osq),HS.out⟩⟩
      case measure=>simp [intOf];omega
    ·have hjaz:decide ((a:Int) < (j:Int))=false:=decide_eq_false (by omega);have HS:Hid (SrtIn d2 a (i+1)):=Za (HK2.out.2.stop hji (.inl (by omega)));clear hlen2 hlen3;go_wp2;go_quiet (fail)
     go_wp2;go_roundw
     case rel=>exact ⟨i+1,d2,by omega,.inl (by omega),by go_num,Za ⟨HK2.out.1.grown (below_drewN (Below.refl _ _) _),HS.out⟩⟩
     case measure=>simp [intOf];omega
  ·have hltz:decide ((i:Int) < (b:Int))=false:=decide_eq_false (by omega);have HF:Hid (InP w g ex d a b (.returned (.tuple #[])) wr):=Za ⟨rfl,d1,HK1.out.1.ro,⟨HK1.out.1.stb,HK1.out.1.out,HK1.out.1.frm,HK1.out.2.sub (Nat.le_refl _) (by omega)⟩,HK1.out.1.on⟩;go_wp2;go_end0
   exact HF.out
end
end Go.Proofs.YtdhebpnkfookcaaGreat
