import Derived.Test.YtdhebpnkfookcaaGreatRM41
set_option maxRecDepth 100000
set_option maxHeartbeats 8000000
namespace Go.Proofs.YtdhebpnkfookcaaGreat
open Go.RowKit Apo
def headK:List En->ByteArray × Bool
 | []=>(⟨#[]⟩,false)
 | e :: _=>(e.k,true)
def leastK:List En->List En->ByteArray × Bool
 | [],fs=>headK fs
 | e :: _,[]=>(e.k,true)
 | e :: _,f :: _=>if Z2 f.k e.k=true then (f.k,true) else (e.k,true)
open Classical in
noncomputable def takeK:List En->ByteArray->(Bool × ByteArray) × List En
 | [],_=>((false,⟨#[]⟩),[])
 | e :: es,key=>if e.k=key then ((true,e.v),es) else ((false,⟨#[]⟩),e :: es)
open Classical in
noncomputable def chOf (key:ByteArray) (v w:Bool × ByteArray):List Ch:=if v=w then [] else [⟨key,v.1,v.2,w.1,w.2⟩]
inductive OfR:List En->List En->List Ch->Prop where
 | done:OfR [] [] []
 | step {es fs:List En} {key:ByteArray} {cs:List Ch}:leastK es fs=(key,true)->OfR (takeK es key).2 (takeK fs key).2 cs->OfR es fs (chOf key (takeK es key).1 (takeK fs key).1++cs)
def Cur (B:Nat) (w:World) (p:Nat) (es:List En):Prop:=B<=p/\∃ a c,Ob w p 195 [.slice a es.length c]/\RdEn w a es/\es.length<=c/\c<=maxLen/\(∀ x,a=some x->es≠[]->x.block < B)
theorem Cur.onl {B:Nat} {w w':World} {p:Nat} {es:List En} {O:Nat->Prop} (h:Cur B w p es) (o:Onl O w w') (hp:¬ O p) (hO:∀ i,O i->B<=i):Cur B w' p es:=by
 obtain ⟨hB,a,c,k,r,h1,h3,h2⟩:=h;refine ⟨hB,a,c,k.onl o hp,fun i e hi=>?_,h1,h3,h2⟩;obtain ⟨g,of,e1,e2,e3⟩:=r i e hi;have hg:=World.block_lt_of_cell? _ _ e2;have hgB:g < B:=h2 _ e1 (fun q=>by rw [q] at hi;simp at hi);have hb:=o.block g hg (fun q=>by have:=hO g q;omega);exact ⟨g,of,e1,(World.cell?_of_block (a:=⟨g,of+i * 2,none⟩) hb).trans e2,(World.cell?_of_block (a:=⟨g,of+i * 2+1,none⟩) hb).trans e3⟩
theorem dkey_any {B:Nat} {w:World} {p:Nat} {es:List En} (h:Cur B w p es):Calls Tryz.prog 114 #[.pointer (some ⟨p,0,none⟩)] w fun e w'=>e=.returned (.tuple #[.string (headK es).1,.bool (headK es).2])/\w=w':=by
 obtain ⟨_,a,c,k,r,_,_,_⟩:=h;have y0:=k.cell 0;simp only [List.getElem?_cons_zero] at y0;cases es with
 | nil =>
  simp only [List.length_nil] at y0;clear r k;go_enter Tryz.func114,Tryz.ntmps114
  go_wp2;go_ret2
  exact ⟨rfl,rfl⟩
 | cons e es =>
  obtain ⟨g,of,rfl,q1,q2⟩:=r 0 e rfl;simp only [List.length_cons,Nat.zero_mul,Nat.add_zero] at y0 q1;have hz:(((es.length+1:Nat):Int) == 0)=false:=by simp;omega
  clear r k q2;go_enter Tryz.func114,Tryz.ntmps114
  go_wp2;go_ret2
  exact ⟨rfl,rfl⟩
theorem fin_take {W:World} {g:Nat} {c0 c1:Value} {tmps:Array Value} {Q:Ending->World->Prop} (k:Ob W g 35 [c0,c1]) (h4:tmps.getD 4 undef=.pointer (some ⟨g,0,none⟩)) (hq:Q (.returned (.agg #[c0,c1])) W) :
  bodyPost Tryz.prog Tryz.f112 Q Exit.ret { tmps:=tmps,defers:=[] } W:=by
 have hl:=run_loadVar_row (P:=Tryz.prog) W g 35 35 #[c0,c1] (0,0) _ k Tryz.underlying35 rfl (by rw [size_side];rfl);have h4':tmps[4]?.getD undef=.pointer (some ⟨g,0,none⟩):=by simpa using h4
 refine bodyPost_ret (v:=.agg #[c0,c1]) ?_ rfl hq;simp [results,Tryz.results112,asAddr,h4',hl]
def TkP (B:Nat) (w:World) (p:Nat) (es:List En) (key:ByteArray) (e:Ending) (w':World):Prop:=e=.returned (.agg #[.bool (takeK es key).1.1,.string (takeK es key).1.2])/\Cur B w' p (takeK es key).2/\Onl (fun j=>j=p) w w'
theorem dtake_any {B:Nat} {w:World} {p:Nat} {es:List En} (h:Cur B w p es) (key:ByteArray) (hl:es.length<=1000000):Calls Tryz.prog 112 #[.pointer (some ⟨p,0,none⟩),.string key] w (TkP B w p es key):=by
 obtain ⟨W0,hW0⟩:∃ W0,W0=w.alloc (.cells #[.bool false,.string ⟨#[]⟩] 35):=⟨_,rfl⟩;have b0:Below w.heap.size w W0:=by rw [hW0];exact (Below.refl _ w).alloc (Nat.le_refl _) _
 have k0:Ob W0 w.heap.size 35 [.bool false,.string ⟨#[]⟩]:=by rw [hW0];exact Ob.new w [.bool false,.string ⟨#[]⟩] 35
 have hcur:Cur B W0 p es:=h.onl (O:=fun _=>False) (Onl.ofBelow b0) (fun q=>q) (fun _ q=>q.elim);have hpl:p < w.heap.size:=by obtain ⟨_,a,c,k,_⟩:=h;exact k.lt
 have hBp:B<=p:=h.1;have CK:=dkey_any hcur;have z0:=k0.cell 0;have z1:=k0.cell 1;have f0:=k0.frozen 0;have f1:=k0.frozen 1;simp only [List.getElem?_cons_zero,List.getElem?_cons_succ] at z0 z1;have HCK:=Za CK;clear CK;by_cases hno:∀ e r,es=e :: r->e.k≠key
 ·have htk:takeK es key=((false,⟨#[]⟩),es):=by
   cases es with
   | nil=>rfl
   | cons e r=>exact if_neg (hno e r rfl)
  obtain ⟨W2,hW2⟩:∃ W2,W2=(W0.setCell ⟨w.heap.size,0,none⟩ (.bool false)).setCell ⟨w.heap.size,1,none⟩ (.string ⟨#[]⟩):=⟨_,rfl⟩;have o2:Onl (fun j=>j=w.heap.size) W0 W2:=by rw [hW2];exact ((Onl.refl (fun j=>j=w.heap.size) W0).set (p:=w.heap.size) (.inl rfl) _).set (p:=w.heap.size) (.inl rfl) _
  have k2:Ob W2 w.heap.size 35 [.bool false,.string ⟨#[]⟩]:=by rw [hW2];exact (k0.set 0 _).set 1 _
  have hF:TkP B w p es key (.returned (.agg #[.bool false,.string ⟨#[]⟩])) W2:=by
   unfold TkP;rw [htk];exact ⟨rfl,hcur.onl o2 (by omega) (fun i hi=>by omega),(Onl.ofBelow b0).more o2 (fun i q=>.inr (by omega))⟩
  have HF:=Za hF;have HK2:=Za k2
  obtain ⟨kk,bb,hkb,htest⟩:∃ kk bb,headK es=(kk,bb)/\(bb=false\/(kk.toList == key.toList)=false):=by
   cases es with
   | nil=>exact ⟨_,_,rfl,.inl rfl⟩
   | cons e r =>
    refine ⟨_,_,rfl,.inr ?_⟩;cases q:(e.k.toList == key.toList) with
    | false=>rfl
    | true=>exact absurd (ZA (by simpa using q)) (hno e r rfl)
  rw [hkb] at HCK;rw [hW2] at HF HK2;clear hW2 o2 k2 hF htk hno hkb hcur k0 b0 h;go_enter Tryz.func112,Tryz.ntmps112
  go_wp2_with fail
  rw [<- hW0];clear hW0;refine HCK.out.mono ?_;rintro e w2 ⟨rfl,rfl⟩;rcases htest with rfl | htest
  ·go_wp2;exact fin_take HK2.out rfl HF.out
  ·cases bb
   ·go_wp2;exact fin_take HK2.out rfl HF.out
   ·go_wp2;exact fin_take HK2.out rfl HF.out
 ·obtain ⟨e,r,rfl,hk⟩:∃ e r,es=e :: r/\e.k=key:=by
   cases es with
   | nil=>exact absurd (fun e r q=>by cases q) hno
   | cons e r =>
    refine ⟨e,r,rfl,?_⟩;by_cases q:e.k=key
    ·exact q
    ·exact absurd (fun e' r' q'=>by cases q';exact q) hno
  have htk:takeK (e :: r) key=((true,e.v),r):=if_pos hk;obtain ⟨_,a,c,ob,rd,h1,h3,h2⟩:=hcur;obtain ⟨g,of,rfl,q1,q2⟩:=rd 0 e rfl;have hgB:g < B:=h2 _ rfl (by simp);have y0:=ob.cell 0;have yf:=ob.frozen 0;simp only [List.length_cons,List.getElem?_cons_zero,Nat.zero_mul,Nat.add_zero] at y0 q1 q2 hl h1;obtain ⟨n,hn⟩:∃ n,n=r.length:=⟨_,rfl⟩;obtain ⟨A,hA⟩:∃ A:Option Addr,A=(if c=1 then some ⟨g,of,none⟩ else some ⟨g,of+2,none⟩):=⟨_,rfl⟩;obtain ⟨W1,hW1⟩:∃ W1,W1=W0.setCell ⟨p,0,none⟩ (.slice A n (c - 1)):=⟨_,rfl⟩;obtain ⟨W2,hW2⟩:∃ W2,W2=(W1.setCell ⟨w.heap.size,0,none⟩ (.bool true)).setCell ⟨w.heap.size,1,none⟩ (.string e.v):=⟨_,rfl⟩;have o1:Onl (fun j=>j=p) W0 W1:=by rw [hW1];exact (Onl.refl (fun j=>j=p) W0).set (p:=p) (.inl rfl) _
  have o2:Onl (fun j=>j=w.heap.size) W1 W2:=by rw [hW2];exact ((Onl.refl (fun j=>j=w.heap.size) W1).set (p:=w.heap.size) (.inl rfl) _).set (p:=w.heap.size) (.inl rfl) _
  have k1:Ob W1 w.heap.size 35 [.bool false,.string ⟨#[]⟩]:=k0.onl o1 (by omega);have k2:Ob W2 w.heap.size 35 [.bool true,.string e.v]:=by rw [hW2];exact (k1.set 0 _).set 1 _
  have ob1:Ob W1 p 195 [.slice A n (c - 1)]:=by rw [hW1];exact ob.set 0 _
  have hrd:RdEn W1 A r:=by
   intro i x hi;obtain ⟨g',of',e1,e2,e3⟩:=rd (i+1) x (by simpa using hi);injection e1 with e1
   injection e1 with e1 e1'
   subst e1 e1';have hil:=(List.getElem?_eq_some_iff.1 hi).1;have hc1:c≠1:=by omega
   rw [if_neg hc1] at hA;have hg:=World.block_lt_of_cell? _ _ e2;have hb:=o1.block g hg (by simp only at hg;omega);refine ⟨g,of+2,hA,?_,?_⟩
   ·rw [show of+2+i * 2=of+(i+1) * 2 by omega];exact (World.cell?_of_block (a:=⟨g,of+(i+1) * 2,none⟩) hb).trans e2
   ·rw [show of+2+i * 2+1=of+(i+1) * 2+1 by omega];exact (World.cell?_of_block (a:=⟨g,of+(i+1) * 2+1,none⟩) hb).trans e3
  have hcur1:Cur B W1 p r:=by
   refine ⟨hBp,A,c - 1,by rw [<- hn];exact ob1,hrd,by omega,by omega,fun x hx _=>?_⟩;rw [hA] at hx;split at hx
   ·cases hx;exact hgB
   ·cases hx;exact hgB
  have hF:TkP B w p (e :: r) key (.returned (.agg #[.bool true,.string e.v])) W2:=by
   unfold TkP;rw [htk];refine ⟨rfl,hcur1.onl o2 (by omega) (fun i hi=>by omega),?_⟩;exact ((Onl.ofBelow b0).trans o1).more o2 (fun i q=>.inr (by omega))
  have z0':=k1.cell 0;have z1':=k1.cell 1;have f0':=k1.frozen 0;have f1':=k1.frozen 1;simp only [List.getElem?_cons_zero,List.getElem?_cons_succ] at z0' z1';have HF:=Za hF;have HK2:=Za k2;have hd:(e.k.toList == key.toList)=true:=by rw [hk];simp
  have hne:(e.k.toList != key.toList)=false:=by rw [hk];simp
  have hc1:1<=c:=by omega
  rw [hW2,hW1] at HF HK2;rw [hW1] at z0' z1' f0' f1';rw [<- hn] at y0 hl h1;have h64:maxLen<=9223372036854775807:=by decide
  clear hW2 hW1 o1 o2 k1 k2 ob1 hrd hcur1 hF htk hno ob rd h2 k0 b0 h z0 z1 f0 f1 hn hk;go_enter Tryz.func112,Tryz.ntmps112
  go_wp2_with fail
  rw [<- hW0];clear hW0;refine HCK.out.mono ?_;rintro e' w2 ⟨rfl,rfl⟩;simp only [headK];by_cases hc2:c=1
  ·subst hc2;obtain rfl:n=0:=by omega
   simp only [if_true] at hA;subst hA;simp only [Nat.sub_self] at HF HK2 z0' z1' f0' f1';go_wp2;exact fin_take HK2.out rfl HF.out
  ·rw [if_neg hc2] at hA;subst hA;go_wp2;exact fin_take HK2.out rfl HF.out
theorem dleast_any {B:Nat} {w:World} {p q:Nat} {es fs:List En} (h:Cur B w p es) (h':Cur B w q fs):Calls Tryz.prog 113 #[.func (.func 114) #[.pointer (some ⟨p,0,none⟩)] #[],.func (.func 114) #[.pointer (some ⟨q,0,none⟩)] #[]] w fun e w'=>e=.returned (.tuple #[.string (leastK es fs).1,.bool (leastK es fs).2])/\w=w':=by
 have C1:=dkey_any h;have C2:=dkey_any h';clear h h';have HC1:=Za C1;have HC2:=Za C2;clear C1 C2;cases es with
 | nil =>
  cases fs with
  | nil =>
   simp only [headK] at HC1 HC2;go_enter Tryz.func113,Tryz.ntmps113
   go_wp2_with fail
   refine HC1.out.mono ?_;rintro e' w2 ⟨rfl,rfl⟩;go_wp2_with fail
   refine HC2.out.mono ?_;rintro e' w2 ⟨rfl,rfl⟩;go_wp2;go_ret2
   exact ⟨rfl,rfl⟩
  | cons f fs =>
   simp only [headK] at HC1 HC2;go_enter Tryz.func113,Tryz.ntmps113
   go_wp2_with fail
   refine HC1.out.mono ?_;rintro e' w2 ⟨rfl,rfl⟩;go_wp2_with fail
   refine HC2.out.mono ?_;rintro e' w2 ⟨rfl,rfl⟩;go_wp2;go_ret2
   exact ⟨rfl,rfl⟩
 | cons e es =>
  cases fs with
  | nil =>
   simp only [headK] at HC1 HC2;go_enter Tryz.func113,Tryz.ntmps113
   go_wp2_with fail
   refine HC1.out.mono ?_;rintro e' w2 ⟨rfl,rfl⟩;go_wp2_with fail
   refine HC2.out.mono ?_;rintro e' w2 ⟨rfl,rfl⟩;go_wp2;go_ret2
   exact ⟨rfl,rfl⟩
  | cons f fs =>
   simp only [headK] at HC1 HC2;cases hb:Z2 f.k e.k
   ·have hl:leastK (e :: es) (f :: fs)=(e.k,true):=by simp [leastK,hb]
    have hb':Op.bytesLess f.k.toList e.k.toList=false:=hb;rw [hl];clear hl hb;go_enter Tryz.func113,Tryz.ntmps113
    go_wp2_with fail
    refine HC1.out.mono ?_;rintro e' w2 ⟨rfl,rfl⟩;go_wp2_with fail
    refine HC2.out.mono ?_;rintro e' w2 ⟨rfl,rfl⟩;go_wp2;go_ret2
    exact ⟨rfl,rfl⟩
   ·have hl:leastK (e :: es) (f :: fs)=(f.k,true):=by simp [leastK,hb]
    have hb':Op.bytesLess f.k.toList e.k.toList=true:=hb;rw [hl];clear hl hb;go_enter Tryz.func113,Tryz.ntmps113
    go_wp2_with fail
    refine HC1.out.mono ?_;rintro e' w2 ⟨rfl,rfl⟩;go_wp2_with fail
    refine HC2.out.mono ?_;rintro e' w2 ⟨rfl,rfl⟩;go_wp2;go_ret2
    exact ⟨rfl,rfl⟩
section
attribute [local go_sem ↓] app_exec
open Classical in
theorem neqSd (b b':Bool) (v v':ByteArray) (w:World):(binOp .neq 35 (.agg #[.bool b,.string v]) (.agg #[.bool b',.string v'])).run Tryz.prog w=.ok (.bool (!decide ((b,v)=(b',v')))) w:=by
 have u9:=Tryz.underlying9;have u4:=Tryz.underlying4;have hS:Tryz.prog.underlying 35=some (.struct (Tryz.prog.fieldsOf 35)):=by kernel_rfl
 have hp:Tryz.prog.stoodInHeld 35=false:=by kernel_rfl
 rw [run_neq_struct,show (10000:Nat)=9999+1 from rfl,run_equalIn_agg w 9999 35 _ _ hS hp];simp only [Program.fieldsOf,Tryz.underlying35];go_simp;by_cases h1:b=b'
 ·by_cases h2:v=v'
  ·simp [h1,h2]
  ·have h2':¬ v.toList=v'.toList:=fun e=>h2 (ZA e)
   simp [h1,h2,h2']
 ·simp [h1]
def lenC (w:World) (p:Nat):Nat:=match w.cell? ⟨p,0,none⟩ with
 | some (.slice _ n _)=>n
 | _=>0
theorem Cur.len {B:Nat} {w:World} {p:Nat} {es:List En} (h:Cur B w p es):lenC w p=es.length:=by
 obtain ⟨_,a,c,k,_⟩:=h;have:=k.cell 0;simp only [List.getElem?_cons_zero] at this;unfold lenC;rw [this]
theorem least_none {es fs:List En} (h:(leastK es fs).2=false):es=[]/\fs=[]:=by
 cases es with
 | nil=>cases fs with
  | nil=>exact ⟨rfl,rfl⟩
  | cons f fs=>cases h
 | cons e es=>cases fs with
  | nil=>cases h
  | cons f fs=>simp only [leastK] at h;split at h <;> cases h
theorem take_len (es:List En) (key:ByteArray):(takeK es key).2.length<=es.length:=by
 cases es with
 | nil=>exact Nat.le_refl _
 | cons e es =>
  simp only [takeK];split
  ·simp
  ·exact Nat.le_refl _
theorem take_less {es fs:List En} {key:ByteArray} (h:leastK es fs=(key,true)):(takeK es key).2.length+(takeK fs key).2.length < es.length+fs.length:=by
 have l1:=take_len es key;have l2:=take_len fs key
 have cut:∀ (e:En) (l:List En),e.k=key->(takeK (e :: l) key).2.length < (e :: l).length:=fun e l he=>by
  have:takeK (e :: l) key=((true,e.v),l):=if_pos he;rw [this];simp
 cases es with
 | nil=>cases fs with
  | nil=>cases h
  | cons f fs =>
   have:f.k=key:=by cases h;rfl
   have:=cut f fs this;omega
 | cons e es=>cases fs with
  | nil =>
   have:e.k=key:=by cases h;rfl
   have:=cut e es this;omega
  | cons f fs =>
   simp only [leastK] at h;split at h
   ·have:f.k=key:=by cases h;rfl
    have:=cut f fs this;omega
   ·have:e.k=key:=by cases h;rfl
    have:=cut e es this;omega
def DChP (R:List Ch->Prop) (w:World) (e:Ending) (w':World):Prop:=∃ (cs:List Ch) (va:Option Addr) (vc:Nat),e=.returned (.slice va cs.length vc)/\R cs/\Row (fun g=>w.heap.size<=g) w' 80 5 (.slice va cs.length vc) cs.length (Zf cCh cs)/\Below w.heap.size w w'
def OfJ (w:World) (es fs es' fs':List En) (cs:List Ch) (va:Option Addr) (vc:Nat) (wr:World):Prop :=
 Row (fun g=>w.heap.size+2<=g) wr 80 5 (.slice va cs.length vc) cs.length (Zf cCh cs)/\Cur w.heap.size wr w.heap.size es'/\Cur w.heap.size wr (w.heap.size+1) fs'/\Below w.heap.size w wr/\(∀ ds,OfR es' fs' ds->OfR es fs (cs++ds))/\cs.length+es'.length+fs'.length<=es.length+fs.length
theorem dof_any (w:World) (a b:Option Addr) (ca cb:Nat) (es fs:List En) (ha:RdEn w a es) (hb:RdEn w b fs) (hla:es.length<=1000) (hlb:fs.length<=1000) (hca:es.length<=ca) (hcb:fs.length<=cb) (hma:ca<=maxLen) (hmb:cb<=maxLen) :
  Calls Tryz.prog 71 #[.slice a es.length ca,.slice b fs.length cb] w (DChP (OfR es fs) w):=by
 obtain ⟨n,hn⟩:∃ n,n=es.length:=⟨_,rfl⟩;obtain ⟨m,hm⟩:∃ m,m=fs.length:=⟨_,rfl⟩;obtain ⟨W0,hW0⟩:∃ W0,W0=(w.alloc (.cells #[.slice a n ca] 195)).alloc (.cells #[.slice b m cb] 195):=⟨_,rfl⟩;have b1:Below w.heap.size w (w.alloc (.cells #[.slice a n ca] 195)):=(Below.refl _ w).alloc (Nat.le_refl _) _;have b0:Below w.heap.size w W0:=by rw [hW0];exact b1.alloc b1.size _
 have s0:W0.heap.size=w.heap.size+2:=by rw [hW0];simp
 have k0:Ob W0 w.heap.size 195 [.slice a n ca]:=by rw [hW0];exact (Ob.new w [.slice a n ca] 195).alloc _
 have k1:Ob W0 (w.heap.size+1) 195 [.slice b m cb]:=by
  rw [hW0];have:=Ob.new (w.alloc (.cells #[.slice a n ca] 195)) [.slice b m cb] 195;rw [World.size_alloc] at this;exact this
 have lo:∀ {x:Option Addr} {l:List En},RdEn w x l->∀ y,x=some y->l≠[]->y.block < w.heap.size:=fun {x l} r y hy hl=>by
  cases l with
  | nil=>exact absurd rfl hl
  | cons e l =>
   obtain ⟨g,o,e1,e2,_⟩:=r 0 e rfl;rw [hy] at e1;cases e1
   exact World.block_lt_of_cell? _ _ e2
 have hJ0:OfJ w es fs es fs [] none 0 W0:=⟨Row.nil _ _ _ _,⟨Nat.le_refl _,a,ca,by rw [<- hn];exact k0,ha.below b0,hca,hma,lo ha⟩,⟨by omega,b,cb,by rw [<- hm];exact k1,hb.below b0,hcb,hmb,lo hb⟩,b0,fun ds h=>h,by simp⟩;have HJ0:=Za hJ0;have HL:=Za (And.intro hla hlb);rw [<- hn,<- hm];clear ha hb hn hm k0 k1 b0 b1 s0 lo hJ0 hla hlb hca hcb hma hmb;go_enter Tryz.func71,Tryz.ntmps71
 go_wp2;rw [<- hW0];clear hW0;go_loopw [9] (fun v wr=>∃ (es' fs':List En) (cs:List Ch) (va:Option Addr) (vc nk:Nat),v=.slice va nk vc/\Hid (nk=cs.length)/\Hid (OfJ w es fs es' fs' cs va vc wr)) (fun _ wr=>lenC wr w.heap.size+lenC wr (w.heap.size+1))
 case atStart=>exact ⟨es,fs,[],none,0,0,rfl,Za rfl,HJ0⟩
 case round =>
  obtain ⟨es',fs',cs,va,vc,nk,rfl,HNK,HJ⟩:=hrel;obtain ⟨hrow,hp,hq,hbel,hof,hcnt⟩:=HJ.out;have CL:=dleast_any hp hq;have HM:=Za (show lenC wr w.heap.size+lenC wr (w.heap.size+1)=es'.length+fs'.length by rw [hp.len,hq.len]);obtain ⟨⟨key,is⟩,hki⟩:∃ ki,ki=leastK es' fs':=⟨_,rfl⟩;rw [<- hki] at CL;have HCL:=Za CL;cases is with
  | false =>
   obtain ⟨rfl,rfl⟩:=least_none (es:=es') (fs:=fs') (by rw [<- hki])
   have HF:Hid (DChP (OfR es fs) w (.returned (.slice va nk vc)) wr):=by
    refine Za ⟨cs,va,vc,by rw [HNK.out],?_,hrow.mono (fun i hi=>by omega),hbel⟩;have:=hof [] OfR.done;rwa [List.append_nil] at this
   clear hrow hp hq hbel hof hcnt CL HM hki HJ;go_wp2_with fail
   refine HCL.out.mono ?_;rintro e' w2 ⟨rfl,rfl⟩;go_wp2;go_ret
   exact HF.out
  | true =>
   have CT:=dtake_any hp key (by have:=HL.out;omega);unfold TkP at CT;have HLS:=Za (take_less hki.symm);obtain ⟨⟨⟨b1,v1⟩,es2⟩,ht1⟩:∃ x,x=takeK es' key:=⟨_,rfl⟩;obtain ⟨⟨⟨b2,v2⟩,fs2⟩,ht2⟩:∃ x,x=takeK fs' key:=⟨_,rfl⟩
   have HST:Hid (∀ ds,OfR es2 fs2 ds->OfR es' fs' (chOf key (b1,v1) (b2,v2)++ds)):=Za (fun ds h=>by
    have:=OfR.step (cs:=ds) hki.symm (by rw [<- ht1,<- ht2];exact h);rw [<- ht1,<- ht2] at this;exact this)
   rw [<- ht1] at CT;rw [<- ht1,<- ht2] at HLS;have HCT:=Za CT;have CU:∀ W,Cur w.heap.size W (w.heap.size+1) fs'->Calls Tryz.prog 112 #[.pointer (some ⟨w.heap.size+1,0,none⟩),.string key] W (TkP w.heap.size W (w.heap.size+1) fs' key):=fun W h=>dtake_any h key (by have:=HL.out;omega)
   unfold TkP at CU;rw [<- ht2] at CU;have HCU:=Za CU;have HJ':=Za (And.intro hrow (And.intro hq (And.intro hbel (And.intro hof hcnt))));simp only at HCL HCT HCU HLS;clear hrow hp hq hbel hof hcnt CL CT CU hki ht1 ht2 HJ;go_wp2_with fail
   refine HCL.out.mono ?_;rintro e' w2 ⟨rfl,rfl⟩;go_wp2_with fail
   refine HCT.out.mono ?_;rintro e' w3 ⟨rfl,c3,o3⟩;have q3:=HJ'.out.2.1.onl o3 (by omega) (fun i hi=>by omega);have HCU3:=Za (HCU.out w3 q3);have H3:=Za (And.intro c3 o3);clear c3 o3 q3 HCU;go_wp2_with fail
   refine HCU3.out.mono ?_;rintro e' w4 ⟨rfl,c4,o4⟩;obtain ⟨c3,o3⟩:=H3.out;obtain ⟨hrow,hq,hbel,hof,hcnt⟩:=HJ'.out;have hB:=hbel.size;have c3':=c3.onl o4 (by omega) (fun i hi=>by omega);have hb4:Below w.heap.size w w4:=Below.onl (Below.onl hbel o3 (fun i hi=>by omega) (Nat.le_refl _)) o4 (fun i hi=>by omega) (Nat.le_refl _);have row4:=(hrow.onl o3 (fun g hg q=>by have:=hrow.2 g hg;omega)).onl o4 (fun g hg q=>by have:=hrow.2 g hg;omega);obtain ⟨w5,hw5⟩:∃ w5,w5=(w4.alloc (.cells #[.bool b1,.string v1] 35)).alloc (.cells #[.bool b2,.string v2] 35):=⟨_,rfl⟩;have bb5:Below w4.heap.size w4 w5:=by rw [hw5];exact ((Below.refl _ w4).alloc (Nat.le_refl _) _).alloc (by simp) _
   have s5:w5.heap.size=w4.heap.size+2:=by rw [hw5];simp
   have k5:Ob w5 w4.heap.size 35 [.bool b1,.string v1]:=by rw [hw5];exact (Ob.new w4 [.bool b1,.string v1] 35).alloc _
   have k6:Ob w5 (w4.heap.size+1) 35 [.bool b2,.string v2]:=by
    rw [hw5];have:=Ob.new (w4.alloc (.cells #[.bool b1,.string v1] 35)) [.bool b2,.string v2] 35;rw [World.size_alloc] at this;exact this
   have o5:Onl (fun _=>False) w4 w5:=Onl.ofBelow bb5;have hJ5:OfJ w es fs es2 fs2 cs va vc w5->True:=fun _=>trivial
   have c5:=c3'.onl o5 (fun q=>q) (fun _ q=>q.elim);have d5:=c4.onl o5 (fun q=>q) (fun _ q=>q.elim);have row5:=row4.onl o5 (fun _ _ q=>q);have hb5:=Below.onl hb4 o5 (fun _ q=>q.elim) (Nat.le_refl _);have y0:=k5.cell 0;have y1:=k5.cell 1;have x0:=k6.cell 0;have x1:=k6.cell 1;simp only [List.getElem?_cons_zero,List.getElem?_cons_succ] at y0 y1 x0 x1;have hcmp:=neqSd b1 b2 v1 v2;have hgd:Tryz.prog.eqGuardType Tryz.prog.depth 35=false:=by kernel_rfl
   have HW5:=Za hw5;by_cases heq:(b1,v1)=(b2,v2)
   ·rw [decide_eq_true heq] at hcmp;simp only [Bool.not_true] at hcmp
    have HF:Hid (OfJ w es fs es2 fs2 cs va vc w5):=Za ⟨row5,c5,d5,hb5,fun ds h=>by
      have:=hof _ (HST.out ds h);rwa [chOf,if_pos heq,List.nil_append] at this,by have:=HLS.out;omega⟩
    have HM5:=Za (show lenC w5 w.heap.size+lenC w5 (w.heap.size+1) < es'.length+fs'.length by rw [c5.len,d5.len];exact HLS.out);rw [HW5.out] at y0 y1 x0 x1 HF HM5;clear HW5 hw5 hJ5 k5 k6 bb5 s5 o5 c5 d5 row5 hb5 c3 o3 hrow hq hbel hof hcnt c3' hb4 row4 c4 o4 heq;go_wp2;go_roundw
    case rel=>exact ⟨es2,fs2,cs,va,vc,nk,rfl,HNK,HF⟩
    case measure=>rw [HM.out];exact HM5.out
   ·rw [decide_eq_false heq] at hcmp;simp only [Bool.not_false] at hcmp;obtain ⟨x,hx⟩:∃ x:Ch,x=⟨key,b1,v1,b2,v2⟩:=⟨_,rfl⟩;obtain ⟨w6,hw6⟩:∃ w6,w6=w5.alloc (.cells (cCh x).toArray 80):=⟨_,rfl⟩;have bb6:Below w5.heap.size w5 w6:=by rw [hw6];exact (Below.refl _ w5).alloc (Nat.le_refl _) _
    have row6:=row5.onl (F:=fun _=>False) (Onl.ofBelow bb6) (fun _ _ q=>q);have rd6:RdG cCh 5 w6 (some ⟨w5.heap.size,0,none⟩) [x]:=by rw [hw6];exact rd_lit _ _ x
    obtain ⟨v8,w8,RR,r8,o8,ow8⟩:=app_ch (cp:=1) row6 (by have:=HL.out;simp;omega) rd6;obtain ⟨va8,vc8,hva8,_⟩:=r8.form;obtain ⟨n8,hn8⟩:∃ n8,n8=(cs++[x]).length:=⟨_,rfl⟩;rw [hva8] at r8 RR;rw [show [x].length=1 from rfl,<- hn8,<- HNK.out] at RR;have hs6:w6.heap.size=w4.heap.size+3:=by rw [hw6,World.size_alloc];omega
    have hs4:=hb4.size;have hv8:∀ i,(Value.slice va cs.length vc).ownBlock=some i->w.heap.size+2<=i:=fun i hi=>hrow.2 i hi
    have hs3:=o3.size;have hs4':=o4.size;have hp1:w.heap.size+1 < w4.heap.size:=by obtain ⟨_,_,_,kk,_⟩:=c4;exact kk.lt
    have c8:=(c5.onl (O:=fun _=>False) (Onl.ofBelow bb6) (fun q=>q) (fun _ q=>q.elim)).onl o8 (fun q=>by have:=hv8 _ q;omega) (fun i q=>by have:=hv8 _ q;omega);have d8:=(d5.onl (O:=fun _=>False) (Onl.ofBelow bb6) (fun q=>q) (fun _ q=>q.elim)).onl o8 (fun q=>by have:=hv8 _ q;omega) (fun i q=>by have:=hv8 _ q;omega);have hb8:Below w.heap.size w w8:=Below.onl (hb5.trans (bb6.mono hb5.size)) o8 (fun i q=>by have:=hv8 _ q;omega) (Nat.le_refl _)
    have HF:Hid (OfJ w es fs es2 fs2 (cs++[x]) va8 vc8 w8):=Za ⟨⟨r8.1,fun g hg=>(r8.2 g hg).elim (fun z=>z) (fun z=>by omega)⟩,c8,d8,hb8,fun ds h=>by
      have:=hof _ (HST.out ds h);rwa [chOf,if_neg heq,<- List.append_assoc,<- hx] at this,by have:=HLS.out;simp;omega⟩
    have HM8:=Za (show lenC w8 w.heap.size+lenC w8 (w.heap.size+1) < es'.length+fs'.length by rw [c8.len,d8.len];exact HLS.out);have HN8:=Za hn8;rw [hw6,hx] at RR;simp only [cCh] at RR;rw [hw5] at RR y0 y1 x0 x1;simp only [World.size_alloc] at RR;obtain ⟨z1,z2,z3⟩:=Ze RR;clear HW5 hw5 hJ5 k5 k6 bb5 s5 o5 c5 d5 row5 hb5 c3 o3 hrow hq hbel hof hcnt c3' hb4 row4 c4 o4 heq hw6 bb6 row6 rd6 r8 o8 ow8 hva8 hn8 hs6 hs4 hv8 hs3 hs4' hp1 c8 d8 hb8 RR HST;go_wp2;go_roundw
    case rel=>exact ⟨es2,fs2,cs++[x],va8,vc8,n8,rfl,HN8,HF⟩
    case measure=>rw [HM.out];exact HM8.out
def EnP (R:List En->Prop) (w:World) (e:Ending) (w':World):Prop:=∃ (es:List En) (va:Option Addr) (vc:Nat),e=.returned (.slice va es.length vc)/\R es/\Row (fun g=>w.heap.size<=g) w' 43 2 (.slice va es.length vc) es.length (Zf cEn es)/\Below w.heap.size w w'
end
end Go.Proofs.YtdhebpnkfookcaaGreat
