import Derived.Test.YtdhebpnkfookcaaGreatSM24
set_option maxRecDepth 100000
set_option maxHeartbeats 4000000
namespace Go.Proofs.YtdhebpnkfookcaaGreat
open Go.RowKit Apo
attribute [local go_sem ↓] Apo.app_exec
theorem app_txt {O:Nat->Prop} {W:World} {v:Value} {l:List Int} (h:Row O W 5 1 v l.length (l.map (Value.int .u8))) (h0:0 < l.length) (s:ByteArray) (hl:l.length+s.size<=1000000000000) :
  ∃ v' w',(Builtin.append_ #[41,9] 41 #[v,.string s]).run Tryz.prog W=.ok v' w'/\Row (Gro O W w') w' 5 1 v' (l++nums s).length ((l++nums s).map (Value.int .u8))/\Onl O W w':=by
 obtain ⟨i0,hi,hz0,hz1,hz2⟩:=info_parts infoU8;obtain ⟨v',w',RR,r,g,_⟩:=Lib.run_append_own_string (P:=Tryz.prog) W 0 41 9 41 5 i0 Tryz.underlying41 Tryz.underlying9 hi hz0 hz1 hz2 v l.length (l.map (Value.int .u8)) h.1 s (by unfold maxLen;omega) (by omega) (Nat.zero_le _)
 have hloc:v'.ownBlock=v.ownBlock\/v'.ownBlock=some W.heap.size:=by
  rcases h.1.2 with ⟨_,hz⟩ | ⟨gb,cap,cur,rfl,_,hg,h1,h2,h3,h4⟩
  ·omega
  ·by_cases hroom:l.length+s.size<=cap
   ·have hr:=Lib.run_append_room_string (P:=Tryz.prog) W 41 9 41 5 i0 Tryz.underlying41 Tryz.underlying9 hi hz1 gb l.length cap cur hg s hroom (by simp at h3;omega);rw [RR] at hr;injection hr with e1 e2
    left
    rw [e1];rfl
   ·have holds:∀ j u,(l.map (Value.int .u8))[j]?=some u->W.cell? ((⟨gb,0,none⟩:Addr).add j)=some u:=by
     intro j u hu;have hj:=(List.getElem?_eq_some_iff.1 hu).1;rw [List.length_map] at hj;rw [<- h4,List.getElem?_take_of_lt (by omega)] at hu;have:(⟨gb,0,none⟩:Addr).add j=⟨gb,j,none⟩:=by unfold Addr.add;split <;> simp_all
     rw [this,cell_of_row W gb j _ _ _ hg];simpa using hu
    have hr:=Lib.run_append_grow_string (P:=Tryz.prog) W 41 9 41 5 i0 (.int .u8 0) Tryz.underlying41 Tryz.underlying9 hi hz0 ⟨gb,0,none⟩ l.length cap (l.map (Value.int .u8)) (by rw [hz1];simp) holds s (by omega) (by omega) (by rw [hz2];exact growslice_fits (by omega) (by omega));rw [RR] at hr;injection hr with e1 e2
    right
    rw [e1];rfl
 obtain ⟨rr,oo⟩:=row_grown (O:=O) (w:=W) (wr:=W) (w1:=W) (h.mono (fun i q=>.inl q)) (Onl.refl _ _) (Below.refl _ _) r g hloc;refine ⟨v',w',RR,?_,oo⟩;rw [strCells_nums,<- List.map_append] at rr;rw [List.length_append,ZU];exact rr
end Go.Proofs.YtdhebpnkfookcaaGreat
namespace Apo
open Go Go.RowKit
def enB (e:En):List Int:=enc e.k.size++nums e.k++(enc e.v.size++nums e.v)
def kiB (k:Ki):List Int:=enc k.k.size++nums k.k++enc k.i
def ZW (n:Nd):List Int:=enc n.lv.toNat++enc (n.es.length+n.ks.length)++n.es.flatMap enB++n.ks.flatMap kiB
def putE (n:Nd):List Int × Int:=if nodeE n≠0 then ([],nodeE n) else if 131072 < (ZW n).length then ([],2) else (ZW n,0)
theorem firstE_zero {α:Type} {f:α->Int}:∀ {l:List α},ZE f l=0->∀ x ∈ l,f x=0
 | [],_,x,hx=>by simp at hx
 | y :: l,h,x,hx=>by
  unfold ZE at h;by_cases q:f y=0
  ·rw [if_neg (by simp [q])] at h;rcases List.mem_cons.1 hx with rfl | z
   ·exact q
   ·exact firstE_zero h x z
  ·rw [if_pos q] at h;exact absurd h q
theorem keyE_ok {k:ByteArray} (h:Z2 k=0):1<=k.size/\k.size<=40:=by
 unfold Z2 at h;split at h
 ·simp at h
 ·omega
theorem nodeE_ok {n:Nd} (h:nodeE n=0):(∀ e ∈ n.es,(1<=e.k.size/\e.k.size<=40)/\e.v.size<=200)/\(∀ k ∈ n.ks,(1<=k.k.size/\k.k.size<=40)/\k.i≠0)/\0<=n.lv/\n.lv<=20/\(n.leaf || n.inner)=true/\∀ i,i < n.keys.length->badAt n.lv n.keys i=false:=by
 unfold nodeE at h;by_cases h1:ZE enE n.es=0
 ·rw [if_neg (by simp [h1])] at h;by_cases h2:ZE kiE n.ks=0
  ·rw [if_neg (by simp [h2])] at h;by_cases h3:(n.leaf || n.inner)=false
   ·rw [if_pos h3] at h;simp at h
   ·rw [if_neg h3] at h;by_cases h4:∃ i,i < n.keys.length/\badAt n.lv n.keys i=true
    ·rw [if_pos h4] at h;simp at h
    ·rw [if_neg h4] at h;by_cases h5:∃ k ∈ n.ks,k.i=0
     ·rw [if_pos h5] at h;simp at h
     ·have h3':(n.leaf || n.inner)=true:=by
       cases q:(n.leaf || n.inner)
       ·exact absurd q h3
       ·rfl
      refine ⟨fun e he=>?_,fun k hk=>⟨keyE_ok (firstE_zero h2 k hk),fun q=>h5 ⟨k,hk,q⟩⟩,?_,?_,h3',fun i hi=>?_⟩
      ·have q:=firstE_zero h1 e he;unfold enE at q;by_cases z:Z2 e.k=0
       ·rw [if_neg (by simp [z])] at q;refine ⟨keyE_ok z,?_⟩;unfold valE at q;split at q
        ·simp at q
        ·omega
       ·rw [if_pos z] at q;exact absurd q z
      ·rcases Bool.or_eq_true_iff.1 h3' with q | q
       ·unfold Nd.leaf at q;simp at q;omega
       ·unfold Nd.inner at q;simp at q;omega
      ·rcases Bool.or_eq_true_iff.1 h3' with q | q
       ·unfold Nd.leaf at q;simp at q;omega
       ·unfold Nd.inner at q;simp at q;omega
      ·cases q:badAt n.lv n.keys i
       ·rfl
       ·exact absurd ⟨i,hi,q⟩ h4
  ·rw [if_pos h2] at h;exact absurd h h2
 ·rw [if_pos h1] at h;exact absurd h h1
theorem enB_len {e:En} (h:e.k.size<=40) (h2:e.v.size<=200):(enB e).length<=300:=by
 have:=enc_len e.k.size;have:=enc_len e.v.size;unfold enB;simp only [List.length_append,ZU];omega
theorem kiB_len {k:Ki} (h:k.k.size<=40):(kiB k).length<=300:=by
 have:=enc_len k.k.size;have:=enc_len k.i;unfold kiB;simp only [List.length_append,ZU];omega
theorem flat_lenN {α:Type} {f:α->List Int} {c:Nat}:∀ {l:List α},(∀ x ∈ l,(f x).length<=c)->(l.flatMap f).length<=c * l.length
 | [],_=>by simp
 | x :: l,h=>by
  rw [List.flatMap_cons,List.length_append,List.length_cons,Nat.mul_succ];have:=flat_lenN (fun y hy=>h y (by simp [hy]):∀ y ∈ l,(f y).length<=c);have:=h x (by simp);omega
end Apo
namespace Go.Proofs.YtdhebpnkfookcaaGreat
open Go.RowKit Apo
def PnP (w:World) (n:Nd) (e:Ending) (w':World):Prop:=∃ v,e=.returned (.tuple #[v,.int .i64 (putE n).2])/\w'.ownsRow w.heap.size 5 1 v (putE n).1.length ((putE n).1.map (Value.int .u8))/\Below w.heap.size w w'
end Go.Proofs.YtdhebpnkfookcaaGreat
namespace Apo
open Go Go.RowKit
theorem badAt_ok {lv:Int} {ks:List ByteArray} {i:Nat} (h:badAt lv ks i=false):(0 < i->ZQ (ks.getD (i - 1) ByteArray.empty) (ks.getD i ByteArray.empty)=true)/\(i+1 < ks.length->Zf lv (ks.getD i ByteArray.empty)=false):=by
 unfold badAt at h;rw [Bool.or_eq_false_iff,Bool.and_eq_false_iff,Bool.and_eq_false_iff] at h;refine ⟨fun q=>?_,fun q=>?_⟩
 ·rcases h.1 with z | z
  ·simp at z;omega
  ·simpa using z
 ·rcases h.2 with z | z
  ·simp at z;omega
  ·exact z
theorem badAt_of {lv:Int} {ks:List ByteArray} {i:Nat} (h1:0 < i->ZQ (ks.getD (i - 1) ByteArray.empty) (ks.getD i ByteArray.empty)=true) (h2:i+1 < ks.length->Zf lv (ks.getD i ByteArray.empty)=false):badAt lv ks i=false:=by
 unfold badAt;rw [Bool.or_eq_false_iff,Bool.and_eq_false_iff,Bool.and_eq_false_iff];refine ⟨?_,?_⟩
 ·by_cases q:0 < i
  ·exact .inr (by rw [h1 q];rfl)
  ·exact .inl (by simpa using q)
 ·by_cases q:i+1 < ks.length
  ·exact .inr (h2 q)
  ·exact .inl (by simpa using q)
end Apo
namespace Go.Proofs.YtdhebpnkfookcaaGreat
open Go.RowKit Apo
def RiP (w:World) (lv:Int) (l:List ByteArray) (e:Ending) (w':World):Prop:=∃ b:Bool,e=.returned (.bool b)/\(b=true↔∀ i,i < l.length->badAt lv l i=false)/\Below w.heap.size w w'
theorem rise_any (w:World) (lv:Int) (B:Nat) (va:Option Addr) (vc:Nat) (l:List ByteArray) (h:w.ownsRow B 9 1 (.slice va l.length vc) l.length (strs l)) (hl:l.length<=10000000) (hz:∀ s ∈ l,s.size<=1099511627776) :
  Calls Tryz.prog 168 #[.int .i64 lv,.slice va l.length vc] w (RiP w lv l):=by
 obtain ⟨n,hn⟩:∃ n,n=l.length:=⟨_,rfl⟩;have HN:=Za hn;have HO:=Za h;have HZ:=Za hz;rw [<- hn] at hl ⊢;rw [<- hn] at HO;clear h hn hz;go_enter Tryz.func168,Tryz.ntmps168
 go_wp2;go_loopw [5] (fun v wr=>∃ i:Nat,1<=i/\(i<=n\/i=1)/\v=.int .i64 i/\Hid (∀ t,t < i->(0 < t->ZQ (l.getD (t - 1) ByteArray.empty) (l.getD t ByteArray.empty)=true)/\(t+1 < i->Zf lv (l.getD t ByteArray.empty)=false))/\Hid (Below w.heap.size w wr)) (fun v _=>n - (intOf v).toNat)
 case atStart=>exact ⟨1,Nat.le_refl _,Or.inr rfl,rfl,Za (fun t ht=>⟨fun q=>absurd q (by omega),fun q=>absurd q (by omega)⟩),Za (Below.refl _ _)⟩
 case round =>
  obtain ⟨i,hi1,hi2,rfl,HS,HB⟩:=hrel;have hib:i<=10000000:=by omega
  by_cases hin:i < n
  ·obtain ⟨s2,hs2⟩:∃ s,l[i]?=some s:=⟨l[i]'(by have:=HN.out;omega),List.getElem?_eq_getElem _⟩;obtain ⟨s1,hs1⟩:∃ s,l[i - 1]?=some s:=⟨l[i - 1]'(by have:=HN.out;omega),List.getElem?_eq_getElem _⟩;obtain ⟨g,rfl,q2,hcap⟩:=own_str HO.out hs2;obtain ⟨g',hgg,q1,_⟩:=own_str HO.out hs1;obtain rfl:g=g':=by injection hgg with e;injection e
   have q1':=(HB.out.cell (p:=⟨g,i - 1,none⟩) (World.block_lt_of_cell? _ _ q1)).trans q1;have q2':=(HB.out.cell (p:=⟨g,i,none⟩) (World.block_lt_of_cell? _ _ q2)).trans q2;have hsz:=HZ.out s1 (List.mem_of_getElem? hs1);have hwi:IntKind.i64.wrap ((i:Int) - 1)=((i - 1:Nat):Int):=by rw [IntKind.wrap_i64];omega
   obtain ⟨i1,hi1'⟩:∃ i1,i1=i - 1:=⟨_,rfl⟩;rw [<- hi1'] at q1' hwi;have HI1:=Za hi1';have hsub:(i:Int) - 1=(i1:Int):=by omega
   have hg1:l.getD (i - 1) ByteArray.empty=s1:=by rw [List.getD_eq_getElem?_getD,hs1];rfl
   have hg2:l.getD i ByteArray.empty=s2:=by rw [List.getD_eq_getElem?_getD,hs2];rfl
   have HG:=Za (And.intro hg1 hg2);have hi1n:i1 < n:=by omega
   clear q1 q2 hs1 hs2 hg1 hg2 hgg hi1';cases hb1:ZQ s1 s2
   ·have hbl:Op.bytesLess s1.toList s2.toList=false:=hb1
    have HX:Hid (¬ ∀ t,t < l.length->badAt lv l t=false):=by
     refine Za (fun z=>?_);have q:=(badAt_ok (z i (by have:=HN.out;omega))).1 (by omega);rw [HG.out.1,HG.out.2,hb1] at q;cases q
    go_wp2;go_quiet (fail)
    go_wp2;go_ret
    exact ⟨false,rfl,⟨fun q=>(by cases q),fun q=>absurd q HX.out⟩,below_drewN HB.out _⟩
   ·have hbl:Op.bytesLess s1.toList s2.toList=true:=hb1;have HCE:=Za (endsN_any lv s1 wr.drew hsz);have hw3:IntKind.i64.wrap (i1:Int)=(i1:Int):=by rw [IntKind.wrap_i64];omega
    have hb5:(0:Int)<=(i1:Int):=by omega
    have hb6:(i1:Int) < (n:Int):=by omega
    have hb7:(0:Int)<=(i:Int):=by omega
    have hb8:(i:Int) < (n:Int):=by omega
    have HS3:Hid (Zf lv s1=false->∀ t,t < i+1->(0 < t->ZQ (l.getD (t - 1) ByteArray.empty) (l.getD t ByteArray.empty)=true)/\(t+1 < i+1->Zf lv (l.getD t ByteArray.empty)=false)):=by
     refine Za (fun hf t ht=>⟨fun q=>?_,fun q=>?_⟩)
     ·by_cases z:t < i
      ·exact (HS.out t z).1 q
      ·obtain rfl:t=i:=by omega
       rw [HG.out.1,HG.out.2];exact hb1
     ·by_cases z:t+1 < i
      ·exact (HS.out t (by omega)).2 z
      ·obtain rfl:t=i - 1:=by omega
       rw [HG.out.1];exact hf
    have HX:Hid (Zf lv s1=true->¬ ∀ t,t < l.length->badAt lv l t=false):=by
     refine Za (fun hf z=>?_);have q:=(badAt_ok (z (i - 1) (by have:=HN.out;omega))).2 (by have:=HN.out;omega);rw [HG.out.1,hf] at q;cases q
    clear hb1;cases hb:Zf lv s1
    all_goals
     rw [hb] at HCE HS3 HX;clear hb;go_wp2
     go_region_held3 (fun W'=>W'.cell? ⟨g,i1,none⟩=some (.string s1)/\W'.cell? ⟨g,i,none⟩=some (.string s2)) (go_keep) (first
      | (go_at_call 151;refine HCE.out.mono ?_;rintro en w9 ⟨rfl,b9⟩;have HB9:=Za (HB.out.drew.trans (b9.mono HB.out.size));have z1:=(b9.cell (p:=⟨g,i1,none⟩) (World.block_lt_of_cell? _ _ q1')).trans q1';have z2:=(b9.cell (p:=⟨g,i,none⟩) (World.block_lt_of_cell? _ _ q2')).trans q2';clear b9))
    ·go_wp2;go_roundw
     case rel=>exact ⟨i+1,by omega,Or.inl (by omega),by simp,Za (HS3.out (by simp)),HB9⟩
     case measure=>simp [intOf];omega
    ·go_wp2;go_ret
     exact ⟨false,rfl,⟨fun q=>(by cases q),fun q=>absurd q (HX.out (by simp))⟩,HB9.out⟩
  ·have HX:Hid (∀ t,t < l.length->badAt lv l t=false):=by
    refine Za (fun t ht=>?_);have:=HN.out;exact badAt_of (fun q=>(HS.out t (by omega)).1 q) (fun q=>(HS.out t (by omega)).2 (by omega))
   go_wp2;go_ret
   exact ⟨true,rfl,⟨fun _=>HX.out,fun _=>rfl⟩,HB.out⟩
def Zz (n:Nd):ByteArray:=n.keys.getLast?.getD ByteArray.empty
theorem last_any (w:World) (x:NdA) (hx:OkN w x) (he:x.n.es.length<=1000000) (hk:x.n.ks.length<=1000000) :
  Calls Tryz.prog 105 #[.agg x.cells.toArray] w fun e w'=>e=.returned (.string (Zz x.n))/\Below w.heap.size w w':=by
 obtain ⟨W0,hW0⟩:∃ W0,W0=w.alloc (.cells x.cells.toArray 90):=⟨_,rfl⟩;have b0:Below w.heap.size w W0:=by rw [hW0];exact (Below.refl _ w).alloc (Nat.le_refl _) _
 have HC:=Za (keys_any W0 x (hx.below b0) he hk);have hkl:x.n.keys.length<=10000000:=by unfold Nd.keys;simp;omega
 have HB0:=Za b0;unfold Zz;generalize x.n.keys=KS at *;obtain ⟨⟨lv,es,ks⟩,ea,ec,ka,kc⟩:=x;simp only [NdA.cells] at *;rw [hW0] at HC HB0;clear hx b0 hW0;go_enter Tryz.func105,Tryz.ntmps105
 go_wp2_with fail
 refine HC.out.mono ?_;rintro e w1 ⟨va,vc,rfl,o1,b1⟩;have HB1:=Za (HB0.out.trans (b1.mono HB0.out.size));have HO:=Za o1;clear b1 o1 HC;obtain ⟨n,hn⟩:∃ n,n=KS.length:=⟨_,rfl⟩;rw [<- hn] at HO hkl ⊢;by_cases h0:n=0
 ·have hK:KS=[]:=List.eq_nil_of_length_eq_zero (by omega);subst hK;subst h0;clear hn;go_wp2;go_ret
  exact ⟨rfl,HB1.out⟩
 ·obtain ⟨s2,hs2⟩:∃ s,KS[n - 1]?=some s:=⟨KS[n - 1]'(by omega),List.getElem?_eq_getElem _⟩;obtain ⟨g,rfl,q2,hcap⟩:=own_str HO.out hs2;have HL:Hid (KS.getLast?.getD ByteArray.empty=s2):=Za (by rw [List.getLast?_eq_getElem?,<- hn,hs2];rfl);have hd1:((n:Int) == 0)=false:=by rw [beq_eq_false_iff_ne];omega
  have hd2:(n == 0)=false:=by rw [beq_eq_false_iff_ne];omega
  obtain ⟨i1,hi1⟩:∃ i1,i1=n - 1:=⟨_,rfl⟩;have hwi:IntKind.i64.wrap ((n:Int) - 1)=(i1:Int):=by rw [IntKind.wrap_i64];omega
  have hsub:(n:Int) - 1=(i1:Int):=by omega
  have hin:i1 < n:=by omega
  rw [<- hi1] at q2;clear hn hs2 hi1;go_wp2;go_ret
  rw [HL.out];exact ⟨rfl,HB1.out⟩
end Go.Proofs.YtdhebpnkfookcaaGreat
namespace Apo
open Go Go.RowKit
theorem nodeE_texts {n:Nd} (h:textsE n≠0):nodeE n=textsE n:=by
 unfold textsE at h ⊢;unfold nodeE;by_cases q:ZE enE n.es≠0
 ·rw [if_pos q,if_pos q]
 ·rw [if_neg q] at h ⊢;rw [if_neg q,if_pos h]
theorem nodeE_rest {n:Nd} (h:textsE n=0):nodeE n=if (n.leaf || n.inner)=false then 90 else if ∃ i,i < n.keys.length/\badAt n.lv n.keys i=true then 90 else if ∃ k ∈ n.ks,k.i=0 then 90 else 0:=by
 unfold textsE at h;unfold nodeE;by_cases q:ZE enE n.es≠0
 ·rw [if_pos q] at h;exact absurd h q
 ·rw [if_neg q] at h;rw [if_neg q,if_neg (by rw [h];simp)]
theorem texts_sizes {n:Nd} (h:textsE n=0):∀ s ∈ n.keys,s.size<=1099511627776:=by
 intro s hs;unfold textsE at h;by_cases q:ZE enE n.es≠0
 ·rw [if_pos q] at h;exact absurd h q
 ·rw [if_neg q] at h;unfold Nd.keys at hs;rcases List.mem_append.1 hs with z | z
  ·obtain ⟨e,he,rfl⟩:=List.mem_map.1 z;have h1:=firstE_zero (by simpa using q) e he;unfold enE at h1;by_cases y:Z2 e.k≠0
   ·rw [if_pos y] at h1;exact absurd h1 y
   ·have:=keyE_ok (by simpa using y);omega
  ·obtain ⟨e,he,rfl⟩:=List.mem_map.1 z;have h1:=keyE_ok (firstE_zero h e he);omega
end Apo
namespace Go.Proofs.YtdhebpnkfookcaaGreat
open Go.RowKit Apo
theorem right_any (w:World) (x:NdA) (hx:OkN w x) (he:x.n.es.length<=1000000) (hk:x.n.ks.length<=1000000) :
  Calls Tryz.prog 118 #[.agg x.cells.toArray] w fun e w'=>e=.returned (.int .i64 (nodeE x.n))/\Below w.heap.size w w':=by
 obtain ⟨W0,hW0⟩:∃ W0,W0=w.alloc (.cells x.cells.toArray 90):=⟨_,rfl⟩;have b0:Below w.heap.size w W0:=by rw [hW0];exact (Below.refl _ w).alloc (Nat.le_refl _) _
 have s0:W0.heap.size=w.heap.size+1:=by rw [hW0];simp
 have x0:=hx.below b0;have kb:Ob W0 w.heap.size 90 x.cells:=by rw [hW0];exact Ob.new w x.cells 90
 have HBX:=Za (fun (W:World) (b:Below W0.heap.size W0 W)=>kb.old b);have HCT:=Za (texts_any W0 x x0);have HCF:=Za (fun (W:World) (b:Below W0.heap.size W0 W)=>fitsN_any W x (x0.below b));have HCK:=Za (fun (W:World) (b:Below W0.heap.size W0 W)=>keys_any W x (x0.below b) he hk);have HKL:Hid (x.n.keys.length<=10000000):=Za (by unfold Nd.keys;simp;omega);have HTX:=Za (nodeE_texts (n:=x.n));have HRS:=Za (nodeE_rest (n:=x.n));have HSZ:=Za (texts_sizes (n:=x.n));have HK:=Za x0.ks;have HB0:=Za b0;have hkl:x.n.ks.length<=9223372036854775807:=by omega
 obtain ⟨KS,hKS⟩:∃ KS,KS=x.n.keys:=⟨_,rfl⟩;obtain ⟨sh,hsh⟩:∃ sh,sh=(x.n.leaf || x.n.inner):=⟨_,rfl⟩;obtain ⟨te,hte⟩:∃ te,te=textsE x.n:=⟨_,rfl⟩;obtain ⟨nE,hnE⟩:∃ nE,nE=nodeE x.n:=⟨_,rfl⟩;rw [<- hKS] at HCK HKL HRS HSZ;rw [<- hsh] at HCF HRS;rw [<- hte] at HCT HTX HRS HSZ;rw [<- hnE] at HTX HRS ⊢;obtain ⟨⟨lv,es,ks⟩,ea,ec,ka,kc⟩:=x;simp only [NdA.cells] at *;obtain ⟨ne,hne⟩:∃ ne,ne=es.length:=⟨_,rfl⟩;obtain ⟨n,hn⟩:∃ n,n=ks.length:=⟨_,rfl⟩;rw [<- hne,<- hn] at HBX HCT HCF HCK hW0 ⊢;rw [<- hn] at hkl;have HN:=Za hn;rw [hW0] at HCT;clear hx b0 x0 kb hn hne hKS hsh hte hnE he hk;go_enter Tryz.func118,Tryz.ntmps118
 go_wp2_with fail
 refine HCT.out.mono ?_;rintro e w1 ⟨rfl,b1'⟩;rw [<- hW0] at b1';have HB1:=Za b1';have HB1D:Hid (Below W0.heap.size W0 w1.drew):=Za b1'.drew;clear b1' HCT;by_cases ht:te=0
 ·subst ht;have kx:=HBX.out w1 HB1.out;have c0:=kx.cell 0;have c1:=kx.cell 1;have c2:=kx.cell 2;simp only [List.getElem?_cons_zero,List.getElem?_cons_succ] at c0 c1 c2;have HR2:=Za (HRS.out rfl);have HSZ2:=Za (HSZ.out rfl);clear kx HRS HTX HSZ;cases sh
  ·have HX:Hid (nE=90):=Za (by rw [HR2.out];simp);go_wp2;refine wp_region_held_drew (S:=fun W'=>W'.cell? ⟨w.heap.size,0,none⟩=some (.int .i64 lv)/\W'.cell? ⟨w.heap.size,1,none⟩=some (.slice ea ne ec)/\W'.cell? ⟨w.heap.size,2,none⟩=some (.slice ka n kc)) (by kernel_rfl) ?_ (fun hHeld=>?_)
   ·exact ⟨c0,c1,c2⟩
   first
    | (refine wpAnyH_take (i:=0) (v:=?_) rfl (by kernel_rfl) (by kernel_rfl) (by kernel_rfl) (fun _ _ _ h=>h) (Or.inl ⟨by rfl,?_⟩) (by assumption) ?_;rotate_left;(intro wx hSx;obtain ⟨e0,e1,e2⟩:=hSx;go_simp;first | done | with_reducible rfl))
    | (refine wpAnyH_take (i:=0) (v:=undef) rfl (by kernel_rfl) (by kernel_rfl) (by kernel_rfl) (fun _ _ _ h=>h) (Or.inr ⟨by rfl,rfl⟩) (by assumption) ?_)
   simp only [Act.put,List.getElem_toArray,List.getElem_cons_zero,List.setIfInBounds_toArray,List.set_cons_zero,List.set_cons_succ];refine wpAnyH_ready (rs:=[1]) (by kernel_rfl) (by simp) ?_;refine AllReadyH.cons rfl (fun K hK=>?_) AllReadyH.nil;go_simp;go_at_call 167
   refine (HCF.out w1.drew HB1D.out).mono ?_;rintro en w2 ⟨rfl,b2⟩;have HB2:=Za (HB1D.out.trans (b2.mono HB1D.out.size));have kx2:=HBX.out w2 HB2.out;have z0:=kx2.cell 0;have z1:=kx2.cell 1;have z2:=kx2.cell 2;simp only [List.getElem?_cons_zero,List.getElem?_cons_succ] at z0 z1 z2;have HHH:=Za (And.intro z0 (And.intro z1 z2));clear b2 kx2;go_wp2_with fail
   refine hK.out _ _ ?_ (fun hHeld=>?_)
   ·exact HHH.out
   clear hK K
   first
    | (refine wpAnyH_take (i:=2) (v:=?_) rfl (by kernel_rfl) (by kernel_rfl) (by kernel_rfl) (fun _ _ _ h=>h) (Or.inl ⟨by rfl,?_⟩) (by assumption) ?_;rotate_left;(intro wx hSx;obtain ⟨e0,e1,e2⟩:=hSx;go_simp;first | done | with_reducible rfl))
    | (refine wpAnyH_take (i:=2) (v:=undef) rfl (by kernel_rfl) (by kernel_rfl) (by kernel_rfl) (fun _ _ _ h=>h) (Or.inr ⟨by rfl,rfl⟩) (by assumption) ?_)
   simp only [Act.put,List.getElem_toArray,List.getElem_cons_succ,List.getElem_cons_zero,List.setIfInBounds_toArray,List.set_cons_zero,List.set_cons_succ]
   first
    | (refine wpAnyH_take (i:=3) (v:=?_) rfl (by kernel_rfl) (by kernel_rfl) (by kernel_rfl) (fun _ _ _ h=>h) (Or.inl ⟨by rfl,?_⟩) (by assumption) ?_;rotate_left;(intro wx hSx;obtain ⟨e0,e1,e2⟩:=hSx;go_simp;first | done | with_reducible rfl))
    | (refine wpAnyH_take (i:=3) (v:=undef) rfl (by kernel_rfl) (by kernel_rfl) (by kernel_rfl) (fun _ _ _ h=>h) (Or.inr ⟨by rfl,rfl⟩) (by assumption) ?_)
   simp only [Act.put,List.getElem_toArray,List.getElem_cons_succ,List.getElem_cons_zero,List.setIfInBounds_toArray,List.set_cons_zero,List.set_cons_succ]
   first
    | (refine wpAnyH_take (i:=4) (v:=?_) rfl (by kernel_rfl) (by kernel_rfl) (by kernel_rfl) (fun _ _ _ h=>h) (Or.inl ⟨by rfl,?_⟩) (by assumption) ?_;rotate_left;(intro wx hSx;obtain ⟨e0,e1,e2⟩:=hSx;go_simp;first | done | with_reducible rfl))
    | (refine wpAnyH_take (i:=4) (v:=undef) rfl (by kernel_rfl) (by kernel_rfl) (by kernel_rfl) (fun _ _ _ h=>h) (Or.inr ⟨by rfl,rfl⟩) (by assumption) ?_)
   simp only [Act.put,List.getElem_toArray,List.getElem_cons_succ,List.getElem_cons_zero,List.setIfInBounds_toArray,List.set_cons_zero,List.set_cons_succ]
   first
    | (refine wpAnyH_take (i:=5) (v:=?_) rfl (by kernel_rfl) (by kernel_rfl) (by kernel_rfl) (fun _ _ _ h=>h) (Or.inl ⟨by rfl,?_⟩) (by assumption) ?_;rotate_left;(intro wx hSx;obtain ⟨e0,e1,e2⟩:=hSx;go_simp;first | done | with_reducible rfl))
    | (refine wpAnyH_take (i:=5) (v:=undef) rfl (by kernel_rfl) (by kernel_rfl) (by kernel_rfl) (fun _ _ _ h=>h) (Or.inr ⟨by rfl,rfl⟩) (by assumption) ?_)
   simp only [Act.put,List.getElem_toArray,List.getElem_cons_succ,List.getElem_cons_zero,List.setIfInBounds_toArray,List.set_cons_zero,List.set_cons_succ]
   first
    | (refine wpAnyH_take (i:=6) (v:=?_) rfl (by kernel_rfl) (by kernel_rfl) (by kernel_rfl) (fun _ _ _ h=>h) (Or.inl ⟨by rfl,?_⟩) (by assumption) ?_;rotate_left;(intro wx hSx;obtain ⟨e0,e1,e2⟩:=hSx;go_simp;first | done | with_reducible rfl))
    | (refine wpAnyH_take (i:=6) (v:=undef) rfl (by kernel_rfl) (by kernel_rfl) (by kernel_rfl) (fun _ _ _ h=>h) (Or.inr ⟨by rfl,rfl⟩) (by assumption) ?_)
   simp only [Act.put,List.getElem_toArray,List.getElem_cons_succ,List.getElem_cons_zero,List.setIfInBounds_toArray,List.set_cons_zero,List.set_cons_succ]
   first
    | (refine wpAnyH_take (i:=7) (v:=?_) rfl (by kernel_rfl) (by kernel_rfl) (by kernel_rfl) (fun _ _ _ h=>h) (Or.inl ⟨by rfl,?_⟩) (by assumption) ?_;rotate_left;(intro wx hSx;obtain ⟨e0,e1,e2⟩:=hSx;go_simp;first | done | with_reducible rfl))
    | (refine wpAnyH_take (i:=7) (v:=undef) rfl (by kernel_rfl) (by kernel_rfl) (by kernel_rfl) (fun _ _ _ h=>h) (Or.inr ⟨by rfl,rfl⟩) (by assumption) ?_)
   simp only [Act.put,List.getElem_toArray,List.getElem_cons_succ,List.getElem_cons_zero,List.setIfInBounds_toArray,List.set_cons_zero,List.set_cons_succ]
   first
    | (refine wpAnyH_take (i:=8) (v:=?_) rfl (by kernel_rfl) (by kernel_rfl) (by kernel_rfl) (fun _ _ _ h=>h) (Or.inl ⟨by rfl,?_⟩) (by assumption) ?_;rotate_left;(intro wx hSx;obtain ⟨e0,e1,e2⟩:=hSx;go_simp;first | done | with_reducible rfl))
    | (refine wpAnyH_take (i:=8) (v:=undef) rfl (by kernel_rfl) (by kernel_rfl) (by kernel_rfl) (fun _ _ _ h=>h) (Or.inr ⟨by rfl,rfl⟩) (by assumption) ?_)
   simp only [Act.put,List.getElem_toArray,List.getElem_cons_succ,List.getElem_cons_zero,List.setIfInBounds_toArray,List.set_cons_zero,List.set_cons_succ]
   first
    | (refine wpAnyH_take (i:=9) (v:=?_) rfl (by kernel_rfl) (by kernel_rfl) (by kernel_rfl) (fun _ _ _ h=>h) (Or.inl ⟨by rfl,?_⟩) (by assumption) ?_;rotate_left;(intro wx hSx;obtain ⟨e0,e1,e2⟩:=hSx;go_simp;first | done | with_reducible rfl))
    | (refine wpAnyH_take (i:=9) (v:=undef) rfl (by kernel_rfl) (by kernel_rfl) (by kernel_rfl) (fun _ _ _ h=>h) (Or.inr ⟨by rfl,rfl⟩) (by assumption) ?_)
   simp only [Act.put,List.getElem_toArray,List.getElem_cons_succ,List.getElem_cons_zero,List.setIfInBounds_toArray,List.set_cons_zero,List.set_cons_succ]
   first
    | (refine wpAnyH_take (i:=10) (v:=?_) rfl (by kernel_rfl) (by kernel_rfl) (by kernel_rfl) (fun _ _ _ h=>h) (Or.inl ⟨by rfl,?_⟩) (by assumption) ?_;rotate_left;(intro wx hSx;obtain ⟨e0,e1,e2⟩:=hSx;go_simp;first | done | with_reducible rfl))
    | (refine wpAnyH_take (i:=10) (v:=undef) rfl (by kernel_rfl) (by kernel_rfl) (by kernel_rfl) (fun _ _ _ h=>h) (Or.inr ⟨by rfl,rfl⟩) (by assumption) ?_)
   simp only [Act.put,List.getElem_toArray,List.getElem_cons_succ,List.getElem_cons_zero,List.setIfInBounds_toArray,List.set_cons_zero,List.set_cons_succ];refine wpAnyH_done (by kernel_rfl) ?_ _;clear HHH hHeld;go_wp2;go_ret
   rw [HX.out];exact ⟨rfl,HB0.out.trans (HB2.out.mono (by omega))⟩
  ·go_wp2
   go_region_held3 (fun W'=>W'.cell? ⟨w.heap.size,0,none⟩=some (.int .i64 lv)/\W'.cell? ⟨w.heap.size,1,none⟩=some (.slice ea ne ec)/\W'.cell? ⟨w.heap.size,2,none⟩=some (.slice ka n kc)) (go_keep) (first
    | (go_at_call 167;refine (HCF.out w1.drew HB1D.out).mono ?_;rintro en w2 ⟨rfl,b2⟩;have HB2:=Za (HB1D.out.trans (b2.mono HB1D.out.size));have kx2:=HBX.out w2 HB2.out;have z0:=kx2.cell 0;have z1:=kx2.cell 1;have z2:=kx2.cell 2;simp only [List.getElem?_cons_zero,List.getElem?_cons_succ] at z0 z1 z2;clear b2 kx2)
    | (go_at_call 157;refine (HCK.out w2 HB2.out).mono ?_;rintro en w3 ⟨va,vc,rfl,o3,b3⟩;have HB3:=Za (HB2.out.trans (b3.mono HB2.out.size));have HCR:=Za (rise_any w3 lv w2.heap.size va vc KS o3 HKL.out HSZ2.out);have kx3:=HBX.out w3 HB3.out;have y0:=kx3.cell 0;have y1:=kx3.cell 1;have y2:=kx3.cell 2;simp only [List.getElem?_cons_zero,List.getElem?_cons_succ] at y0 y1 y2;clear b3 kx3 o3)
    | (go_at_call 168;refine HCR.out.mono ?_;rintro en w4 ⟨rb,rfl,hrb,b4⟩;have HB4:=Za (HB3.out.trans (b4.mono HB3.out.size));have HRB:=Za hrb;have kx4:=HBX.out w4 HB4.out;have u0:=kx4.cell 0;have u1:=kx4.cell 1;have u2:=kx4.cell 2;simp only [List.getElem?_cons_zero,List.getElem?_cons_succ] at u0 u1 u2;clear b4 kx4 hrb))
   cases rb
   ·have HX:Hid (nE=90):=by
     refine Za ?_;rw [HR2.out,if_neg (by simp)];by_cases q:∃ i,i < KS.length/\badAt lv KS i=true
     ·rw [if_pos q]
     ·exfalso
      have:=HRB.out.2 (fun i hi=>by
       cases z:badAt lv KS i
       ·rfl
       ·exact absurd ⟨i,hi,z⟩ q)
      cases this
    go_wp2;go_ret
    rw [HX.out];exact ⟨rfl,HB0.out.trans (HB4.out.mono (by omega))⟩
   ·have HX:Hid (nE=if ∃ k ∈ ks,k.i=0 then 90 else 0):=by
     refine Za ?_;rw [HR2.out,if_neg (by simp),if_neg];rintro ⟨i,hi,hb⟩;rw [HRB.out.1 rfl i hi] at hb;cases hb
    clear HRB HR2;go_wp2;go_loopw [25] (fun v W=>∃ t:Nat,t<=n/\v=.int .i64 t/\Hid (∀ e ∈ ks.take t,e.i≠0)/\Hid (Below W0.heap.size W0 W)) (fun v _=>n - (intOf v).toNat)
    case atStart=>exact ⟨0,Nat.zero_le _,rfl,Za (by simp),HB4⟩
    case round =>
     obtain ⟨t,ht,rfl,HT,HBT⟩:=hrel;by_cases htj:t < n
     ·obtain ⟨e,hek⟩:∃ e,ks[t]?=some e:=⟨ks[t]'(by have:=HN.out;omega),List.getElem?_eq_getElem _⟩;obtain ⟨g,o,rfl,q1,q2⟩:=HK.out t e hek;have q1':=(HBT.out.cell (p:=⟨g,o+t * 2,none⟩) (World.block_lt_of_cell? _ _ q1)).trans q1;have q2':=(HBT.out.cell (p:=⟨g,o+t * 2+1,none⟩) (World.block_lt_of_cell? _ _ q2)).trans q2;obtain ⟨ek,ei⟩:=e;simp only at q1' q2';have HEK:=Za hek;have HBA:=Za (HBT.out.alloc HBT.out.size (.cells #[.string ek,.int .u64 ei] 128));clear q1 q2 hek;by_cases hz:ei=0
      ·have HX9:Hid (nE=90):=Za (by
        rw [HX.out,if_pos];exact ⟨_,List.mem_of_getElem? HEK.out,hz⟩)
       have d1:((ei:Int) == 0)=true:=by rw [beq_iff_eq];omega
       have d2:(ei == 0)=true:=by rw [beq_iff_eq];omega
       clear hz;go_wp2;go_ret
       rw [HX9.out];exact ⟨rfl,HB0.out.trans (HBA.out.mono (by omega))⟩
      ·have HT2:Hid (∀ e ∈ ks.take (t+1),e.i≠0):=by
        refine Za (fun e he=>?_);rw [List.take_add_one,HEK.out] at he;rcases List.mem_append.1 he with q | q
        ·exact HT.out e q
        ·simp at q
         subst q;exact hz
       have d1:((ei:Int) == 0)=false:=by rw [beq_eq_false_iff_ne];omega
       have d2:(ei == 0)=false:=by rw [beq_eq_false_iff_ne];omega
       clear hz;go_wp2;go_roundw
       case rel=>exact ⟨t+1,by omega,by simp,HT2,HBA⟩
       case measure=>simp [intOf];omega
     ·obtain rfl:t=n:=by omega
      have HX9:Hid (nE=0):=Za (by
       rw [HX.out,if_neg];rintro ⟨e,he,h0⟩;have q:=HT.out;rw [HN.out,List.take_length] at q;exact q e he h0)
      go_wp2;go_ret
      rw [HX9.out];exact ⟨rfl,HB0.out.trans (HBT.out.mono (by omega))⟩
 ·have hte2:(te != 0)=true:=by simpa using ht
  have HX:=Za (HTX.out ht);clear ht;go_wp2;go_ret
  rw [HX.out];exact ⟨rfl,HB0.out.trans (HB1.out.mono (by omega))⟩
section
attribute [local go_sem ↓] Go.wp_at_zero Go.wp_at_succ
theorem encs_one (z:Int):encs [z]=enc z.toNat:=by simp [encs]
end
end Go.Proofs.YtdhebpnkfookcaaGreat
