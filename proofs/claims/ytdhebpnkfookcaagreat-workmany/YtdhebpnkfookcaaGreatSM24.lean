import Derived.Test.YtdhebpnkfookcaaGreatSM22
set_option maxRecDepth 100000
set_option maxHeartbeats 4000000
namespace Apo
open Go Go.RowKit
def textsE (n:Nd):Int:=if ZE enE n.es≠0 then ZE enE n.es else ZE kiE n.ks
theorem enE_key {e:En} (h:Z2 e.k≠0):enE e=Z2 e.k:=by unfold enE;rw [if_pos h]
theorem enE_val {e:En} (h:Z2 e.k=0):enE e=valE e.v:=by unfold enE;rw [if_neg (by simp [h])]
end Apo
namespace Go.Proofs.YtdhebpnkfookcaaGreat
section
open Go.RowKit Apo
theorem texts_any (w:World) (x:NdA) (hx:OkN w x) :
  Calls Tryz.prog 166 #[.agg x.cells.toArray] w fun e w'=>e=.returned (.int .i64 (textsE x.n))/\Below w.heap.size w w':=by
 obtain ⟨⟨lv,es,ks⟩,ea,ec,ka,kc⟩:=x;simp only [NdA.cells] at *;obtain ⟨ne,hne⟩:∃ ne,ne=es.length:=⟨_,rfl⟩;obtain ⟨n,hn⟩:∃ n,n=ks.length:=⟨_,rfl⟩;obtain ⟨W0,hW0⟩:∃ W0,W0=w.alloc (.cells #[.int .i64 lv,.slice ea ne ec,.slice ka n kc] 90):=⟨_,rfl⟩;have kb:Ob W0 w.heap.size 90 [.int .i64 lv,.slice ea ne ec,.slice ka n kc]:=by rw [hW0];exact Ob.new w [.int .i64 lv,.slice ea ne ec,.slice ka n kc] 90
 have b0:Below w.heap.size w W0:=by rw [hW0];exact (Below.refl _ w).alloc (Nat.le_refl _) _
 have s0:W0.heap.size=w.heap.size+1:=by rw [hW0];simp
 have x0:=hx.below b0;have hle:ne<=9223372036854775807:=by have h1:=x0.el;have h2:=x0.eb;unfold maxLen at h2;simp only at h1 h2;omega
 have hlk:n<=9223372036854775807:=by have h1:=x0.kl;have h2:=x0.kb;unfold maxLen at h2;simp only at h1 h2;omega
 have HE:=Za x0.es;have HK:=Za x0.ks;have HZ:=Za x0.sz;have HKZ:=Za x0.kz;have HBX:=Za (fun (W:World) (b:Below W0.heap.size W0 W)=>kb.old b);have HN:=Za hn;have HNE:=Za hne;have HB0:=Za b0;have c1:=kb.cell 1;simp only [List.getElem?_cons_zero,List.getElem?_cons_succ] at c1;simp only at HE HK HZ HKZ;rw [<- hne,<- hn];clear hx x0 kb b0 hn hne;go_enter Tryz.func166,Tryz.ntmps166
 rw [hW0] at c1;go_wp2;rw [<- hW0];go_loopw [13] (fun i wr=>∃ k:Nat,k<=ne/\i=.int .i64 k/\Hid (∀ e ∈ es.take k,enE e=0)/\Hid (Below W0.heap.size W0 wr)) (fun i _=>ne - (intOf i).toNat)
 case atStart=>exact ⟨0,Nat.zero_le _,rfl,Za (by simp),Za (Below.refl _ _)⟩
 case round =>
  obtain ⟨k,hk,rfl,HS,HB⟩:=hrel;by_cases hkn:k < ne
  ·obtain ⟨e,hek⟩:∃ e,es[k]?=some e:=⟨es[k]'(by have:=HNE.out;omega),List.getElem?_eq_getElem _⟩;obtain ⟨g,o,rfl,q1,q2⟩:=HE.out k e hek;have q1':=(HB.out.cell (p:=⟨g,o+k * 2,none⟩) (World.block_lt_of_cell? _ _ q1)).trans q1;have q2':=(HB.out.cell (p:=⟨g,o+k * 2+1,none⟩) (World.block_lt_of_cell? _ _ q2)).trans q2;have hsz:=HZ.out _ (List.mem_of_getElem? hek);obtain ⟨ek,ev⟩:=e;simp only at q1' q2' hsz;unfold maxLen at hsz;have HEK:=Za hek;have HBA:=Za (HB.out.alloc HB.out.size (.cells #[.string ek,.string ev] 43));have HC1:=Za (key_any ek (wr.alloc (.cells #[.string ek,.string ev] 43)) (by omega));have HC2:=Za (val_any ev (wr.alloc (.cells #[.string ek,.string ev] 43)) (by omega));clear q1 q2 hek;by_cases hke:Z2 ek=0
   ·have HE1:Hid (enE ⟨ek,ev⟩=valE ev):=Za (enE_val hke);rw [hke] at HC1;by_cases hve:valE ev=0
    ·have HS2:Hid (∀ e ∈ es.take (k+1),enE e=0):=by
      refine Za (fun e he=>?_);rw [List.take_add_one,HEK.out] at he;rcases List.mem_append.1 he with q | q
      ·exact HS.out e q
      ·simp at q
       subst q;rw [HE1.out];exact hve
     rw [hve] at HC2;clear hke hve HE1;go_wp2_with fail
     refine HC1.out.mono ?_;rintro e w1 ⟨rfl,rfl⟩;go_wp2_with fail
     refine HC2.out.mono ?_;rintro e w1 ⟨rfl,rfl⟩;go_wp2;go_roundw
     case rel=>exact ⟨k+1,by omega,by simp,HS2,HBA⟩
     case measure=>simp [intOf];omega
    ·have hve2:(valE ev != 0)=true:=by simpa using hve
     have HX:Hid (textsE ⟨lv,es,ks⟩=valE ev):=by
      refine Za ?_;have q:=firstE_at (f:=enE) HEK.out HS.out (by rw [HE1.out];exact hve);unfold textsE;simp only;rw [q,HE1.out,if_pos hve]
     obtain ⟨ve,hvv⟩:∃ ve,ve=valE ev:=⟨_,rfl⟩;rw [<- hvv] at HC2 hve2 HX;clear hke hve HE1 hvv;go_wp2_with fail
     refine HC1.out.mono ?_;rintro e w1 ⟨rfl,rfl⟩;go_wp2_with fail
     refine HC2.out.mono ?_;rintro e w1 ⟨rfl,rfl⟩;go_wp2;go_ret
     rw [HX.out];exact ⟨rfl,HB0.out.trans (HBA.out.mono (by omega))⟩
   ·have hke2:(Z2 ek != 0)=true:=by simpa using hke
    have HX:Hid (textsE ⟨lv,es,ks⟩=Z2 ek):=by
     refine Za ?_;have q:=firstE_at (f:=enE) HEK.out HS.out (by rw [enE_key hke];exact hke);unfold textsE;simp only;rw [q,enE_key hke,if_pos hke]
    obtain ⟨ve,hvv⟩:∃ ve,ve=Z2 ek:=⟨_,rfl⟩;rw [<- hvv] at HC1 hke2 HX;clear hke hvv;go_wp2_with fail
    refine HC1.out.mono ?_;rintro e w1 ⟨rfl,rfl⟩;go_wp2;go_ret
    rw [HX.out];exact ⟨rfl,HB0.out.trans (HBA.out.mono (by omega))⟩
  ·obtain rfl:k=ne:=by omega
   have HA:Hid (ZE enE es=0):=by
    refine Za ?_;have q:=HS.out;rw [HNE.out,List.take_length] at q;exact firstE_none q
   have kx:=HBX.out wr HB.out;have e2:=kx.cell 2;simp only [List.getElem?_cons_zero,List.getElem?_cons_succ] at e2;obtain ⟨W1,hW1⟩:∃ W1,W1=wr:=⟨_,rfl⟩;have HT:Hid (textsE ⟨lv,es,ks⟩=ZE kiE ks):=Za (by unfold textsE;simp only;rw [HA.out];simp);have HBW:=HB;have HS1:=Za HB.out.size;clear kx;go_wp2;go_loopw [33] (fun i wr=>∃ k:Nat,k<=n/\i=.int .i64 k/\Hid (∀ e ∈ ks.take k,kiE e=0)/\Hid (Below W0.heap.size W0 wr)) (fun i _=>n - (intOf i).toNat)
   case atStart=>exact ⟨0,Nat.zero_le _,rfl,Za (by simp),HBW⟩
   case round =>
    clear HB HS HBW;obtain ⟨k,hk,rfl,HS,HB⟩:=hrel;by_cases hkn:k < n
    ·obtain ⟨e,hek⟩:∃ e,ks[k]?=some e:=⟨ks[k]'(by have:=HN.out;omega),List.getElem?_eq_getElem _⟩;obtain ⟨g,o,rfl,q1,q2⟩:=HK.out k e hek;have q1':=(HB.out.cell (p:=⟨g,o+k * 2,none⟩) (World.block_lt_of_cell? _ _ q1)).trans q1;have q2':=(HB.out.cell (p:=⟨g,o+k * 2+1,none⟩) (World.block_lt_of_cell? _ _ q2)).trans q2;have hsz:=HKZ.out _ (List.mem_of_getElem? hek);obtain ⟨ek,ei⟩:=e;simp only at q1' q2' hsz;unfold maxLen at hsz;have HEK:=Za hek;have HBA:=Za (HB.out.alloc HB.out.size (.cells #[.string ek,.int .u64 ei] 128));have HC1:=Za (key_any ek (wr.alloc (.cells #[.string ek,.int .u64 ei] 128)) (by omega));clear q1 q2 hek;by_cases hke:Z2 ek=0
     ·have HS2:Hid (∀ e ∈ ks.take (k+1),kiE e=0):=by
       refine Za (fun e he=>?_);rw [List.take_add_one,HEK.out] at he;rcases List.mem_append.1 he with q | q
       ·exact HS.out e q
       ·simp at q
        subst q;exact hke
      rw [hke] at HC1;clear hke;go_wp2_with fail
      refine HC1.out.mono ?_;rintro e w1 ⟨rfl,rfl⟩;go_wp2;go_roundw
      case rel=>exact ⟨k+1,by omega,by simp,HS2,HBA⟩
      case measure=>simp [intOf];omega
     ·have hke2:(Z2 ek != 0)=true:=by simpa using hke
      have HX:Hid (textsE ⟨lv,es,ks⟩=Z2 ek):=by
       refine Za ?_;rw [HT.out];exact firstE_at (f:=kiE) HEK.out HS.out hke
      obtain ⟨ve,hvv⟩:∃ ve,ve=Z2 ek:=⟨_,rfl⟩;rw [<- hvv] at HC1 hke2 HX;clear hke hvv;go_wp2_with fail
      refine HC1.out.mono ?_;rintro e w1 ⟨rfl,rfl⟩;go_wp2;go_ret
      rw [HX.out];exact ⟨rfl,HB0.out.trans (HBA.out.mono (by omega))⟩
    ·obtain rfl:k=n:=by omega
     have HX:Hid (textsE ⟨lv,es,ks⟩=0):=by
      refine Za ?_;have q:=HS.out;rw [HN.out,List.take_length] at q;rw [HT.out];exact firstE_none q
     go_wp2;go_ret
     rw [HX.out];exact ⟨rfl,HB0.out.trans (HB.out.mono (by omega))⟩
theorem fitsN_any (w:World) (x:NdA) (hx:OkN w x) :
  Calls Tryz.prog 167 #[.agg x.cells.toArray] w fun e w'=>e=.returned (.bool (x.n.leaf || x.n.inner))/\Below w.heap.size w w':=by
 obtain ⟨⟨lv,es,ks⟩,ea,ec,ka,kc⟩:=x;simp only [NdA.cells] at *;obtain ⟨ne,hne⟩:∃ ne,ne=es.length:=⟨_,rfl⟩;obtain ⟨n,hn⟩:∃ n,n=ks.length:=⟨_,rfl⟩;have hle:ne<=9223372036854775807:=by have h1:=hx.el;have h2:=hx.eb;unfold maxLen at h2;simp only at h1 h2;omega
 have hlk:n<=9223372036854775807:=by have h1:=hx.kl;have h2:=hx.kb;unfold maxLen at h2;simp only at h1 h2;omega
 have hlv:=hx.lv;simp only at hlv;unfold Nd.leaf Nd.inner;simp only;rw [<- hne,<- hn];clear hx hne hn;have HBA:=Za ((Below.refl w.heap.size w).alloc (Nat.le_refl _) (.cells #[.int .i64 lv,.slice ea ne ec,.slice ka n kc] 90));obtain ⟨b1,d1⟩:∃ b,decide ((0:Int) < (ne:Int))=b:=⟨_,rfl⟩;obtain ⟨b2,d2⟩:∃ b,decide ((0:Int) < (n:Int))=b:=⟨_,rfl⟩;obtain ⟨b3,d3⟩:∃ b,(lv == 0)=b:=⟨_,rfl⟩;obtain ⟨b4,d4⟩:∃ b,decide (0 < lv)=b:=⟨_,rfl⟩;obtain ⟨b5,d5⟩:∃ b,decide (lv<=20)=b:=⟨_,rfl⟩;have e1:decide (0 < ne)=b1:=by rw [<- d1];by_cases q:0 < ne <;> simp [q]
 have e2:decide (0 < n)=b2:=by rw [<- d2];by_cases q:0 < n <;> simp [q]
 have e3:decide (ne=0)=!b1:=by rw [<- e1];by_cases q:0 < ne <;> simp [q] <;> omega
 have e4:decide (n=0)=!b2:=by rw [<- e2];by_cases q:0 < n <;> simp [q] <;> omega
 rw [e1,e2,e3,e4,d3,d4,d5];have HH:Hid (b3=true->b4=false):=Za (by rw [<- d3,<- d4];simp;intro q;omega);clear e3 e4;cases b3 with
 | true =>
  have h4:=HH.out rfl;subst h4;cases b1 <;> cases b2
  all_goals
   go_enter Tryz.func167,Tryz.ntmps167
   go_wp2;go_quiet (fail)
   go_wp2;go_ret
   exact ⟨rfl,below_drewN HBA.out _⟩
 | false =>
  cases b1 <;> cases b2 <;> cases b4 <;> cases b5
  all_goals
   go_enter Tryz.func167,Tryz.ntmps167
   go_wp2;go_quiet (fail)
   go_wp2;go_ret
   exact ⟨rfl,below_drewN HBA.out _⟩
end
section
open Go.RowKit Apo
attribute [local go_sem ↓] Apo.app_exec
theorem info_str:(Tryz.prog.info? 9).map (fun i=>(i.zero,i.size,i.bytes))=some (some (.string ByteArray.empty),1,16):=by kernel_rfl
def strs (l:List ByteArray):List Value:=l.map Value.string
theorem strs_one (l:List ByteArray):∀ v ∈ strs l,v.oneCell'=true:=by
 intro v hv;obtain ⟨s,_,rfl⟩:=List.mem_map.1 hv;rfl
theorem app_str {W:World} {B:Nat} {va:Option Addr} {n vc:Nat} {l:List ByteArray} (h:W.ownsRow B 9 1 (.slice va n vc) n (strs l)) (hB:B<=W.heap.size) (hn:n<=1099511627776) (s:ByteArray) :
  ∃ va' vc' w',(Builtin.append_ #[40,40] 40 #[.slice va n vc,.slice (some ⟨W.heap.size,0,none⟩) 1 1]).run Tryz.prog (W.alloc (.cells #[.string s] 9))=.ok (.slice va' (n+1) vc') w'/\w'.ownsRow B 9 1 (.slice va' (n+1) vc') (n+1) (strs (l++[s]))/\(∀ B',B'<=B->Below B' W w'):=by
 obtain ⟨i0,hi,hz0,hz1,hz2⟩:=info_parts info_str;have hl:l.length=n:=by have:=h.1;simpa [strs] using this
 have h':=h.alloc (.cells #[.string s] 9)
 obtain ⟨v5,w5,RR,r5,g5,_,ho5⟩:=run_append_own_at (P:=Tryz.prog) (W.alloc (.cells #[.string s] 9)) B 40 40 9 i0 _ 1 16 Tryz.underlying40 hi hz0 hz1 hz2 rfl (by decide) (.slice va n vc) n (strs l) h' ⟨W.heap.size,0,none⟩ 1 1 (strs [s]) rfl
  (cell_one_new W (.string s) 9) (strs_one _) (by unfold maxLen;omega) (by omega) (by simp;omega)
 obtain ⟨va',vc',hv⟩:=own_len r5;subst hv;refine ⟨va',vc',w5,RR,?_,fun B' hB'=>?_⟩
 ·rw [show strs (l++[s])=strs l++strs [s] by simp [strs]];exact r5
 ·exact ((Below.refl B' W).alloc (by omega) _).grown g5 (by simp;omega) (fun j hj=>Nat.le_trans hB' (h.lt j hj).1)
theorem own_str {W:World} {B:Nat} {va:Option Addr} {n vc:Nat} {l:List ByteArray} (h:W.ownsRow B 9 1 (.slice va n vc) n (strs l)) {k:Nat} {s:ByteArray} (hk:l[k]?=some s):∃ g,va=some ⟨g,0,none⟩/\W.cell? ⟨g,k,none⟩=some (.string s)/\n<=vc:=by
 have hl:l.length=n:=by have:=h.1;simpa [strs] using this
 have hkn:k < n:=by have:=(List.getElem?_eq_some_iff.1 hk).1;omega
 obtain ⟨g,cap,hv,_,h3,h4,h5⟩:=own_shape h (by omega);injection hv with e1 e2 e3
 refine ⟨g,e1,?_,by omega⟩;rw [h5 k hkn];simp [strs,hk]
theorem own_lower {w:World} {B B':Nat} {e:TypeId} {size:Nat} {v:Value} {n:Nat} {xs:List Value} (h:w.ownsRow B e size v n xs) (hb:B'<=B):w.ownsRow B' e size v n xs:=by
 refine ⟨h.1,?_⟩;rcases h.2 with q | ⟨g,cap,cur,h1,h2,h3⟩
 ·exact .inl q
 ·exact .inr ⟨g,cap,cur,h1,Nat.le_trans hb h2,h3⟩
def KeP (w:World) (l:List ByteArray) (e:Ending) (w':World):Prop:=∃ va vc,e=.returned (.slice va l.length vc)/\w'.ownsRow w.heap.size 9 1 (.slice va l.length vc) l.length (strs l)/\Below w.heap.size w w'
theorem mk_strs (B c:Nat) (wx:World) (hc:c<=10000000) (hB:B<=wx.heap.size):∃ w',(Instr.makeSlice 40 (.int .i64 0) (.int .i64 (c:Int))).run Tryz.prog wx=.ok (.slice (some ⟨wx.heap.size,0,none⟩) 0 c) w'/\w'.ownsRow B 9 1 (.slice (some ⟨wx.heap.size,0,none⟩) 0 c) 0 (strs [])/\wx.grownBy w' none:=by
 obtain ⟨i0,hi,hz0,hz1,hz2⟩:=info_parts info_str;exact run_make_own (P:=Tryz.prog) wx B 40 9 i0 _ 1 Tryz.underlying40 hi hz0 hz1 .i64 .i64 c (by rw [hz2];omega) (by unfold maxLen;omega) hB
theorem keys_any (w:World) (x:NdA) (hx:OkN w x) (he:x.n.es.length<=1000000) (hk:x.n.ks.length<=1000000) :
  Calls Tryz.prog 157 #[.agg x.cells.toArray] w (KeP w x.n.keys):=by
 obtain ⟨⟨lv,es,ks⟩,ea,ec,ka,kc⟩:=x;simp only [NdA.cells,Nd.keys] at *;obtain ⟨ne,hne⟩:∃ ne,ne=es.length:=⟨_,rfl⟩;obtain ⟨n,hn⟩:∃ n,n=ks.length:=⟨_,rfl⟩;obtain ⟨W0,hW0⟩:∃ W0,W0=w.alloc (.cells #[.int .i64 lv,.slice ea ne ec,.slice ka n kc] 90):=⟨_,rfl⟩;have kb:Ob W0 w.heap.size 90 [.int .i64 lv,.slice ea ne ec,.slice ka n kc]:=by rw [hW0];exact Ob.new w [.int .i64 lv,.slice ea ne ec,.slice ka n kc] 90
 have b0:Below w.heap.size w W0:=by rw [hW0];exact (Below.refl _ w).alloc (Nat.le_refl _) _
 have s0:W0.heap.size=w.heap.size+1:=by rw [hW0];simp
 have x0:=hx.below b0;obtain ⟨W1,RM,OM,GM⟩:=mk_strs W0.heap.size (ne+n) W0 (by omega) (Nat.le_refl _);have bM:Below W0.heap.size W0 W1:=(Below.refl _ _).grown GM (Nat.le_refl _) (by simp);have kM:=kb.old bM;have HE:=Za x0.es;have HK:=Za x0.ks;have HBX:=Za (fun (W:World) (b:Below W0.heap.size W0 W)=>kb.old b);have HN:=Za hn;have HNE:=Za hne;have HB0:=Za b0;have HBM:=Za bM;have HOM:=Za OM;have c1:=kb.cell 1;have c2:=kb.cell 2;have m1:=kM.cell 1;simp only [List.getElem?_cons_zero,List.getElem?_cons_succ] at c1 c2 m1;simp only at HE HK;rw [s0] at RM HOM;rw [hW0] at c1 c2 RM
 have RM':(Instr.makeSlice 40 (.int .i64 0) (.int .i64 ((ne:Int)+(n:Int)))).run Tryz.prog (w.alloc (.cells #[.int .i64 lv,.slice ea ne ec,.slice ka n kc] 90))=.ok (.slice (some ⟨w.heap.size+1,0,none⟩) 0 (ne+n)) W1:=by
  rw [show (ne:Int)+(n:Int)=((ne+n:Nat):Int) by omega];exact RM
 rw [<- hne,<- hn];rw [<- hne] at he;rw [<- hn] at hk;clear hx x0 kb kM b0 bM OM GM hn hne RM;go_enter Tryz.func157,Tryz.ntmps157
 go_wp2;go_loopw [3,19] (fun vs i wr=>∃ (k:Nat) (va:Option Addr) (vc:Nat),k<=ne/\i=.int .i64 k/\vs=.slice va k vc/\Hid (wr.ownsRow W0.heap.size 9 1 (.slice va k vc) k (strs ((es.map En.k).take k)))/\Hid (Below W0.heap.size W0 wr)) (fun _ i _=>ne - (intOf i).toNat)
 case atStart=>exact ⟨0,_,_,Nat.zero_le _,rfl,rfl,Za (by rw [s0];exact HOM.out),HBM⟩
 case round =>
  obtain ⟨k,va,vc,hk1,rfl,rfl,HO,HB⟩:=hrel;have hs1:=HB.out.size;by_cases hkn:k < ne
  ·obtain ⟨e,hek⟩:∃ e,es[k]?=some e:=⟨es[k]'(by have:=HNE.out;omega),List.getElem?_eq_getElem _⟩;obtain ⟨g,o,rfl,q1,q2⟩:=HE.out k e hek;have q1':=(HB.out.cell (p:=⟨g,o+k * 2,none⟩) (World.block_lt_of_cell? _ _ q1)).trans q1;have q2':=(HB.out.cell (p:=⟨g,o+k * 2+1,none⟩) (World.block_lt_of_cell? _ _ q2)).trans q2;obtain ⟨ek,ev⟩:=e;simp only at q1' q2';have htk:(es.map En.k).take (k+1)=(es.map En.k).take k++[ek]:=by rw [List.take_add_one];simp [hek]
   have b1:Below W0.heap.size W0 (wr.alloc (.cells #[.string ek,.string ev] 43)):=HB.out.alloc hs1 _;have o1:=HO.out.alloc (.cells #[.string ek,.string ev] 43);have kb1:=Ob.new wr [.string ek,.string ev] 43;have y0:=kb1.cell 0;simp only [List.getElem?_cons_zero] at y0;obtain ⟨va',vc',w3,RA,oA,bA⟩:=app_str o1 (by simp;omega) (by omega) ek;obtain ⟨s1',s2',s3'⟩:=Zi RA;rw [<- htk] at oA;have HOA:=Za oA;have HBA:=Za (b1.trans (bA _ (Nat.le_refl _)));simp only [World.size_alloc] at s1' s2' s3';clear o1 kb1 RA oA bA b1 q1 q2 hek htk;go_wp2;go_roundw
   case rel=>exact ⟨k+1,va',vc',by omega,by simp,rfl,HOA,HBA⟩
   case measure=>simp [intOf];omega
  ·obtain rfl:k=ne:=by omega
   have kx:=HBX.out wr HB.out;have e2:=kx.cell 2;simp only [List.getElem?_cons_zero,List.getElem?_cons_succ] at e2
   have HO1:Hid (wr.ownsRow W0.heap.size 9 1 (.slice va (k+0) vc) (k+0) (strs (es.map En.k++(ks.map Ki.k).take 0))):=by
    refine Za ?_;have q:=HO.out;rw [HNE.out,List.take_of_length_le (by simp),<- HNE.out] at q;simpa using q
   have HBW:=HB;clear kx HO;go_wp2;go_loopw [3,32] (fun vs i wr=>∃ (j:Nat) (va:Option Addr) (vc:Nat),j<=n/\i=.int .i64 j/\vs=.slice va (k+j) vc/\Hid (wr.ownsRow W0.heap.size 9 1 (.slice va (k+j) vc) (k+j) (strs (es.map En.k++(ks.map Ki.k).take j)))/\Hid (Below W0.heap.size W0 wr)) (fun _ i _=>n - (intOf i).toNat)
   case atStart=>exact ⟨0,_,_,Nat.zero_le _,rfl,rfl,HO1,HBW⟩
   case round =>
    clear HB HO1 HBW;obtain ⟨j,va,vc,hk2,rfl,rfl,HO,HB⟩:=hrel;have hs2:=HB.out.size;by_cases hkn2:j < n
    ·obtain ⟨e,hek⟩:∃ e,ks[j]?=some e:=⟨ks[j]'(by have:=HN.out;omega),List.getElem?_eq_getElem _⟩;obtain ⟨g,o,rfl,q1,q2⟩:=HK.out j e hek;have q1':=(HB.out.cell (p:=⟨g,o+j * 2,none⟩) (World.block_lt_of_cell? _ _ q1)).trans q1;have q2':=(HB.out.cell (p:=⟨g,o+j * 2+1,none⟩) (World.block_lt_of_cell? _ _ q2)).trans q2;obtain ⟨ek,ei⟩:=e;simp only at q1' q2';have htk:es.map En.k++(ks.map Ki.k).take (j+1)=(es.map En.k++(ks.map Ki.k).take j)++[ek]:=by rw [List.take_add_one];simp [hek]
     have b1:Below W0.heap.size W0 (wr.alloc (.cells #[.string ek,.int .u64 ei] 128)):=HB.out.alloc hs2 _;have o1:=HO.out.alloc (.cells #[.string ek,.int .u64 ei] 128);have kb1:=Ob.new wr [.string ek,.int .u64 ei] 128;have y0:=kb1.cell 0;simp only [List.getElem?_cons_zero] at y0;obtain ⟨va',vc',w3,RA,oA,bA⟩:=app_str o1 (by simp;omega) (by omega) ek;obtain ⟨s1',s2',s3'⟩:=Zi RA;rw [<- htk] at oA;have HOA:=Za oA;have HBA:=Za (b1.trans (bA _ (Nat.le_refl _)));simp only [World.size_alloc] at s1' s2' s3';clear o1 kb1 RA oA bA b1 q1 q2 hek htk;go_wp2;go_roundw
     case rel=>exact ⟨j+1,va',vc',by omega,by simp,rfl,HOA,HBA⟩
     case measure=>simp [intOf];omega
    ·obtain rfl:j=n:=by omega
     have HX:Hid (wr.ownsRow w.heap.size 9 1 (.slice va (es.map En.k++ks.map Ki.k).length vc) (es.map En.k++ks.map Ki.k).length (strs (es.map En.k++ks.map Ki.k))):=by
      refine Za ?_;have q:=HO.out;rw [List.take_of_length_le (by simp;have:=HN.out;omega)] at q;have e:k+j=(es.map En.k++ks.map Ki.k).length:=by simp;have:=HN.out;have:=HNE.out;omega
      rw [<- e];exact own_lower q (by omega)
     have HL:Hid (k+j=(es.map En.k++ks.map Ki.k).length):=Za (by simp;have:=HN.out;have:=HNE.out;omega);go_wp2;go_ret
     exact ⟨va,vc,by rw [<- HL.out];rfl,HX.out,HB0.out.trans (HB.out.mono (by omega))⟩
end
section
open Go.RowKit
theorem ret_int {k:IntKind} {a b:Int} (h:a=b):Ending.returned (.int k a)=.returned (.int k b):=by rw [h]
theorem enc_down {m:Int} {s N:Nat} (h0:128<=m) (h1:m<=18446744073709551615) (h:s+(Apo.enc m.toNat).length=N) :
  s+1+(Apo.enc (m / 128).toNat).length=N:=by
 have e:=Apo.enc_ge (n:=m.toNat) (by omega) (by unfold Apo.top;omega);have e2:(m / 128).toNat=m.toNat / 128:=by omega
 rw [e] at h;rw [e2];simp only [List.length_cons] at h;omega
theorem enc_one {m:Int} (h0:0<=m) (h1:m < 128):Apo.enc m.toNat=[m]:=by
 rw [Apo.enc_lt (by omega)];rw [Int.toNat_of_nonneg h0]
theorem size_any (n:Int) (w:World) (h0:0<=n) (h1:n<=18446744073709551615) :
  Calls Tryz.prog 224 #[.int .u64 n] w fun e w'=>e=.returned (.int .i64 ((Apo.enc n.toNat).length:Nat))/\w=w':=by
 have hl:=Apo.enc_len n.toNat;generalize hN:(Apo.enc n.toNat).length=N at *;have HN:Hid ((Apo.enc n.toNat).length=N):=hN;clear hN;go_enter Tryz.func224,Tryz.ntmps224
 go_wp2;go_loop [0,3] (fun x t=>∃ m:Int,0<=m/\m<=18446744073709551615/\∃ s:Nat,s<=10/\x=.int .u64 m/\t=.int .i64 s/\Hid (s+(Apo.enc m.toNat).length=N+1)) (fun x _=>(intOf x).toNat)
 case atStart=>exact ⟨n,h0,h1,1,by omega,rfl,rfl,by have:=HN.out;show 1+_=N+1;omega⟩
 case round =>
  obtain ⟨m,hm0,hm1,s,hs,rfl,rfl,hc⟩:=hrel;by_cases hlt:128<=m
  ·go_wp2;go_round
   case rel =>
    have d:=enc_down hlt hm1 hc.out;have l:=Apo.enc_len (m / 128).toNat;exact ⟨m / 128,by omega,by omega,s+1,by omega,rfl,by go_num,d⟩
   case measure=>simp [intOf];omega
  ·go_wp2;go_ret
   have d:=hc.out;rw [enc_one hm0 (by omega)] at d;simp only [List.length_cons,List.length_nil] at d;exact ⟨ret_int (by omega),rfl⟩
theorem mayEnd_any (c i:Int) (w:World) (h0:0<=c) (h1:c<=255) (h2:0<=i) (h3:i<=9) :
  Calls Tryz.prog 202 #[.int .u8 c,.int .i64 i] w fun e w'=>e=.returned (.bool (decide ((i=9/\c=1)\/(i≠9/\(c≠0\/i=0)))))/\w=w':=by
 by_cases hi:i=9
 ·subst hi;by_cases hc:c=1
  ·subst hc;go_enter Tryz.func202,Tryz.ntmps202
   go_wp2;go_ret
   exact ⟨rfl,rfl⟩
  ·have hb:(c == 1)=false:=by simpa using hc
   have hd:decide (((9:Int)=9/\c=1)\/((9:Int)≠9/\(c≠0\/(9:Int)=0)))=false:=by simp [hc]
   rw [hd];go_enter Tryz.func202,Tryz.ntmps202
   go_wp2;go_ret
   exact ⟨rfl,rfl⟩
 ·have hb:(i == 9)=false:=by simpa using hi
  by_cases hc:c=0
  ·subst hc;by_cases hz:i=0
   ·subst hz;go_enter Tryz.func202,Tryz.ntmps202
    go_wp2;go_ret
    exact ⟨rfl,rfl⟩
   ·have hb2:(i == 0)=false:=by simpa using hz
    have hd:decide ((i=9/\(0:Int)=1)\/(i≠9/\((0:Int)≠0\/i=0)))=false:=by simp [hz]
    rw [hd];go_enter Tryz.func202,Tryz.ntmps202
    go_wp2;go_ret
    exact ⟨rfl,rfl⟩
  ·have hb2:(c != 0)=true:=by simpa using hc
   have hd:decide ((i=9/\c=1)\/(i≠9/\(c≠0\/i=0)))=true:=by simp [hc,hi]
   rw [hd];go_enter Tryz.func202,Tryz.ntmps202
   go_wp2;go_ret
   exact ⟨rfl,rfl⟩
end
section
open Go.RowKit Apo
theorem total_any (a:Option Addr) (cap:Nat) (l:List Int) (w:World) (hr:Rd .u64 w a l) (hu:InU l) (hl:l.length<=1099511627776) :
  Calls Tryz.prog 218 #[.slice a l.length cap] w fun e w'=>e=.returned (.int .i64 ((encs l).length:Nat))/\w=w':=by
 have hN:Hid (∀ k,(encs (l.take k)).length<=10 * l.length):=by
  intro k;have h1:=(encs_len (l.take k)).2;have h2:(l.take k).length<=l.length:=by simp;omega
  omega
 have hR:Hid (Rd .u64 w a l):=hr;clear hr;go_enter Tryz.func218,Tryz.ntmps218
 go_wp2;go_loop [3,8] (fun t i=>∃ k:Nat,k<=l.length/\i=.int .i64 k/\t=.int .i64 ((encs (l.take k)).length:Nat)) (fun _ i=>l.length - (intOf i).toNat)
 case atStart=>exact ⟨0,Nat.zero_le _,rfl,rfl⟩
 case round =>
  obtain ⟨k,hk,rfl,rfl⟩:=hrel;by_cases hlt:k < l.length
  ·obtain ⟨b,off,z,rfl,hc,hz,hm⟩:=hR.out.at hlt;have hzb:=hu z hm;have hzl:=enc_len z.toNat;have hT:=hN.out k
   have HS:Hid ((encs (l.take (k+1))).length=(encs (l.take k)).length+(enc z.toNat).length):=by
    show _=_
    rw [encs_take hz.out,List.length_append]
   clear hm;generalize (encs (l.take k)).length=T at *;go_wp2_with (go_at_call 224;refine (size_any _ _ (by omega) (by omega)).mono ?_;rintro e w' ⟨rfl,rfl⟩)
   go_round
   case rel=>exact ⟨k+1,by omega,by go_num,by rw [HS.out];go_num⟩
   case measure=>simp [intOf];omega
  ·go_wp2;go_ret
   exact ⟨ret_int (by rw [List.take_of_length_le (by omega)]),rfl⟩
theorem infoU8:(Tryz.prog.info? 5).map (fun i=>(i.zero,i.size,i.bytes))=some (some (.int .u8 0),1,1):=by kernel_rfl
theorem or128 (m:Int) (h0:0<=m):bits .or .u8 (m % 256) 128=m % 128+128:=by
 obtain ⟨n,rfl⟩:=Int.eq_ofNat_of_zero_le h0;have e:((n:Int) % 256)=((n % 256:Nat):Int):=by omega
 have e2:=u8_or_nat (n % 256) 128 (by omega) (by omega)
 have e3:(n % 256 ||| 128)=n % 128+128:=by
  have:∀ q:Fin 256,(q.1 ||| 128)=q.1 % 128+128:=by decide +kernel
  have:=this ⟨n % 256,by omega⟩;simp only at this;rw [this];omega
 rw [e3] at e2;rw [e];exact e2.trans (by omega)
theorem put_step {m:Int} {cur all:List Int} (h0:128<=m) (h1:m<=18446744073709551615) (h:cur++enc m.toNat=all):(cur++[m % 128+128])++enc (m / 128).toNat=all:=by
 have e:=enc_ge (n:=m.toNat) (by omega) (by unfold top;omega);have e2:(m / 128).toNat=m.toNat / 128:=by omega
 have e3:((m.toNat % 128+128:Nat):Int)=m % 128+128:=by omega
 rw [<- h,e,e2,e3];simp
theorem lput_any (a0:Option Addr) (cap0:Nat) (l0:List Int) (a:Option Addr) (cap:Nat) (l:List Int) (w:World) (hr0:Rd .u8 w a0 l0) (hn0:a0=none->cap0=0) (hr:Rd .u64 w a l) (hu:InU l)
  (hl0:l0.length<=1099511627776) (hl:l.length<=1099511627776) :
  Calls Tryz.prog 211 #[.slice a0 l0.length cap0,.slice a l.length cap] w fun e w'=>∃ v,e=.returned v/\w'.ownsRow w.heap.size 5 1 v (l0++encs l).length ((l0++encs l).map (Value.int .u8))/\Below w.heap.size w w':=by
 obtain ⟨i0,hi,hz0,hz1,hz2⟩:=info_parts infoU8;have hT:=encs_len l
 have hTk:Hid (∀ k,(l0++encs (l.take k)).length<=l0.length+10 * l.length):=by
  intro k;have h1:=(encs_len (l.take k)).2;have h2:(l.take k).length<=l.length:=by simp;omega
  rw [List.length_append];omega
 have hR:Hid (Rd .u64 w a l):=hr;have hR0:Hid (Rd .u8 w a0 l0):=hr0;clear hr hr0
 have hnone:Hid (a0=none->l0.length=0/\cap0=0):=by
  intro h;refine ⟨?_,hn0 h⟩;rcases Nat.eq_zero_or_pos l0.length with h' | h'
  ·exact h'
  ·obtain ⟨_,_,e,_⟩:=hR0.out 0 h';rw [h] at e;cases e
 clear hn0;go_enter Tryz.func211,Tryz.ntmps211
 go_wp2_with (first | (go_at_call 218;refine (total_any _ _ _ _ hR.out hu hl).mono ?_;rintro e w' ⟨rfl,rfl⟩) | (at_make;refine wpList_make_own _ rfl _ _ 41 rfl w.heap.size 5 i0 (.int .u8 0) 1 Tryz.underlying41 hi hz0 hz1 _ _ _ (l0.length+(encs l).length) rfl rfl (by omega) (by rw [hz2];omega) (by unfold maxLen;omega) (Nat.le_refl _) ?_;intro w1 hown1 hgrow1;have hb1:Below w.heap.size w w1:=(Below.refl _ _).grown hgrow1 (Nat.le_refl _) (by intro k hk;cases hk);have hs1:=hgrow1.size) | (at_builtin;refine wpList_append_fits_any _ rfl _ _ 41 rfl w.heap.size 5 i0 1 Tryz.underlying41 hi hz1 w.heap.size 0 (l0.length+(encs l).length) [] rfl hown1 a0 l0.length cap0 (l0.map (Value.int .u8)) rfl (by simp) hnone.out (fun ad had=>by subst had;exact (hR0.out.below hb1).news) (ints_oneCell _ _) (by omega) ?_))
 intro w2 hown2 hgrow2;have hb2:Below w.heap.size w w2:=hb1.grown hgrow2 hs1 (by intro k hk;simp at hk;omega);clear hown1 hgrow1 hgrow2 hb1 hs1 hnone;go_wp2;go_loopw [5,19] (fun v i wr=>∃ k:Nat,k<=l.length/\i=.int .i64 k/\wr.ownsRow w.heap.size 5 1 v (l0++encs (l.take k)).length ((l0++encs (l.take k)).map (Value.int .u8))/\Below w.heap.size w wr) (fun _ i _=>l.length - (intOf i).toNat)
 case atStart=>exact ⟨0,Nat.zero_le _,rfl,by simpa [encs] using hown2,hb2⟩
 case round =>
  obtain ⟨k,hk,rfl,hown,hbr⟩:=hrel;by_cases hlt:k < l.length
  ·obtain ⟨b,off,z,rfl,hc0,hz,hm⟩:=hR.out.at hlt;have hc:wr.cell? ⟨b,off+k,none⟩=some (.int .u64 z):=(hbr.cell (by exact World.block_lt_of_cell? _ _ hc0)).trans hc0;have hzb:=hu z hm
   have HS:Hid (l0++encs (l.take k)++enc z.toNat=l0++encs (l.take (k+1))):=by
    show _=_
    rw [encs_take hz.out,List.append_assoc]
   have hT1:=hTk.out (k+1);clear hm hc0 hz;go_wp2;go_loopw [5,7] (fun v t wi=>∃ m:Int,0<=m/\m<=18446744073709551615/\t=.int .u64 m/\∃ cur:List Int,wi.ownsRow w.heap.size 5 1 v cur.length (cur.map (Value.int .u8))/\Hid (cur++enc m.toNat=l0++encs (l.take (k+1)))/\Below w.heap.size w wi) (fun _ t _=>(intOf t).toNat)
   case atStart=>exact ⟨z,hzb.1,hzb.2,rfl,_,hown,HS,hbr⟩
   case round =>
    clear hown hbr hc;obtain ⟨m,hm0,hm1,rfl,cur,hown,hC,hbr⟩:=hrel
    have hcl:cur.length+1<=l0.length+10 * l.length:=by
     have e:=congrArg List.length hC.out;have:=enc_len m.toNat;rw [List.length_append] at e;omega
    by_cases hge:128<=m
    ·have hor:=or128 m hm0;have hsz:=hbr.size;go_wp2_with (at_builtin;refine wpList_append_own _ rfl _ _ 41 rfl w.heap.size 5 i0 (.int .u8 0) 1 1 Tryz.underlying41 hi hz0 hz1 hz2 rfl (by decide) _ cur.length (cur.map (Value.int .u8)) rfl (hown.alloc _) ⟨wr.heap.size,0,none⟩ 1 1 [.int .u8 (m % 128+128)] rfl rfl (cell_one_new _ _ _) (ints_oneCell _ [m % 128+128]) (by unfold maxLen;omega) (by omega) (by simp;omega) ?_)
     intro v3 w3 hown3 hgrow3 _;have hb3:Below w.heap.size w w3:=(hbr.alloc hsz _).grown hgrow3 (by simp;omega) (fun q hq=>(hown.lt q hq).1);have P3:=put_step hge hm1 hC.out
     have HO:Hid (w3.ownsRow w.heap.size 5 1 v3 (cur++[m % 128+128]).length ((cur++[m % 128+128]).map (Value.int .u8))):=by
      show World.ownsRow _ _ _ _ _ _ _
      simpa using hown3
     have HP:Hid ((cur++[m % 128+128])++enc (m / 128).toNat=l0++encs (l.take (k+1))):=P3;clear hown3 hgrow3 hown hC hbr P3 hor;go_wp2;go_roundw
     case rel=>exact ⟨m / 128,by omega,by omega,rfl,cur++[m % 128+128],HO,HP,hb3⟩
     case measure=>simp [intOf];omega
    ·have hsz:=hbr.size;have hmm:m % 256=m:=by omega
     go_wp2_with (at_builtin;refine wpList_append_own _ rfl _ _ 41 rfl w.heap.size 5 i0 (.int .u8 0) 1 1 Tryz.underlying41 hi hz0 hz1 hz2 rfl (by decide) _ cur.length (cur.map (Value.int .u8)) rfl (hown.alloc _) ⟨wr.heap.size,0,none⟩ 1 1 [.int .u8 m] rfl rfl (cell_one_new _ _ _) (ints_oneCell _ [m]) (by unfold maxLen;omega) (by omega) (by simp;omega) ?_)
     intro v3 w3 hown3 hgrow3 _;have hb3:Below w.heap.size w w3:=(hbr.alloc hsz _).grown hgrow3 (by simp;omega) (fun q hq=>(hown.lt q hq).1)
     have HE:Hid (cur++[m]=l0++encs (l.take (k+1))):=by
      have h:=hC.out;rw [enc_one hm0 (by omega)] at h;exact h
     have HO:Hid (w3.ownsRow w.heap.size 5 1 v3 (l0++encs (l.take (k+1))).length ((l0++encs (l.take (k+1))).map (Value.int .u8))):=by
      show World.ownsRow _ _ _ _ _ _ _
      rw [<- HE.out];simpa using hown3
     clear hown3 hgrow3 hown hC hbr hmm;go_wp2;go_roundw
     case rel=>exact ⟨k+1,by omega,by go_num,HO,hb3⟩
     case measure=>simp [intOf];omega
  ·go_wp2;go_ret
   rw [List.take_of_length_le (by omega)] at hown;exact ⟨_,rfl,hown,hbr⟩
end
section
open Go.RowKit Apo
attribute [local go_sem ↓] Apo.app_exec
theorem row_grown {O:Nat->Prop} {w wr w1 w3:World} {v v3:Value} {n n3:Nat} {xs xs3:List Value} {e:TypeId} (hr:Row (Gro O w wr) wr e 1 v n xs) (o:Onl O w wr) (b:Below wr.heap.size wr w1) (h3:w3.ownsRow 0 e 1 v3 n3 xs3) (g3:w1.grownBy w3 v.ownBlock) (hl:v3.ownBlock=v.ownBlock\/v3.ownBlock=some w1.heap.size):Row (Gro O w w3) w3 e 1 v3 n3 xs3/\Onl O w w3:=by
 have s1:=o.size;have s2:=b.size;have s3:=g3.size;refine ⟨⟨h3,fun g hg=>?_⟩,?_⟩
 ·rcases hl with q | q
  ·rw [q] at hg;rcases hr.2 g hg with z | z
   ·exact .inl z
   ·exact .inr (by omega)
  ·have:=(h3.lt g hg).2;rw [q] at hg;cases hg
   exact .inr (by omega)
 ·exact (o.trans (Onl.ofBelow b)).grown g3 (fun k hk=>by
   rcases hr.2 k hk with z | z
   ·exact .inl z
   ·exact .inr z.1)
end
end Go.Proofs.YtdhebpnkfookcaaGreat
