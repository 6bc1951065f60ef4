import Derived.Test.YtdhebpnkfookcaaGreatSM14
set_option maxRecDepth 100000
set_option maxHeartbeats 2000000
namespace Go.Proofs.YtdhebpnkfookcaaGreat
section
open Go.RowKit Apo
def Fresh (w w':World):Nat->Prop:=fun i=>w.heap.size<=i/\i < w'.heap.size
theorem betw_len (n:Int):betw n 65536=(lenOf n:Int):=by
 unfold betw lenOf;split
 ·rfl
 ·split <;> omega
theorem made_zeros:∀ n:Nat,(madeCells (secA zeros) (n * 32)).toList=scells (List.replicate n zeros):=by
 intro n;apply List.ext_getElem?
 intro j;have hl:∀ y ∈ List.replicate n zeros,(Zq y).length=32:=fun y hy=>by rw [List.eq_of_mem_replicate hy];simp [Zq,zeros]
 have hlen:(scells (List.replicate n zeros)).length=n * 32:=by have:=flat_len (f:=Zq) hl;rw [List.length_replicate] at this;exact this
 by_cases hj:j < n * 32
 ·have e1:(scells (List.replicate n zeros))[j / 32 * 32+j % 32]?=(Zq zeros)[j % 32]?:=flat_at (f:=Zq) hl (by rw [List.getElem?_replicate,if_pos (by omega)]) (Nat.mod_lt _ (by decide));rw [show j / 32 * 32+j % 32=j by omega] at e1;rw [e1];have hm:j % 32 < 32:=Nat.mod_lt _ (by decide);simp [madeCells,hj,secA,Zq,zeros,hm]
 ·rw [List.getElem?_eq_none (by simp [madeCells];omega),List.getElem?_eq_none (by rw [hlen];omega)]
theorem cnew_any (n:Int) (w:World) :
  Calls Tryz.prog 29 #[.int .i64 n] w fun e w'=>∃ p,e=.returned (.pointer (some ⟨p,0,none⟩))/\CDev (Fresh w w') w' p (Zl n)/\Below w.heap.size w w':=by
 have hln:lenOf n<=65536:=by unfold lenOf;split <;> (try split) <;> omega
 obtain ⟨i0,hi,hz0,hz1,hz2⟩:=info_parts info_sec;have hb:=betw_len n;have hmk:=fun W:World=>run_make (P:=Tryz.prog) W 111 216 i0 _ Tryz.underlying111 hi hz0 .i64 .i64 (lenOf n) (lenOf n) (by omega) (by omega) (by rw [hz2];omega) (by omega)
 simp only [Int.toNat_natCast,hz1,Value.cells] at hmk;have hmm:=@run_makeMap Tryz.prog;have HB:=Za hb;clear hb hz0 hz1 hz2 hi;generalize hcc:madeCells (secA zeros) (lenOf n * 32)=cc at hmk;have HC:=Za hcc;clear hcc;go_enter Tryz.func29,Tryz.ntmps29
 go_wp2_with fail
 refine (cbetween_any n 65536 (by omega)).mono ?_;rintro e w1 ⟨rfl,rfl⟩;rw [HB.out];go_wp2;go_ret
 refine ⟨_,rfl,?_,?_⟩
 ·have hcs:cc.size=lenOf n * 32:=by rw [<- HC.out];simp [madeCells]
  have hcl:cc.toList=scells (List.replicate (lenOf n) zeros):=by rw [<- HC.out];exact made_zeros _
  have k3:=Ob.new ((w.alloc (.cells cc 216)).alloc (.map #[] 0)) [.bool true,.slice (some ⟨w.heap.size,0,none⟩) (lenOf n) (lenOf n),.slice none 0 0,.map (some (w.heap.size+1)),.bool false,.int .i64 0,.bool false] 116;have e2:((w.alloc (.cells cc 216)).alloc (.map #[] 0)).heap.size=w.heap.size+1+1:=by simp
  rw [e2] at k3;have k1:Ob (w.alloc (.cells cc 216)) w.heap.size 216 cc.toList:=by have:=Ob.new w cc.toList 216;simpa using this
  have k1':=(k1.alloc (.map #[] 0)).alloc (.cells [.bool true,.slice (some ⟨w.heap.size,0,none⟩) (lenOf n) (lenOf n),.slice none 0 0,.map (some (w.heap.size+1)),.bool false,.int .i64 0,.bool false].toArray 116);have m1:=World.ownsMap_made (H:=Unit) (w.alloc (.cells cc 216)) Tryz.prog 3 unitElem;have m2:=m1.alloc (.cells [.bool true,.slice (some ⟨w.heap.size,0,none⟩) (lenOf n) (lenOf n),.slice none 0 0,.map (some (w.heap.size+1)),.bool false,.int .i64 0,.bool false].toArray 116);have e1:(w.alloc (.cells cc 216)).heap.size=w.heap.size+1:=by simp
  rw [e1] at m2;refine ⟨_,_,w.heap.size+1,0,⟨k3,⟨by omega,by simp⟩,⟨⟨?_,.inr ⟨w.heap.size,lenOf n,cc,?_,Nat.zero_le _,by simpa [Ob] using k1',by simp [Zl],by unfold maxLen;omega,hcs,?_⟩⟩,fun g hg=>?_⟩,Row.nil _ _ _ _,⟨by omega,by simp⟩,⟨.map [],?_,?_,?_⟩,?_,OkS.new n⟩⟩
  ·simp only [Zl,List.length_replicate];rw [<- hcl];simp [hcs]
  ·simp [Zl]
  ·simp only [Zl,List.length_replicate];rw [<- hcl,List.take_of_length_le (by simp [hcs])]
  ·simp [Value.ownBlock] at hg
   subst hg;exact ⟨Nat.le_refl _,by simp;omega⟩
  ·have:(Zl n).bad.count true=0:=by simp [Zl,List.count_replicate]
   rw [this];exact m2
  ·intro i hi;simp [Zl] at hi
   simp [Zl,Maps.has,List.getD,hi]
  ·simp [Zl,Maps.size,List.count_replicate]
  ·simp [Zl]
 ·exact (((Below.refl _ w).alloc (Nat.le_refl _) _).alloc (by simp) _).alloc (by simp;omega) _
end
section
open Go.RowKit Apo
attribute [local go_sem ↓] Apo.app_exec
theorem info_byte:(Tryz.prog.info? 5).map (fun i=>(i.zero,i.size,i.bytes))=some (some (.int .u8 0),1,1):=by kernel_rfl
theorem clone_app {w:World} {t e:TypeId} {i:TypeInfo} {z:Value} {size bytes:Nat} (ht:Tryz.prog.underlying t=some (.slice e)) (hi:Tryz.prog.info? e=some i) (hz:i.zero=some z) (hs:i.size=size) (hb:i.bytes=bytes) (hzs:z.cells.size=size) (hsz:0 < size)
  (a:Addr) (n cap:Nat) (xs:List Value) (hl:xs.length=n * size) (hx:∀ j u,xs[j]?=some u->w.cell? (a.add j)=some u) (h1:∀ u ∈ xs,u.oneCell'=true) (h63:n<=maxLen) (hby:n * bytes<=140737488355328) :
  ∃ v' w',(Builtin.append_ #[t,t] t #[.slice (some ⟨w.heap.size,0,none⟩) 0 0,.slice (some a) n cap]).run Tryz.prog (w.alloc (.cells #[] e))=.ok v' w'/\Row (Fresh w w') w' e size v' n xs/\Below w.heap.size w w'/\∃ g c,v'=.slice (some ⟨g,0,none⟩) n c:=by
 have hown:(w.alloc (.cells #[] e)).ownsRow w.heap.size e size (.slice (some ⟨w.heap.size,0,none⟩) 0 0) 0 []:=⟨by simp,.inr ⟨w.heap.size,0,#[],rfl,Nat.le_refl _,heap_alloc_new w _,Nat.le_refl _,Nat.zero_le _,by simp,by simp⟩⟩
 obtain ⟨v',w',R,r1,g1,hnil,_⟩:=run_append_own_at (P:=Tryz.prog) (w.alloc (.cells #[] e)) w.heap.size t t e i z size bytes ht hi hz hs hb hzs hsz (.slice (some ⟨w.heap.size,0,none⟩) 0 0) 0 [] hown a n cap xs hl (fun j u hu=>by
  have:=hx j u hu;exact (World.cell?_of_block (Below.heap_alloc w _ _ (World.block_lt_of_cell? w _ this))).trans this) h1 (by omega) (by rw [Nat.zero_add];exact hby) (by simp)
 rw [List.nil_append,Nat.zero_add] at r1;refine ⟨v',w',R,⟨r1.mono (Nat.zero_le _),fun g hg=>r1.lt g hg⟩,?_,?_⟩
 ·exact ((Below.refl _ w).alloc (Nat.le_refl _) _).grown g1 (by simp) (fun k hk=>by simp [Value.ownBlock] at hk;omega)
 ·rcases r1.2 with ⟨hn,_⟩ | ⟨g,c,cur,hv,_⟩
  ·exact absurd (hnil.1 hn).1 (by simp)
  ·exact ⟨g,c,hv⟩
end
section
open Go.RowKit Apo Go.Maps
end
section
open Go.RowKit Apo Go.Maps
attribute [local go_sem ↓] Apo.app_exec st_exec65 al_exec65
theorem cloneR_any {w:World} (a:Addr) (n cap:Nat) (l:List Int) (hl:l.length=n) (hx:∀ j u,(Zq l)[j]?=some u->w.cell? (a.add j)=some u) (hn:n<=1099511627776) :
  Calls Tryz.prog 171 #[.slice (some a) n cap] w fun e w'=>∃ v',e=.returned v'/\w'.ownsRow w.heap.size 5 1 v' n (Zq l)/\Below w.heap.size w w':=by
 obtain ⟨i0,hi,hz0,hz1,hz2⟩:=info_parts info_byte;obtain ⟨v',w',R,r1,r2,g',c',hv⟩:=clone_app (w:=w) Tryz.underlying41 hi hz0 hz1 hz2 rfl (by decide) a n cap (Zq l) (by simp [Zq,hl]) hx (secV_one l) (by unfold maxLen;omega) (by omega);subst hv
 have r1':w'.ownsRow w.heap.size 5 1 (.slice (some ⟨g',0,none⟩) n c') n (Zq l):=by
  refine ⟨r1.1.1,?_⟩;rcases r1.1.2 with ⟨h,_⟩ | ⟨g,c,cur,q0,q1,q2⟩
  ·cases h
  ·exact .inr ⟨g,c,cur,q0,by have:=(r1.2 g (by rw [q0];rfl)).1;omega,q2⟩
 obtain ⟨x1,x2,x3⟩:=Zi R;have hq:=fun wx=>Lib.run_eql_slice_nil (P:=Tryz.prog) wx 41 5 (some a) n cap 0 0 Tryz.underlying41
 have HR:=Za r1';have HB:=Za r2;clear R r1 r1' r2 hi hz0 hz1 hz2 hx hl;go_enter Tryz.func171,Tryz.ntmps171
 go_wp2;go_ret
 exact ⟨_,rfl,HR.out,HB.out⟩
theorem zeroU (w:World):(zeroValue 143).run Tryz.prog w=.ok (.agg #[]) w:=by kernel_rfl
theorem lastOf_sec:∀ {C:List (Nat × List Int)} {i:Nat} {b:List Int},(∀ x ∈ C,Sec x.2)->Sec b->Sec (lastOf C i b)
 | [],_,_,_,h=>h
 | x :: C,i,b,hC,h=>by
  have ih:=lastOf_sec (C:=C) (i:=i) (b:=if x.1=i then x.2 else b) (fun y hy=>hC y (by simp [hy])) (by split;exact hC x (by simp);exact h);simpa [lastOf] using ih
theorem cread_any {O:Nat->Prop} {w:World} {p:Nat} {st:Sd} (h:CDev O w p st) (hc:st.C.length<=1099511627776) (a:Int) :
  Calls Tryz.prog 120 #[.pointer (some ⟨p,0,none⟩),.int .i64 a] w fun e w'=>∃ v,e=.returned (.tuple #[v,.int .i64 (st.told a).2])/\Told w' w.heap.size v (st.told a).1/\Below w.heap.size w w':=by
 have HH:=Za h;obtain ⟨vK,vC,m,lf,h⟩:=h;have c3:=h.ob.cell 3;simp only [List.getElem?_cons_zero,List.getElem?_cons_succ] at c3;have H:=Za h;clear h;by_cases hd:st.dead=true
 ·have e1:st.told a=([],40):=by simp [Sd.told,hd]
  rw [e1];clear e1;go_enter Tryz.func120,Tryz.ntmps120
  go_wp2_with fail
  refine (cdead_any HH.out).mono ?_;rintro e w1 ⟨rfl,rfl⟩;rw [hd];go_wp2;go_returns
  exact ⟨_,rfl,World.ownsRow_nil _ _ _ _,Below.refl _ _⟩
 ·have hd':st.dead=false:=by simpa using hd
  have HD:=Za hd';by_cases ha:st.has a=true
  ·have ha2:=has_iff.1 ha;obtain ⟨i,rfl⟩:=Int.eq_ofNat_of_zero_le ha2.1;have hbd:=H.out.ok.bads;have hsz:=H.out.ok.size;have hi:i < st.bad.length:=by omega
   have hi2:i < st.S.length:=by omega
   obtain ⟨D,hown,hhas,_⟩:=H.out.mF.own;have hbi:=hhas i hi;have hwf:(Lit.int .i64 (i:Int)).wf=true:=WalkArith.wf_i64 (by omega);have hkey:=keyOf_int_mk Tryz.underlying3 hwf;cases hb:st.bad.getD i false with
   | true =>
    have e1:st.told i=([],41):=by simp only [Sd.told,hd',ha,Int.toNat_natCast,hb];rfl
    rw [e1];rw [hb] at hbi;have HB:=Za hbi;clear e1 hbd hhas hbi hb hd hd';go_enter Tryz.func120,Tryz.ntmps120
    go_wp2_with fail
    refine (cdead_any HH.out).mono ?_;rintro e w1 ⟨rfl,rfl⟩;rw [HD.out];go_wp2_with fail
    refine (chas_any HH.out i).mono ?_;rintro e w1 ⟨rfl,rfl⟩;rw [ha];go_wp2_with (first | (at_lookup;refine wpList_lookup_own_unit _ rfl _ _ 113 rfl 3 143 lawI Tryz.underlying113 (zeroU _) m _ D rfl hown _ _ rfl hkey ?_;rw [HB.out]) | go_in)
    go_returns
    exact ⟨_,rfl,World.ownsRow_nil _ _ _ _,(Below.refl _ _).alloc (Nat.le_refl _) _⟩
   | false =>
    have e1:st.told i=(lastOf st.C i (st.S.getD i []),0):=by simp only [Sd.told,hd',ha,Int.toNat_natCast,hb];rfl
    rw [e1];rw [hb] at hbi
    have LS:Sec (lastOf st.C i (st.S.getD i [])):=by
     have hg:st.S.getD i []=st.S[i]:=by simp [List.getD,hi2]
     rw [hg];exact lastOf_sec (fun x hx=>(H.out.ok.cach x hx).2) (H.out.ok.secs _ (List.getElem_mem hi2))
    have B1:Below w.heap.size w (w.alloc (.cells #[] 143)):=(Below.refl _ w).alloc (Nat.le_refl _) _;have K33:=clast_any (H.out.kept (Onl.ofBelow B1)) hc i hi2;generalize lastOf st.C i (st.S.getD i [])=r at LS K33 ⊢;have L1:Len32 r:=⟨LS.1⟩;have sa:=@slice_all;have HB:=Za hbi;have HK:=Za K33;have HL:=Za LS;clear e1 hbd hhas hbi hb hd hd' K33 LS;go_enter Tryz.func120,Tryz.ntmps120
    go_wp2_with fail
    refine (cdead_any HH.out).mono ?_;rintro e w1 ⟨rfl,rfl⟩;rw [HD.out];go_wp2_with fail
    refine (chas_any HH.out i).mono ?_;rintro e w1 ⟨rfl,rfl⟩;rw [ha]
    go_wp2_with (first
     | (at_lookup;refine wpList_lookup_own_unit _ rfl _ _ 113 rfl 3 143 lawI Tryz.underlying113 (zeroU _) m _ D rfl hown _ _ rfl hkey ?_;rw [HB.out])
     | (go_at_call 170;refine HK.out.mono ?_;rintro e w2 ⟨rfl,b2⟩;have HB2:=Za (B1.trans (b2.mono B1.size));obtain ⟨s1,s2⟩:=st_new_sec w2 L1;clear b2)
     | fail)
    have k1:Ob (w2.alloc (.cells (secA r) 216)) w2.heap.size 216 (Zq r):=Ob.new w2 (Zq r) 216;have z2:=HB2.out.size;have B2:Below w.heap.size w (w2.alloc (.cells (secA r) 216)):=HB2.out.alloc z2 _
    refine (cloneR_any ⟨w2.heap.size,0,none⟩ 32 32 r L1.len (fun j u hu=>by
     have e:(⟨w2.heap.size,0,none⟩:Addr).add j=⟨w2.heap.size,j,none⟩:=by unfold Addr.add;split <;> simp_all
     rw [e,k1.cell j];exact hu) (by omega)).mono ?_
    rintro e w3 ⟨v',rfl,r3,b3⟩;have HR:=Za r3;have HB3:=Za (B2.trans (b3.mono B2.size))
    obtain ⟨a',c',hv⟩:∃ a' c',v'=.slice a' 32 c':=by
     rcases r3.2 with ⟨_,h⟩ | ⟨g,c,cur,h,_⟩
     ·omega
     ·exact ⟨_,_,h⟩
    subst hv;clear r3 b3 k1 B2;go_wp2;go_returns
    refine ⟨_,rfl,?_,HB3.out⟩;have:=HR.out.mono (base':=w.heap.size) (by simp;omega);simpa [Told,L1.len,Zq] using this
  ·have ha':st.has a=false:=by simpa using ha
   have e1:st.told a=([],1):=by simp [Sd.told,hd',ha']
   rw [e1];clear e1 hd hd';go_enter Tryz.func120,Tryz.ntmps120
   go_wp2_with fail
   refine (cdead_any HH.out).mono ?_;rintro e w1 ⟨rfl,rfl⟩;rw [HD.out];go_wp2_with fail
   refine (chas_any HH.out a).mono ?_;rintro e w1 ⟨rfl,rfl⟩;rw [ha'];go_wp2;go_returns
   exact ⟨_,rfl,World.ownsRow_nil _ _ _ _,Below.refl _ _⟩
end
end Go.Proofs.YtdhebpnkfookcaaGreat
namespace Apo
open Go Go.RowKit
def gat (st:Sd) (a:Int):Nat->List Int × Int
 | 0=>([],0)
 | k+1=>if (gat st a k).2=0 then (if (st.told (a+k)).2=0 then ((gat st a k).1++(st.told (a+k)).1,0) else ([],(st.told (a+k)).2)) else gat st a k
theorem gat_stuck {st:Sd} {a:Int} {k:Nat} (h:(gat st a k).2≠0):∀ m,gat st a (k+m)=gat st a k
 | 0=>rfl
 | m+1=>by
  have ih:=gat_stuck h m;show gat st a (k+m+1)=_
  simp only [gat];rw [ih,if_neg h]
theorem gat_len {st:Sd} (ok:OkS st) (a:Int):∀ k,(gat st a k).2=0->(gat st a k).1.length=32 * k
 | 0=>by simp [gat]
 | k+1=>by
  have ih:=gat_len ok a k;simp only [gat];split
  ·next h0 =>
   split
   ·next h1 =>
    intro _;rw [List.length_append,ih h0,told_len ok h1];omega
   ·next h1=>intro h;exact absurd h h1
  ·next h0=>intro h;exact absurd h h0
theorem gat_byt {st:Sd} (ok:OkS st) (a:Int):∀ k,∀ z ∈ (gat st a k).1,0<=z/\z<=255
 | 0=>by simp [gat]
 | k+1=>by
  have ih:=gat_byt ok a k;simp only [gat];split
  ·split
   ·intro z hz;rcases List.mem_append.1 hz with hz | hz
    ·exact ih z hz
    ·exact told_byt ok _ z hz
   ·simp
  ·exact ih
theorem gat_no {st:Sd} {a:Int} {k:Nat} (h:(gat st a k).2≠0):(gat st a k).1=[]:=by
 induction k with
 | zero=>exact absurd rfl h
 | succ k ih =>
  simp only [gat] at h ⊢;split
  ·split
   ·rename_i q1 q2
    rw [if_pos q1,if_pos q2] at h;exact absurd rfl h
   ·rfl
  ·rename_i q
   exact ih q
end Apo
namespace Go.Proofs.YtdhebpnkfookcaaGreat
section
open Go.RowKit Apo
attribute [local go_sem ↓] Apo.app_exec
theorem enter_read:∀ args w,(callFunc 120 args).run Tryz.prog w=.ok (.enter 120 args) w:=fun _ _=>by kernel_rfl
theorem cgather_any {O:Nat->Prop} {w:World} {p:Nat} {st:Sd} (h:CDev O w p st) (hc:st.C.length<=1073741824) (a:Int) (ha1:-1<=a) (ha2:a<=1048576) (n:Nat) (hn:n<=65536) :
  Calls Tryz.prog 159 #[.func (.func 120) #[.pointer (some ⟨p,0,none⟩)] #[],.int .i64 a,.int .i64 n] w fun e w'=>∃ v,e=.returned (.tuple #[v,.int .i64 (gat st a n).2])/\Told w' w.heap.size v (gat st a n).1/\Below w.heap.size w w':=by
 obtain ⟨i0,hi0,hz0,hz1,hz2⟩:=info_parts info_u8;have hgl:=gat_len h.ok a;have htl:=fun x=>told_len h.ok (a:=x)
 have HD:=Za h;have HGL:=Za hgl;have HTL:=Za htl;have hE:=enter_read;clear h hgl htl;go_enter Tryz.func159,Tryz.ntmps159
 go_wp2;go_loopw [8,13] (fun vo v wr=>∃ k L:Nat,k<=n/\v=.int .i64 k/\Hid (L=32 * k)/\Hid ((gat st a k).2=0)/\(∃ a c,vo=.slice a L c)/\Hid (wr.ownsRow w.heap.size 5 1 vo L ((gat st a k).1.map (Value.int .u8)))/\Hid (Below w.heap.size w wr)) (fun _ v _=>n - (intOf v).toNat)
 case atStart=>exact ⟨0,0,Nat.zero_le _,rfl,Za rfl,Za rfl,⟨none,0,rfl⟩,Za (World.ownsRow_nil _ _ _ _),Za (Below.refl _ _)⟩
 case round =>
  obtain ⟨k,L,hk,rfl,HL,HZ,⟨ap,cp,rfl⟩,HP,HB⟩:=hrel;by_cases hkn:k < n
  ·have hzl:=HGL.out k HZ.out;obtain ⟨A,hA⟩:∃ A,A=a+(k:Int):=⟨_,rfl⟩;have wA:IntKind.i64.wrap (a+(k:Int))=A:=by rw [IntKind.wrap_i64];omega
   have C2:=cread_any (w:=wr) (HD.out.onl (F:=fun _=>False) (Onl.ofBelow HB.out) (fun _ _ q=>q)) (by omega) A;have esn:gat st a (k+1)=if (st.told A).2=0 then ((gat st a k).1++(st.told A).1,0) else ([],(st.told A).2):=by simp only [gat];rw [if_pos HZ.out,<- hA]
   have HC2:=Za C2;have HE:=Za esn;have HZL:=Za hzl;clear C2 esn hzl hA;go_wp2_with fail
   refine HC2.out.mono ?_;rintro e w1 ⟨v1,rfl,t1,b1⟩;obtain ⟨ER,hER⟩:∃ E,E=(st.told A).2:=⟨_,rfl⟩;rw [<- hER];by_cases hq:ER=0
   ·have hq0:(st.told A).2=0:=by rw [<- hER];exact hq
    have h32:=HTL.out A hq0;rw [if_pos hq0] at HE;unfold Told at t1;rw [h32] at t1;obtain ⟨a1,c1,hv1⟩:=own_len t1;subst hv1;have hrd:=(rdown t1).1;have hPw:w1.ownsRow w.heap.size 5 1 (.slice ap L cp) (gat st a k).1.length ((gat st a k).1.map (Value.int .u8)):=by rw [HZL.out,<- HL.out];exact own_old8 HP.out b1
    obtain ⟨v4,w4,R4,r4,g4⟩:=run_append_rd (P:=Tryz.prog) (w:=w1) w.heap.size 41 41 5 i0 _ 1 Tryz.underlying41 hi0 hz0 hz1 hz2 rfl .u8 (.slice ap L cp) (gat st a k).1 hPw a1 c1 (st.told A).1 hrd (fun e=>by subst e;exact own_cap0 t1) (by unfold maxLen;rw [h32,HZL.out];omega) (by rw [h32,HZL.out];omega) (by have:=HB.out.size;have:=b1.size;omega);rw [h32] at R4;obtain ⟨L2,hL2⟩:∃ L2,L2=32 * (k+1):=⟨_,rfl⟩;have hl4:((gat st a k).1++(st.told A).1).length=L2:=by rw [List.length_append,h32,HZL.out,hL2];omega
    rw [hl4] at r4;obtain ⟨a4,c4,hv4⟩:=own_len r4;subst hv4;have b4:Below w.heap.size w w4:=(HB.out.trans (b1.mono HB.out.size)).grown g4 (by have:=HB.out.size;have:=b1.size;omega) (fun q hq=>(HP.out.lt q hq).1);obtain ⟨s1,s2,s3⟩:=Zi R4;have HR4:=Za r4;have HB4:=Za b4;have HL2:=Za hL2;subst hq;clear R4 r4 b4 g4 hPw hrd t1 b1 hL2 hl4 h32 hER hq0;go_wp2;go_roundw
    case rel=>exact ⟨k+1,L2,by omega,by simp,HL2,Za (by rw [HE.out]),⟨a4,c4,rfl⟩,Za (by rw [HE.out];exact HR4.out),HB4⟩
    case measure=>simp [intOf];omega
   ·have hq0:(st.told A).2≠0:=by rw [<- hER];exact hq
    rw [if_neg hq0,<- hER] at HE
    have efin:gat st a n=([],ER):=by
     have hs1:(gat st a (k+1)).2≠0:=by rw [HE.out];exact hq
     have e4:=gat_stuck hs1 (n - (k+1));rw [show k+1+(n - (k+1))=n by omega,HE.out] at e4;exact e4
    have HEF:=Za efin;have hqb:(ER == 0)=false:=by simpa using hq
    have HB4:=Za (HB.out.trans (b1.mono HB.out.size));obtain ⟨a1,c1,hv1⟩:=own_len t1;subst hv1;clear efin t1 b1 hER hq0;go_wp2;refine bodyPost_ret (by simp [results,Tryz.results159,go_sem];rfl) rfl ?_;rw [HEF.out];exact ⟨.slice none 0 0,rfl,World.ownsRow_nil _ _ _ _,HB4.out⟩
  ·obtain rfl:k=n:=by omega
   go_wp2;refine bodyPost_ret (by simp [results,Tryz.results159,go_sem];rfl) rfl ?_;rw [HZ.out];refine ⟨.slice ap L cp,rfl,?_,HB.out⟩;have:=HP.out;unfold Told;rw [HGL.out k HZ.out,<- HL.out];exact this
end
section
open Go.RowKit Go.Shelf Apo
attribute [local go_sem] Oper.semAt_some
theorem chunk1_in (m:Nat) (hm:1<=m) (l Bs Bn g cap n:Nat) (hn:n<=16384) (U:Nat->Prop) (hUs:U Bs) (hUn:U Bn) (J Jx:List (Fin n)->World->Prop)
  (hJ:∀ pre W,J pre W->J pre W.drew)
  (hY:∀ pre (x:Fin n) W,J pre W->pre.length < n->YieldAt Fence.wide (m - 1) Tryz.prog l #[.slice (some ⟨g,128 * x.1,none⟩) 128 128] W fun e W' =>
    (e=.returned (.bool true)/\J (pre++[x]) W'/\KeepO U W W')\/(e=.returned (.bool false)/\Jx (pre++[x]) W'))
  (W:World) (N:Nat) (hN:N=128 * n) (hcap:N<=cap) (hBs:W.cell? ⟨Bs,0,none⟩=some (.slice (some ⟨g,0,none⟩) N cap)) (hBn:W.cell? ⟨Bn,0,none⟩=some (.int .i64 128)) (h0:J [] W) :
  CallsIn Fence.wide m Tryz.prog 195 #[.func (.yield l) #[] #[],.pointer (some ⟨Bs,0,none⟩),.pointer (some ⟨Bn,0,none⟩)] W fun e W'=>(∃ v,e=.returned v) /\
   ((∃ ys,ys=List.finRange n/\J ys W')\/(∃ pre,(∃ k,k<=n/\pre=(List.finRange n).take k)/\Jx pre W')):=by
 refine callsIn_of_wp Tryz.func195 rfl trivial ?_ rfl;simp only [Tryz.ntmps195,List.size_toArray,List.length_cons,List.length_nil,Nat.reduceAdd,Nat.reduceSub,Array.replicate_succ,Array.replicate_zero,List.push_toArray,List.append_toArray,List.nil_append,List.cons_append];have HN:=Za hN;clear hN;gi_wp2
 gi_loopw [4] (fun i wr=>∃ k I:Nat,k<=n/\Hid (I=128 * k)/\i=.int .i64 I/\Hid (J ((List.finRange n).take k) wr)/\Hid (KeepO U W wr))
  (fun i _=>N - (intOf i).toNat)
 case atStart=>exact ⟨0,0,Nat.zero_le _,Za rfl,rfl,Za (by simpa using h0),Za ⟨Nat.le_refl _,fun _ _=>rfl⟩⟩
 case round =>
  obtain ⟨k,I,hk,HI,rfl,HJ,HK⟩:=hrel;have p1:wr.cell? ⟨Bs,0,none⟩=some (.slice (some ⟨g,0,none⟩) N cap):=(World.cell?_of_block (HK.out.2 Bs hUs)).trans hBs;have p2:wr.cell? ⟨Bn,0,none⟩=some (.int .i64 128):=(World.cell?_of_block (HK.out.2 Bn hUn)).trans hBn;by_cases hlt:k < n
  ·have hlen:((List.finRange n).take k).length=k:=by rw [List.length_take,List.length_finRange];omega
   obtain ⟨fn,tmps,assign,body,hy,hRR⟩:=hY _ ⟨k,hlt⟩ _ (hJ _ _ HJ.out) (by rw [hlen];exact hlt)
   have hsn:(List.finRange n).take k++[⟨k,hlt⟩]=(List.finRange n).take (k+1):=by
    rw [List.take_succ_eq_append_getElem (by simpa using hlt)];simp
   rw [hsn] at hRR;have hIN:I+128<=N:=by rw [HI.out,HN.out];omega
   have hy2:(Instr.yield l #[.slice (some ⟨g,I,none⟩) 128 128]).run Tryz.prog wr.drew=.ok (.round l fn tmps assign body) wr.drew:=by rw [HI.out];exact hy
   obtain ⟨T,hT⟩:∃ T,T=I+128:=⟨_,rfl⟩;have wT:IntKind.i64.wrap ((I:Int)+128)=(T:Int):=by have:=HI.out;rw [IntKind.wrap_i64];omega
   have t1:I<=T:=by omega
   have t2:T<=N:=by omega
   have t3:T<=cap:=by omega
   have t4:T - I=128:=by omega
   have t5:I < N:=by omega
   have t6:cap≠I:=by omega
   have t7:128<=N - I:=by omega
   have t8:I<=2097152:=by have:=HI.out;omega
   have t9:N<=2097152:=by have:=HN.out;omega
   have HT:=Za hT;clear hT hsn hlen hIN hy;gi_wp2
   gi_region
   gi_wp2
   refine hRR.mono ?_;rintro e W3 (⟨rfl,hJ3,hk3⟩ | ⟨rfl,hJx3⟩)
   ·have p3:W3.cell? ⟨Bn,0,none⟩=some (.int .i64 128):=(World.cell?_of_block (hk3.2 Bn hUn)).trans p2;have HJ3:=Za hJ3;have HK3:Hid (KeepO U W W3):=Za (keepO_t HK.out (keepO_t (⟨Nat.le_refl _,fun _ _=>rfl⟩:KeepO U wr wr.drew) hk3));clear hJ3 hk3;gi_wp2
    go_roundw
    case rel=>exact ⟨k+1,T,by omega,Za (by rw [HT.out,HI.out];omega),rfl,HJ3,HK3⟩
    case measure=>simp [intOf];omega
   ·have HJx3:=Za hJx3;clear hJx3;gi_wp2
    refine bodyPost_ret (results_none rfl _ _ _) rfl ?_;exact ⟨⟨_,rfl⟩,.inr ⟨_,⟨k+1,by omega,rfl⟩,HJx3.out⟩⟩
  ·obtain rfl:k=n:=by omega
   have hIN:I=N:=by rw [HI.out,HN.out]
   subst hIN
   have HJe:Hid (J (List.finRange k) wr):=by
    have:=HJ.out;rw [List.take_of_length_le (by simp)] at this;exact Za this
   gi_wp2
   go_end0
   exact ⟨⟨_,rfl⟩,.inl ⟨_,rfl,HJe.out⟩⟩
theorem chunk_stops {w:World} {Bs Bn g cap n N:Nat} (hn:n<=16384) (hN:N=128 * n) (hcap:N<=cap) (hBs:Ob w Bs 41 [.slice (some ⟨g,0,none⟩) N cap]) (hBn:Ob w Bn 3 [.int .i64 128]) :
  SeqStopsK Fence.wide 2 Tryz.prog 195 #[.pointer (some ⟨Bs,0,none⟩),.pointer (some ⟨Bn,0,none⟩)] (fun x:Fin n=>#[Value.slice (some ⟨g,128 * x.1,none⟩) 128 128]) (KeepO (fun i=>i=Bs\/i=Bn)) (fun ys=>ys=List.finRange n) (fun pre=>∃ k,k<=n/\pre=(List.finRange n).take k) n w:=by
 intro l J Jx W hW hAJ _ hY h0;have hJ:∀ pre W,J pre W->J pre W.drew:=fun pre A h=>hAJ pre A _ none h (Zm none ((Below.refl _ A).drew)) (fun r e=>by cases e)
 exact chunk1_in 2 (by decide) l Bs Bn g cap n hn _ (.inl rfl) (.inr rfl) J Jx hJ hY W N hN hcap ((hBs.old hW).cell 0) ((hBn.old hW).cell 0) h0
theorem chunk_in (m:Nat) (a:Option Addr) (len cap:Nat) (w:World) :
  CallsIn Fence.wide m Tryz.prog 160 #[.slice a len cap,.int .i64 128] w fun e w'=>e=.returned (.func (.func 195) #[] #[.pointer (some ⟨w.heap.size,0,none⟩),.pointer (some ⟨w.heap.size+1,0,none⟩)])/\w'=(w.alloc (.cells #[.slice a len cap] 41)).alloc (.cells #[.int .i64 128] 3):=by
 refine callsIn_of_wp Tryz.func160 rfl trivial ?_ rfl;simp only [Tryz.ntmps160,List.size_toArray,List.length_cons,List.length_nil,Nat.reduceAdd,Nat.reduceSub,Array.replicate_succ,Array.replicate_zero,List.push_toArray,List.append_toArray,List.nil_append,List.cons_append];gi_wp2
 go_ret
 exact ⟨rfl,rfl⟩
theorem enter_chunk1:∀ args w,(callFunc 195 args).run Tryz.prog w=.ok (.enter 195 args) w:=fun _ _=>by kernel_rfl
end
end Go.Proofs.YtdhebpnkfookcaaGreat
