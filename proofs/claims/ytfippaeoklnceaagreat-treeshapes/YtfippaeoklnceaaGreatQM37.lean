import Derived.Lib.Bytealg
import Derived.Lib.Walk
import Derived.Test.YtfippaeoklnceaaGreatQM36
namespace Go.Proofs.YtfippaeoklnceaaGreat
set_option maxRecDepth 100000
set_option maxHeartbeats 4000000
open Go.RowKit Go.Shelf Apo
attribute [local go_sem] Oper.semAt_some
def RootT (T:List (List Int)) (root:Nat) (ls:List (Nat × List En)):Prop:=(root=0∧ls=[])∨(∃ l n,IsT T l root n ls)
section
variable {w:World} {s m:Nat} {O:Nat→Prop} {T:List (List Int)} {N:Nat} {it:Nat→Nat × List En} {lp:Nat} {J:Nat→(Nat→Prop)→World→Prop}
theorem leaves1_in (H:Hears w s m O T N it lp J) (hT:T.length≤16000) (hx:TxOk T) (nn:Nat) (W:World) (root Br Bl:Nat) (ls:List (Nat × List En)) (U:Nat→Prop) (ht:RootT T root ls) (hj:J 0 U W) (hr:W.cell? ⟨Br,0,none⟩=some (.int .u64 root)) (hl:W.cell? ⟨Bl,0,none⟩=some (ldV s)) (hit:∀ i p,ls[i]?=some p→it i=p) (hN:ls.length≤N) :
  CallsIn Fence.wide nn Tryz.prog 50 #[.func (.yield lp) #[] #[],.pointer (some ⟨Br,0,none⟩),.pointer (some ⟨Bl,0,none⟩)] W fun e W'=>(∃ v,e=.returned v)∧∃ U',J ls.length U' W'∧Onl U W W'∧∀ i,U' i→U i∨W.heap.size≤i:=by
 rcases ht with ⟨rfl,rfl⟩ | ⟨l,n,ht⟩
 ·have HJ:=hide hj
  refine callsIn_of_wp Tryz.func50 rfl trivial ?_ rfl
  simp only [Tryz.ntmps50,List.size_toArray,List.length_cons,List.length_nil,Nat.reduceAdd,Nat.reduceSub,Array.replicate_succ,Array.replicate_zero,List.push_toArray,List.append_toArray,List.nil_append,List.cons_append]
  gi_wp2
  refine bodyPost_ret (results_none rfl _ _ _) rfl ?_
  exact ⟨⟨_,rfl⟩,U,HJ.out,Onl.refl _ _,fun i q=>.inl q⟩
 ·have hnod:=ht.nod
  have hne:((root:Int) == 0)=false:=by have:=hnod.1.pos; simp; omega
  have C1:=tload_any (H.st _ _ _ hj) hT hx root hnod.1.lt
  rw [hnod.1.ld] at C1
  simp only at C1
  have hul:=H.lt _ _ _ hj
  have HC1:=hide C1
  have HJ:=hide hj
  have HH:=hide H
  have HT:=hide ht
  have HIT:=hide hit
  have HN:=hide hN
  have HUL:=hide hul
  simp only [ldV] at HC1 hl
  clear C1 hj H ht hit hN hul hnod
  have hbr:=World.block_lt_of_cell? _ _ hr
  have hbl:=World.block_lt_of_cell? _ _ hl
  refine callsIn_of_wp Tryz.func50 rfl trivial ?_ rfl
  simp only [Tryz.ntmps50,List.size_toArray,List.length_cons,List.length_nil,Nat.reduceAdd,Nat.reduceSub,Array.replicate_succ,Array.replicate_zero,List.push_toArray,List.append_toArray,List.nil_append,List.cons_append]
  gi_wp2_with fail
  refine ⟨trivial,fun q=>(by cases q),(callsIn_wide.2 HC1.out).mono ?_⟩
  rintro e w3 ⟨x',hx'n,ok',nw',rfl,b3⟩
  have s3:=b3.size
  obtain ⟨w4,hw4⟩:∃ w4,w4=w3.alloc (.cells x'.cells.toArray 72):=⟨_,rfl⟩
  have b4:Below w3.heap.size w3 w4:=by rw [hw4]; exact (Below.refl _ w3).alloc (Nat.le_refl _) _
  have kx4:Ob w4 w3.heap.size 72 x'.cells:=by rw [hw4]; exact Ob.new w3 x'.cells 72
  have b24:Below W.heap.size W w4:=b3.trans (b4.mono (by omega))
  have C5:=under_in HH.out hT hx l (nn - 1) w4 x' root ls 0 U (by rw [hx'n]; exact HT.out) (HH.out.bel _ _ _ _ HJ.out b24) (ok'.below b4) ⟨fun y hy _ q=>by have:=nw'.1 y hy; have:=HUL.out _ q; omega,fun y hy _ q=>by have:=nw'.2 y hy; have:=HUL.out _ q; omega⟩ (fun y hy q=>by have:=nw'.1 y hy; have:=HUL.out _ q; omega) (fun i p hp=>by rw [Nat.zero_add]; exact HIT.out i p hp) (by rw [Nat.zero_add]; exact HN.out)
  rw [Nat.zero_add] at C5
  have d0:=(b24.cell (p:=⟨Br,0,none⟩) hbr).trans hr
  have d1:=(b24.cell (p:=⟨Bl,0,none⟩) hbl).trans hl
  have x0:=kx4.cell 0
  have x1:=kx4.cell 1
  have x2:=kx4.cell 2
  simp only [ldV] at C5
  obtain ⟨⟨lv',es',ks'⟩,ea',ec',ka',kc'⟩:=x'
  simp only [NdA.cells,List.getElem?_cons_zero,List.getElem?_cons_succ] at x0 x1 x2 C5 hw4 ⊢
  obtain ⟨ne',hne'⟩:∃ ne',ne'=es'.length:=⟨_,rfl⟩
  obtain ⟨nk',hnk'⟩:∃ nk',nk'=ks'.length:=⟨_,rfl⟩
  rw [← hne'] at x1 C5 hw4 ⊢
  rw [← hnk'] at x2 C5 hw4 ⊢
  have HC5:=hide C5
  have HB24:=hide b24
  have hw4':w4=w3.alloc (.cells #[.int .i64 lv',.slice ea' ne' ec',.slice ka' nk' kc'] 72):=hw4
  clear C5 b24 kx4 b3 b4 ok' nw' hx'n hne' hnk' hw4 hr hl
  rw [hw4'] at d0 d1 x0 x1 x2
  gi_wp2_with fail
  rw [← hw4']
  clear hw4'
  refine ⟨trivial,fun q=>(by cases q),HC5.out.mono ?_⟩
  rintro e w5 ⟨rfl,U5,j5,o5,u5⟩
  have sb:=HB24.out.size
  have HF:Hid (∃ U',J ls.length U' w5∧Onl U W w5∧∀ i,U' i→U i∨W.heap.size≤i):=hide ⟨U5,j5,(Onl.ofBelow HB24.out).trans o5,fun i q=>(u5 i q).imp (fun z=>z) (fun z=>by omega)⟩
  clear j5 o5 u5 d0 d1 x0 x1 x2
  gi_wp2
  go_end0
  exact ⟨⟨_,rfl⟩,HF.out⟩
end
theorem leaves_fn (s root:Nat) (W:World) :
  Calls Tryz.prog 26 #[ldV s,.int .u64 root] W fun e W'=>e=.returned (.func (.func 50) #[] #[.pointer (some ⟨W.heap.size+1,0,none⟩),.pointer (some ⟨W.heap.size,0,none⟩)])∧W'=(W.alloc (.cells #[ldV s] 59)).alloc (.cells #[.int .u64 root] 31):=by
 simp only [ldV]
 go_enter Tryz.func26,Tryz.ntmps26
 go_wp2
 go_ret
 exact ⟨rfl,rfl⟩
theorem enter_leaves1:∀ args w,(callFunc 50 args).run Tryz.prog w=.ok (.enter 50 args) w:=fun _ _=>by kernel_rfl
end Go.Proofs.YtfippaeoklnceaaGreat
namespace Go.Proofs.YtfippaeoklnceaaGreat
set_option maxRecDepth 100000
set_option maxHeartbeats 4000000
open Go.RowKit Go.Shelf Apo
attribute [local go_sem] Oper.semAt_some
attribute [local go_sem ↓] app_sem
def esK (it:Nat→Nat × List En) (k:Nat):List En:=(List.range k).flatMap (fun i=>(it i).2)
theorem esK_succ (it:Nat→Nat × List En) (k:Nat):esK it (k+1)=esK it k++(it k).2:=by simp [esK,List.range_succ]
theorem ecells_app (a b:List En):ecells (a++b)=ecells a++ecells b:=by simp [ecells]
theorem app_Es {O:Nat→Prop} {W:World} {v:Value} {l es:List En} (h:Row O W 40 2 v l.length (ecells l)) (hn:l.length+es.length≤1000000) {y:Addr} {c:Nat} (hr:RdEn W (some y) es) :
  ∃ v' w',(Builtin.append_ #[22,22] 22 #[v,.slice (some y) es.length c]).run Tryz.prog W=.ok v' w'∧Row (fun g=>O g∨g=W.heap.size) w' 40 2 v' (l++es).length (ecells (l++es))∧Onl (fun g=>v.ownBlock=some g) W w'∧∀ g,v'.ownBlock=some g→v.ownBlock=some g∨g=W.heap.size:=by
 obtain ⟨i0,hi,hz0,hz1,hz2⟩:=info_parts info_En
 obtain ⟨v5,w5,RR,r5,g5,_,ho5⟩:=run_append_own_at (P:=Tryz.prog) W 0 22 22 40 i0 _ 2 32 Tryz.underlying22 hi hz0 hz1 hz2 rfl (by decide) v l.length (ecells l) h.1 y es.length c (ecells es) (ecells_len es) (RdEn.news hr) (by intro u hu; simp only [ecells,List.mem_flatMap] at hu; obtain ⟨e,_,hu⟩:=hu; simp at hu; rcases hu with rfl | rfl <;> rfl) (by unfold maxLen; omega) (by omega) (Nat.zero_le _)
 refine ⟨v5,w5,RR,⟨?_,fun g hg=>?_⟩,(Onl.refl _ W).grown g5 (fun k hk=>.inl hk),fun g hg=>?_⟩
 ·rw [List.length_append,ecells_app]
  exact r5
 ·rcases ho5 with q | q
  ·rw [q] at hg; exact .inl (h.2 g hg)
  ·rw [q] at hg; cases hg; exact .inr rfl
 ·rcases ho5 with q | q
  ·rw [q] at hg; exact .inl hg
  ·rw [q] at hg; cases hg; exact .inr rfl
theorem put_onl {A:World} {l:Nat} (o:Obj):Onl (fun i=>i=l) A (A.putObj l o):=(Onl.refl _ A).grown (grownBy_putObj' A l o) (fun k e=>.inl (by cases e; rfl))
theorem onl_back {U:Nat→Prop} {l:Nat} {A B:World} (h:Onl (fun i=>U i∨i=l) A B) (hb:B.heap[l]?=A.heap[l]?):Onl U A B :=
 ⟨h.os,h.tape,h.output,h.size,fun i hi hu=>by
  by_cases q:i=l
  ·rw [q]; exact hb
  ·exact h.block i hi (fun z=>z.elim hu q)⟩
theorem cell_not {A:World} {a:Addr} {v:Value} {d:Nat} {o:Obj} (h:A.cell? a=some v) (hl:A.heap[d]?=some o) (ho:o.isCells=false):a.block≠d:=by
 intro q
 obtain ⟨o2,h1,h2⟩:=cells_of_cell h
 rw [q,hl] at h1
 cases h1
 rw [ho] at h2
 cases h2
theorem Row.noLoop {O:Nat→Prop} {A:World} {e:TypeId} {size n d:Nat} {v:Value} {xs:List Value} {o:Obj} (h:Row O A e size v n xs) (hl:A.heap[d]?=some o) (ho:o.isCells=false):v.ownBlock≠some d:=by
 intro q
 rcases h.1.2 with ⟨rfl,_⟩ | ⟨g,cap,cur,rfl,_,hc,_⟩
 ·cases q
 ·simp only [Value.ownBlock,Option.some.injEq] at q
  subst q
  rw [hc] at hl
  cases hl
  cases ho
end Go.Proofs.YtfippaeoklnceaaGreat
namespace Go.Proofs.YtfippaeoklnceaaGreat
set_option maxRecDepth 100000
set_option maxHeartbeats 4000000
open Go.RowKit Apo
def cmpS (a b:ByteArray):Int:=Lib.compareBytes a.data.toList b.data.toList
theorem cb_lt:∀ x y:List UInt8,(Lib.compareBytes x y < 0↔Op.bytesLess x y=true)∧(Lib.compareBytes x y=0↔x=y)∧-1≤Lib.compareBytes x y∧Lib.compareBytes x y≤1
 | [],[]=>by simp [Lib.compareBytes,Op.bytesLess]
 | [],_ :: _=>by simp [Lib.compareBytes,Op.bytesLess]
 | _ :: _,[]=>by simp [Lib.compareBytes,Op.bytesLess]
 | a :: x,b :: y=>by
  have ih:=cb_lt x y
  unfold Lib.compareBytes
  by_cases h1:a < b
  ·rw [if_pos h1]
   refine ⟨by simp [Op.bytesLess,h1],⟨fun q=>by simp at q,fun q=>?_⟩,by omega,by omega⟩
   have:a=b:=by injection q
   subst this
   exact absurd h1 (UInt8.lt_irrefl a)
  ·rw [if_neg h1]
   by_cases h2:b < a
   ·rw [if_pos h2]
    have hne:a≠b:=fun q=>by subst q; exact UInt8.lt_irrefl a h2
    refine ⟨by simp [Op.bytesLess,h1,hne],⟨fun q=>by simp at q,fun q=>?_⟩,by omega,by omega⟩
    injection q with q
    exact absurd q hne
   ·rw [if_neg h2]
    have hab:a=b:=by
     rw [UInt8.not_lt] at h1 h2
     exact UInt8.le_antisymm h2 h1
    subst hab
    refine ⟨?_,?_,ih.2.2.1,ih.2.2.2⟩
    ·rw [ih.1]
     simp [Op.bytesLess]
    ·rw [ih.2.1]
     simp
theorem cmpS_lt {a b:ByteArray}:cmpS a b < 0↔sLt a b=true:=by
 unfold cmpS sLt
 rw [ByteArray.toList_eq,ByteArray.toList_eq]
 exact (cb_lt _ _).1
theorem cmpS_eq {a b:ByteArray}:cmpS a b=0↔a=b:=by
 unfold cmpS
 rw [(cb_lt _ _).2.1]
 exact ⟨fun q=>ByteArray.ext (Array.ext' q),fun q=>by rw [q]⟩
theorem cmpstring_any (a b:ByteArray) (w:World):Calls Tryz.prog 89 #[.string a,.string b] w fun e w'=>e=.returned (.int .i64 (cmpS a b))∧w=w':=by
 go_enter Tryz.func89,Tryz.ntmps89
 go_wp2
 rw [run_callFunc_extern Tryz.func134 (by kernel_rfl) (by kernel_rfl) (by kernel_rfl) (e:=Extern.BytealgCompare.compare) (by kernel_rfl),Lib.run_compareString]
 simp only [Result.andThen]
 rw [Oper.upon_value]
 go_wp2
 go_ret
 exact ⟨rfl,rfl⟩
theorem scompare_any (a b:ByteArray) (w:World):Calls Tryz.prog 55 #[.string a,.string b] w fun e w'=>e=.returned (.int .i64 (cmpS a b))∧w=w':=by
 have C:=cmpstring_any a b w
 go_enter Tryz.func55,Tryz.ntmps55
 go_wp2_with fail
 refine C.mono ?_
 rintro e w2 ⟨rfl,rfl⟩
 go_wp2
 go_ret
 exact ⟨rfl,rfl⟩
theorem cl_Ki (k:ByteArray) (u:Nat) (key:ByteArray) (w:World):Calls Tryz.prog 60 #[.agg #[.string k,.int .u64 (u:Int)],.string key] w fun e w'=>e=.returned (.int .i64 (cmpS k key))∧Below w.heap.size w w':=by
 have b1:Below w.heap.size w (w.alloc (.cells #[.string k,.int .u64 (u:Int)] 111)):=(Below.refl _ w).alloc (Nat.le_refl _) _
 have C:=scompare_any k key (w.alloc (.cells #[.string k,.int .u64 (u:Int)] 111))
 have HB:=hide b1
 clear b1
 go_enter Tryz.func60,Tryz.ntmps60
 go_wp2_with fail
 refine C.mono ?_
 rintro e w2 ⟨rfl,rfl⟩
 go_wp2
 go_ret
 exact ⟨rfl,HB.out⟩
theorem en_Ki:∀ args w,(callFunc 60 args).run Tryz.prog w=.ok (.enter 60 args) w:=fun _ _=>by kernel_rfl
def AtKi (ks:List Ki) (key:ByteArray) (i:Nat):Prop:=i≤ks.length∧(∀ t k,t < i→ks[t]?=some k→sLt k.k key=true)∧∀ t k,i≤t→ks[t]?=some k→sLt k.k key=false
def BsKi (ks:List Ki) (key:ByteArray) (w:World) (e:Ending) (w':World):Prop:=∃ (i:Nat) (b:Bool),e=.returned (.tuple #[.int .i64 i,.bool b])∧AtKi ks key i∧(b=true↔∃ k,ks[i]?=some k∧k.k=key)∧Below w.heap.size w w'
theorem rs_Ki {ks:List Ki} (h:Rise (ks.map Ki.k)) {t u:Nat} {a b:Ki} (h1:ks[t]?=some a) (h2:ks[u]?=some b) (hlt:t < u):sLt a.k b.k=true:=by
 have hu:=(List.getElem?_eq_some_iff.1 h2).1
 have:=List.pairwise_iff_getElem.1 h t u (by simp; omega) (by simpa using hu) hlt
 simp only [List.getElem_map] at this
 rw [List.getElem?_eq_getElem (by omega)] at h1 h2
 cases h1
 cases h2
 exact this
theorem bs_Ki (w:World) (a:Option Addr) (c:Nat) (ks:List Ki) (key:ByteArray) (h:RdKi w a ks) (hr:Rise (ks.map Ki.k)) (hl:ks.length≤1000000) :
  Calls Tryz.prog 59 #[.slice a ks.length c,.string key,.func (.func 60) #[] #[]] w (BsKi ks key w):=by
 obtain ⟨n,hn⟩:∃ n,n=ks.length:=⟨_,rfl⟩
 have HN:=hide hn
 have HR:=hide h
 have HRI:=hide hr
 have HEN:=hide en_Ki
 rw [← hn] at hl ⊢
 clear h hn hr
 go_enter Tryz.func59,Tryz.ntmps59
 go_wp2
 go_loopw [9,10] (fun u v wr=>∃ i j:Nat,i≤j∧j≤n∧u=.int .i64 i∧v=.int .i64 j∧Hid (∀ t k,t < i→ks[t]?=some k→sLt k.k key=true)∧Hid (∀ t k,j≤t→ks[t]?=some k→sLt k.k key=false)∧Hid (Below w.heap.size w wr)) (fun u v _=>(intOf v).toNat - (intOf u).toNat)
 case atStart=>exact ⟨0,n,Nat.zero_le _,Nat.le_refl _,rfl,rfl,hide (fun t k ht=>absurd ht (by omega)),hide (fun t k ht hk=>absurd (List.getElem?_eq_some_iff.1 hk).1 (by have:=HN.out; omega)),hide (Below.refl _ _)⟩
 case round =>
  obtain ⟨i,j,hij,hjn,rfl,rfl,H1,H2,HB⟩:=hrel
  by_cases hlt:i < j
  ·have hqi:i≤(i+j) / 2:=by omega
   have hqj:(i+j) / 2 < j:=by omega
   obtain ⟨⟨kk,ku⟩,hk⟩:∃ k,ks[(i+j) / 2]?=some k:=⟨ks[(i+j) / 2]'(by have:=HN.out; omega),List.getElem?_eq_getElem _⟩
   obtain ⟨g,of,rfl,c1,c2⟩:=(HR.out.below HB.out) ((i+j) / 2) _ hk
   simp only at c1 c2
   have CC:=cl_Ki kk ku key wr
   have HK:=hide hk
   obtain ⟨cc,hcc⟩:∃ cc,cc=cmpS kk key:=⟨_,rfl⟩
   rw [← hcc] at CC
   have HCC:=hide CC
   have HCM:=hide hcc
   clear CC hk hcc
   by_cases hc:cc < 0
   ·have hcd:decide (cc < 0)=true:=decide_eq_true hc
    have HN1:Hid (∀ t k,t < (i+j) / 2+1→ks[t]?=some k→sLt k.k key=true):=hide (fun t k ht hk=>by
     have hx:=cmpS_lt.1 (by rw [← HCM.out]; exact hc)
     by_cases z:t=(i+j) / 2
     ·subst z
      rw [HK.out] at hk
      cases hk
      exact hx
     ·exact sLt_trans (rs_Ki HRI.out hk HK.out (by omega)) hx)
    clear hc H1 HCM
    go_wp2_with fail
    refine HCC.out.mono ?_
    rintro e w2 ⟨rfl,b2⟩
    have HB2:=hide (HB.out.trans (b2.mono HB.out.size))
    clear b2 HB HCC
    go_wp2
    go_roundw
    case rel=>exact ⟨(i+j) / 2+1,j,by omega,by omega,by simp,rfl,HN1,H2,HB2⟩
    case measure=>simp [intOf]; omega
   ·have hcd:decide (cc < 0)=false:=decide_eq_false hc
    have HN2:Hid (∀ t k,(i+j) / 2≤t→ks[t]?=some k→sLt k.k key=false):=hide (fun t k ht hk=>by
     have hx:sLt kk key=false:=by
      cases q:sLt kk key with
      | false=>rfl
      | true=>exact absurd (by rw [HCM.out]; exact cmpS_lt.2 q) hc
     by_cases z:t=(i+j) / 2
     ·subst z
      rw [HK.out] at hk
      cases hk
      exact hx
     ·cases q:sLt k.k key with
      | false=>rfl
      | true =>
       have:=sLt_trans (rs_Ki HRI.out HK.out hk (by omega)) q
       simp only at this
       rw [hx] at this
       cases this)
    clear hc H2 HCM
    go_wp2_with fail
    refine HCC.out.mono ?_
    rintro e w2 ⟨rfl,b2⟩
    have HB2:=hide (HB.out.trans (b2.mono HB.out.size))
    clear b2 HB HCC
    go_wp2
    go_roundw
    case rel=>exact ⟨i,(i+j) / 2,by omega,by omega,rfl,by simp,H1,HN2,HB2⟩
    case measure=>simp [intOf]; omega
  ·obtain rfl:i=j:=by omega
   have HAT:Hid (AtKi ks key i):=hide ⟨by have:=HN.out; omega,H1.out,H2.out⟩
   clear H1 H2
   by_cases hin:i < n
   ·obtain ⟨⟨kk,ku⟩,hk⟩:∃ k,ks[i]?=some k:=⟨ks[i]'(by have:=HN.out; omega),List.getElem?_eq_getElem _⟩
    obtain ⟨g,of,rfl,c1,c2⟩:=(HR.out.below HB.out) i _ hk
    simp only at c1 c2
    have CC:=cl_Ki kk ku key wr
    obtain ⟨cc,hcc⟩:∃ cc,cc=cmpS kk key:=⟨_,rfl⟩
    rw [← hcc] at CC
    have HF:Hid (∀ w2,Below w.heap.size w w2→BsKi ks key w (.returned (.tuple #[.int .i64 i,.bool (cc == 0)])) w2):=hide (fun w2 hb=>by
     refine ⟨i,cc == 0,rfl,HAT.out,?_,hb⟩
     rw [beq_iff_eq,hcc,cmpS_eq]
     constructor
     ·intro q; exact ⟨_,hk,q⟩
     ·rintro ⟨k,h1,h2⟩
      rw [hk] at h1
      cases h1
      exact h2)
    have HCC:=hide CC
    clear CC hk hcc HAT
    go_wp2_with fail
    refine HCC.out.mono ?_
    rintro e w2 ⟨rfl,b2⟩
    have HFF:=hide (HF.out w2 (HB.out.trans (b2.mono HB.out.size)))
    clear b2 HB HCC HF
    go_wp2
    refine bodyPost_ret (by simp [results,Tryz.results59,go_sem]; rfl) rfl ?_
    exact HFF.out
   ·have HF:Hid (BsKi ks key w (.returned (.tuple #[.int .i64 i,.bool false])) wr):=hide ⟨i,false,rfl,HAT.out,⟨fun q=>(by cases q),fun ⟨k,h1,_⟩=>absurd (List.getElem?_eq_some_iff.1 h1).1 (by have:=HN.out; omega)⟩,HB.out⟩
    clear HAT
    go_wp2
    refine bodyPost_ret (by simp [results,Tryz.results59,go_sem]; rfl) rfl ?_
    exact HF.out
theorem cl_En (k:ByteArray) (u:ByteArray) (key:ByteArray) (w:World):Calls Tryz.prog 58 #[.agg #[.string k,.string u],.string key] w fun e w'=>e=.returned (.int .i64 (cmpS k key))∧Below w.heap.size w w':=by
 have b1:Below w.heap.size w (w.alloc (.cells #[.string k,.string u] 40)):=(Below.refl _ w).alloc (Nat.le_refl _) _
 have C:=scompare_any k key (w.alloc (.cells #[.string k,.string u] 40))
 have HB:=hide b1
 clear b1
 go_enter Tryz.func58,Tryz.ntmps58
 go_wp2_with fail
 refine C.mono ?_
 rintro e w2 ⟨rfl,rfl⟩
 go_wp2
 go_ret
 exact ⟨rfl,HB.out⟩
theorem en_En:∀ args w,(callFunc 58 args).run Tryz.prog w=.ok (.enter 58 args) w:=fun _ _=>by kernel_rfl
def AtEn (ks:List En) (key:ByteArray) (i:Nat):Prop:=i≤ks.length∧(∀ t k,t < i→ks[t]?=some k→sLt k.k key=true)∧∀ t k,i≤t→ks[t]?=some k→sLt k.k key=false
def BsEn (ks:List En) (key:ByteArray) (w:World) (e:Ending) (w':World):Prop:=∃ (i:Nat) (b:Bool),e=.returned (.tuple #[.int .i64 i,.bool b])∧AtEn ks key i∧(b=true↔∃ k,ks[i]?=some k∧k.k=key)∧Below w.heap.size w w'
theorem rs_En {ks:List En} (h:Rise (ks.map En.k)) {t u:Nat} {a b:En} (h1:ks[t]?=some a) (h2:ks[u]?=some b) (hlt:t < u):sLt a.k b.k=true:=by
 have hu:=(List.getElem?_eq_some_iff.1 h2).1
 have:=List.pairwise_iff_getElem.1 h t u (by simp; omega) (by simpa using hu) hlt
 simp only [List.getElem_map] at this
 rw [List.getElem?_eq_getElem (by omega)] at h1 h2
 cases h1
 cases h2
 exact this
theorem bs_En (w:World) (a:Option Addr) (c:Nat) (ks:List En) (key:ByteArray) (h:RdEn w a ks) (hr:Rise (ks.map En.k)) (hl:ks.length≤1000000) :
  Calls Tryz.prog 57 #[.slice a ks.length c,.string key,.func (.func 58) #[] #[]] w (BsEn ks key w):=by
 obtain ⟨n,hn⟩:∃ n,n=ks.length:=⟨_,rfl⟩
 have HN:=hide hn
 have HR:=hide h
 have HRI:=hide hr
 have HEN:=hide en_En
 rw [← hn] at hl ⊢
 clear h hn hr
 go_enter Tryz.func57,Tryz.ntmps57
 go_wp2
 go_loopw [9,10] (fun u v wr=>∃ i j:Nat,i≤j∧j≤n∧u=.int .i64 i∧v=.int .i64 j∧Hid (∀ t k,t < i→ks[t]?=some k→sLt k.k key=true)∧Hid (∀ t k,j≤t→ks[t]?=some k→sLt k.k key=false)∧Hid (Below w.heap.size w wr)) (fun u v _=>(intOf v).toNat - (intOf u).toNat)
 case atStart=>exact ⟨0,n,Nat.zero_le _,Nat.le_refl _,rfl,rfl,hide (fun t k ht=>absurd ht (by omega)),hide (fun t k ht hk=>absurd (List.getElem?_eq_some_iff.1 hk).1 (by have:=HN.out; omega)),hide (Below.refl _ _)⟩
 case round =>
  obtain ⟨i,j,hij,hjn,rfl,rfl,H1,H2,HB⟩:=hrel
  by_cases hlt:i < j
  ·have hqi:i≤(i+j) / 2:=by omega
   have hqj:(i+j) / 2 < j:=by omega
   obtain ⟨⟨kk,ku⟩,hk⟩:∃ k,ks[(i+j) / 2]?=some k:=⟨ks[(i+j) / 2]'(by have:=HN.out; omega),List.getElem?_eq_getElem _⟩
   obtain ⟨g,of,rfl,c1,c2⟩:=(HR.out.below HB.out) ((i+j) / 2) _ hk
   simp only at c1 c2
   have CC:=cl_En kk ku key wr
   have HK:=hide hk
   obtain ⟨cc,hcc⟩:∃ cc,cc=cmpS kk key:=⟨_,rfl⟩
   rw [← hcc] at CC
   have HCC:=hide CC
   have HCM:=hide hcc
   clear CC hk hcc
   by_cases hc:cc < 0
   ·have hcd:decide (cc < 0)=true:=decide_eq_true hc
    have HN1:Hid (∀ t k,t < (i+j) / 2+1→ks[t]?=some k→sLt k.k key=true):=hide (fun t k ht hk=>by
     have hx:=cmpS_lt.1 (by rw [← HCM.out]; exact hc)
     by_cases z:t=(i+j) / 2
     ·subst z
      rw [HK.out] at hk
      cases hk
      exact hx
     ·exact sLt_trans (rs_En HRI.out hk HK.out (by omega)) hx)
    clear hc H1 HCM
    go_wp2_with fail
    refine HCC.out.mono ?_
    rintro e w2 ⟨rfl,b2⟩
    have HB2:=hide (HB.out.trans (b2.mono HB.out.size))
    clear b2 HB HCC
    go_wp2
    go_roundw
    case rel=>exact ⟨(i+j) / 2+1,j,by omega,by omega,by simp,rfl,HN1,H2,HB2⟩
    case measure=>simp [intOf]; omega
   ·have hcd:decide (cc < 0)=false:=decide_eq_false hc
    have HN2:Hid (∀ t k,(i+j) / 2≤t→ks[t]?=some k→sLt k.k key=false):=hide (fun t k ht hk=>by
     have hx:sLt kk key=false:=by
      cases q:sLt kk key with
      | false=>rfl
      | true=>exact absurd (by rw [HCM.out]; exact cmpS_lt.2 q) hc
     by_cases z:t=(i+j) / 2
     ·subst z
      rw [HK.out] at hk
      cases hk
      exact hx
     ·cases q:sLt k.k key with
      | false=>rfl
      | true =>
       have:=sLt_trans (rs_En HRI.out HK.out hk (by omega)) q
       simp only at this
       rw [hx] at this
       cases this)
    clear hc H2 HCM
    go_wp2_with fail
    refine HCC.out.mono ?_
    rintro e w2 ⟨rfl,b2⟩
    have HB2:=hide (HB.out.trans (b2.mono HB.out.size))
    clear b2 HB HCC
    go_wp2
    go_roundw
    case rel=>exact ⟨i,(i+j) / 2,by omega,by omega,rfl,by simp,H1,HN2,HB2⟩
    case measure=>simp [intOf]; omega
  ·obtain rfl:i=j:=by omega
   have HAT:Hid (AtEn ks key i):=hide ⟨by have:=HN.out; omega,H1.out,H2.out⟩
   clear H1 H2
   by_cases hin:i < n
   ·obtain ⟨⟨kk,ku⟩,hk⟩:∃ k,ks[i]?=some k:=⟨ks[i]'(by have:=HN.out; omega),List.getElem?_eq_getElem _⟩
    obtain ⟨g,of,rfl,c1,c2⟩:=(HR.out.below HB.out) i _ hk
    simp only at c1 c2
    have CC:=cl_En kk ku key wr
    obtain ⟨cc,hcc⟩:∃ cc,cc=cmpS kk key:=⟨_,rfl⟩
    rw [← hcc] at CC
    have HF:Hid (∀ w2,Below w.heap.size w w2→BsEn ks key w (.returned (.tuple #[.int .i64 i,.bool (cc == 0)])) w2):=hide (fun w2 hb=>by
     refine ⟨i,cc == 0,rfl,HAT.out,?_,hb⟩
     rw [beq_iff_eq,hcc,cmpS_eq]
     constructor
     ·intro q; exact ⟨_,hk,q⟩
     ·rintro ⟨k,h1,h2⟩
      rw [hk] at h1
      cases h1
      exact h2)
    have HCC:=hide CC
    clear CC hk hcc HAT
    go_wp2_with fail
    refine HCC.out.mono ?_
    rintro e w2 ⟨rfl,b2⟩
    have HFF:=hide (HF.out w2 (HB.out.trans (b2.mono HB.out.size)))
    clear b2 HB HCC HF
    go_wp2
    refine bodyPost_ret (by simp [results,Tryz.results57,go_sem]; rfl) rfl ?_
    exact HFF.out
   ·have HF:Hid (BsEn ks key w (.returned (.tuple #[.int .i64 i,.bool false])) wr):=hide ⟨i,false,rfl,HAT.out,⟨fun q=>(by cases q),fun ⟨k,h1,_⟩=>absurd (List.getElem?_eq_some_iff.1 h1).1 (by have:=HN.out; omega)⟩,HB.out⟩
    clear HAT
    go_wp2
    refine bodyPost_ret (by simp [results,Tryz.results57,go_sem]; rfl) rfl ?_
    exact HF.out
end Go.Proofs.YtfippaeoklnceaaGreat
namespace Go.Proofs.YtfippaeoklnceaaGreat
set_option maxRecDepth 100000
set_option maxHeartbeats 4000000
open Go.RowKit Apo
def Gets (es:List En) (key:ByteArray) (v:ByteArray) (b:Bool):Prop:=(b=true∧∃ e ∈ es,e.k=key∧e.v=v)∨(b=false∧v=⟨#[]⟩∧∀ e ∈ es,e.k≠key)
def Child (ks:List Ki) (key:ByteArray) (c:Nat):Prop:=(c=0∧∀ k ∈ ks,sLt k.k key=true)∨∃ (i:Nat) (k:Ki),ks[i]?=some k∧c=k.i∧sLt k.k key=false∧∀ t k',t < i→ks[t]?=some k'→sLt k'.k key=true
def ChP (ks:List Ki) (key:ByteArray) (w:World) (e:Ending) (w':World):Prop:=∃ c:Nat,e=.returned (.int .u64 c)∧Child ks key c∧Below w.heap.size w w'
def VaP (es:List En) (key:ByteArray) (w:World) (e:Ending) (w':World):Prop:=∃ (v:ByteArray) (b:Bool),e=.returned (.tuple #[.string v,.bool b])∧Gets es key v b∧Below w.heap.size w w'
theorem child_any (w:World) (a:Option Addr) (c:Nat) (ks:List Ki) (key:ByteArray) (h:RdKi w a ks) (hr:Rise (ks.map Ki.k)) (hl:ks.length≤1000000) :
  Calls Tryz.prog 33 #[.slice a ks.length c,.string key] w (ChP ks key w):=by
 have C:=bs_Ki w a c ks key h hr hl
 obtain ⟨n,hn⟩:∃ n,n=ks.length:=⟨_,rfl⟩
 have HN:=hide hn
 have HR:=hide h
 have HC:=hide C
 rw [← hn] at HC hl ⊢
 clear h hn hr C
 go_enter Tryz.func33,Tryz.ntmps33
 go_wp2_with fail
 refine HC.out.mono ?_
 rintro e w2 ⟨i,b,rfl,⟨a1,a2,a3⟩,_,b2⟩
 rw [← HN.out] at a1
 by_cases hi:i=n
 ·have hd:((i:Int) == (n:Int))=true:=by simp; omega
  have HF:Hid (ChP ks key w (.returned (.int .u64 ((0:Nat):Int))) w2):=hide ⟨0,rfl,.inl ⟨rfl,fun k hk=>by
   obtain ⟨t,ht,e⟩:=List.mem_iff_getElem.1 hk
   exact a2 t k (by have:=HN.out; omega) (by rw [List.getElem?_eq_getElem ht,e])⟩,b2⟩
  clear a1 a2 a3 b2 hi
  go_wp2
  go_ret
  exact HF.out
 ·have hd:((i:Int) == (n:Int))=false:=by simp; omega
  obtain ⟨⟨kk,ki⟩,hk⟩:∃ k,ks[i]?=some k:=⟨ks[i]'(by have:=HN.out; omega),List.getElem?_eq_getElem _⟩
  obtain ⟨g,of,rfl,c1,c2⟩:=(HR.out.below b2) i _ hk
  simp only at c1 c2
  have hin:i < n:=by omega
  have HF:Hid (ChP ks key w (.returned (.int .u64 (ki:Int))) w2):=hide ⟨ki,rfl,.inr ⟨i,_,hk,rfl,a3 i _ (Nat.le_refl _) hk,a2⟩,b2⟩
  clear a1 a2 a3 b2 hi hk
  go_wp2
  go_ret
  exact HF.out
theorem value_any (w:World) (a:Option Addr) (c:Nat) (es:List En) (key:ByteArray) (h:RdEn w a es) (hr:Rise (es.map En.k)) (hl:es.length≤1000000) :
  Calls Tryz.prog 32 #[.slice a es.length c,.string key] w (VaP es key w):=by
 have C:=bs_En w a c es key h hr hl
 obtain ⟨n,hn⟩:∃ n,n=es.length:=⟨_,rfl⟩
 have HN:=hide hn
 have HR:=hide h
 have HC:=hide C
 have HRI:=hide hr
 rw [← hn] at HC hl ⊢
 clear h hn hr C
 go_enter Tryz.func32,Tryz.ntmps32
 go_wp2_with fail
 refine HC.out.mono ?_
 rintro e w2 ⟨i,b,rfl,⟨a1,a2,a3⟩,hb,b2⟩
 rw [← HN.out] at a1
 cases b with
 | false =>
  have HF:Hid (VaP es key w (.returned (.tuple #[.string ⟨#[]⟩,.bool false])) w2):=hide ⟨_,false,rfl,.inr ⟨rfl,rfl,fun e he q=>by
   obtain ⟨t,ht,e2⟩:=List.mem_iff_getElem.1 he
   have het:es[t]?=some e:=by rw [List.getElem?_eq_getElem ht,e2]
   by_cases z:t < i
   ·have:=a2 t e z het
    rw [q,sLt_irr] at this
    cases this
   ·by_cases z2:t=i
    ·subst z2
     have:=hb.2 ⟨e,het,q⟩
     cases this
    ·have hti:i < es.length:=by omega
     have h1:=a3 i _ (Nat.le_refl _) (List.getElem?_eq_getElem hti)
     have h2:=rs_En HRI.out (List.getElem?_eq_getElem hti) het (by omega)
     rw [q,h1] at h2
     cases h2⟩,b2⟩
  clear a1 a2 a3 b2 hb
  go_wp2
  refine bodyPost_ret (by simp [results,Tryz.results32,go_sem]; rfl) rfl ?_
  exact HF.out
 | true =>
  obtain ⟨⟨kk,kv⟩,hk,hkk⟩:=hb.1 rfl
  obtain ⟨g,of,rfl,c1,c2⟩:=(HR.out.below b2) i _ hk
  simp only at c1 c2
  have hin:i < n:=by have:=(List.getElem?_eq_some_iff.1 hk).1; have:=HN.out; omega
  have HF:Hid (VaP es key w (.returned (.tuple #[.string kv,.bool true])) w2):=hide ⟨_,true,rfl,.inl ⟨rfl,_,List.mem_of_getElem? hk,hkk,rfl⟩,b2⟩
  clear a1 a2 a3 b2 hk hb hkk
  go_wp2
  refine bodyPost_ret (by simp [results,Tryz.results32,go_sem]; rfl) rfl ?_
  exact HF.out
theorem zero_unit:∀ W:World,(zeroValue 121).run Tryz.prog W=.ok (.agg #[]) W:=fun _=>by kernel_rfl
def AdP (w:World) (b:Nat) (M:Nat→Option Value) (i:Nat) (e:Ending) (w':World):Prop:=e=.returned (.bool (!(M i).isSome))∧Mp Tryz.prog 31 w' b (upd M i (some (.agg #[])))∧Onl (fun j=>j=b) w w'
theorem add_any {w:World} {b:Nat} {M:Nat→Option Value} (h:Mp Tryz.prog 31 w b M) (hM:∀ i v,M i=some v→v=.agg #[]) {L:List Nat} (hL:∀ i,M i≠none→i ∈ L) (hl:L.length < 1000000) (i:Nat) (hi:i < 18446744073709551616) :
  Calls Tryz.prog 30 #[.map (some b),.int .u64 i] w (AdP w b M i):=by
 have b1:Below w.heap.size w (w.alloc (.cells #[] 121)):=(Below.refl _ w).alloc (Nat.le_refl _) _
 have R1:=h.look2 hk64 Tryz.underlying68 zero_unit hi
 obtain ⟨w3,R2,m3,t3⟩:=(h.below b1).store hk64 Tryz.underlying68 hL (by unfold maxLen; omega) hi (.agg #[])
 have hv:(M i).getD (.agg #[])=.agg #[]:=by
  cases q:M i with
  | none=>rfl
  | some v=>exact hM i v q
 rw [hv] at R1
 have HF:Hid (AdP w b M i (.returned (.bool (!(M i).isSome))) w3):=hide ⟨rfl,m3,(Onl.ofBelow b1).trans (turned_onl t3)⟩
 obtain ⟨bb,hbb⟩:∃ bb,bb=(M i).isSome:=⟨_,rfl⟩
 rw [← hbb] at R1 HF
 clear h hL m3 t3 hv hbb b1 hM
 go_enter Tryz.func30,Tryz.ntmps30
 go_wp2
 go_ret
 exact HF.out
end Go.Proofs.YtfippaeoklnceaaGreat
