import Derived.Test.YtfippaeoklnceaaGreatQM37
import Derived.Test.YtfippaeoklnceaaGreatQM22
import Derived.Test.YtfippaeoklnceaaGreatQM01
namespace Go.Proofs.YtfippaeoklnceaaGreat
set_option maxRecDepth 100000
set_option maxHeartbeats 8000000
open Go.RowKit Apo
def ent (ls:List (Nat × List En)):List En:=ls.flatMap (fun p=>p.2)
theorem ent_flat (lss:List (List (Nat × List En))):ent lss.flatten=(lss.map ent).flatten:=by
 induction lss with
 | nil=>rfl
 | cons l lss ih =>
  unfold ent at ih ⊢
  simp [ih]
def RiseE (es:List En):Prop:=es.Pairwise (fun a b=>sLt a.k b.k=true)
theorem riseE_iff {es:List En}:RiseE es↔Rise (es.map En.k):=by unfold RiseE Rise; rw [List.pairwise_map]
theorem node_leaf {n:Nd} (h:nodeE n=0) (h0:n.lv=0):n.es≠[]∧n.ks=[]:=by
 have:=(nodeE_ok h).2.2.2.2.1
 rcases Bool.or_eq_true_iff.1 this with q | q
 ·unfold Nd.leaf at q
  simp at q
  exact ⟨List.ne_nil_of_length_pos (by omega),List.eq_nil_of_length_eq_zero (by rw [q.2]; rfl)⟩
 ·unfold Nd.inner at q
  simp at q
  omega
theorem node_inner {n:Nd} (h:nodeE n=0) (h0:0 < n.lv):n.ks≠[]∧n.es=[]:=by
 have:=(nodeE_ok h).2.2.2.2.1
 rcases Bool.or_eq_true_iff.1 this with q | q
 ·unfold Nd.leaf at q
  simp at q
  omega
 ·unfold Nd.inner at q
  simp at q
  exact ⟨List.ne_nil_of_length_pos (by omega),List.eq_nil_of_length_eq_zero (by rw [q.2]; rfl)⟩
theorem node_rise {n:Nd} (h:nodeE n=0):Rise n.keys:=rise_of (fun i hi=>by
 have:=(badAt_ok ((nodeE_ok h).2.2.2.2.2 (i+1) hi)).1 (by omega)
 rw [show i+1 - 1=i by omega] at this
 exact this)
theorem IsT.last {T:List (List Int)}:∀ {l id:Nat} {n:Nd} {ls:List (Nat × List En)},IsT T l id n ls→∃ e,(ent ls).getLast?=some e∧e.k=lastK n
 | 0,id,n,ls,h=>by
  obtain ⟨h1,h2,h3⟩:=h
  obtain ⟨e1,e2⟩:=node_leaf h1.ok h2
  subst h3
  obtain ⟨e,q1,q2⟩:=lastK_lf e1
  refine ⟨e,by simpa [ent] using q1,?_⟩
  rw [← q2]
  unfold lastK Nd.keys
  rw [e2]
 | l+1,id,n,ls,h=>by
  obtain ⟨h1,h2,h3,ns,lss,h4,h5,h6,h7⟩:=h
  obtain ⟨e1,e2⟩:=node_inner h1.ok (by omega)
  obtain ⟨k,q1,q2⟩:=lastK_kd (lv:=n.lv) e1
  have hlen:0 < n.ks.length:=List.length_pos_iff.2 e1
  have hk:n.ks[n.ks.length - 1]?=some k:=by rw [← List.getLast?_eq_getElem?]; exact q1
  obtain ⟨n',hn'⟩:∃ x,ns[n.ks.length - 1]?=some x:=⟨ns[n.ks.length - 1]'(by omega),List.getElem?_eq_getElem _⟩
  obtain ⟨x,hx⟩:∃ x,lss[n.ks.length - 1]?=some x:=⟨lss[n.ks.length - 1]'(by omega),List.getElem?_eq_getElem _⟩
  obtain ⟨c1,c2⟩:=h6 _ k n' x hk hn' hx
  obtain ⟨e,d1,d2⟩:=IsT.last c2
  refine ⟨e,?_,?_⟩
  ·have hxl:lss.getLast?=some x:=by rw [List.getLast?_eq_getElem?,h5]; exact hx
   obtain ⟨ys,hys⟩:=List.getLast?_eq_some_iff.1 hxl
   rw [h7,ent_flat,hys]
   simp only [List.map_append,List.map_cons,List.map_nil,List.flatten_append,List.flatten_cons,List.flatten_nil,List.append_nil]
   rw [List.getLast?_append,d1]
   rfl
  ·rw [d2,← c1,← q2]
   unfold lastK Nd.keys
   rw [e2]
theorem le_last {es:List En} (h:RiseE es) {e l:En} (he:e ∈ es) (hl:es.getLast?=some l):e=l∨sLt e.k l.k=true:=by
 obtain ⟨ys,hys⟩:=List.getLast?_eq_some_iff.1 hl
 subst hys
 rcases List.mem_append.1 he with q | q
 ·exact .inr ((List.pairwise_append.1 h).2.2 e q l (by simp))
 ·simp at q; exact .inl q
theorem IsT.step {T:List (List Int)} {l id c:Nat} {n:Nd} {ls:List (Nat × List En)} {key:ByteArray} (h:IsT T (l+1) id n ls) (hr:RiseE (ent ls)) (hc:Child n.ks key c) :
  (c=0∧∀ e ∈ ent ls,e.k≠key)∨∃ n' ls',IsT T l c n' ls'∧RiseE (ent ls')∧∀ v b,Gets (ent ls') key v b→Gets (ent ls) key v b:=by
 obtain ⟨h1,h2,h3,ns,lss,h4,h5,h6,h7⟩:=h
 have hsub:∀ (t:Nat) (k:Ki) (x:List (Nat × List En)),n.ks[t]?=some k→lss[t]?=some x→∃ n',k.k=lastK n'∧IsT T l k.i n' x:=fun t k x hk hx=>by
  have ht:=(List.getElem?_eq_some_iff.1 hk).1
  obtain ⟨n',hn'⟩:∃ y,ns[t]?=some y:=⟨ns[t]'(by omega),List.getElem?_eq_getElem _⟩
  exact ⟨n',h6 t k n' x hk hn' hx⟩
 rw [h7,ent_flat] at hr ⊢
 obtain ⟨p1,p2⟩:=List.pairwise_flatten.1 hr
 have hrx:∀ (t:Nat) (x:List (Nat × List En)),lss[t]?=some x→RiseE (ent x):=fun t x hx=>p1 _ (List.mem_map.2 ⟨x,List.mem_of_getElem? hx,rfl⟩)
 have hlow:∀ (t:Nat) (k:Ki) (x:List (Nat × List En)),n.ks[t]?=some k→lss[t]?=some x→sLt k.k key=true→∀ e ∈ ent x,e.k≠key:=fun t k x hk hx hlt e he q=>by
  obtain ⟨n',c1,c2⟩:=hsub t k x hk hx
  obtain ⟨la,d1,d2⟩:=c2.last
  have:sLt e.k key=true:=by
   rcases le_last (hrx t x hx) he d1 with z | z
   ·rw [z,d2,← c1]; exact hlt
   ·exact sLt_trans z (by rw [d2,← c1]; exact hlt)
  rw [q,sLt_irr] at this
  cases this
 have hmem:∀ e ∈ (lss.map ent).flatten,∃ t x,lss[t]?=some x∧e ∈ ent x:=fun e he=>by
  obtain ⟨y,hy,hey⟩:=List.mem_flatten.1 he
  obtain ⟨x,hx,rfl⟩:=List.mem_map.1 hy
  obtain ⟨t,ht,q⟩:=List.mem_iff_getElem.1 hx
  exact ⟨t,x,by rw [List.getElem?_eq_getElem ht,q],hey⟩
 have hkid:∀ (t:Nat) (x:List (Nat × List En)),lss[t]?=some x→∃ k,n.ks[t]?=some k:=fun t x hx=>⟨n.ks[t]'(by have:=(List.getElem?_eq_some_iff.1 hx).1; omega),List.getElem?_eq_getElem _⟩
 rcases hc with ⟨rfl,hall⟩ | ⟨i,k,hk,rfl,hge,hlt⟩
 ·refine .inl ⟨rfl,fun e he=>?_⟩
  obtain ⟨t,x,hx,hex⟩:=hmem e he
  obtain ⟨k,hk⟩:=hkid t x hx
  exact hlow t k x hk hx (hall k (List.mem_of_getElem? hk)) e hex
 ·obtain ⟨x,hx⟩:∃ x,lss[i]?=some x:=⟨lss[i]'(by have:=(List.getElem?_eq_some_iff.1 hk).1; omega),List.getElem?_eq_getElem _⟩
  obtain ⟨n',c1,c2⟩:=hsub i k x hk hx
  refine .inr ⟨n',x,c2,hrx i x hx,fun v b hg=>?_⟩
  have hin:∀ e ∈ ent x,e ∈ (lss.map ent).flatten:=fun e he=>List.mem_flatten.2 ⟨_,List.mem_map.2 ⟨x,List.mem_of_getElem? hx,rfl⟩,he⟩
  rcases hg with ⟨q1,e,q2,q3⟩ | ⟨q1,q2,q3⟩
  ·exact .inl ⟨q1,e,hin e q2,q3⟩
  ·refine .inr ⟨q1,q2,fun e he=>?_⟩
   obtain ⟨t,y,hy,hey⟩:=hmem e he
   obtain ⟨k',hk'⟩:=hkid t y hy
   rcases Nat.lt_trichotomy t i with z | z | z
   ·exact hlow t k' y hk' hy (hlt t k' z hk') e hey
   ·subst z
    rw [hx] at hy
    cases hy
    exact q3 e hey
   ·obtain ⟨la,d1,d2⟩:=c2.last
    have hyl:=(List.getElem?_eq_some_iff.1 hy).1
    have hR:=List.pairwise_iff_getElem.1 p2 i t (by simp; omega) (by simpa using hyl) z
    simp only [List.getElem_map] at hR
    have e1:lss[i]'(by omega)=x:=by have:=hx; rw [List.getElem?_eq_getElem (by omega)] at this; cases this; rfl
    have e2:lss[t]'hyl=y:=by have:=hy; rw [List.getElem?_eq_getElem hyl] at this; cases this; rfl
    have hlt2:=hR la (by rw [e1]; exact List.mem_of_getLast? d1) e (by rw [e2]; exact hey)
    intro q
    rw [d2,← c1,q,hge] at hlt2
    cases hlt2
end Go.Proofs.YtfippaeoklnceaaGreat
namespace Go.Proofs.YtfippaeoklnceaaGreat
set_option maxRecDepth 100000
set_option maxHeartbeats 8000000
open Go.RowKit Apo
def GtP (es:List En) (key:ByteArray) (W:World) (e:Ending) (W':World):Prop:=∃ (v:ByteArray) (b:Bool),e=.returned (.tuple #[.string v,.bool b,.int .i64 0])∧Gets es key v b∧Below W.heap.size W W'
noncomputable def hgt (T:List (List Int)) (id:Nat):Nat:=if id=0 then 0 else (loadT T id).1.lv.toNat+1
def GtS (T:List (List Int)) (key:ByteArray) (es:List En) (id:Nat):Prop:=(id=0∧∀ e ∈ es,e.k≠key)∨∃ l n ls,IsT T l id n ls∧RiseE (ent ls)∧∀ v b,Gets (ent ls) key v b→Gets es key v b
theorem hgt_is {T:List (List Int)} {l id:Nat} {n:Nd} {ls:List (Nat × List En)} (h:IsT T l id n ls):hgt T id=l+1∧l≤100:=by
 have hn:=h.nod
 refine ⟨?_,?_⟩
 ·unfold hgt
  rw [if_neg (by have:=hn.1.pos; omega),hn.1.ld]
  simp only
  rw [hn.2]
  simp
 ·cases l with
  | zero=>omega
  | succ l=>have:=h.2.2.1; omega
theorem GtS.hgt {T:List (List Int)} {key:ByteArray} {es:List En} {id:Nat} (h:GtS T key es id):hgt T id≤101:=by
 rcases h with ⟨rfl,_⟩ | ⟨l,n,ls,h,_⟩
 ·simp [Go.Proofs.YtfippaeoklnceaaGreat.hgt]
 ·have:=hgt_is h
  omega
theorem tgettree_any {w W:World} {s m:Nat} {O:Nat→Prop} {T:List (List Int)} (h:TSw w W s O T m) (hT:T.length≤16000) (hx:TxOk T) (root:Nat) (ls:List (Nat × List En)) (ht:RootT T root ls) (hr:RiseE (ent ls)) (key:ByteArray) :
  Calls Tryz.prog 14 #[.pointer (some ⟨s,0,none⟩),.int .u64 root,.string key] W (GtP (ent ls) key W):=by
 have S0:GtS T key (ent ls) root:=by
  rcases ht with ⟨rfl,rfl⟩ | ⟨l,n,ht⟩
  ·exact .inl ⟨rfl,fun e he=>by simp [ent] at he⟩
  ·exact .inr ⟨l,n,ls,ht,hr,fun v b q=>q⟩
 have b0:Below W.heap.size W (W.alloc (.map #[] 0)):=(Below.refl _ W).alloc (Nat.le_refl _) _
 have m0:=Mp.made W Tryz.prog 31
 have HH:=hide h
 have HS0:=hide S0
 obtain ⟨es,hes⟩:∃ es,es=ent ls:=⟨_,rfl⟩
 rw [← hes] at HS0 ⊢
 clear h ht hr S0 hes
 have hmm:=@run_makeMap Tryz.prog
 go_enter Tryz.func14,Tryz.ntmps14
 go_wp2
 obtain ⟨W0,hW0⟩:∃ W0,W0=W.alloc (.map #[] 0):=⟨_,rfl⟩
 rw [← hW0] at m0 b0 ⊢
 have HM0:=hide m0
 have HB0:=hide b0
 clear hW0 m0 b0
 go_loopw [11] (fun u wr=>∃ (id:Nat) (M:Nat→Option Value) (L:List Nat),u=.int .u64 id∧Hid (GtS T key es id)∧Hid (Mp Tryz.prog 31 wr W.heap.size M)∧Hid ((∀ i v,M i=some v→v=.agg #[])∧(∀ i,M i≠none→i ∈ L)∧L.length+hgt T id≤200∧∀ i,M i≠none→hgt T id < hgt T i)∧Hid (Below W.heap.size W wr)) (fun u _=>hgt T (intOf u).toNat)
 case atStart =>
  refine ⟨root,fun _=>none,[],rfl,HS0,HM0,hide ⟨fun i v q=>(by cases q),fun i q=>absurd rfl q,?_,fun i q=>absurd rfl q⟩,HB0⟩
  have:=HS0.out.hgt
  simp only [List.length_nil]
  omega
 case round =>
  obtain ⟨id,M,L,rfl,HS,HM,HL,HB⟩:=hrel
  rcases HS.out with ⟨hz,hno⟩ | ⟨l,n,ls',ht,hr,hback⟩
  ·subst hz
   have HF:Hid (GtP es key W (.returned (.tuple #[.string ⟨#[]⟩,.bool false,.int .i64 0])) wr):=hide ⟨_,false,rfl,.inr ⟨rfl,rfl,hno⟩,HB.out⟩
   clear hno HS HM HL
   go_wp2
   refine bodyPost_ret (by simp [results,Tryz.results14,go_sem]; rfl) rfl ?_
   exact HF.out
  ·have hnod:=ht.nod
   have hhg:=hgt_is ht
   have hne:((id:Int) != 0)=true:=by have:=hnod.1.pos; simp; omega
   have hMi:(M id).isSome=false:=by
    cases q:M id with
    | none=>rfl
    | some v=>exact absurd (HL.out.2.2.2 id (by rw [q]; simp)) (Nat.lt_irrefl _)
   have CA:=add_any HM.out HL.out.1 HL.out.2.1 (by have:=HL.out.2.2.1; omega) id hnod.1.lt
   unfold AdP at CA
   rw [hMi] at CA
   simp only [Bool.not_false] at CA
   have HCA:=hide CA
   have HT:=hide ht
   have HRR:=hide hr
   have HBK:=hide hback
   have HNOD:=hide hnod
   have HHG:=hide hhg
   clear CA hMi ht hr hback HS hnod hhg
   go_wp2_with fail
   refine HCA.out.mono ?_
   rintro e w2 ⟨rfl,m2,o2⟩
   have b2:Below W.heap.size W w2:=Below.onl HB.out o2 (fun i q=>by omega) (Nat.le_refl _)
   have CL:=tload_any (HH.out.below b2) hT hx id HNOD.out.1.lt
   rw [HNOD.out.1.ld] at CL
   simp only [ldV] at CL
   have HM2:=hide m2
   have HB2:=hide b2
   have HCL:=hide CL
   clear m2 o2 b2 CL HCA HM
   go_wp2_with fail
   refine HCL.out.mono ?_
   rintro e w3 ⟨x',hx'n,ok',nw',rfl,b3⟩
   have s3:=b3.size
   obtain ⟨w4,hw4⟩:∃ w4,w4=w3.alloc (.cells x'.cells.toArray 72):=⟨_,rfl⟩
   have b4:Below w3.heap.size w3 w4:=by rw [hw4]; exact (Below.refl _ w3).alloc (Nat.le_refl _) _
   have kx4:Ob w4 w3.heap.size 72 x'.cells:=by rw [hw4]; exact Ob.new w3 x'.cells 72
   have b24:Below w2.heap.size w2 w4:=b3.trans (b4.mono (by omega))
   have bW4:=HB2.out.trans (b24.mono HB2.out.size)
   have m4:=HM2.out.below b24
   have x0:=kx4.cell 0
   have x1:=kx4.cell 1
   have x2:=kx4.cell 2
   have ok4:=ok'.below b4
   have hkeys:=node_rise (n:=x'.n) (by rw [hx'n]; exact HNOD.out.1.ok)
   have hlv:x'.n.lv=(l:Int):=by rw [hx'n]; exact HNOD.out.2
   have hes:x'.n.es.length≤1000000:=by rw [hx'n]; exact HNOD.out.1.es
   have hks:x'.n.ks.length≤1000000:=by rw [hx'n]; exact HNOD.out.1.ks
   have HXN:=hide hx'n
   obtain ⟨⟨lv',es',ks'⟩,ea',ec',ka',kc'⟩:=x'
   simp only [NdA.cells,List.getElem?_cons_zero,List.getElem?_cons_succ] at x0 x1 x2 hw4 hlv hes hks hkeys ⊢
   subst hlv
   have HXN:Hid ((⟨(l:Int),es',ks'⟩:Nd)=n):=hide HXN.out
   have re4:=ok4.es
   have rk4:=ok4.ks
   simp only at re4 rk4
   obtain ⟨ne',hne'⟩:∃ ne',ne'=es'.length:=⟨_,rfl⟩
   obtain ⟨nk',hnk'⟩:∃ nk',nk'=ks'.length:=⟨_,rfl⟩
   rw [← hne'] at x1 hw4 ⊢
   rw [← hnk'] at x2 hw4 ⊢
   have hw4':w4=w3.alloc (.cells #[.int .i64 (l:Int),.slice ea' ne' ec',.slice ka' nk' kc'] 72):=hw4
   clear hw4
   have HM4:=hide m4
   have HBW4:=hide bW4
   cases l with
   | zero =>
    have hks0:ks'=[]:=(node_leaf (n:=⟨((0:Nat):Int),es',ks'⟩) (by rw [HXN.out]; exact HNOD.out.1.ok) rfl).2
    have hre:Rise (es'.map En.k):=by
     have:(⟨((0:Nat):Int),es',ks'⟩:Nd).keys=es'.map En.k:=by rw [hks0]; simp [Nd.keys]
     rw [this] at hkeys
     exact hkeys
    have CV:=value_any w4 ea' ec' es' key re4 hre hes
    rw [← hne'] at CV
    have HENT:Hid (ent ls'=es'):=hide (by
     have h3:=HT.out.2.2
     rw [h3,← HXN.out]
     simp [ent])
    have HCV:=hide CV
    clear CV kx4 b3 b4 b24 bW4 m4 ok' ok4 nw' hx'n re4 rk4 hne' hnk' hes hks hkeys hre hks0 HXN
    rw [hw4'] at x0 x1 x2
    obtain ⟨LV,hLV⟩:∃ LV:Int,LV=((0:Nat):Int):=⟨_,rfl⟩
    have hlz:(LV == 0)=true:=by rw [hLV]; rfl
    rw [← hLV] at x0 hw4' ⊢
    rw [← hLV] at x1 x2
    clear hLV
    go_wp2_with fail
    rw [← hw4']
    clear hw4'
    refine HCV.out.mono ?_
    rintro e w5 ⟨v,bb,rfl,hg,b5⟩
    have HF:Hid (GtP es key W (.returned (.tuple #[.string v,.bool bb,.int .i64 0])) w5):=hide ⟨v,bb,rfl,HBK.out v bb (by rw [HENT.out]; exact hg),HBW4.out.trans (b5.mono HBW4.out.size)⟩
    clear hg b5 x0 x1 x2
    go_wp2
    refine bodyPost_ret (by simp [results,Tryz.results14,go_sem]; rfl) rfl ?_
    exact HF.out
   | succ l =>
    have hes0:es'=[]:=(node_inner (n:=⟨((l+1:Nat):Int),es',ks'⟩) (by rw [HXN.out]; exact HNOD.out.1.ok) (by simp only; omega)).2
    have hrk:Rise (ks'.map Ki.k):=by
     have:(⟨((l+1:Nat):Int),es',ks'⟩:Nd).keys=ks'.map Ki.k:=by rw [hes0]; simp [Nd.keys]
     rw [this] at hkeys
     exact hkeys
    have CV:=child_any w4 ka' kc' ks' key rk4 hrk hks
    rw [← hnk'] at CV
    have hlz:(((l+1:Nat):Int) == 0)=false:=by simp; omega
    have hnks:n.ks=ks':=by rw [← HXN.out]
    have HCV:=hide CV
    have HKS:=hide hnks
    clear CV kx4 b3 b4 b24 bW4 m4 ok' ok4 nw' hx'n re4 rk4 hne' hnk' hes hks hkeys hrk hes0 HXN hnks
    rw [hw4'] at x0 x1 x2
    obtain ⟨LV,hLV⟩:∃ LV:Int,LV=((l+1:Nat):Int):=⟨_,rfl⟩
    rw [← hLV] at x0 hw4' hlz ⊢
    rw [← hLV] at x1 x2
    clear hLV
    go_wp2_with fail
    rw [← hw4']
    clear hw4'
    refine HCV.out.mono ?_
    rintro e w5 ⟨c,rfl,hc,b5⟩
    rw [← HKS.out] at hc
    have HF:Hid (GtS T key es c∧hgt T c < hgt T id):=by
     have h1:=HHG.out.1
     rcases HT.out.step HRR.out hc with ⟨hc0,hno⟩ | ⟨n2,ls2,t2,r2,g2⟩
     ·refine hide ⟨.inl ⟨hc0,fun e he q=>?_⟩,?_⟩
      ·have:=HBK.out ⟨#[]⟩ false (.inr ⟨rfl,rfl,hno⟩)
       rcases this with ⟨z,_⟩ | ⟨_,_,z⟩
       ·cases z
       ·exact z e he q
      ·rw [hc0,h1]; simp [hgt]
     ·refine hide ⟨.inr ⟨l,n2,ls2,t2,r2,fun v b q=>HBK.out v b (g2 v b q)⟩,?_⟩
      have:=(hgt_is t2).1
      omega
    have HL5:Hid ((∀ i v,upd M id (some (.agg #[])) i=some v→v=.agg #[])∧(∀ i,upd M id (some (.agg #[])) i≠none→i ∈ id :: L)∧(id :: L).length+hgt T c≤200∧∀ i,upd M id (some (.agg #[])) i≠none→hgt T c < hgt T i):=by
     obtain ⟨a1,a2,a3,a4⟩:=HL.out
     have hlt:=HF.out.2
     refine hide ⟨fun i v q=>?_,fun i q=>?_,?_,fun i q=>?_⟩
     ·by_cases z:i=id
      ·subst z; rw [upd_same] at q; cases q; rfl
      ·rw [upd_other _ _ z] at q; exact a1 i v q
     ·by_cases z:i=id
      ·subst z; simp
      ·rw [upd_other _ _ z] at q; exact List.mem_cons_of_mem _ (a2 i q)
     ·simp only [List.length_cons]; omega
     ·by_cases z:i=id
      ·subst z; exact hlt
      ·rw [upd_other _ _ z] at q; have:=a4 i q; omega
    have HM5:=hide (HM4.out.below b5)
    have HB5:=hide (HBW4.out.trans (b5.mono HBW4.out.size))
    clear hc b5 x0 x1 x2 HL HB
    go_wp2
    go_roundw
    case rel=>exact ⟨c,_,_,rfl,hide HF.out.1,HM5,HL5,HB5⟩
    case measure=>simpa [intOf] using HF.out.2
end Go.Proofs.YtfippaeoklnceaaGreat
namespace Go.Proofs.YtfippaeoklnceaaGreat
set_option maxRecDepth 100000
set_option maxHeartbeats 8000000
open Go.RowKit Apo
theorem cut_map {α β:Type} (f:α→β) (p:β→Bool) (l:List α):∀ k,cutK p (l.map f) k=((cutK (fun x=>p (f x)) l k).1.map (List.map f),(cutK (fun x=>p (f x)) l k).2.map f)
 | 0=>rfl
 | k+1=>by
  cases h:l[k]? with
  | none =>
   have h2:(l.map f)[k]?=none:=by rw [List.getElem?_map,h]; rfl
   unfold cutK
   rw [h,h2]
   exact cut_map f p l k
  | some x =>
   have h2:(l.map f)[k]?=some (f x):=by rw [List.getElem?_map,h]; rfl
   rw [cutK_step h,cutK_step h2,cut_map f p l k]
   by_cases q:p (f x)=true
   ·rw [if_pos q,if_pos q]; simp
   ·rw [if_neg q,if_neg q]; simp
theorem GoodN.nod {T:List (List Int)} {n:Nd} {id:Nat} (g:GoodN n) (h1:1≤id) (h2:T[id - 1]?=some (ndB n)) (hT:T.length≤16000) (hz:∀ k ∈ n.ks,k.i < 18446744073709551616):TNod T id n:=by
 have hs:=g.small
 have hl:=(List.getElem?_eq_some_iff.1 h2).1
 have hlen:=g.len
 obtain ⟨g1,g2,_⟩:=nodeE_ok g.ok
 have f1:=flat_ge (f:=enB) (c:=3) (l:=n.es) (fun e he=>enB_ge (g1 e he).1.1)
 have f2:=flat_ge (f:=kiB) (c:=3) (l:=n.ks) (fun e he=>kiB_ge (g2 e he).1.1)
 have hcnt:n.es.length+n.ks.length≤16384:=by
  unfold ndB at hlen
  simp only [List.length_append] at hlen
  omega
 refine ⟨h1,by omega,?_,hs.1,hs.2,g.ok⟩
 have hg:getT T id=(ndB n,0):=by unfold getT; rw [if_neg (by omega),h2]
 unfold loadT
 rw [hg,if_neg (by simp)]
 exact nodeOf_ndB g.ok hz (by omega) hcnt
theorem Can.trees {T:List (List Int)} {es:List En} (hok:MapOk es) (hel:es.length≤600) (hbl:(es.flatMap enB).length≤40000) (hT:T.length≤16000):∀ {l:Nat} {ks:List Ki},l≤20→Can T es l ks→∃ L:List (Nd × List (Nat × List En)),L.length=ks.length∧(∀ (i:Nat) (k:Ki) (x:Nd × List (Nat × List En)),ks[i]?=some k→L[i]?=some x→k.k=lastK x.1∧IsT T l k.i x.1 x.2)∧(L.map (fun x=>ent x.2)).flatten=es
 | 0,ks,_,h=>by
  obtain ⟨g1,_⟩:=hok.leaves (by omega) hbl
  obtain ⟨rows,hrows⟩:∃ rows,rows=splitN (fun e:En=>endsN 0 e.k) es:=⟨_,rfl⟩
  have h':Kids T (lvns rows) ks:=by rw [hrows]; exact h
  rw [← hrows] at g1
  have hlen:ks.length=rows.length:=by have:=h'.1; simpa [lvns] using this
  refine ⟨(ks.zip rows).map (fun x=>(⟨0,x.2,[]⟩,[(x.1.i,x.2)])),by simp; omega,fun i k x hk hx=>?_,?_⟩
  ·rw [List.getElem?_map] at hx
   cases hz:(ks.zip rows)[i]? with
   | none=>rw [hz] at hx; cases hx
   | some y =>
    rw [hz] at hx
    simp only [Option.map_some,Option.some.injEq] at hx
    rw [List.getElem?_zip_eq_some] at hz
    obtain ⟨z1,z2⟩:=hz
    rw [hk] at z1
    have hy1:y.1=k:=by cases z1; rfl
    have hn:(lvns rows)[i]?=some ⟨0,y.2,[]⟩:=by simp [lvns,z2]
    obtain ⟨c1,c2,c3⟩:=h'.2 i _ k hn hk
    subst hx
    rw [hy1]
    have gn:=g1 _ (List.mem_of_getElem? hn)
    exact ⟨c1,gn.nod c3 c2 hT (fun k hk=>by simp at hk),rfl,rfl⟩
  ·have:((ks.zip rows).map (fun x=>((⟨0,x.2,[]⟩:Nd),[(x.1.i,x.2)]))).map (fun x=>ent x.2)=rows:=by
    rw [List.map_map]
    have h2:((fun x:Nd × List (Nat × List En)=>ent x.2) ∘ fun x:Ki × List En=>((⟨0,x.2,[]⟩:Nd),[(x.1.i,x.2)]))=Prod.snd:=by funext x; simp [ent]
    rw [h2,List.map_snd_zip (by omega)]
   rw [this,hrows]
   exact split_flat
 | l+1,ks,hl,⟨ks0,h1,h2,h3⟩=>by
  obtain ⟨L0,p1,p2,p3⟩:=Can.trees hok hel hbl hT (by omega) h1
  obtain ⟨g1,_⟩:=h1.up hok (by omega) (by omega) (show l < 20 by omega)
  obtain ⟨lv,hlv⟩:∃ lv:Int,lv=((l+1:Nat):Int):=⟨_,rfl⟩
  rw [← hlv] at h3 g1
  obtain ⟨R,hR⟩:∃ R,R=splitN (fun x:Ki × (Nd × List (Nat × List En))=>endsN lv x.1.k) (ks0.zip L0):=⟨_,rfl⟩
  have hfst:(ks0.zip L0).map Prod.fst=ks0:=List.map_fst_zip (by omega)
  have hrows:splitN (fun e:Ki=>endsN lv e.k) ks0=R.map (List.map Prod.fst):=by
   rw [hR,← split_map (f:=Prod.fst) (p:=fun e:Ki=>endsN lv e.k),hfst]
  have hRf:R.flatten=ks0.zip L0:=by rw [hR]; exact split_flat
  rw [hrows] at h3 g1
  have hlen:ks.length=R.length:=by have:=h3.1; simpa [abns] using this
  refine ⟨R.map (fun r=>(⟨lv,[],r.map Prod.fst⟩,(r.map (fun y=>y.2.2)).flatten)),by simp; omega,fun i k x hk hx=>?_,?_⟩
  ·rw [List.getElem?_map] at hx
   cases hz:R[i]? with
   | none=>rw [hz] at hx; cases hx
   | some r =>
    rw [hz] at hx
    simp only [Option.map_some,Option.some.injEq] at hx
    have hn:(abns lv (R.map (List.map Prod.fst)))[i]?=some ⟨lv,[],r.map Prod.fst⟩:=by simp [abns,hz]
    obtain ⟨c1,c2,c3⟩:=h3.2 i _ k hn hk
    have gn:=g1 _ (List.mem_of_getElem? hn)
    subst hx
    have hmem:∀ y ∈ r,y ∈ ks0.zip L0:=fun y hy=>by rw [← hRf]; exact List.mem_flatten.2 ⟨r,List.mem_of_getElem? hz,hy⟩
    have hpair:∀ y ∈ r,y.1.k=lastK y.2.1∧IsT T l y.1.i y.2.1 y.2.2:=fun y hy=>by
     obtain ⟨t,ht,q⟩:=List.mem_iff_getElem.1 (hmem y hy)
     have hq:(ks0.zip L0)[t]?=some y:=by rw [List.getElem?_eq_getElem ht,q]
     rw [List.getElem?_zip_eq_some] at hq
     exact p2 t y.1 y.2 hq.1 hq.2
    refine ⟨c1,gn.nod c3 c2 hT (fun k hk'=>?_),hlv,by omega,r.map (fun y=>y.2.1),r.map (fun y=>y.2.2),by simp,by simp,fun j k' n' x' hk' hn' hx'=>?_,rfl⟩
    ·simp only [List.mem_map] at hk'
     obtain ⟨y,hy,rfl⟩:=hk'
     exact (hpair y hy).2.nod.1.lt
    ·rw [List.getElem?_map] at hk' hn' hx'
     cases hy:r[j]? with
     | none=>rw [hy] at hk'; cases hk'
     | some y =>
      rw [hy] at hk' hn' hx'
      simp only [Option.map_some,Option.some.injEq] at hk' hn' hx'
      subst hk' hn' hx'
      exact hpair y (List.mem_of_getElem? hy)
  ·have hsnd:(ks0.zip L0).map Prod.snd=L0:=List.map_snd_zip (by omega)
   have h5:(R.map (fun r=>((⟨lv,[],r.map Prod.fst⟩:Nd),(r.map (fun y=>y.2.2)).flatten))).map (fun x=>ent x.2)=R.map (fun r=>(r.map (fun y=>ent y.2.2)).flatten):=by
    rw [List.map_map]
    refine List.map_congr_left (fun r _=>?_)
    simp only [Function.comp_apply]
    rw [ent_flat,List.map_map]
    rfl
   rw [h5,← p3,← hsnd,← hRf,List.map_map]
   have:∀ R:List (List (Ki × (Nd × List (Nat × List En)))),(R.map (fun r=>(r.map (fun y=>ent y.2.2)).flatten)).flatten=(R.flatten.map ((fun x=>ent x.2) ∘ Prod.snd)).flatten:=by
    intro R
    induction R with
    | nil=>rfl
    | cons r R ih =>
     simp only [List.map_cons,List.flatten_cons,List.map_append,List.flatten_append,ih]
     rfl
   exact this R
theorem IsT.leaves {T:List (List Int)}:∀ {l id:Nat} {n:Nd} {ls:List (Nat × List En)},IsT T l id n ls→∀ p ∈ ls,0 < p.2.length
 | 0,id,n,ls,h=>by
  obtain ⟨h1,h2,h3⟩:=h
  subst h3
  intro p hp
  simp only [List.mem_singleton] at hp
  subst hp
  exact List.length_pos_iff.2 (node_leaf h1.ok h2).1
 | l+1,id,n,ls,h=>by
  obtain ⟨h1,h2,h3,ns,lss,h4,h5,h6,h7⟩:=h
  subst h7
  intro p hp
  obtain ⟨x,hx,hpx⟩:=List.mem_flatten.1 hp
  obtain ⟨t,ht,q⟩:=List.mem_iff_getElem.1 hx
  exact IsT.leaves (h6 t (n.ks[t]'(by omega)) (ns[t]'(by omega)) x (List.getElem?_eq_getElem _) (List.getElem?_eq_getElem _) (by rw [List.getElem?_eq_getElem ht,q])).2 p hpx
theorem RootOf.treeB {T:List (List Int)} {es:List En} {id:Nat} (hok:MapOk es) (hel:es.length≤600) (hbl:(es.flatMap enB).length≤40000) (hT:T.length≤16000) (h:RootOf T es id):∃ ls,RootT T id ls∧ent ls=es∧(∀ p ∈ ls,0 < p.2.length)∧(id=0↔es=[]):=by
 obtain ⟨l,ks,h1,h2,h3,h4⟩:=h
 obtain ⟨L,p1,p2,p3⟩:=h1.trees hok hel hbl hT h2
 match ks,L,p1 with
 | [],[],_ =>
  have hes:es=[]:=by rw [← p3]; rfl
  exact ⟨[],.inl ⟨h4,rfl⟩,by rw [hes]; rfl,fun p hp=>by simp at hp,⟨fun _=>hes,fun _=>h4⟩⟩
 | [k],[x],_ =>
  obtain ⟨c1,c2⟩:=p2 0 k x rfl rfl
  have hid:id=k.i:=h4
  rw [← hid] at c2
  have hes:es≠[]:=fun q=>by
   obtain ⟨e,e1,_⟩:=c2.last
   rw [← p3] at q
   simp only [List.map_cons,List.map_nil,List.flatten_cons,List.flatten_nil,List.append_nil] at q
   rw [q] at e1
   cases e1
  refine ⟨x.2,.inr ⟨l,x.1,c2⟩,by rw [← p3]; simp,c2.leaves,⟨fun q=>?_,fun q=>absurd q hes⟩⟩
  have:=c2.nod.1.pos
  omega
 | _ :: _ :: _,_,_=>simp at h3
theorem RootOf.tree {T:List (List Int)} {es:List En} {id:Nat} (hok:MapOk es) (hel:es.length≤160) (hT:T.length≤16000) (h:RootOf T es id):∃ ls,RootT T id ls∧ent ls=es∧(∀ p ∈ ls,0 < p.2.length)∧(id=0↔es=[]):=h.treeB hok (by omega) (hok.bytes hel) hT
end Go.Proofs.YtfippaeoklnceaaGreat
namespace Apo
set_option maxRecDepth 100000
set_option maxHeartbeats 8000000
open Go Go.RowKit
def smallEn (e:En):Bool:=decide (e.k.size≤60) && decide (e.v.size≤250)
def lightB (l:List En):Bool:=l.all smallEn && decide (l.length≤60)
theorem all_take_false {α:Type} {p:α→Bool} {l:List α} {k:Nat} {x:α} (h:l[k]?=some x) (hx:p x=false):l.all p=false:=by
 rw [List.all_eq_false]
 exact ⟨x,List.mem_of_getElem? h,by rw [hx]; simp⟩
end Apo
namespace Go.Proofs.YtfippaeoklnceaaGreat
set_option maxRecDepth 100000
set_option maxHeartbeats 8000000
open Go.RowKit Apo
theorem light_any (w:World) (a:Option Addr) (c:Nat) (l:List En) (h:RdEn w a l) (hl:l.length≤9223372036854775807) (hz:∀ e ∈ l,e.k.size≤maxLen∧e.v.size≤maxLen) :
  Calls Tryz.prog 5 #[.slice a l.length c] w fun e w'=>e=.returned (.bool (lightB l))∧Below w.heap.size w w':=by
 obtain ⟨n,hn⟩:∃ n,n=l.length:=⟨_,rfl⟩
 have HN:=hide hn
 have HE:=hide h
 have HZ:=hide hz
 rw [← hn] at hl ⊢
 clear h hn hz
 go_enter Tryz.func5,Tryz.ntmps5
 go_wp2
 go_loopw [7] (fun i wr=>∃ k:Nat,k≤n∧i=.int .i64 k∧Hid ((l.take k).all smallEn=true)∧Hid (Below w.heap.size w wr)) (fun i _=>n - (intOf i).toNat)
 case atStart=>exact ⟨0,Nat.zero_le _,rfl,hide (by simp),hide (Below.refl _ _)⟩
 case round =>
  obtain ⟨k,hk,rfl,HS,HB⟩:=hrel
  by_cases hkn:k < n
  ·obtain ⟨e,hek⟩:∃ e,l[k]?=some e:=⟨l[k]'(by have:=HN.out; omega),List.getElem?_eq_getElem _⟩
   obtain ⟨g,o,rfl,q1,q2⟩:=HE.out k e hek
   have q1':=(HB.out.cell (p:=⟨g,o+k * 2,none⟩) (World.block_lt_of_cell? _ _ q1)).trans q1
   have q2':=(HB.out.cell (p:=⟨g,o+k * 2+1,none⟩) (World.block_lt_of_cell? _ _ q2)).trans q2
   have hsz:=HZ.out _ (List.mem_of_getElem? hek)
   obtain ⟨ek,ev⟩:=e
   simp only at q1' q2' hsz
   unfold maxLen at hsz
   have HEK:=hide hek
   have HBA:=hide (HB.out.alloc HB.out.size (.cells #[.string ek,.string ev] 40))
   clear q1 q2 hek
   by_cases h1:ek.size≤60
   ·have d1:decide ((60:Int) < (ek.size:Int))=false:=by simp; omega
    have d1n:decide (60 < ek.size)=false:=by simp; omega
    by_cases h2:ev.size≤250
    ·have d2:decide ((250:Int) < (ev.size:Int))=false:=by simp; omega
     have d2n:decide (250 < ev.size)=false:=by simp; omega
     have HS2:Hid ((l.take (k+1)).all smallEn=true):=by
      refine hide ?_
      rw [List.take_add_one,HEK.out,List.all_append,HS.out]
      simp [smallEn,h1,h2]
     go_wp2
     go_roundw
     case rel=>exact ⟨k+1,by omega,by simp,HS2,HBA⟩
     case measure=>simp [intOf]; omega
    ·have d2:decide ((250:Int) < (ev.size:Int))=true:=by simp; omega
     have d2n:decide (250 < ev.size)=true:=by simp; omega
     have HX:Hid (lightB l=false):=hide (by unfold lightB; rw [all_take_false HEK.out (by simp [smallEn,h2])]; rfl)
     go_wp2
     go_ret
     rw [HX.out]
     exact ⟨rfl,HBA.out⟩
   ·have d1:decide ((60:Int) < (ek.size:Int))=true:=by simp; omega
    have d1n:decide (60 < ek.size)=true:=by simp; omega
    have HX:Hid (lightB l=false):=hide (by unfold lightB; rw [all_take_false HEK.out (by simp [smallEn,h1])]; rfl)
    go_wp2
    go_ret
    rw [HX.out]
    exact ⟨rfl,HBA.out⟩
  ·obtain rfl:k=n:=by omega
   have HX:Hid (lightB l=decide (k≤60)):=by
    refine hide ?_
    have q:=HS.out
    rw [HN.out,List.take_length] at q
    unfold lightB
    rw [q,HN.out]
    simp
   have hdd:decide ((k:Int)≤60)=decide (k≤60):=by
    by_cases q:k≤60
    ·simp [q]; omega
    ·simp [q]; omega
   go_wp2
   go_ret
   rw [HX.out]
   exact ⟨by rw [← hdd]; rfl,HB.out⟩
end Go.Proofs.YtfippaeoklnceaaGreat
