import Derived.Test.YtnblmdmlollmaaaGreatQM32
namespace Go.Proofs.YtnblmdmlollmaaaGreat
set_option maxRecDepth 100000
set_option maxHeartbeats 8000000
open Go.RowKit Apo
theorem bad_none {lv:Int} {l:List ByteArray} (hr:Rise l) (he:∀ x ∈ l.dropLast,endsN lv x = false):∀ i,i < l.length → badAt lv l i = false:=by
 intro i hi
 refine badAt_of (fun h0 => ?_) (fun h1 => ?_)
 ·have:=hr.at (i:=i - 1) (by omega)
  rw [show i - 1 + 1 = i by omega] at this
  exact this
 ·refine he _ ?_
  rw [List.getD_eq_getElem?_getD,List.getElem?_eq_getElem hi]
  simp only [Option.getD_some]
  have:l.dropLast[i]? = some l[i]:=by rw [List.getElem?_dropLast,if_pos (by omega)]; exact List.getElem?_eq_getElem hi
  exact List.mem_of_getElem? this
theorem nodeE_zero {n:Nd} (h1:∀ e ∈ n.es,keyE e.k = 0 ∧ valE e.v = 0) (h2:∀ k ∈ n.ks,keyE k.k = 0) (h3:(n.leaf || n.inner) = true) (h4:∀ i,i < n.keys.length → badAt n.lv n.keys i = false) (h5:∀ k ∈ n.ks,k.i ≠ 0):nodeE n = 0:=by
 have ht:textsE n = 0:=by
  unfold textsE
  have f1:firstE enE n.es = 0:=firstE_none (fun e he => by rw [enE_val (h1 e he).1]; exact (h1 e he).2)
  have f2:firstE kiE n.ks = 0:=firstE_none (fun k hk => h2 k hk)
  rw [f1,f2]
  simp
 rw [nodeE_rest ht,if_neg (by rw [h3]; simp),if_neg (fun ⟨i,q1,q2⟩ => by rw [h4 i q1] at q2; cases q2),if_neg (fun ⟨k,q1,q2⟩ => h5 k q1 q2)]
theorem keyE_zero {k:ByteArray} (h:1 ≤ k.size ∧ k.size ≤ 40):keyE k = 0:=by unfold keyE; rw [if_neg (by omega)]
theorem valE_zero {k:ByteArray} (h:k.size ≤ 200):valE k = 0:=by unfold valE; rw [if_neg (by omega)]
theorem enc_len1 {n:Nat} (h:n < 128):(enc n).length = 1:=by rw [enc_lt h]; rfl
theorem enc_len2 {n:Nat} (h:n < 16384):(enc n).length ≤ 2:=by
 by_cases q:n < 128
 ·rw [enc_len1 q]; omega
 ·rw [enc_ge (by omega) (by unfold top; omega),List.length_cons,enc_len1 (by omega)]; omega
theorem enc_len3 {n:Nat} (h:n < 2097152):(enc n).length ≤ 3:=by
 by_cases q:n < 128
 ·rw [enc_len1 q]; omega
 ·rw [enc_ge (by omega) (by unfold top; omega),List.length_cons]
  have:=enc_len2 (n:=n / 128) (by omega)
  omega
theorem enB_small {e:En} (h:e.k.size ≤ 40) (h2:e.v.size ≤ 200):(enB e).length ≤ 243:=by
 unfold enB
 simp only [List.length_append,nums_length,enc_len1 (show e.k.size < 128 by omega)]
 have:=enc_len2 (n:=e.v.size) (by omega)
 omega
theorem kiB_small {k:Ki} (h:k.k.size ≤ 40) (h2:k.i < 2097152):(kiB k).length ≤ 44:=by
 unfold kiB
 simp only [List.length_append,nums_length,enc_len1 (show k.k.size < 128 by omega)]
 have:=enc_len3 h2
 omega
theorem inB_ndB {n:Nd} (h1:∀ e ∈ n.es,e.k.size ≤ 40 ∧ e.v.size ≤ 200) (h2:∀ k ∈ n.ks,k.k.size ≤ 40 ∧ k.i < 18446744073709551616) (hl:0 ≤ n.lv ∧ n.lv ≤ 20) (hc:n.es.length + n.ks.length ≤ 1000000):InB (ndB n):=by
 have ht:∀ m:Nat,m ≤ 1000000 → m < top:=fun m hm => by unfold top; omega
 intro z hz
 unfold ndB at hz
 simp only [List.mem_append,List.mem_flatMap] at hz
 rcases hz with ((hz | hz) | ⟨e,he,hz⟩) | ⟨k,hk,hz⟩
 ·exact enc_byte (ht _ (by omega)) z hz
 ·exact enc_byte (ht _ hc) z hz
 ·unfold enB at hz
  simp only [List.mem_append] at hz
  rcases hz with (hz | hz) | (hz | hz)
  ·exact enc_byte (ht _ (by have:=h1 e he; omega)) z hz
  ·exact nums_byte _ z hz
  ·exact enc_byte (ht _ (by have:=h1 e he; omega)) z hz
  ·exact nums_byte _ z hz
 ·unfold kiB at hz
  simp only [List.mem_append] at hz
  rcases hz with (hz | hz) | hz
  ·exact enc_byte (ht _ (by have:=h2 k hk; omega)) z hz
  ·exact nums_byte _ z hz
  ·exact enc_byte (by have:=(h2 k hk).2; unfold top; omega) z hz
theorem need_of {n:Nat} (h:n ≤ 131072) (h1:1 ≤ n):needP (n:Int) = (n + 123) / 124:=by
 unfold needP
 rw [if_neg (by omega),if_neg (by omega)]
 omega
theorem good_leaf {r:List En} (hr:Rise (r.map En.k)) (hk:∀ e ∈ r,1 ≤ e.k.size ∧ e.k.size ≤ 40) (hv:∀ e ∈ r,e.v.size ≤ 200) (h0:RowOk (fun e:En => endsN 0 e.k) r) (hl:r.length ≤ 127):GoodN ⟨0,r,[]⟩ ∧ needP (ndB ⟨0,r,[]⟩).length ≤ 3 * r.length:=by
 have hpos:0 < r.length:=List.length_pos_iff.2 h0.1
 have hlen:(ndB ⟨0,r,[]⟩).length ≤ 2 + 243 * r.length:=by
  unfold ndB
  simp only [List.length_append,List.length_nil,List.flatMap_nil,Nat.add_zero]
  have:=flat_lenN (f:=enB) (c:=243) (l:=r) (fun e he => enB_small (hk e he).2 (hv e he))
  rw [enc_len1 (show (0:Int).toNat < 128 by decide),enc_len1 (show r.length < 128 by omega)]
  omega
 have hone:1 ≤ (ndB ⟨0,r,[]⟩).length:=by
  unfold ndB
  simp only [List.length_append]
  have:=enc_len ((0:Int).toNat)
  omega
 refine ⟨⟨nodeE_zero (fun e he => ⟨keyE_zero (hk e he),valE_zero (hv e he)⟩) (fun k hk => by simp at hk) ?_ ?_ (fun k hk => by simp at hk),by omega,inB_ndB (fun e he => ⟨(hk e he).2,hv e he⟩) (fun k hk => by simp at hk) ⟨Int.le_refl 0,by show (0:Int) ≤ 20; decide⟩ (by simp; omega)⟩,?_⟩
 ·simp [Nd.leaf]; omega
 ·have:(⟨0,r,[]⟩:Nd).keys = r.map En.k:=by simp [Nd.keys]
  rw [this]
  refine bad_none hr (fun x hx => ?_)
  rw [← List.map_dropLast] at hx
  obtain ⟨e,he,rfl⟩:=List.mem_map.1 hx
  exact h0.2 e he
 ·rw [need_of (by omega) hone]
  omega
theorem good_inner {lv:Int} {r:List Ki} (hlv:1 ≤ lv ∧ lv ≤ 20) (hr:Rise (r.map Ki.k)) (hk:∀ e ∈ r,1 ≤ e.k.size ∧ e.k.size ≤ 40) (hi:∀ e ∈ r,1 ≤ e.i ∧ e.i < 2097152) (h0:RowOk (fun e:Ki => endsN lv e.k) r) (hl:r.length ≤ 127):GoodN ⟨lv,[],r⟩ ∧ needP (ndB ⟨lv,[],r⟩).length ≤ r.length:=by
 have hpos:0 < r.length:=List.length_pos_iff.2 h0.1
 have hlen:(ndB ⟨lv,[],r⟩).length ≤ 2 + 44 * r.length:=by
  unfold ndB
  simp only [List.length_append,List.length_nil,List.flatMap_nil,Nat.zero_add]
  have:=flat_lenN (f:=kiB) (c:=44) (l:=r) (fun e he => kiB_small (hk e he).2 (hi e he).2)
  rw [enc_len1 (show lv.toNat < 128 by omega),enc_len1 (show r.length < 128 by omega)]
  omega
 have hone:1 ≤ (ndB ⟨lv,[],r⟩).length:=by
  unfold ndB
  simp only [List.length_append]
  have:=enc_len lv.toNat
  omega
 refine ⟨⟨nodeE_zero (fun e he => by simp at he) (fun k hk' => keyE_zero (hk k hk')) ?_ ?_ (fun k hk' => by have:=(hi k hk').1; omega),by omega,inB_ndB (fun e he => by simp at he) (fun k hk' => ⟨(hk k hk').2,by have:=(hi k hk').2; omega⟩) ⟨by simp only; omega,hlv.2⟩ (by simp; omega)⟩,?_⟩
 ·simp [Nd.inner]; omega
 ·have:(⟨lv,[],r⟩:Nd).keys = r.map Ki.k:=by simp [Nd.keys]
  rw [this]
  refine bad_none hr (fun x hx => ?_)
  rw [← List.map_dropLast] at hx
  obtain ⟨e,he,rfl⟩:=List.mem_map.1 hx
  exact h0.2 e he
 ·rw [need_of (by omega) hone]
  omega
theorem row_sub {α:Type} {r:List α}:∀ {R:List (List α)},r ∈ R → r.Sublist R.flatten
 | x :: R,h => by
  rw [List.flatten_cons]
  rcases List.mem_cons.1 h with rfl | q
  ·exact List.sublist_append_left _ _
  ·exact (row_sub q).trans (List.sublist_append_right _ _)
theorem pages_lv:∀ {R:List (List En)},(∀ r ∈ R,needP (ndB ⟨0,r,[]⟩).length ≤ 3 * r.length) → pagesN (lvns R) ≤ 3 * R.flatten.length
 | [],_ => by simp [lvns,pagesN]
 | r :: R,h => by
  have h1:=h r (by simp)
  have h2:=pages_lv (R:=R) (fun x hx => h x (by simp [hx]))
  have:pagesN (lvns (r :: R)) = needP (ndB ⟨0,r,[]⟩).length + pagesN (lvns R):=by simp [lvns,pagesN]
  rw [this,List.flatten_cons,List.length_append]
  omega
theorem pages_ab {lv:Int}:∀ {R:List (List Ki)},(∀ r ∈ R,needP (ndB ⟨lv,[],r⟩).length ≤ r.length) → pagesN (abns lv R) ≤ R.flatten.length
 | [],_ => by simp [abns,pagesN]
 | r :: R,h => by
  have h1:=h r (by simp)
  have h2:=pages_ab (lv:=lv) (R:=R) (fun x hx => h x (by simp [hx]))
  have:pagesN (abns lv (r :: R)) = needP (ndB ⟨lv,[],r⟩).length + pagesN (abns lv R):=by simp [abns,pagesN]
  rw [this,List.flatten_cons,List.length_append]
  omega
theorem MapOk.leaves {es:List En} (h:MapOk es) (hl:es.length ≤ 127):(∀ n ∈ lvns (splitN (fun e:En => endsN 0 e.k) es),GoodN n) ∧ pagesN (lvns (splitN (fun e:En => endsN 0 e.k) es)) ≤ 3 * es.length:=by
 have hrow:∀ r ∈ splitN (fun e:En => endsN 0 e.k) es,GoodN ⟨0,r,[]⟩ ∧ needP (ndB ⟨0,r,[]⟩).length ≤ 3 * r.length:=fun r hr => by
  have hs:r.Sublist es:=by have:=row_sub hr; rw [split_flat] at this; exact this
  exact good_leaf (List.Pairwise.sublist (hs.map _) h.rise) (fun e he => h.key e (hs.subset he)) (fun e he => h.val e (hs.subset he)) (split_ok r hr) (Nat.le_trans hs.length_le hl)
 constructor
 ·intro n hn
  obtain ⟨r,hr,rfl⟩:=List.mem_map.1 hn
  exact (hrow r hr).1
 ·have:=pages_lv (R:=splitN (fun e:En => endsN 0 e.k) es) (fun r hr => (hrow r hr).2)
  rw [split_flat] at this
  exact this
theorem Can.up {T:List (List Int)} {es:List En} (h:MapOk es) (hl:es.length ≤ 127) (hT:T.length < 2097152) {l:Nat} (h20:l < 20) {ks:List Ki} (hc:Can T es l ks):(∀ n ∈ abns ((l + 1:Nat):Int) (splitN (fun e:Ki => endsN ((l + 1:Nat):Int) e.k) ks),GoodN n) ∧ pagesN (abns ((l + 1:Nat):Int) (splitN (fun e:Ki => endsN ((l + 1:Nat):Int) e.k) ks)) ≤ es.length:=by
 have hkey:∀ k ∈ ks,1 ≤ k.k.size ∧ k.k.size ≤ 40:=fun k hk => by
  have:=hc.keys.subset (List.mem_map.2 ⟨k,hk,rfl⟩)
  obtain ⟨e,he,q⟩:=List.mem_map.1 this
  rw [← q]
  exact h.key e he
 have hrise:Rise (ks.map Ki.k):=List.Pairwise.sublist hc.keys h.rise
 have hrow:∀ r ∈ splitN (fun e:Ki => endsN ((l + 1:Nat):Int) e.k) ks,GoodN ⟨((l + 1:Nat):Int),[],r⟩ ∧ needP (ndB ⟨((l + 1:Nat):Int),[],r⟩).length ≤ r.length:=fun r hr => by
  have hs:r.Sublist ks:=by have:=row_sub hr; rw [split_flat] at this; exact this
  exact good_inner ⟨by omega,by omega⟩ (List.Pairwise.sublist (hs.map _) hrise) (fun e he => hkey e (hs.subset he)) (fun e he => by have:=hc.ids e (hs.subset he); omega) (split_ok r hr) (by have:=hs.length_le; have:=hc.len; omega)
 constructor
 ·intro n hn
  obtain ⟨r,hr,rfl⟩:=List.mem_map.1 hn
  exact (hrow r hr).1
 ·have:=pages_ab (lv:=((l + 1:Nat):Int)) (R:=splitN (fun e:Ki => endsN ((l + 1:Nat):Int) e.k) ks) (fun r hr => (hrow r hr).2)
  rw [split_flat] at this
  have:=hc.len
  omega
end Go.Proofs.YtnblmdmlollmaaaGreat
namespace Go.Proofs.YtnblmdmlollmaaaGreat
set_option maxRecDepth 100000
set_option maxHeartbeats 8000000
open Go.RowKit Apo
def topI:List Ki → Nat
 | [] => 0
 | k :: _ => k.i
def RootOf (T:List (List Int)) (es:List En) (id:Nat):Prop:=∃ l ks,Can T es l ks ∧ l ≤ 20 ∧ ks.length ≤ 1 ∧ id = topI ks
def TRoot (w W:World) (s:Nat) (O:Nat → Prop) (T:List (List Int)) (m:Nat) (es:List En) (e:Ending) (W':World):Prop :=
 ∃ (id:Nat) (O':Nat → Prop) (T':List (List Int)),e = .returned (.tuple #[.int .u64 id,.int .i64 0]) ∧ RootOf T' es id ∧ Sub T T' ∧ (TxOk T → TxOk T') ∧ T'.length ≤ T.length + 21 * es.length ∧ TSw w W' s O' T' (m + 23 * es.length) ∧ (∀ i,O' i → O i ∨ W.heap.size ≤ i) ∧ Onl O W W'
theorem TSw.pages {w W:World} {s m m':Nat} {O:Nat → Prop} {T:List (List Int)} (h:TSw w W s O T m) (hm:m ≤ m'):TSw w W s O T m':=by
 obtain ⟨d,S,h1,h2⟩:=h
 obtain ⟨K,m0,k1,k2,k3,k4⟩:=h2.ex
 exact ⟨d,S,h1,⟨⟨K,m0,k1,by omega,k3,k4⟩,h2.al,h2.nx,h2.sl,h2.cl⟩⟩
theorem tbuild_any {w W:World} {s m:Nat} {O:Nat → Prop} {T:List (List Int)} (h:TSw w W s O T m) (ea:Option Addr) (ec:Nat) (es:List En) (hr:RdEn W ea es) (hen:ea = none → ec = 0) (hel:es.length ≤ 100) (hok:MapOk es) (hm:m + 23 * es.length ≤ 4096) (hT:T.length + 22 * es.length ≤ 15000) :
  Calls Tryz.prog 47 #[.agg (bldV s (.map none)),.slice ea es.length ec] W (TRoot w W s O T m es):=by
 obtain ⟨W1,hW1⟩:∃ W1,W1 = W.alloc (.cells #[.func (.func 46) #[.pointer (some ⟨s,0,none⟩)] #[],.map none] 92):=⟨_,rfl⟩
 have s1:W1.heap.size = W.heap.size + 1:=by rw [hW1]; simp
 have kb1:Ob W1 W.heap.size 92 [.func (.func 46) #[.pointer (some ⟨s,0,none⟩)] #[],.map none]:=by rw [hW1]; exact Ob.new W [.func (.func 46) #[.pointer (some ⟨s,0,none⟩)] #[],.map none] 92
 have b1:Below W.heap.size W W1:=by rw [hW1]; exact (Below.refl _ W).alloc (Nat.le_refl _) _
 obtain ⟨g1,g2⟩:=hok.leaves (by omega)
 have C1:=tlv_any (h.below b1) none rfl ea ec es (hr.below b1) hen (by omega) (fun e he => by have:=hok.key e he; omega) g1 (by omega) (by omega)
 simp only [bldV] at C1 ⊢
 obtain ⟨ne,hne⟩:∃ ne,ne = es.length:=⟨_,rfl⟩
 have hhi:=h.hi
 have hbw:=h.bel.size
 have HC1:=hide C1
 have HKB:=hide kb1
 have HB1:=hide b1
 have HHI:=hide hhi
 have HOK:=hide hok
 have HG2:=hide g2
 have HG1:=hide g1
 have HNE:=hide hne
 rw [← hne] at HC1 hel hm hT ⊢
 clear C1 kb1 b1 hhi hok g1 g2 h hr hne
 go_enter Tryz.func47,Tryz.ntmps47
 go_wp2_with fail
 rw [← hW1]
 clear hW1
 refine HC1.out.mono ?_
 rintro e w1 ⟨v1,ks1,O1,rfl,r1,k1,t1,u1,o1⟩
 obtain ⟨va1,vc1,hv1,hx1,hx2,hx3,hx4⟩:=r1.form
 have sz1:=o1.size
 have H0:Hid (∃ T',Can T' es 0 ks1 ∧ (Sub T T' ∧ (TxOk T → TxOk T')) ∧ T'.length ≤ T.length + (0 + 1) * ne ∧ TSw w w1 s O1 T' (m + 3 * ne + 0 * ne)):=by
  refine hide ⟨_,k1,⟨Sub.put _ _,fun q => q.puts HG1.out⟩,?_,t1.pages (by have:=HG2.out; rw [← HNE.out] at this; omega)⟩
  have h1:=putNs_len T (lvns (splitN (fun e:En => endsN 0 e.k) es))
  have h2:(lvns (splitN (fun e:En => endsN 0 e.k) es)).length ≤ ne:=by rw [HNE.out]; simp only [lvns,List.length_map]; exact split_len _ _
  omega
 obtain ⟨n1,hn1⟩:∃ n1,n1 = ks1.length:=⟨_,rfl⟩
 rw [← hn1] at hv1
 subst hv1
 have HR1:=hide r1
 have HU1:=hide u1
 have HO1:=hide o1
 have HN1:=hide hn1
 clear r1 k1 t1 u1 o1 hx1 hx2 hx3 hx4 hn1
 go_wp2
 go_loopw [6,7,8] (fun u er i wr => ∃ (l:Nat) (ks:List Ki) (O':Nat → Prop) (va:Option Addr) (nk vc:Nat),l ≤ 20 ∧ i = .int .i64 ((l + 1:Nat):Int) ∧ er = .int .i64 0 ∧ u = .slice va nk vc ∧ Hid (nk = ks.length) ∧ Hid (Row (fun g => ¬ O' g ∧ W1.heap.size ≤ g) wr 53 2 (.slice va nk vc) ks.length (kcells ks)) ∧ Hid (∃ T',Can T' es l ks ∧ (Sub T T' ∧ (TxOk T → TxOk T')) ∧ T'.length ≤ T.length + (l + 1) * ne ∧ TSw w wr s O' T' (m + 3 * ne + l * ne)) ∧ Hid (∀ i,O' i → O i ∨ W1.heap.size ≤ i) ∧ Hid (Onl O W1 wr)) (fun _ _ i _ => 22 - (intOf i).toNat)
 case atStart => exact ⟨0,ks1,O1,va1,n1,vc1,by omega,rfl,rfl,rfl,HN1,HR1,H0,HU1,HO1⟩
 case round =>
  obtain ⟨l,ks,O',va,nk,vc,hl,rfl,rfl,rfl,HNK,HRW,HCT,HSUB,HON⟩:=hrel
  by_cases hgo:1 < nk
  ·have hl2:l < 20:=by
    obtain ⟨T',c1,_⟩:=HCT.out
    by_cases q:l < 20
    ·exact q
    ·obtain rfl:l = 20:=by omega
     have:=c1.top
     have:=HNK.out
     omega
   have hd:decide ((1:Int) < (nk:Int)) = true:=decide_eq_true (by omega)
   obtain ⟨T',c1,c2,c3,c4⟩:=HCT.out
   have hne2:=HNE.out
   have hTl:T'.length + ne ≤ 16000 ∧ T'.length ≤ 16000:=by
    have:(l + 1) * ne ≤ 21 * ne:=Nat.mul_le_mul_right _ (by omega)
    omega
   obtain ⟨g1,g2⟩:=c1.up HOK.out (by omega) (by omega) hl2
   have hlen:=c1.len
   have hln2:l * ne ≤ 19 * ne:=Nat.mul_le_mul_right _ (by omega)
   obtain ⟨xa,xc,x1,x2,x3,x4,x5⟩:=rd_kcells HRW.out
   rw [← HNK.out] at x1
   injection x1 with y1 y2 y3
   subst y1 y3
   have C2:=tab_any c4 none ((l + 1:Nat):Int) ⟨by omega,by omega⟩ va vc ks x2 x5 (by omega) (fun e he => by
    have:=c1.keys.subset (List.mem_map.2 ⟨e,he,rfl⟩)
    obtain ⟨e',he',q⟩:=List.mem_map.1 this
    rw [← q]
    have:=HOK.out.key e' he'
    omega) g1 (by omega) (by omega) (fun e he => by have:=c1.ids e he; omega)
   rw [← HNK.out] at C2
   simp only [bldV] at C2
   have kbr:=HKB.out.onl HON.out (fun q => by have:=HHI.out _ q; omega)
   have d0:=kbr.cell 0
   have d1:=kbr.cell 1
   simp only [List.getElem?_cons_zero,List.getElem?_cons_succ] at d0 d1
   have HC2:=hide C2
   have HX:=hide (And.intro c1 (And.intro c2 (And.intro c3 (And.intro g2 hlen))))
   have HG1':=hide g1
   have hwl:IntKind.i64.wrap (((l + 1:Nat):Int) + 1) = ((l + 1 + 1:Nat):Int):=by rw [IntKind.wrap_i64]; omega
   have sr:=HON.out.size
   clear C2 kbr c1 c2 c3 c4 g1 g2 x2 x3 x4 x5 HCT hlen hne2
   go_wp2_with fail
   refine HC2.out.mono ?_
   rintro e w3 ⟨v3,ks3,O3,rfl,r3,k3,t3,u3,o3⟩
   obtain ⟨va3,vc3,hv3,_⟩:=r3.form
   obtain ⟨n3,hn3⟩:∃ n3,n3 = ks3.length:=⟨_,rfl⟩
   rw [← hn3] at hv3
   subst hv3
   have HF:Hid (Row (fun g => ¬ O3 g ∧ W1.heap.size ≤ g) w3 53 2 (.slice va3 n3 vc3) ks3.length (kcells ks3) ∧ (∃ T',Can T' es (l + 1) ks3 ∧ (Sub T T' ∧ (TxOk T → TxOk T')) ∧ T'.length ≤ T.length + (l + 1 + 1) * ne ∧ TSw w w3 s O3 T' (m + 3 * ne + (l + 1) * ne)) ∧ (∀ i,O3 i → O i ∨ W1.heap.size ≤ i) ∧ Onl O W1 w3):=by
    obtain ⟨c1,c2,c3,g2,hlen⟩:=HX.out
    refine hide ⟨r3.mono (fun i q => ⟨q.1,by omega⟩),⟨_,⟨ks,Can.sub (Sub.put _ _) c1,by have:=HNK.out; omega,k3⟩,⟨c2.1.trans (Sub.put _ _),fun q => (c2.2 q).puts HG1'.out⟩,?_,t3.pages ?_⟩,?_,HON.out.more o3 (fun i q => HSUB.out i q)⟩
    ·have h1:=putNs_len T' (abns ((l + 1:Nat):Int) (splitN (fun e:Ki => endsN ((l + 1:Nat):Int) e.k) ks))
     have h2:(abns ((l + 1:Nat):Int) (splitN (fun e:Ki => endsN ((l + 1:Nat):Int) e.k) ks)).length ≤ ks.length:=by simp only [abns,List.length_map]; exact split_len _ _
     rw [Nat.add_mul (l + 1) 1 ne]
     have:=HNE.out
     omega
    ·rw [Nat.add_mul l 1 ne]
     have:=HNE.out
     omega
    ·intro i q
     rcases u3 i q with z | z
     ·exact HSUB.out i z
     ·exact .inr (by omega)
   have HN3:=hide hn3
   clear r3 k3 t3 u3 o3 hn3 HX HRW HSUB HON
   go_wp2
   go_roundw
   case rel =>
    obtain ⟨a1,a2,a3,a4⟩:=HF.out
    exact ⟨l + 1,ks3,O3,va3,n3,vc3,by omega,by simp,rfl,rfl,HN3,hide a1,hide a2,hide a3,hide a4⟩
   case measure => simp [intOf]; omega
  ·have hd:decide ((1:Int) < (nk:Int)) = false:=decide_eq_false (by omega)
   obtain ⟨T',c1,c2,c3,c4⟩:=HCT.out
   have hln2:l * ne ≤ 20 * ne:=Nat.mul_le_mul_right _ hl
   have hln3:(l + 1) * ne ≤ 21 * ne:=Nat.mul_le_mul_right _ (by omega)
   have HF:Hid (∀ id:Nat,id = topI ks → TRoot w W s O T m es (.returned (.tuple #[.int .u64 id,.int .i64 0])) wr):=by
    refine hide (fun id hid => ⟨id,O',T',rfl,⟨l,ks,c1,hl,by have:=HNK.out; omega,hid⟩,c2.1,c2.2,by have:=HNE.out; omega,c4.pages (by have:=HNE.out; omega),fun i q => (HSUB.out i q).imp (fun z => z) (fun z => by omega),(Onl.ofBelow HB1.out).trans HON.out⟩)
   clear c1 c2 c3 c4 hln2 hln3 HCT
   by_cases hz:nk = 0
   ·have hz2:((nk:Int) == 0) = true:=by simp; omega
    have HFF:=hide (HF.out 0 (by
     have:=HNK.out
     cases ks with
     | nil => rfl
     | cons k ks => simp at this; omega))
    clear HF hz HRW HSUB HON HNK
    go_wp2
    refine bodyPost_ret (by simp [results,Tryz.results47,go_sem]; rfl) rfl ?_
    exact HFF.out
   ·have hz2:((nk:Int) == 0) = false:=by simp; omega
    obtain ⟨k,hks⟩:∃ k,ks = [k]:=by
     have:=HNK.out
     cases ks with
     | nil => simp at this; omega
     | cons k ks =>
      cases ks with
      | nil => exact ⟨k,rfl⟩
      | cons k2 ks => simp at this; omega
    subst hks
    have HFF:=hide (HF.out k.i rfl)
    obtain ⟨g,cap,e1,e2,e3,e4,e5,e6,_⟩:=HRW.out.shape (by simp)
    injection e1 with y1 y2 y3
    have y2':nk = 1:=by simpa using HNK.out
    subst y1
    have e7:=e6 1 (by simp)
    simp only [kcells,List.flatMap_cons,List.flatMap_nil,List.append_nil,List.getElem?_cons_succ,List.getElem?_cons_zero] at e7
    have hd0:decide ((0:Int) < (nk:Int)) = true:=decide_eq_true (by omega)
    subst y2'
    clear HF hz HRW HSUB HON HNK e2 e3 e4 e5 e6 y2 y3
    go_wp2
    refine bodyPost_ret (by simp [results,Tryz.results47,go_sem]; rfl) rfl ?_
    exact HFF.out
end Go.Proofs.YtnblmdmlollmaaaGreat
namespace Go.Proofs.YtnblmdmlollmaaaGreat
set_option maxRecDepth 100000
set_option maxHeartbeats 8000000
open Go.RowKit Apo
def RsP (es:List En) (w:World) (e:Ending) (w':World):Prop:=∃ b:Bool,e = .returned (.bool b) ∧ (b = true ↔ Rise (es.map En.k)) ∧ Below w.heap.size w w'
theorem rise_getD {es:List En} {i:Nat} {e f:En} (h:Rise (es.map En.k)) (h1:es[i]? = some e) (h2:es[i + 1]? = some f):sLt e.k f.k = true:=by
 have hl:=(List.getElem?_eq_some_iff.1 h2).1
 have:=h.at (i:=i) (by simpa using hl)
 simpa [List.getD_eq_getElem?_getD,h1,h2] using this
theorem rise_all {es:List En} (h:∀ i e f,es[i]? = some e → es[i + 1]? = some f → sLt e.k f.k = true):Rise (es.map En.k):=by
 refine rise_of (fun i hi => ?_)
 simp only [List.length_map] at hi
 have h1:es[i]? = some (es[i]'(by omega)):=List.getElem?_eq_getElem _
 have h2:es[i + 1]? = some (es[i + 1]'hi):=List.getElem?_eq_getElem _
 simpa [List.getD_eq_getElem?_getD,h1,h2] using h i _ _ h1 h2
theorem trise_any (w:World) (a:Option Addr) (c:Nat) (es:List En) (h:RdEn w a es) (hl:es.length ≤ 1000000) :
  Calls Tryz.prog 45 #[.slice a es.length c] w (RsP es w):=by
 obtain ⟨n,hn⟩:∃ n,n = es.length:=⟨_,rfl⟩
 have HN:=hide hn
 have HR:=hide h
 rw [← hn] at hl ⊢
 clear h hn
 go_enter Tryz.func45,Tryz.ntmps45
 go_wp2
 go_loopw [3] (fun v wr => ∃ i:Nat,1 ≤ i ∧ (i ≤ n ∨ i = 1) ∧ v = .int .i64 i ∧ Hid (∀ t e f,t + 1 < i → es[t]? = some e → es[t + 1]? = some f → sLt e.k f.k = true) ∧ Hid (Below w.heap.size w wr)) (fun v _ => n + 1 - (intOf v).toNat)
 case atStart => exact ⟨1,Nat.le_refl _,Or.inr rfl,rfl,hide (fun t e f ht => absurd ht (by omega)),hide (Below.refl _ _)⟩
 case round =>
  obtain ⟨i,hi1,hi2,rfl,HS,HB⟩:=hrel
  by_cases hin:i < n
  ·obtain ⟨i1,hi3⟩:∃ i1,i = i1 + 1:=⟨i - 1,by omega⟩
   obtain ⟨s1,hs1⟩:∃ s,es[i1]? = some s:=⟨es[i1]'(by have:=HN.out; omega),List.getElem?_eq_getElem _⟩
   obtain ⟨s2,hs2⟩:∃ s,es[i1 + 1]? = some s:=⟨es[i1 + 1]'(by have:=HN.out; omega),List.getElem?_eq_getElem _⟩
   obtain ⟨g,of,rfl,q1,_⟩:=(HR.out.below HB.out) i1 s1 hs1
   obtain ⟨g2,of2,hgg,q2,_⟩:=(HR.out.below HB.out) (i1 + 1) s2 hs2
   injection hgg with hgg
   injection hgg with e1 e2 _
   subst e1 e2
   have hwi:IntKind.i64.wrap ((i:Int) - 1) = (i1:Int):=by rw [IntKind.wrap_i64]; omega
   have hsub:(i:Int) - 1 = (i1:Int):=by omega
   have hi1n:i1 < n:=by omega
   rw [← hi3] at q2
   have HI3:=hide hi3
   have HS12:=hide (And.intro hs1 hs2)
   clear hs1 hs2 hi3
   cases hb1:sLt s1.k s2.k
   ·have hbl:Op.bytesLess s1.k.toList s2.k.toList = false:=hb1
    have HX:Hid (¬ Rise (es.map En.k)):=hide (fun z => by
     have q:=rise_getD z HS12.out.1 HS12.out.2
     rw [hb1] at q
     cases q)
    clear hb1
    go_wp2
    go_quiet (fail)
    go_wp2
    go_ret
    exact ⟨false,rfl,⟨fun q => (by cases q),fun q => absurd q HX.out⟩,below_drewN HB.out _⟩
   ·have hbl:Op.bytesLess s1.k.toList s2.k.toList = true:=hb1
    have HS3:Hid (∀ t e f,t + 1 < i + 1 → es[t]? = some e → es[t + 1]? = some f → sLt e.k f.k = true):=by
     refine hide (fun t e f ht h1 h2 => ?_)
     by_cases z:t + 1 < i
     ·exact HS.out t e f z h1 h2
     ·obtain rfl:t = i1:=by have:=HI3.out; omega
      rw [HS12.out.1] at h1
      rw [HS12.out.2] at h2
      cases h1
      cases h2
      exact hb1
    have hwi2:IntKind.i64.wrap ((i:Int) + 1) = ((i + 1:Nat):Int):=by rw [IntKind.wrap_i64]; omega
    clear hb1 HS
    go_wp2
    go_quiet (fail)
    go_wp2
    go_roundw
    case rel => exact ⟨i + 1,by omega,by omega,by simp,HS3,hide (below_drewN HB.out _)⟩
    case measure => simp [intOf]; omega
  ·have HF:Hid (Rise (es.map En.k)):=hide (rise_all (fun t e f h1 h2 => HS.out t e f (by have:=(List.getElem?_eq_some_iff.1 h2).1; have:=HN.out; omega) h1 h2))
   clear HS
   go_wp2
   go_ret
   exact ⟨true,rfl,⟨fun _ => HF.out,fun _ => rfl⟩,HB.out⟩
open Classical in
noncomputable def rightE (es:List En):Int:=if firstE enE es ≠ 0 then firstE enE es else if Rise (es.map En.k) then 0 else 90
theorem rightE_map {es:List En} (h:rightE es = 0):MapOk es:=by
 unfold rightE at h
 by_cases h1:firstE enE es ≠ 0
 ·rw [if_pos h1] at h; exact absurd h h1
 ·rw [if_neg h1] at h
  by_cases h2:Rise (es.map En.k)
  ·have h3:firstE enE es = 0:=by simpa using h1
   have h4:∀ e ∈ es,keyE e.k = 0 ∧ valE e.v = 0:=fun e he => by
    have:=firstE_zero h3 e he
    by_cases q:keyE e.k = 0
    ·rw [enE_val q] at this; exact ⟨q,this⟩
    ·rw [enE_key q] at this; exact absurd this q
   refine ⟨h2,fun e he => keyE_ok (h4 e he).1,fun e he => ?_⟩
   have:=(h4 e he).2
   unfold valE at this
   split at this
   ·simp at this
   ·omega
  ·rw [if_neg h2] at h; simp at h
end Go.Proofs.YtnblmdmlollmaaaGreat
namespace Go.Proofs.YtnblmdmlollmaaaGreat
set_option maxRecDepth 100000
set_option maxHeartbeats 8000000
open Go.RowKit Apo
theorem rightE_at {es:List En} {k:Nat} {e:En} (h:es[k]? = some e) (hp:∀ y ∈ es.take k,enE y = 0) (hx:enE e ≠ 0):rightE es = enE e:=by
 unfold rightE
 rw [firstE_at h hp hx,if_pos hx]
theorem take_enE {es:List En} {k:Nat} {e:En} (h:es[k]? = some e) (hp:∀ y ∈ es.take k,enE y = 0) (hx:enE e = 0):∀ y ∈ es.take (k + 1),enE y = 0:=by
 intro y hy
 rw [List.take_add_one,h] at hy
 rcases List.mem_append.1 hy with q | q
 ·exact hp y q
 ·simp at q; rw [q]; exact hx
def TBld (w W:World) (s:Nat) (O:Nat → Prop) (T:List (List Int)) (m:Nat) (es:List En) (e:Ending) (W':World):Prop :=
 (rightE es ≠ 0 ∧ e = .returned (.tuple #[.int .u64 0,.int .i64 (rightE es)]) ∧ Below W.heap.size W W') ∨ (rightE es = 0 ∧ TRoot w W s O T m es e W')
theorem tBuild_any {w W:World} {s m:Nat} {O:Nat → Prop} {T:List (List Int)} (h:TSw w W s O T m) (ea:Option Addr) (ec:Nat) (es:List En) (hr:RdEn W ea es) (hen:ea = none → ec = 0) (hel:es.length ≤ 100) (hsz:∀ e ∈ es,e.k.size ≤ maxLen ∧ e.v.size ≤ maxLen) (hm:m + 23 * es.length ≤ 4096) (hT:T.length + 22 * es.length ≤ 15000) :
  Calls Tryz.prog 15 #[.pointer (some ⟨s,0,none⟩),.slice ea es.length ec] W (TBld w W s O T m es):=by
 have C2:∀ W',Below W.heap.size W W' → Calls Tryz.prog 45 #[.slice ea es.length ec] W' (RsP es W'):=fun W' b => trise_any W' ea ec es (hr.below b) (by omega)
 have C3:MapOk es → ∀ W',Below W.heap.size W W' → Calls Tryz.prog 47 #[.agg (bldV s (.map none)),.slice ea es.length ec] W' (TRoot w W' s O T m es):=fun ok W' b => tbuild_any (h.below b) ea ec es (hr.below b) hen hel ok hm hT
 simp only [bldV] at C3
 obtain ⟨ne,hne⟩:∃ ne,ne = es.length:=⟨_,rfl⟩
 have hmx:maxLen ≤ 9223372036854775807:=by decide
 have hhi:=h.hi
 have hbw:=h.bel.size
 have HHI:=hide hhi
 have HLO:=hide h.lo
 have HC2:=hide C2
 have HC3:=hide C3
 have HNE:=hide hne
 have HR:=hide hr
 have HSZ:=hide hsz
 rw [← hne] at HC2 HC3 hel ⊢
 clear C2 C3 hne hr hsz h hm hT hhi
 go_enter Tryz.func15,Tryz.ntmps15
 go_wp2
 go_loopw [12] (fun i wr => ∃ k:Nat,k ≤ ne ∧ i = .int .i64 k ∧ Hid (∀ y ∈ es.take k,enE y = 0) ∧ Hid (Below W.heap.size W wr)) (fun i _ => ne - (intOf i).toNat)
 case atStart => exact ⟨0,Nat.zero_le _,rfl,hide (fun y hy => by simp at hy),hide (Below.refl _ _)⟩
 case round =>
  obtain ⟨k,hk,rfl,HP,HB⟩:=hrel
  by_cases hkn:k < ne
  ·obtain ⟨⟨ek,ev⟩,hx⟩:∃ x,es[k]? = some x:=⟨es[k]'(by have:=HNE.out; omega),List.getElem?_eq_getElem _⟩
   obtain ⟨g,of,rfl,q1,q2⟩:=(HR.out.below HB.out) k _ hx
   simp only at q1 q2
   have hz:=HSZ.out _ (List.mem_of_getElem? hx)
   simp only at hz
   obtain ⟨W1,hW1⟩:∃ W1,W1 = wr.alloc (.cells #[.string ek,.string ev] 80):=⟨_,rfl⟩
   have kb:Ob W1 wr.heap.size 80 [.string ek,.string ev]:=by rw [hW1]; exact Ob.new wr [.string ek,.string ev] 80
   have b1:Below W.heap.size W W1:=by rw [hW1]; exact HB.out.alloc HB.out.size _
   have y0:=kb.cell 0
   have y1:=kb.cell 1
   simp only [List.getElem?_cons_zero,List.getElem?_cons_succ] at y0 y1
   have CK:=key_any ek W1 (by omega)
   have CV:=val_any ev W1 (by omega)
   have HX:=hide hx
   have HB1:=hide b1
   have HCK:=hide CK
   have HCV:=hide CV
   clear hx kb b1 CK CV
   by_cases hke:keyE ek = 0
   ·rw [hke] at HCK
    by_cases hve:valE ev = 0
    ·rw [hve] at HCV
     have HN:Hid (∀ y ∈ es.take (k + 1),enE y = 0):=hide (take_enE HX.out HP.out (by rw [enE_val hke]; exact hve))
     clear hke hve HP
     go_wp2_with fail
     rw [← hW1]
     clear hW1
     refine HCK.out.mono ?_
     rintro e w2 ⟨rfl,rfl⟩
     go_wp2_with fail
     refine HCV.out.mono ?_
     rintro e w2 ⟨rfl,rfl⟩
     go_wp2
     go_roundw
     case rel => exact ⟨k + 1,by omega,by simp,HN,HB1⟩
     case measure => simp [intOf]; omega
    ·have HF:Hid (TBld w W s O T m es (.returned (.tuple #[.int .u64 0,.int .i64 (valE ev)])) W1):=by
      have hq:rightE es = valE ev:=by rw [rightE_at HX.out HP.out (by rw [enE_val hke]; exact hve),enE_val hke]
      exact hide (.inl ⟨by rw [hq]; exact hve,by rw [hq],HB1.out⟩)
     obtain ⟨er,her⟩:∃ er,er = valE ev:=⟨_,rfl⟩
     rw [← her] at HCV HF hve
     have hb:(er != 0) = true:=by simpa using hve
     clear hke hve HP her
     go_wp2_with fail
     rw [← hW1]
     clear hW1
     refine HCK.out.mono ?_
     rintro e w2 ⟨rfl,rfl⟩
     go_wp2_with fail
     refine HCV.out.mono ?_
     rintro e w2 ⟨rfl,rfl⟩
     go_wp2
     refine bodyPost_ret (by simp [results,Tryz.results15,go_sem]; rfl) rfl ?_
     exact HF.out
   ·have HF:Hid (TBld w W s O T m es (.returned (.tuple #[.int .u64 0,.int .i64 (keyE ek)])) W1):=by
     have hq:rightE es = keyE ek:=by rw [rightE_at HX.out HP.out (by rw [enE_key hke]; exact hke),enE_key hke]
     exact hide (.inl ⟨by rw [hq]; exact hke,by rw [hq],HB1.out⟩)
    obtain ⟨er,her⟩:∃ er,er = keyE ek:=⟨_,rfl⟩
    rw [← her] at HCK HF hke
    have hb:(er != 0) = true:=by simpa using hke
    clear hke HP her
    go_wp2_with fail
    rw [← hW1]
    clear hW1
    refine HCK.out.mono ?_
    rintro e w2 ⟨rfl,rfl⟩
    go_wp2
    refine bodyPost_ret (by simp [results,Tryz.results15,go_sem]; rfl) rfl ?_
    exact HF.out
  ·have hf0:firstE enE es = 0:=firstE_none (fun y hy => HP.out y (by rw [List.take_of_length_le (by have:=HNE.out; omega)]; exact hy))
   have CR:=HC2.out wr HB.out
   have HF0:=hide hf0
   have HCR:=hide CR
   clear hf0 CR HP
   go_wp2_with fail
   refine HCR.out.mono ?_
   rintro e w2 ⟨b,rfl,hb,b2⟩
   have HBW:=hide (HB.out.trans (b2.mono HB.out.size))
   have sB:=HB.out.size
   have sB2:=b2.size
   cases b with
   | false =>
    have HF:Hid (TBld w W s O T m es (.returned (.tuple #[.int .u64 0,.int .i64 90])) w2):=by
     have hq:rightE es = 90:=by
      unfold rightE
      rw [if_neg (by rw [HF0.out]; simp),if_neg (fun q => by have:=hb.2 q; cases this)]
     exact hide (.inl ⟨by rw [hq]; decide,by rw [hq],HBW.out⟩)
    clear hb b2
    go_wp2
    refine bodyPost_ret (by simp [results,Tryz.results15,go_sem]; rfl) rfl ?_
    exact HF.out
   | true =>
    have hq:rightE es = 0:=by
     unfold rightE
     rw [if_neg (by rw [HF0.out]; simp),if_pos (hb.1 rfl)]
    have C5:=HC3.out (rightE_map hq) w2 HBW.out
    have HC5:=hide C5
    have HQ:=hide hq
    clear C5 hq hb b2
    go_wp2_with fail
    refine HC5.out.mono ?_
    rintro e w3 ⟨id,O',T',rfl,p1,p2,p2',p3,p4,p5,p6⟩
    have HF:Hid (TBld w W s O T m es (.returned (.tuple #[.int .u64 id,.int .i64 0])) w3):=hide (.inr ⟨HQ.out,id,O',T',rfl,p1,p2,p2',p3,p4,fun i q => (p5 i q).imp (fun z => z) (fun z => by omega),(Onl.ofBelow HBW.out).trans p6⟩)
    clear p1 p2 p2' p3 p4 p5 p6
    go_wp2
    refine bodyPost_ret (by simp [results,Tryz.results15,go_sem]; rfl) rfl ?_
    exact HF.out
end Go.Proofs.YtnblmdmlollmaaaGreat
