import Derived.Shelf.SlSortCmp.QuietGrown
import Derived.Test.YtnblmdmlollmaaaGreatQM39
import Derived.Test.YtnblmdmlollmaaaGreatQM32
import Derived.Test.YtnblmdmlollmaaaGreatQM33
import Derived.Test.YtnblmdmlollmaaaGreatQM35
import Derived.Test.YtnblmdmlollmaaaGreatQM37
import Derived.Test.YtnblmdmlollmaaaGreatQM02
namespace Go.Proofs.YtnblmdmlollmaaaGreat
set_option maxRecDepth 100000
set_option maxHeartbeats 8000000
open Go.RowKit Apo
attribute [local go_sem ↓] Apo.app_exec
def HdP (O:Nat → Prop) (W:World) (hb:Nat) (T:List (List Int)):Prop:=∃ (c:Nat) (M:ByteArray → Option Value),Ms Tryz.prog 9 W hb c M ∧ ¬ O hb ∧
 ∀ key v,M key = some v → ∃ (xid:Nat) (xa:Option Addr) (xc:Nat) (xs:List En),v = .agg #[.int .u64 (xid:Int),.slice xa xs.length xc] ∧ OkN W (lfN xa xc xs) ∧ OffN O (lfN xa xc xs) ∧ xs.length ≤ 1000000 ∧ T[xid - 1]? = some (ndB ⟨0,xs,[]⟩) ∧ 1 ≤ xid ∧ xid ≤ T.length
theorem HdP.step {O O':Nat → Prop} {W W':World} {hb:Nat} {T T':List (List Int)} (h:HdP O W hb T) (o:Onl O W W') (hO:∀ i,O' i → O i ∨ W.heap.size ≤ i) (hT:∀ (i:Nat) (t:List Int),T[i]? = some t → T'[i]? = some t):HdP O' W' hb T':=by
 obtain ⟨c,M,h1,h2,h3⟩:=h
 have hlt:=h1.lt
 refine ⟨c,M,h1.onl o h2,fun q => (hO hb q).elim h2 (fun z => by omega),fun key v hv => ?_⟩
 obtain ⟨xid,xa,xc,xs,e1,e2,e3,e4,e5,e6,e7⟩:=h3 key v hv
 have hT':=hT _ _ e5
 have hl':=(List.getElem?_eq_some_iff.1 hT').1
 refine ⟨xid,xa,xc,xs,e1,OkN.off e2 o e3,⟨fun y hy hp q => ?_,fun y hy => by cases hy⟩,e4,hT',e6,by omega⟩
 rcases hO _ q with z | z
 ·exact e3.1 y hy hp z
 ·obtain ⟨x0,hx0⟩:∃ x0,xs[0]? = some x0:=⟨xs[0]'hp,List.getElem?_eq_getElem hp⟩
  obtain ⟨g,of,f1,f2,_⟩:=e2.es 0 x0 hx0
  have hgl:=World.block_lt_of_cell? _ _ f2
  have hy':xa = some y:=hy
  rw [hy'] at f1
  cases f1
  simp only at z hgl
  omega
theorem zero_leaf:∀ W,(zeroValue 100).run Tryz.prog W = .ok (.agg #[.int .u64 0,.slice none 0 0]) W:=fun W => by kernel_rfl
theorem HdP.look {O:Nat → Prop} {W:World} {hb:Nat} {T:List (List Int)} (h:HdP O W hb T) {key:ByteArray} (hk:key.size ≤ maxLen):∃ (xid:Nat) (xa:Option Addr) (xs:List En) (xc:Nat) (is:Bool),(∀ W',Below W.heap.size W W' → (Instr.lookup 90 (.map (some hb)) (.string key) true).run Tryz.prog W' = .ok (.tuple #[.agg #[.int .u64 (xid:Int),.slice xa xs.length xc],.bool is]) W') ∧ (is = true → OkN W (lfN xa xc xs) ∧ xs.length ≤ 1000000 ∧ T[xid - 1]? = some (ndB ⟨0,xs,[]⟩) ∧ 1 ≤ xid ∧ xid ≤ T.length):=by
 obtain ⟨c,M,h1,h2,h3⟩:=h
 have hl:∀ W',Below W.heap.size W W' → _:=fun W' b => (h1.below b).look2 Tryz.underlying9 Tryz.underlying90 zero_leaf hk
 cases hM:M key with
 | none =>
  refine ⟨0,none,[],0,false,fun W' b => ?_,fun q => by cases q⟩
  have:=hl W' b
  rw [hM] at this
  exact this
 | some v =>
  obtain ⟨xid,xa,xc,xs,e1,e2,e3,e4,e5,e6,e7⟩:=h3 key v hM
  refine ⟨xid,xa,xs,xc,true,fun W' b => ?_,fun _ => ⟨e2,e4,e5,e6,e7⟩⟩
  have:=hl W' b
  rw [hM,e1] at this
  exact this
theorem lastK_size {W:World} {ea:Option Addr} {ec:Nat} {r:List En} (h:OkN W (lfN ea ec r)):(lastK ⟨0,r,[]⟩).size ≤ maxLen:=by
 unfold lastK Nd.keys
 simp only [List.map_nil,List.append_nil]
 cases hq:(r.map En.k).getLast? with
 | none => simp
 | some k =>
  have hm:=List.mem_of_getLast? hq
  obtain ⟨e,he,rfl⟩:=List.mem_map.1 hm
  exact (h.sz e he).1
theorem tlvm_any {w W:World} {s m:Nat} {O:Nat → Prop} {T:List (List Int)} (h:TSw w W s O T m) (hb:Nat) (hd:HdP O W hb T) (ea:Option Addr) (ec:Nat) (es:List En) (hr:RdEn W ea es) (hen:ea = none → ec = 0) (hel:es.length ≤ 1000000) (hz:∀ e ∈ es,e.k.size ≤ 1099511627776) (hg:∀ n ∈ lvns  (splitN (fun e:En => endsN 0 e.k) es),GoodN n) (hm:m + pagesN (lvns  (splitN (fun e:En => endsN 0 e.k) es)) ≤ 4096) (hT:T.length + es.length ≤ 16000) :
  Calls Tryz.prog 88 #[.agg (bldV s (.map (some hb))),.slice ea es.length ec] W (TKids w W s O T m (lvns  (splitN (fun e:En => endsN 0 e.k) es))):=by
 obtain ⟨rows,hrows⟩:∃ rows,rows = splitN (fun e:En => endsN 0 e.k) es:=⟨_,rfl⟩
 obtain ⟨ns,hns⟩:∃ ns,ns = lvns  rows:=⟨_,rfl⟩
 have hrl:rows.length ≤ es.length:=by rw [hrows]; exact split_len _ _
 have hnl:ns.length = rows.length:=by rw [hns]; simp [lvns]
 have hat:∀ (k:Nat) (r:List En),rows[k]? = some r → ns[k]? = some (⟨0,r,[]⟩:Nd):=fun k r hk => by rw [hns]; simp [lvns,hk]
 simp only [bldV]
 obtain ⟨W1,hW1⟩:∃ W1,W1 = W.alloc (.cells #[.func (.func 46) #[.pointer (some ⟨s,0,none⟩)] #[],.map (some hb)] 92):=⟨_,rfl⟩
 have s1:W1.heap.size = W.heap.size + 1:=by rw [hW1]; simp
 have kb1:Ob W1 W.heap.size 92 [.func (.func 46) #[.pointer (some ⟨s,0,none⟩)] #[],.map (some hb)]:=by rw [hW1]; exact Ob.new W [.func (.func 46) #[.pointer (some ⟨s,0,none⟩)] #[],.map (some hb)] 92
 have b1:Below W.heap.size W W1:=by rw [hW1]; exact (Below.refl _ W).alloc (Nat.le_refl _) _
 have C1:=split_En ea ec es W1 (hr.below b1) hen hel hz
 rw [← hrows] at C1 hg hm ⊢
 rw [← hns] at hg hm ⊢
 have hlo:=h.lo
 have hhi:=h.hi
 have hbw:=h.bel.size
 have HHD:=hide hd
 have HH:=hide h
 have HC1:=hide C1
 have HG:=hide hg
 have HM:=hide hm
 have HAT:=hide hat
 have HKB:=hide kb1
 have HB1:=hide b1
 have HLO:=hide hlo
 have HHI:=hide hhi
 have HNL:=hide hnl
 skip
 obtain ⟨ne,hne⟩:∃ ne,ne = es.length:=⟨_,rfl⟩
 rw [← hne] at HC1 hT hrl ⊢
 clear hd h C1 hg hat kb1 b1 hlo hhi hns hrows hr hz hel hnl hne
 go_enter Tryz.func88,Tryz.ntmps88
 go_wp2_with fail
 rw [← hW1]
 clear hW1
 refine HC1.out.mono ?_
 rintro e w1 ⟨rv,vs,rfl,R1,b2⟩
 obtain ⟨ra,rc,hrv,hrc1,hrc2,hrn,hrx⟩:=R1.row.form
 have hvl:=R1.len
 rw [hvl] at hrv
 obtain ⟨nr,hnr⟩:∃ nr,nr = rows.length:=⟨_,rfl⟩
 rw [← hnr] at hrv hvl hrl HNL
 subst hrv
 have hcell:∀ k,k < nr → ∃ g u r,ra = some ⟨g,0,none⟩ ∧ vs[k]? = some u ∧ rows[k]? = some r ∧ ∀ W',Onl O w1 W' → W'.cell? ⟨g,k,none⟩ = some u:=fun k hk => by
  obtain ⟨g,cap,e1,e2,e3,e4,e5,e6,_⟩:=R1.row.shape (by omega)
  injection e1 with e1 _ _
  refine ⟨g,vs[k]'(by omega),rows[k]'(by omega),e1,List.getElem?_eq_getElem (by omega),List.getElem?_eq_getElem (by omega),fun W' o => ?_⟩
  have hbk:=o.block g e3 (fun q => by have:=HHI.out _ q; omega)
  rw [World.cell?_of_block (a:=⟨g,k,none⟩) hbk,e6 k (by omega)]
  exact List.getElem?_eq_getElem (by omega)
 have HCELL:=hide hcell
 have HR1:=hide R1
 have HB2:=hide b2
 have sz2:=b2.size
 have hk2:=HKB.out.old b2
 have HK2:=hide hk2
 have HW1:=hide ((HH.out.below HB1.out).below b2)
 have hnr2:nr ≤ 9223372036854775807:=by omega
 have HNR:=hide hnr
 clear hcell R1 b2 hk2 hvl hnr hrn hrx
 go_wp2
 go_loopw [6,14] (fun u i wr => ∃ (k:Nat) (ks:List Ki) (O':Nat → Prop) (va:Option Addr) (nk vc:Nat),k ≤ nr ∧ i = .int .i64 k ∧ u = .slice va nk vc ∧ Hid (nk = ks.length) ∧ Hid (Row (fun g => ¬ O' g ∧ w1.heap.size ≤ g) wr 53 2 (.slice va nk vc) ks.length (kcells ks)) ∧ Hid (Kids (putNs T (ns.take k)) (ns.take k) ks) ∧ Hid (TSw w wr s O' (putNs T (ns.take k)) (m + pagesN (ns.take k))) ∧ Hid (∀ i,O' i → O i ∨ w1.heap.size ≤ i) ∧ Hid (Onl O w1 wr)) (fun _ i _ => nr - (intOf i).toNat)
 case atStart => exact ⟨0,[],O,none,0,0,Nat.zero_le _,rfl,rfl,hide rfl,hide (Row.nil _ _ _ _),hide (by simp only [List.take_zero]; exact Kids.nil _),hide (by simpa [putNs,pagesN] using HW1.out),hide (fun i q => .inl q),hide (Onl.refl _ _)⟩
 case round =>
  obtain ⟨k,ks,O',va,nk,vc,hk,rfl,rfl,HNK2,HRW,HKD,HTS,HSUB,HON⟩:=hrel
  by_cases hkn:k < nr
  ·obtain ⟨g,u,r,rfl,hu,hrk,hcl⟩:=HCELL.out k hkn
   have hce:=hcl wr HON.out
   have hnk:=HAT.out k r hrk
   obtain ⟨G,off,e1,e2,e3,e4,e5,cs,e6⟩:=(HR1.out.off HON.out (fun i q => by have:=HHI.out i q; omega)).fin k u r hu hrk
   subst e1
   have gn:=HG.out _ (List.mem_of_getElem? hnk)
   have htk:ns.take (k + 1) = ns.take k ++ [(⟨0,r,[]⟩:Nd)]:=by rw [List.take_add_one,hnk]; rfl
   have hpg:=pagesN_take ns (k + 1)
   rw [htk,pagesN_append] at hpg
   have hp1:pagesN [(⟨0,r,[]⟩:Nd)] = needP (ndB (⟨0,r,[]⟩:Nd)).length:=by simp [pagesN]
   have hpl:=putNs_len T (ns.take k)
   have hkl:(ns.take k).length ≤ nr:=by rw [List.length_take,HNL.out]; omega
   have hGw:=(e6.onl (Onl.refl O wr) (fun q => by have:=HHI.out _ q; omega)).lt
   have hG1:G < w1.heap.size:=by
    obtain ⟨G2,off2,f1,f2,f3,f4,f5,cs2,f6⟩:=HR1.out.fin k _ r hu hrk
    injection f1 with f1 _ _
    injection f1 with f1
    injection f1 with f1 _ _
    rw [f1]
    exact f6.lt
   have hnO:¬ O' G:=fun q => by
    rcases HSUB.out G q with z | z
    ·have:=HHI.out G z; omega
    ·omega
   have okx:OkN wr (lfN (some ⟨G,off,none⟩) r.length r):=okN_lf e2 (fun q => by cases q) (Nat.le_refl _) e4 gn.ok
   have hdr:HdP O' wr hb (putNs T (ns.take k)):=HHD.out.step ((Onl.ofBelow (HB1.out.trans (HB2.out.mono (by omega)))).trans HON.out) (fun i q => (HSUB.out i q).imp id (fun z => by omega)) (fun i t q => putNs_keeps q _)
   obtain ⟨xid,xa,xs,xc,is,hlook,hyes⟩:=hdr.look (lastK_size okx)
   have C3:=tleafm_any HTS.out (by omega) (some ⟨G,off,none⟩) r.length r okx ⟨fun y hy _ q => by cases hy; exact hnO q,fun y hy => by cases hy⟩ gn.small.1 gn.ok (Nat.le_trans gn.len (by decide)) (by have:=HM.out; omega) gn.byt hb xid xa xs xc is hlook hyes
   have kbr:=HK2.out.onl HON.out (fun q => by have:=HHI.out _ q; omega)
   have c0:=kbr.cell 0
   have c1:=kbr.cell 1
   simp only [List.getElem?_cons_zero,List.getElem?_cons_succ] at c0 c1
   simp only [bldV] at C3
   have HC3:=hide C3
   have HTK:=hide htk
   have HP1:=hide hp1
   obtain ⟨rl,hrl2⟩:∃ rl,rl = r.length:=⟨_,rfl⟩
   rw [← hrl2] at HC3 hce
   have hrl3:rl ≤ maxLen:=by rw [hrl2]; exact e4
   have hgx:=HON.out.size
   clear hdr hlook hyes C3 htk hp1 hcl hnk hrk hu e2 e3 e6 gn okx kbr hrl2
   go_wp2_with fail
   refine HC3.out.mono ?_
   rintro e w6 ⟨id,rfl,p1,p2,p3,t6,o6⟩
   obtain ⟨LK,hLK⟩:∃ LK,LK = lastK (⟨0,r,[]⟩:Nd):=⟨_,rfl⟩
   rw [← hLK]
   have sO6:=o6.size
   have rw6:Row (fun g => ¬ Gro O' wr w6 g ∧ w1.heap.size ≤ g) w6 53 2 (.slice va nk vc) ks.length (kcells ks):=by
    refine ⟨(HRW.out.onl o6 (fun g hg => (HRW.out.2 g hg).1)).1,fun g hg => ⟨fun q => ?_,(HRW.out.2 g hg).2⟩⟩
    rcases q with q | q
    ·exact (HRW.out.2 g hg).1 q
    ·have:=HRW.out.lt g hg; have:=q.1; omega
   obtain ⟨w7,hw7⟩:∃ w7,w7 = w6.alloc (.cells #[.string LK,.int .u64 (id:Int)] 53):=⟨_,rfl⟩
   have b7:Below w6.heap.size w6 w7:=by rw [hw7]; exact (Below.refl _ w6).alloc (Nat.le_refl _) _
   have rw7:=rw6.onl (F:=fun _ => False) (Onl.ofBelow b7) (fun _ _ q => q)
   have t7:=t6.below b7
   have k7:Ob w7 w6.heap.size 53 [.string LK,.int .u64 (id:Int)]:=by rw [hw7]; exact Ob.new w6 [.string LK,.int .u64 (id:Int)] 53
   have s7:w7.heap.size = w6.heap.size + 1:=by rw [hw7]; simp
   have hkc:ks.length ≤ 1000000:=by have:=HKD.out.1; rw [this]; omega
   have o7:Onl O' wr w7:=o6.trans (Onl.ofBelow b7)
   have q0:=k7.cell 0
   have q1:=k7.cell 1
   simp only [List.getElem?_cons_zero,List.getElem?_cons_succ] at q0 q1
   obtain ⟨v8,w8,RR,r8,o8⟩:=app_Ki rw7 hkc ⟨LK,id⟩
   simp only at RR
   have f8:=r8.form
   obtain ⟨va8,vc8,hva8,_⟩:=f8
   subst hva8
   obtain ⟨n8,hn8⟩:∃ n8,n8 = (ks ++ [(⟨LK,id⟩:Ki)]).length:=⟨_,rfl⟩
   rw [← hn8] at RR r8
   have HN8:=hide hn8
   obtain ⟨x1,x2,x3⟩:=app_runs RR
   rw [s7] at x1 x2 x3
   have HF:Hid (∃ (ks8:List Ki) (O8:Nat → Prop),n8 = ks8.length ∧ Row (fun g => ¬ O8 g ∧ w1.heap.size ≤ g) w8 53 2 (.slice va8 n8 vc8) ks8.length (kcells ks8) ∧ Kids (putNs T (ns.take (k + 1))) (ns.take (k + 1)) ks8 ∧ TSw w w8 s O8 (putNs T (ns.take (k + 1))) (m + pagesN (ns.take (k + 1))) ∧ (∀ i,O8 i → O i ∨ w1.heap.size ≤ i) ∧ Onl O w1 w8):=by
    refine hide ⟨ks ++ [⟨LK,id⟩],Gro O' wr w6,HN8.out,?_,?_,?_,?_,?_⟩
    ·rw [← HN8.out]
     refine r8.mono (fun i q => ?_)
     rcases q with q | q
     ·exact q
     ·subst q
      exact ⟨fun z => by have:=t7.hi _ z; omega,by omega⟩
    ·rw [HTK.out,putNs_snoc]
     exact HKD.out.snoc hLK p1 p2
    ·rw [HTK.out,putNs_snoc,pagesN_append,HP1.out,← Nat.add_assoc]
     exact t7.onl o8 (fun i q z => z.1 q) (fun i q => by have:=q.2; have:=HW1.out.bel.size; omega)
    ·intro i q
     rcases q with q | q
     ·exact HSUB.out i q
     ·exact .inr (by have:=q.1; omega)
    ·exact (HON.out.more o7 (fun i q => HSUB.out i q)).more o8 (fun i q => .inr q.2)
   have HX:=hide (And.intro p1 (And.intro p2 p3))
   clear RR r8 o8 p1 p2 p3 t6 o6 o7 rw6 rw7 t7 k7 b7 hLK hn8 HRW HKD HTS HSUB HON
   subst hw7
   go_wp2
   go_roundw
   case rel =>
    obtain ⟨ks8,O8,a0,a1,a2,a3,a4,a5⟩:=HF.out
    exact ⟨k + 1,ks8,O8,va8,n8,vc8,by omega,by simp,rfl,hide a0,hide a1,hide a2,hide a3,hide a4,hide a5⟩
   case measure => simp [intOf]; omega
  ·obtain rfl:k = nr:=by omega
   have HF:Hid (TKids w W s O T m ns (.returned (.tuple #[.slice va nk vc,.int .i64 0])) wr):=by
    have htn:ns.take k = ns:=List.take_of_length_le (by rw [HNL.out]; omega)
    have h1:=HRW.out
    have h2:=HKD.out
    have h3:=HTS.out
    rw [htn] at h2 h3
    refine hide ⟨.slice va nk vc,ks,O',rfl,h1.mono (fun i q => ⟨q.1,by omega⟩),h2,h3,fun i q => (HSUB.out i q).imp id (fun z => by omega),?_⟩
    exact (Onl.ofBelow (HB1.out.trans (HB2.out.mono (by omega)))).trans HON.out
   clear HRW HKD HTS HSUB HON
   go_wp2
   refine bodyPost_ret (by simp [results,Tryz.results88,go_sem]; rfl) rfl ?_
   exact HF.out
end Go.Proofs.YtnblmdmlollmaaaGreat
namespace Go.Proofs.YtnblmdmlollmaaaGreat
set_option maxRecDepth 100000
set_option maxHeartbeats 8000000
open Go.RowKit Apo
theorem tbuildm_any {w W:World} {s m:Nat} {O:Nat → Prop} {T:List (List Int)} (h:TSw w W s O T m) (hb:Nat) (hd:HdP O W hb T) (ea:Option Addr) (ec:Nat) (es:List En) (hr:RdEn W ea es) (hen:ea = none → ec = 0) (hel:es.length ≤ 100) (hok:MapOk es) (hm:m + 23 * es.length ≤ 4096) (hT:T.length + 22 * es.length ≤ 15000) :
  Calls Tryz.prog 47 #[.agg (bldV s (.map (some hb))),.slice ea es.length ec] W (TRoot w W s O T m es):=by
 obtain ⟨W1,hW1⟩:∃ W1,W1 = W.alloc (.cells #[.func (.func 46) #[.pointer (some ⟨s,0,none⟩)] #[],.map (some hb)] 92):=⟨_,rfl⟩
 have s1:W1.heap.size = W.heap.size + 1:=by rw [hW1]; simp
 have kb1:Ob W1 W.heap.size 92 [.func (.func 46) #[.pointer (some ⟨s,0,none⟩)] #[],.map (some hb)]:=by rw [hW1]; exact Ob.new W [.func (.func 46) #[.pointer (some ⟨s,0,none⟩)] #[],.map (some hb)] 92
 have b1:Below W.heap.size W W1:=by rw [hW1]; exact (Below.refl _ W).alloc (Nat.le_refl _) _
 obtain ⟨g1,g2⟩:=hok.leaves (by omega)
 have C1:=tlvm_any (h.below b1) hb (hd.step (Onl.ofBelow b1) (fun i q => .inl q) (fun i t q => q)) ea ec es (hr.below b1) hen (by omega) (fun e he => by have:=hok.key e he; omega) g1 (by omega) (by omega)
 simp only [bldV] at C1 ⊢
 obtain ⟨ne,hne⟩:∃ ne,ne = es.length:=⟨_,rfl⟩
 have hhi:=h.hi
 have hbw:=h.bel.size
 have HC1:=hide C1
 have HKB:=hide kb1
 have HB1:=hide b1
 have HHI:=hide hhi
 have HOK:=hide hok
 have HG2:=hide g2
 have HG1:=hide g1
 have HNE:=hide hne
 rw [← hne] at HC1 hel hm hT ⊢
 clear hd C1 kb1 b1 hhi hok g1 g2 h hr hne
 go_enter Tryz.func47,Tryz.ntmps47
 go_wp2_with fail
 rw [← hW1]
 clear hW1
 refine HC1.out.mono ?_
 rintro e w1 ⟨v1,ks1,O1,rfl,r1,k1,t1,u1,o1⟩
 obtain ⟨va1,vc1,hv1,hx1,hx2,hx3,hx4⟩:=r1.form
 have sz1:=o1.size
 have H0:Hid (∃ T',Can T' es 0 ks1 ∧ (Sub T T' ∧ (TxOk T → TxOk T')) ∧ T'.length ≤ T.length + (0 + 1) * ne ∧ TSw w w1 s O1 T' (m + 3 * ne + 0 * ne)):=by
  refine hide ⟨_,k1,⟨Sub.put _ _,fun q => q.puts HG1.out⟩,?_,t1.pages (by have:=HG2.out; rw [← HNE.out] at this; omega)⟩
  have h1:=putNs_len T (lvns (splitN (fun e:En => endsN 0 e.k) es))
  have h2:(lvns (splitN (fun e:En => endsN 0 e.k) es)).length ≤ ne:=by rw [HNE.out]; simp only [lvns,List.length_map]; exact split_len _ _
  omega
 obtain ⟨n1,hn1⟩:∃ n1,n1 = ks1.length:=⟨_,rfl⟩
 rw [← hn1] at hv1
 subst hv1
 have HR1:=hide r1
 have HU1:=hide u1
 have HO1:=hide o1
 have HN1:=hide hn1
 clear r1 k1 t1 u1 o1 hx1 hx2 hx3 hx4 hn1
 go_wp2
 go_loopw [6,7,8] (fun u er i wr => ∃ (l:Nat) (ks:List Ki) (O':Nat → Prop) (va:Option Addr) (nk vc:Nat),l ≤ 20 ∧ i = .int .i64 ((l + 1:Nat):Int) ∧ er = .int .i64 0 ∧ u = .slice va nk vc ∧ Hid (nk = ks.length) ∧ Hid (Row (fun g => ¬ O' g ∧ W1.heap.size ≤ g) wr 53 2 (.slice va nk vc) ks.length (kcells ks)) ∧ Hid (∃ T',Can T' es l ks ∧ (Sub T T' ∧ (TxOk T → TxOk T')) ∧ T'.length ≤ T.length + (l + 1) * ne ∧ TSw w wr s O' T' (m + 3 * ne + l * ne)) ∧ Hid (∀ i,O' i → O i ∨ W1.heap.size ≤ i) ∧ Hid (Onl O W1 wr)) (fun _ _ i _ => 22 - (intOf i).toNat)
 case atStart => exact ⟨0,ks1,O1,va1,n1,vc1,by omega,rfl,rfl,rfl,HN1,HR1,H0,HU1,HO1⟩
 case round =>
  obtain ⟨l,ks,O',va,nk,vc,hl,rfl,rfl,rfl,HNK,HRW,HCT,HSUB,HON⟩:=hrel
  by_cases hgo:1 < nk
  ·have hl2:l < 20:=by
    obtain ⟨T',c1,_⟩:=HCT.out
    by_cases q:l < 20
    ·exact q
    ·obtain rfl:l = 20:=by omega
     have:=c1.top
     have:=HNK.out
     omega
   have hd:decide ((1:Int) < (nk:Int)) = true:=decide_eq_true (by omega)
   obtain ⟨T',c1,c2,c3,c4⟩:=HCT.out
   have hne2:=HNE.out
   have hTl:T'.length + ne ≤ 16000 ∧ T'.length ≤ 16000:=by
    have:(l + 1) * ne ≤ 21 * ne:=Nat.mul_le_mul_right _ (by omega)
    omega
   obtain ⟨g1,g2⟩:=c1.up HOK.out (by omega) (by omega) hl2
   have hlen:=c1.len
   have hln2:l * ne ≤ 19 * ne:=Nat.mul_le_mul_right _ (by omega)
   obtain ⟨xa,xc,x1,x2,x3,x4,x5⟩:=rd_kcells HRW.out
   rw [← HNK.out] at x1
   injection x1 with y1 y2 y3
   subst y1 y3
   have C2:=tab_any c4 (some hb) ((l + 1:Nat):Int) ⟨by omega,by omega⟩ va vc ks x2 x5 (by omega) (fun e he => by
    have:=c1.keys.subset (List.mem_map.2 ⟨e,he,rfl⟩)
    obtain ⟨e',he',q⟩:=List.mem_map.1 this
    rw [← q]
    have:=HOK.out.key e' he'
    omega) g1 (by omega) (by omega) (fun e he => by have:=c1.ids e he; omega)
   rw [← HNK.out] at C2
   simp only [bldV] at C2
   have kbr:=HKB.out.onl HON.out (fun q => by have:=HHI.out _ q; omega)
   have d0:=kbr.cell 0
   have d1:=kbr.cell 1
   simp only [List.getElem?_cons_zero,List.getElem?_cons_succ] at d0 d1
   have HC2:=hide C2
   have HX:=hide (And.intro c1 (And.intro c2 (And.intro c3 (And.intro g2 hlen))))
   have HG1':=hide g1
   have hwl:IntKind.i64.wrap (((l + 1:Nat):Int) + 1) = ((l + 1 + 1:Nat):Int):=by rw [IntKind.wrap_i64]; omega
   have sr:=HON.out.size
   clear C2 kbr c1 c2 c3 c4 g1 g2 x2 x3 x4 x5 HCT hlen hne2
   go_wp2_with fail
   refine HC2.out.mono ?_
   rintro e w3 ⟨v3,ks3,O3,rfl,r3,k3,t3,u3,o3⟩
   obtain ⟨va3,vc3,hv3,_⟩:=r3.form
   obtain ⟨n3,hn3⟩:∃ n3,n3 = ks3.length:=⟨_,rfl⟩
   rw [← hn3] at hv3
   subst hv3
   have HF:Hid (Row (fun g => ¬ O3 g ∧ W1.heap.size ≤ g) w3 53 2 (.slice va3 n3 vc3) ks3.length (kcells ks3) ∧ (∃ T',Can T' es (l + 1) ks3 ∧ (Sub T T' ∧ (TxOk T → TxOk T')) ∧ T'.length ≤ T.length + (l + 1 + 1) * ne ∧ TSw w w3 s O3 T' (m + 3 * ne + (l + 1) * ne)) ∧ (∀ i,O3 i → O i ∨ W1.heap.size ≤ i) ∧ Onl O W1 w3):=by
    obtain ⟨c1,c2,c3,g2,hlen⟩:=HX.out
    refine hide ⟨r3.mono (fun i q => ⟨q.1,by omega⟩),⟨_,⟨ks,Can.sub (Sub.put _ _) c1,by have:=HNK.out; omega,k3⟩,⟨c2.1.trans (Sub.put _ _),fun q => (c2.2 q).puts HG1'.out⟩,?_,t3.pages ?_⟩,?_,HON.out.more o3 (fun i q => HSUB.out i q)⟩
    ·have h1:=putNs_len T' (abns ((l + 1:Nat):Int) (splitN (fun e:Ki => endsN ((l + 1:Nat):Int) e.k) ks))
     have h2:(abns ((l + 1:Nat):Int) (splitN (fun e:Ki => endsN ((l + 1:Nat):Int) e.k) ks)).length ≤ ks.length:=by simp only [abns,List.length_map]; exact split_len _ _
     rw [Nat.add_mul (l + 1) 1 ne]
     have:=HNE.out
     omega
    ·rw [Nat.add_mul l 1 ne]
     have:=HNE.out
     omega
    ·intro i q
     rcases u3 i q with z | z
     ·exact HSUB.out i z
     ·exact .inr (by omega)
   have HN3:=hide hn3
   clear r3 k3 t3 u3 o3 hn3 HX HRW HSUB HON
   go_wp2
   go_roundw
   case rel =>
    obtain ⟨a1,a2,a3,a4⟩:=HF.out
    exact ⟨l + 1,ks3,O3,va3,n3,vc3,by omega,by simp,rfl,rfl,HN3,hide a1,hide a2,hide a3,hide a4⟩
   case measure => simp [intOf]; omega
  ·have hd:decide ((1:Int) < (nk:Int)) = false:=decide_eq_false (by omega)
   obtain ⟨T',c1,c2,c3,c4⟩:=HCT.out
   have hln2:l * ne ≤ 20 * ne:=Nat.mul_le_mul_right _ hl
   have hln3:(l + 1) * ne ≤ 21 * ne:=Nat.mul_le_mul_right _ (by omega)
   have HF:Hid (∀ id:Nat,id = topI ks → TRoot w W s O T m es (.returned (.tuple #[.int .u64 id,.int .i64 0])) wr):=by
    refine hide (fun id hid => ⟨id,O',T',rfl,⟨l,ks,c1,hl,by have:=HNK.out; omega,hid⟩,c2.1,c2.2,by have:=HNE.out; omega,c4.pages (by have:=HNE.out; omega),fun i q => (HSUB.out i q).imp (fun z => z) (fun z => by omega),(Onl.ofBelow HB1.out).trans HON.out⟩)
   clear c1 c2 c3 c4 hln2 hln3 HCT
   by_cases hz:nk = 0
   ·have hz2:((nk:Int) == 0) = true:=by simp; omega
    have HFF:=hide (HF.out 0 (by
     have:=HNK.out
     cases ks with
     | nil => rfl
     | cons k ks => simp at this; omega))
    clear HF hz HRW HSUB HON HNK
    go_wp2
    refine bodyPost_ret (by simp [results,Tryz.results47,go_sem]; rfl) rfl ?_
    exact HFF.out
   ·have hz2:((nk:Int) == 0) = false:=by simp; omega
    obtain ⟨k,hks⟩:∃ k,ks = [k]:=by
     have:=HNK.out
     cases ks with
     | nil => simp at this; omega
     | cons k ks =>
      cases ks with
      | nil => exact ⟨k,rfl⟩
      | cons k2 ks => simp at this; omega
    subst hks
    have HFF:=hide (HF.out k.i rfl)
    obtain ⟨g,cap,e1,e2,e3,e4,e5,e6,_⟩:=HRW.out.shape (by simp)
    injection e1 with y1 y2 y3
    have y2':nk = 1:=by simpa using HNK.out
    subst y1
    have e7:=e6 1 (by simp)
    simp only [kcells,List.flatMap_cons,List.flatMap_nil,List.append_nil,List.getElem?_cons_succ,List.getElem?_cons_zero] at e7
    have hd0:decide ((0:Int) < (nk:Int)) = true:=decide_eq_true (by omega)
    subst y2'
    clear HF hz HRW HSUB HON HNK e2 e3 e4 e5 e6 y2 y3
    go_wp2
    refine bodyPost_ret (by simp [results,Tryz.results47,go_sem]; rfl) rfl ?_
    exact HFF.out
end Go.Proofs.YtnblmdmlollmaaaGreat
namespace Go.Proofs.YtnblmdmlollmaaaGreat
set_option maxRecDepth 100000
set_option maxHeartbeats 8000000
open Go.RowKit Go.Shelf Apo
def HdL (U:Nat → Prop) (A:World) (M:ByteArray → Option Value) (T:List (List Int)):Prop :=
 ∀ key v,M key = some v → ∃ (xid:Nat) (xa:Option Addr) (xc:Nat) (xs:List En),v = .agg #[.int .u64 (xid:Int),.slice xa xs.length xc] ∧ OkN A (lfN xa xc xs) ∧ OffN U (lfN xa xc xs) ∧ xs.length ≤ 1000000 ∧ T[xid - 1]? = some (ndB ⟨0,xs,[]⟩) ∧ 1 ≤ xid ∧ xid ≤ T.length
section
variable {U U' O:Nat → Prop} {A A':World} {M:ByteArray → Option Value} {T:List (List Int)}
theorem HdL.none (U:Nat → Prop) (A:World) (T:List (List Int)):HdL U A (fun _ => none) T:=fun _ _ h => by cases h
theorem HdL.step (h:HdL U A M T) (o:Onl U A A') (hU:∀ i,U' i → U i ∨ A.heap.size ≤ i):HdL U' A' M T:=by
 intro key v hv
 obtain ⟨xid,xa,xc,xs,e1,e2,e3,e4,e5,e6,e7⟩:=h key v hv
 refine ⟨xid,xa,xc,xs,e1,OkN.off e2 o e3,⟨fun y hy hp q => ?_,fun y hy => by cases hy⟩,e4,e5,e6,e7⟩
 rcases hU _ q with z | z
 ·exact e3.1 y hy hp z
 ·obtain ⟨x0,hx0⟩:∃ x0,xs[0]? = some x0:=⟨xs[0]'hp,List.getElem?_eq_getElem hp⟩
  obtain ⟨g,of,f1,f2,_⟩:=e2.es 0 x0 hx0
  have hgl:=World.block_lt_of_cell? _ _ f2
  have hy':xa = some y:=hy
  rw [hy'] at f1
  cases f1
  simp only at z hgl
  omega
theorem HdL.below (h:HdL U A M T) (b:Below A.heap.size A A'):HdL U A' M T:=h.step (Onl.ofBelow b) (fun _ q => .inl q)
theorem HdL.put {xid:Nat} {xa:Option Addr} {xc:Nat} {xs:List En} (h:HdL U A M T) (key:ByteArray) (h1:OkN A (lfN xa xc xs)) (h2:OffN U (lfN xa xc xs)) (h3:xs.length ≤ 1000000) (h4:T[xid - 1]? = some (ndB ⟨0,xs,[]⟩)) (h5:1 ≤ xid) (h6:xid ≤ T.length):HdL U A (updS M key (some (.agg #[.int .u64 (xid:Int),.slice xa xs.length xc]))) T:=by
 intro k v hv
 by_cases q:k = key
 ·subst q
  rw [updS_same] at hv
  cases hv
  exact ⟨xid,xa,xc,xs,rfl,h1,h2,h3,h4,h5,h6⟩
 ·rw [updS_other _ _ q] at hv
  exact h k v hv
theorem HdL.hd {hb c:Nat} (h:HdL U A M T) (hM:Ms Tryz.prog 9 A hb c M) (hO:∀ i,O i → U i) (hn:¬ O hb):HdP O A hb T:=by
 refine ⟨c,M,hM,hn,fun key v hv => ?_⟩
 obtain ⟨xid,xa,xc,xs,e1,e2,e3,e4,e5,e6,e7⟩:=h key v hv
 exact ⟨xid,xa,xc,xs,e1,e2,⟨fun y hy hp q => e3.1 y hy hp (hO _ q),fun y hy => by cases hy⟩,e4,e5,e6,e7⟩
end
structure EdJ (W:World) (O:Nat → Prop) (T:List (List Int)) (b d:Nat) (r:Loop) (it:Nat → Nat × List En) (k:Nat) (U:Nat → Prop) (A:World):Prop where
 lp:LpAt d r A
 bel:Below W.heap.size W A
 k0:Ob A W.heap.size 31 [.int .u64 0]
 k1:Ob A (W.heap.size + 1) 32 [.int .i64 0]
 kh:Ob A (b + 2) 90 [.map (some (b + 1))]
 row:∃ v,Ob A b 22 [v] ∧ Row (fun g => d + 2 ≤ g) A 80 2 v (esK it k).length (ecells (esK it k)) ∧ (∃ M,Ms Tryz.prog 9 A (b + 1) k M ∧ HdL U A M T) ∧ ∀ i,U i ↔ (O i ∨ i = b ∨ i = b + 1 ∨ v.ownBlock = some i)
section
variable {W A B:World} {O U:Nat → Prop} {T:List (List Int)} {b d k:Nat} {r:Loop} {it:Nat → Nat × List En}
theorem EdJ.below (h:EdJ W O T b d r it k U A) (hb:Below A.heap.size A B):EdJ W O T b d r it k U B:=by
 obtain ⟨v,v1,v2,⟨M,m1,m2⟩,v3⟩:=h.row
 exact ⟨h.lp.below hb,h.bel.trans (hb.mono h.bel.size),h.k0.old hb,h.k1.old hb,h.kh.old hb,v,v1.old hb,v2.onl (F:=fun _ => False) (Onl.ofBelow hb) (fun _ _ q => q),⟨M,m1.below hb,m2.below hb⟩,v3⟩
theorem EdJ.lt (h:EdJ W O T b d r it k U A) (hO:∀ i,O i → i < W.heap.size):∀ i,U i → i < A.heap.size:=by
 obtain ⟨v,v1,v2,⟨M,m1,m2⟩,v3⟩:=h.row
 intro i q
 rcases (v3 i).1 q with q | rfl | rfl | q
 ·exact Nat.lt_of_lt_of_le (hO i q) h.bel.size
 ·exact v1.lt
 ·exact m1.lt
 ·exact v2.lt i q
end
def EdR (W:World) (O:Nat → Prop) (T:List (List Int)) (b d:Nat) (r:Loop) (it:Nat → Nat × List En) (k:Nat) (U:Nat → Prop) (A A':World):Prop:=∃ U',EdJ W O T b d r it k U' A' ∧ Onl U A A' ∧ ∀ i,U' i → U i ∨ A.heap.size ≤ i
end Go.Proofs.YtnblmdmlollmaaaGreat
namespace Go.Proofs.YtnblmdmlollmaaaGreat
set_option maxRecDepth 100000
set_option maxHeartbeats 8000000
open Go.RowKit Apo
def RoE (w:World) (g:Nat) (d:List Ed) (ex:List Value):Prop:=Ob w g 63 (gcells cEd d ++ ex)
def aggE (x:Ed):Value:=.agg #[.string x.k,.string x.v,.bool x.g]
section
variable {w w':World} {g:Nat} {d:List Ed} {ex:List Value}
theorem RoE.old (h:RoE w g d ex) (b:Below w.heap.size w w'):RoE w' g d ex:=Ob.old h b
theorem RoE.drew (h:RoE w g d ex):RoE w.drew g d ex:=h.old (Below.refl _ _).drew
theorem RoE.at (h:RoE w g d ex) {i:Nat} {x:Ed} (hx:d[i]? = some x) (j:Nat) (u:Value) (hu:(cEd x)[j]? = some u):w.cell? ⟨g,i * 3 + j,none⟩ = some u:=by
 have hc:=Ob.cell h (i * 3 + j)
 have:=gcells_at cEd_len d hx hu
 rw [hc,List.getElem?_append_left (List.getElem?_eq_some_iff.1 this).1]
 exact this
theorem RoE.cells (h:RoE w g d ex) {i:Nat} {x:Ed} (hx:d[i]? = some x):w.cell? ⟨g,i * 3,none⟩ = some (.string x.k) ∧ w.cell? ⟨g,i * 3 + 1,none⟩ = some (.string x.v) ∧ w.cell? ⟨g,i * 3 + 2,none⟩ = some (.bool x.g) :=
 ⟨h.at hx 0 _ rfl,h.at hx 1 _ rfl,h.at hx 2 _ rfl⟩
theorem gcells_set {α:Type} {c:α → List Value} {k:Nat} (hk:∀ x,(c x).length = k):∀ (l:List α) (i:Nat) (y:α),i < l.length → over (gcells c l) (i * k) (c y) = gcells c (l.set i y)
 | [],_,_,h => by simp at h
 | x :: l,0,y,_ => by
  simp [over,gcells,hk]
 | x :: l,i + 1,y,h => by
  have ih:=gcells_set hk l i y (by simpa using h)
  have e1:gcells c ((x :: l).set (i + 1) y) = c x ++ gcells c (l.set i y):=by simp [gcells]
  have e2:gcells c (x :: l) = c x ++ gcells c l:=by simp [gcells]
  rw [e1,e2,← ih]
  unfold over
  rw [show (i + 1) * k = (c x).length + i * k by rw [hk,Nat.succ_mul]; omega,Nat.add_assoc,List.take_length_add_append,List.drop_length_add_append]
  simp [List.append_assoc]
theorem size_ed:(Tryz.prog.info? 63).map (·.size) = some 3:=by kernel_rfl
theorem RoE.load (h:RoE w g d ex) {i:Nat} {x:Ed} (hx:d[i]? = some x):(Instr.loadAt 63 (.pointer (some ⟨g,i * 3,none⟩))).run Tryz.prog w = .ok (aggE x) w:=by
 refine run_loadAt_cells (P:=Tryz.prog) 63 _ Tryz.underlying63 rfl (cEd x) size_ed ⟨g,i * 3,none⟩ (fun j v hv => ?_)
 rw [show (⟨g,i * 3,none⟩:Addr).add j = ⟨g,i * 3 + j,none⟩ by unfold Addr.add; split <;> simp_all]
 exact h.at hx j v hv
theorem RoE.store (h:RoE w g d ex) {i:Nat} (hi:i < d.length) (y:Ed):∃ w',(Instr.storeAt 63 (.pointer (some ⟨g,i * 3,none⟩)) (aggE y)).run Tryz.prog w = .ok () w' ∧ RoE w' g (d.set i y) ex ∧ Onl (fun k => k = g) w w':=by
 have hle:i * 3 + 3 ≤ d.length * 3:=by omega
 obtain ⟨w',h1,h2,h3⟩:=run_storeAt_cells (P:=Tryz.prog) (w:=w) 63 63 g (i * 3) (gcells cEd d ++ ex) (cEd y) size_ed (cEd_one y) h (by rw [List.length_append,gcells_len cEd_len,cEd_len]; omega)
 refine ⟨w',h1,?_,h3⟩
 unfold RoE
 rw [← gcells_set cEd_len d i y hi]
 have:over (gcells cEd d ++ ex) (i * 3) (cEd y) = over (gcells cEd d) (i * 3) (cEd y) ++ ex:=by
  unfold over
  rw [List.take_append_of_le_length (by rw [gcells_len cEd_len]; omega),List.drop_append_of_le_length (by rw [gcells_len cEd_len,cEd_len]; omega)]
  simp
 rw [← this]
 exact h2
structure SwE (W:World) (g:Nat) (d:List Ed) (ex:List Value) (i j:Nat) (x y:Ed) (S1 S2:World):Prop where
 l1:LdRuns Tryz.prog W 63 (.pointer (some ⟨g,i * 3,none⟩))
 l2:ldVal Tryz.prog W 63 (.pointer (some ⟨g,i * 3,none⟩)) = aggE x
 l3:LdRuns Tryz.prog W 63 (.pointer (some ⟨g,j * 3,none⟩))
 l4:ldVal Tryz.prog W 63 (.pointer (some ⟨g,j * 3,none⟩)) = aggE y
 s1:StRuns Tryz.prog W 63 (.pointer (some ⟨g,i * 3,none⟩)) (aggE y)
 s2:stWld Tryz.prog W 63 (.pointer (some ⟨g,i * 3,none⟩)) (aggE y) = S1
 s3:StRuns Tryz.prog S1 63 (.pointer (some ⟨g,j * 3,none⟩)) (aggE x)
 s4:stWld Tryz.prog S1 63 (.pointer (some ⟨g,j * 3,none⟩)) (aggE x) = S2
 ro:RoE S2 g (swL d i j) ex
 on:Onl (fun k => k = g) W S2
theorem RoE.swap (h:RoE w g d ex) {i j:Nat} (hi:i < d.length) (hj:j < d.length):∃ x y S1 S2,SwE w g d ex i j x y S1 S2:=by
 have e1:d[i]? = some d[i]:=List.getElem?_eq_getElem hi
 have e2:d[j]? = some d[j]:=List.getElem?_eq_getElem hj
 obtain ⟨S1,a1,r1,o1⟩:=h.store hi d[j]
 obtain ⟨S2,a2,r2,o2⟩:=r1.store (i:=j) (by simpa using hj) d[i]
 obtain ⟨b1,b2⟩:=ld_runs (h.load e1)
 obtain ⟨b3,b4⟩:=ld_runs (h.load e2)
 obtain ⟨c1,c2⟩:=st_runs a1
 obtain ⟨c3,c4⟩:=st_runs a2
 refine ⟨d[i],d[j],S1,S2,b1,b2,b3,b4,c1,c2,c3,c4,?_,o1.trans o2⟩
 have:swL d i j = (d.set i d[j]).set j d[i]:=by unfold swL; rw [e1,e2]
 rw [this]
 exact r2
end
theorem ldE_exec {P:Program} {w:World} {ρ:Operand → Value} {dst:Option Tmp} {x:Operand} {ty:TypeId} {pos:String} {after:Array Edge} {guard:Option (Nat × Bool)} (h:LdRuns P w 63 (ρ x)) :
  (execOp ρ { dst,op:=.load 63 x,type:=ty,pos,after,guard }).run P w = .ok (.value (ldVal P w 63 (ρ x))) w:=ld_exec h
theorem stE_exec {P:Program} {w:World} {ρ:Operand → Value} {dst:Option Tmp} {x y:Operand} {ty:TypeId} {pos:String} {after:Array Edge} {guard:Option (Nat × Bool)} (h:StRuns P w 63 (ρ x) (ρ y)) :
  (execOp ρ { dst,op:=.store 63 x y,type:=ty,pos,after,guard }).run P w = .ok .skip (stWld P w 63 (ρ x) (ρ y)):=st_exec h
attribute [local go_sem ↓] ldE_exec stE_exec
def SoP (w:World) (g:Nat) (ex:List Value) (R:List Ed → Prop) (e:Ending) (w':World):Prop:=e = .returned (.tuple #[]) ∧ ∃ d',RoE w' g d' ex ∧ R d' ∧ Onl (fun j => j = g) w w'
def swR (d:List Ed) (a b:Nat):Nat → List Ed
 | 0 => d
 | n + 1 => swL (swR d a b n) (a + n) (b + n)
theorem swR_len (d:List Ed) (a b:Nat):∀ n,(swR d a b n).length = d.length
 | 0 => rfl
 | n + 1 => by unfold swR; rw [swL_len,swR_len d a b n]
theorem swr_any (w:World) (g cap:Nat) (d:List Ed) (ex:List Value) (F:Value) (h:RoE w g d ex) (hl:d.length ≤ 1000000) (a b n:Nat) (ha:a + n ≤ d.length) (hb:b + n ≤ d.length) :
  Calls Tryz.prog 267 #[.slice (some ⟨g,0,none⟩) d.length cap,.int .i64 a,.int .i64 b,.int .i64 n,F] w (SoP w g ex (fun d' => d' = swR d a b n)):=by
 have HR:=hide h
 obtain ⟨ln,hln⟩:∃ ln,ln = d.length:=⟨_,rfl⟩
 have HLN:=hide hln
 rw [← hln] at ha hb hl ⊢
 clear h hln
 go_enter Tryz.func267,Tryz.ntmps267
 go_wp2
 go_loopw [10] (fun v wr => ∃ i:Nat,i ≤ n ∧ v = .int .i64 i ∧ Hid (RoE wr g (swR d a b i) ex) ∧ Hid (Onl (fun j => j = g) w wr)) (fun v _ => n - (intOf v).toNat)
 case atStart => exact ⟨0,Nat.zero_le _,rfl,HR,hide (Onl.refl _ _)⟩
 case round =>
  obtain ⟨i,hi,rfl,HRo,HO⟩:=hrel
  by_cases hin:i < n
  ·obtain ⟨x,y,S1,S2,sw⟩:=(HRo.out.drew).swap (i:=a + i) (j:=b + i) (by rw [swR_len]; have:=HLN.out; omega) (by rw [swR_len]; have:=HLN.out; omega)
   obtain ⟨l1,l2,l3,l4,s1,s2,s3,s4,ro,on⟩:=sw
   have HF:Hid (RoE S2 g (swR d a b (i + 1)) ex):=hide ro
   have HO2:Hid (Onl (fun j => j = g) w S2):=hide ((HO.out.drew).trans on)
   unfold aggE at l2 l4 s1 s2 s3 s4
   obtain ⟨ai,hai⟩:∃ ai,ai = a + i:=⟨_,rfl⟩
   obtain ⟨bi,hbi⟩:∃ bi,bi = b + i:=⟨_,rfl⟩
   rw [← hai] at l1 l2 s1 s2
   rw [← hbi] at l3 l4 s3 s4
   have w1:IntKind.i64.wrap ((a:Int) + (i:Int)) = (ai:Int):=by rw [IntKind.wrap_i64]; omega
   have w2:IntKind.i64.wrap ((b:Int) + (i:Int)) = (bi:Int):=by rw [IntKind.wrap_i64]; omega
   have w3:(a:Int) + (i:Int) = (ai:Int):=by omega
   have w4:(b:Int) + (i:Int) = (bi:Int):=by omega
   have h1:ai < ln:=by omega
   have h2:bi < ln:=by omega
   clear ro on HR HRo HO hai hbi
   go_wp2
   go_region
   go_wp2
   go_roundw
   case rel => exact ⟨i + 1,by omega,by simp,HF,HO2⟩
   case measure => simp [intOf]; omega
  ·obtain rfl:i = n:=by omega
   go_wp2
   go_end0
   exact ⟨rfl,_,HRo.out,rfl,HO.out⟩
end Go.Proofs.YtnblmdmlollmaaaGreat
