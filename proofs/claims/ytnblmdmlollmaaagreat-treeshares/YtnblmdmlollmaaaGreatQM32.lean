import Derived.Laws.StructEq
import Derived.BigQuiet
import Derived.Deep.QuietTactic
import Derived.Test.YtnblmdmlollmaaaGreatQM31
import Derived.Test.YtnblmdmlollmaaaGreatQM22
import Derived.Test.YtnblmdmlollmaaaGreatQM01
namespace Go.Proofs.YtnblmdmlollmaaaGreat
set_option maxRecDepth 100000
set_option maxHeartbeats 8000000
open Go.RowKit Apo
attribute [local go_sem ↓] Apo.app_exec
def lvns (rows:List (List En)):List Nd:=rows.map (fun r => ⟨0,r,[]⟩)
theorem tlv_any {w W:World} {s m:Nat} {O:Nat → Prop} {T:List (List Int)} (h:TSw w W s O T m) (hmp:Option Nat) (hmn:hmp = none) (ea:Option Addr) (ec:Nat) (es:List En) (hr:RdEn W ea es) (hen:ea = none → ec = 0) (hel:es.length ≤ 1000000) (hz:∀ e ∈ es,e.k.size ≤ 1099511627776) (hg:∀ n ∈ lvns  (splitN (fun e:En => endsN 0 e.k) es),GoodN n) (hm:m + pagesN (lvns  (splitN (fun e:En => endsN 0 e.k) es)) ≤ 4096) (hT:T.length + es.length ≤ 16000) :
  Calls Tryz.prog 88 #[.agg (bldV s (.map hmp)),.slice ea es.length ec] W (TKids w W s O T m (lvns  (splitN (fun e:En => endsN 0 e.k) es))):=by
 obtain ⟨rows,hrows⟩:∃ rows,rows = splitN (fun e:En => endsN 0 e.k) es:=⟨_,rfl⟩
 obtain ⟨ns,hns⟩:∃ ns,ns = lvns  rows:=⟨_,rfl⟩
 have hrl:rows.length ≤ es.length:=by rw [hrows]; exact split_len _ _
 have hnl:ns.length = rows.length:=by rw [hns]; simp [lvns]
 have hat:∀ (k:Nat) (r:List En),rows[k]? = some r → ns[k]? = some (⟨0,r,[]⟩:Nd):=fun k r hk => by rw [hns]; simp [lvns,hk]
 subst hmn
 simp only [bldV]
 obtain ⟨W1,hW1⟩:∃ W1,W1 = W.alloc (.cells #[.func (.func 46) #[.pointer (some ⟨s,0,none⟩)] #[],.map none] 92):=⟨_,rfl⟩
 have s1:W1.heap.size = W.heap.size + 1:=by rw [hW1]; simp
 have kb1:Ob W1 W.heap.size 92 [.func (.func 46) #[.pointer (some ⟨s,0,none⟩)] #[],.map none]:=by rw [hW1]; exact Ob.new W [.func (.func 46) #[.pointer (some ⟨s,0,none⟩)] #[],.map none] 92
 have b1:Below W.heap.size W W1:=by rw [hW1]; exact (Below.refl _ W).alloc (Nat.le_refl _) _
 have C1:=split_En ea ec es W1 (hr.below b1) hen hel hz
 rw [← hrows] at C1 hg hm ⊢
 rw [← hns] at hg hm ⊢
 have hlo:=h.lo
 have hhi:=h.hi
 have hbw:=h.bel.size
 have HH:=hide h
 have HC1:=hide C1
 have HG:=hide hg
 have HM:=hide hm
 have HAT:=hide hat
 have HKB:=hide kb1
 have HB1:=hide b1
 have HLO:=hide hlo
 have HHI:=hide hhi
 have HNL:=hide hnl
 skip
 obtain ⟨ne,hne⟩:∃ ne,ne = es.length:=⟨_,rfl⟩
 rw [← hne] at HC1 hT hrl ⊢
 clear h C1 hg hat kb1 b1 hlo hhi hns hrows hr hz hel hnl hne
 go_enter Tryz.func88,Tryz.ntmps88
 go_wp2_with fail
 rw [← hW1]
 clear hW1
 refine HC1.out.mono ?_
 rintro e w1 ⟨rv,vs,rfl,R1,b2⟩
 obtain ⟨ra,rc,hrv,hrc1,hrc2,hrn,hrx⟩:=R1.row.form
 have hvl:=R1.len
 rw [hvl] at hrv
 obtain ⟨nr,hnr⟩:∃ nr,nr = rows.length:=⟨_,rfl⟩
 rw [← hnr] at hrv hvl hrl HNL
 subst hrv
 have hcell:∀ k,k < nr → ∃ g u r,ra = some ⟨g,0,none⟩ ∧ vs[k]? = some u ∧ rows[k]? = some r ∧ ∀ W',Onl O w1 W' → W'.cell? ⟨g,k,none⟩ = some u:=fun k hk => by
  obtain ⟨g,cap,e1,e2,e3,e4,e5,e6,_⟩:=R1.row.shape (by omega)
  injection e1 with e1 _ _
  refine ⟨g,vs[k]'(by omega),rows[k]'(by omega),e1,List.getElem?_eq_getElem (by omega),List.getElem?_eq_getElem (by omega),fun W' o => ?_⟩
  have hbk:=o.block g e3 (fun q => by have:=HHI.out _ q; omega)
  rw [World.cell?_of_block (a:=⟨g,k,none⟩) hbk,e6 k (by omega)]
  exact List.getElem?_eq_getElem (by omega)
 have HCELL:=hide hcell
 have HR1:=hide R1
 have HB2:=hide b2
 have sz2:=b2.size
 have hk2:=HKB.out.old b2
 have HK2:=hide hk2
 have HW1:=hide ((HH.out.below HB1.out).below b2)
 have hnr2:nr ≤ 9223372036854775807:=by omega
 have HNR:=hide hnr
 clear hcell R1 b2 hk2 hvl hnr hrn hrx
 go_wp2
 go_loopw [6,14] (fun u i wr => ∃ (k:Nat) (ks:List Ki) (O':Nat → Prop) (va:Option Addr) (nk vc:Nat),k ≤ nr ∧ i = .int .i64 k ∧ u = .slice va nk vc ∧ Hid (nk = ks.length) ∧ Hid (Row (fun g => ¬ O' g ∧ w1.heap.size ≤ g) wr 53 2 (.slice va nk vc) ks.length (kcells ks)) ∧ Hid (Kids (putNs T (ns.take k)) (ns.take k) ks) ∧ Hid (TSw w wr s O' (putNs T (ns.take k)) (m + pagesN (ns.take k))) ∧ Hid (∀ i,O' i → O i ∨ w1.heap.size ≤ i) ∧ Hid (Onl O w1 wr)) (fun _ i _ => nr - (intOf i).toNat)
 case atStart => exact ⟨0,[],O,none,0,0,Nat.zero_le _,rfl,rfl,hide rfl,hide (Row.nil _ _ _ _),hide (by simp only [List.take_zero]; exact Kids.nil _),hide (by simpa [putNs,pagesN] using HW1.out),hide (fun i q => .inl q),hide (Onl.refl _ _)⟩
 case round =>
  obtain ⟨k,ks,O',va,nk,vc,hk,rfl,rfl,HNK2,HRW,HKD,HTS,HSUB,HON⟩:=hrel
  by_cases hkn:k < nr
  ·obtain ⟨g,u,r,rfl,hu,hrk,hcl⟩:=HCELL.out k hkn
   have hce:=hcl wr HON.out
   have hnk:=HAT.out k r hrk
   obtain ⟨G,off,e1,e2,e3,e4,e5,cs,e6⟩:=(HR1.out.off HON.out (fun i q => by have:=HHI.out i q; omega)).fin k u r hu hrk
   subst e1
   have gn:=HG.out _ (List.mem_of_getElem? hnk)
   have htk:ns.take (k + 1) = ns.take k ++ [(⟨0,r,[]⟩:Nd)]:=by rw [List.take_add_one,hnk]; rfl
   have hpg:=pagesN_take ns (k + 1)
   rw [htk,pagesN_append] at hpg
   have hp1:pagesN [(⟨0,r,[]⟩:Nd)] = needP (ndB (⟨0,r,[]⟩:Nd)).length:=by simp [pagesN]
   have hpl:=putNs_len T (ns.take k)
   have hkl:(ns.take k).length ≤ nr:=by rw [List.length_take,HNL.out]; omega
   have hGw:=(e6.onl (Onl.refl O wr) (fun q => by have:=HHI.out _ q; omega)).lt
   have hG1:G < w1.heap.size:=by
    obtain ⟨G2,off2,f1,f2,f3,f4,f5,cs2,f6⟩:=HR1.out.fin k _ r hu hrk
    injection f1 with f1 _ _
    injection f1 with f1
    injection f1 with f1 _ _
    rw [f1]
    exact f6.lt
   have hnO:¬ O' G:=fun q => by
    rcases HSUB.out G q with z | z
    ·have:=HHI.out G z; omega
    ·omega
   have okx:OkN wr (lfN (some ⟨G,off,none⟩) r.length r):=okN_lf e2 (fun q => by cases q) (Nat.le_refl _) e4 gn.ok
   have C3:=tleaf_any HTS.out (by omega) (some ⟨G,off,none⟩) r.length r okx ⟨fun y hy _ q => by cases hy; exact hnO q,fun y hy => by cases hy⟩ gn.small.1 gn.ok (Nat.le_trans gn.len (by decide)) (by have:=HM.out; omega) gn.byt
   have kbr:=HK2.out.onl HON.out (fun q => by have:=HHI.out _ q; omega)
   have c0:=kbr.cell 0
   have c1:=kbr.cell 1
   simp only [List.getElem?_cons_zero,List.getElem?_cons_succ] at c0 c1
   simp only [bldV] at C3
   have HC3:=hide C3
   have HTK:=hide htk
   have HP1:=hide hp1
   obtain ⟨rl,hrl2⟩:∃ rl,rl = r.length:=⟨_,rfl⟩
   rw [← hrl2] at HC3 hce
   have hrl3:rl ≤ maxLen:=by rw [hrl2]; exact e4
   have hgx:=HON.out.size
   clear C3 htk hp1 hcl hnk hrk hu e2 e3 e6 gn okx kbr hrl2
   go_wp2_with fail
   refine HC3.out.mono ?_
   rintro e w6 ⟨id,rfl,p1,p2,p3,t6,o6⟩
   obtain ⟨LK,hLK⟩:∃ LK,LK = lastK (⟨0,r,[]⟩:Nd):=⟨_,rfl⟩
   rw [← hLK]
   have sO6:=o6.size
   have rw6:Row (fun g => ¬ Gro O' wr w6 g ∧ w1.heap.size ≤ g) w6 53 2 (.slice va nk vc) ks.length (kcells ks):=by
    refine ⟨(HRW.out.onl o6 (fun g hg => (HRW.out.2 g hg).1)).1,fun g hg => ⟨fun q => ?_,(HRW.out.2 g hg).2⟩⟩
    rcases q with q | q
    ·exact (HRW.out.2 g hg).1 q
    ·have:=HRW.out.lt g hg; have:=q.1; omega
   obtain ⟨w7,hw7⟩:∃ w7,w7 = w6.alloc (.cells #[.string LK,.int .u64 (id:Int)] 53):=⟨_,rfl⟩
   have b7:Below w6.heap.size w6 w7:=by rw [hw7]; exact (Below.refl _ w6).alloc (Nat.le_refl _) _
   have rw7:=rw6.onl (F:=fun _ => False) (Onl.ofBelow b7) (fun _ _ q => q)
   have t7:=t6.below b7
   have k7:Ob w7 w6.heap.size 53 [.string LK,.int .u64 (id:Int)]:=by rw [hw7]; exact Ob.new w6 [.string LK,.int .u64 (id:Int)] 53
   have s7:w7.heap.size = w6.heap.size + 1:=by rw [hw7]; simp
   have hkc:ks.length ≤ 1000000:=by have:=HKD.out.1; rw [this]; omega
   have o7:Onl O' wr w7:=o6.trans (Onl.ofBelow b7)
   have q0:=k7.cell 0
   have q1:=k7.cell 1
   simp only [List.getElem?_cons_zero,List.getElem?_cons_succ] at q0 q1
   obtain ⟨v8,w8,RR,r8,o8⟩:=app_Ki rw7 hkc ⟨LK,id⟩
   simp only at RR
   have f8:=r8.form
   obtain ⟨va8,vc8,hva8,_⟩:=f8
   subst hva8
   obtain ⟨n8,hn8⟩:∃ n8,n8 = (ks ++ [(⟨LK,id⟩:Ki)]).length:=⟨_,rfl⟩
   rw [← hn8] at RR r8
   have HN8:=hide hn8
   obtain ⟨x1,x2,x3⟩:=app_runs RR
   rw [s7] at x1 x2 x3
   have HF:Hid (∃ (ks8:List Ki) (O8:Nat → Prop),n8 = ks8.length ∧ Row (fun g => ¬ O8 g ∧ w1.heap.size ≤ g) w8 53 2 (.slice va8 n8 vc8) ks8.length (kcells ks8) ∧ Kids (putNs T (ns.take (k + 1))) (ns.take (k + 1)) ks8 ∧ TSw w w8 s O8 (putNs T (ns.take (k + 1))) (m + pagesN (ns.take (k + 1))) ∧ (∀ i,O8 i → O i ∨ w1.heap.size ≤ i) ∧ Onl O w1 w8):=by
    refine hide ⟨ks ++ [⟨LK,id⟩],Gro O' wr w6,HN8.out,?_,?_,?_,?_,?_⟩
    ·rw [← HN8.out]
     refine r8.mono (fun i q => ?_)
     rcases q with q | q
     ·exact q
     ·subst q
      exact ⟨fun z => by have:=t7.hi _ z; omega,by omega⟩
    ·rw [HTK.out,putNs_snoc]
     exact HKD.out.snoc hLK p1 p2
    ·rw [HTK.out,putNs_snoc,pagesN_append,HP1.out,← Nat.add_assoc]
     exact t7.onl o8 (fun i q z => z.1 q) (fun i q => by have:=q.2; have:=HW1.out.bel.size; omega)
    ·intro i q
     rcases q with q | q
     ·exact HSUB.out i q
     ·exact .inr (by have:=q.1; omega)
    ·exact (HON.out.more o7 (fun i q => HSUB.out i q)).more o8 (fun i q => .inr q.2)
   have HX:=hide (And.intro p1 (And.intro p2 p3))
   clear RR r8 o8 p1 p2 p3 t6 o6 o7 rw6 rw7 t7 k7 b7 hLK hn8 HRW HKD HTS HSUB HON
   subst hw7
   go_wp2
   go_roundw
   case rel =>
    obtain ⟨ks8,O8,a0,a1,a2,a3,a4,a5⟩:=HF.out
    exact ⟨k + 1,ks8,O8,va8,n8,vc8,by omega,by simp,rfl,hide a0,hide a1,hide a2,hide a3,hide a4,hide a5⟩
   case measure => simp [intOf]; omega
  ·obtain rfl:k = nr:=by omega
   have HF:Hid (TKids w W s O T m ns (.returned (.tuple #[.slice va nk vc,.int .i64 0])) wr):=by
    have htn:ns.take k = ns:=List.take_of_length_le (by rw [HNL.out]; omega)
    have h1:=HRW.out
    have h2:=HKD.out
    have h3:=HTS.out
    rw [htn] at h2 h3
    refine hide ⟨.slice va nk vc,ks,O',rfl,h1.mono (fun i q => ⟨q.1,by omega⟩),h2,h3,fun i q => (HSUB.out i q).imp id (fun z => by omega),?_⟩
    exact (Onl.ofBelow (HB1.out.trans (HB2.out.mono (by omega)))).trans HON.out
   clear HRW HKD HTS HSUB HON
   go_wp2
   refine bodyPost_ret (by simp [results,Tryz.results88,go_sem]; rfl) rfl ?_
   exact HF.out
end Go.Proofs.YtnblmdmlollmaaaGreat
namespace Go.Proofs.YtnblmdmlollmaaaGreat
set_option maxRecDepth 100000
set_option maxHeartbeats 8000000
open Go.RowKit Apo
attribute [local go_sem ↓] Apo.app_exec
def abns (lv:Int) (rows:List (List Ki)):List Nd:=rows.map (fun r => ⟨lv,[],r⟩)
theorem tab_any {w W:World} {s m:Nat} {O:Nat → Prop} {T:List (List Int)} (h:TSw w W s O T m) (hmp:Option Nat) (lv:Int) (hlv:1 ≤ lv ∧ lv ≤ 20) (ea:Option Addr) (ec:Nat) (es:List Ki) (hr:RdKi W ea es) (hen:ea = none → ec = 0) (hel:es.length ≤ 1000000) (hz:∀ e ∈ es,e.k.size ≤ 1099511627776) (hg:∀ n ∈ abns lv (splitN (fun e:Ki => endsN lv e.k) es),GoodN n) (hm:m + pagesN (abns lv (splitN (fun e:Ki => endsN lv e.k) es)) ≤ 4096) (hT:T.length + es.length ≤ 16000) (hid:∀ e ∈ es,e.i < 18446744073709551616) :
  Calls Tryz.prog 89 #[.agg (bldV s (.map hmp)),.int .i64 lv,.slice ea es.length ec] W (TKids w W s O T m (abns lv (splitN (fun e:Ki => endsN lv e.k) es))):=by
 obtain ⟨rows,hrows⟩:∃ rows,rows = splitN (fun e:Ki => endsN lv e.k) es:=⟨_,rfl⟩
 obtain ⟨ns,hns⟩:∃ ns,ns = abns lv rows:=⟨_,rfl⟩
 have hrl:rows.length ≤ es.length:=by rw [hrows]; exact split_len _ _
 have hnl:ns.length = rows.length:=by rw [hns]; simp [abns]
 have hat:∀ (k:Nat) (r:List Ki),rows[k]? = some r → ns[k]? = some (⟨lv,[],r⟩:Nd):=fun k r hk => by rw [hns]; simp [abns,hk]
 skip
 simp only [bldV]
 obtain ⟨W1,hW1⟩:∃ W1,W1 = W.alloc (.cells #[.func (.func 46) #[.pointer (some ⟨s,0,none⟩)] #[],.map hmp] 92):=⟨_,rfl⟩
 have s1:W1.heap.size = W.heap.size + 1:=by rw [hW1]; simp
 have kb1:Ob W1 W.heap.size 92 [.func (.func 46) #[.pointer (some ⟨s,0,none⟩)] #[],.map hmp]:=by rw [hW1]; exact Ob.new W [.func (.func 46) #[.pointer (some ⟨s,0,none⟩)] #[],.map hmp] 92
 have b1:Below W.heap.size W W1:=by rw [hW1]; exact (Below.refl _ W).alloc (Nat.le_refl _) _
 have C1:=group_Ki lv ea ec es W1 (hr.below b1) hen hel hz
 rw [← hrows] at C1 hg hm ⊢
 rw [← hns] at hg hm ⊢
 have hlo:=h.lo
 have hhi:=h.hi
 have hbw:=h.bel.size
 have HH:=hide h
 have HC1:=hide C1
 have HG:=hide hg
 have HM:=hide hm
 have HAT:=hide hat
 have HKB:=hide kb1
 have HB1:=hide b1
 have HLO:=hide hlo
 have HHI:=hide hhi
 have HNL:=hide hnl
 have HID:=hide (fun (r:List Ki) (hr2:r ∈ rows) (e:Ki) (he:e ∈ r) => hid e (by rw [hrows] at hr2; exact split_mem hr2 he))
 obtain ⟨ne,hne⟩:∃ ne,ne = es.length:=⟨_,rfl⟩
 rw [← hne] at HC1 hT hrl ⊢
 clear h C1 hg hat kb1 b1 hlo hhi hns hrows hr hz hel hnl hne
 go_enter Tryz.func89,Tryz.ntmps89
 go_wp2_with fail
 rw [← hW1]
 clear hW1
 refine HC1.out.mono ?_
 rintro e w1 ⟨rv,vs,rfl,R1,b2⟩
 obtain ⟨ra,rc,hrv,hrc1,hrc2,hrn,hrx⟩:=R1.row.form
 have hvl:=R1.len
 rw [hvl] at hrv
 obtain ⟨nr,hnr⟩:∃ nr,nr = rows.length:=⟨_,rfl⟩
 rw [← hnr] at hrv hvl hrl HNL
 subst hrv
 have hcell:∀ k,k < nr → ∃ g u r,ra = some ⟨g,0,none⟩ ∧ vs[k]? = some u ∧ rows[k]? = some r ∧ ∀ W',Onl O w1 W' → W'.cell? ⟨g,k,none⟩ = some u:=fun k hk => by
  obtain ⟨g,cap,e1,e2,e3,e4,e5,e6,_⟩:=R1.row.shape (by omega)
  injection e1 with e1 _ _
  refine ⟨g,vs[k]'(by omega),rows[k]'(by omega),e1,List.getElem?_eq_getElem (by omega),List.getElem?_eq_getElem (by omega),fun W' o => ?_⟩
  have hbk:=o.block g e3 (fun q => by have:=HHI.out _ q; omega)
  rw [World.cell?_of_block (a:=⟨g,k,none⟩) hbk,e6 k (by omega)]
  exact List.getElem?_eq_getElem (by omega)
 have HCELL:=hide hcell
 have HR1:=hide R1
 have HB2:=hide b2
 have sz2:=b2.size
 have hk2:=HKB.out.old b2
 have HK2:=hide hk2
 have HW1:=hide ((HH.out.below HB1.out).below b2)
 have hnr2:nr ≤ 9223372036854775807:=by omega
 have HNR:=hide hnr
 clear hcell R1 b2 hk2 hvl hnr hrn hrx
 go_wp2
 go_loopw [8,17] (fun u i wr => ∃ (k:Nat) (ks:List Ki) (O':Nat → Prop) (va:Option Addr) (nk vc:Nat),k ≤ nr ∧ i = .int .i64 k ∧ u = .slice va nk vc ∧ Hid (nk = ks.length) ∧ Hid (Row (fun g => ¬ O' g ∧ w1.heap.size ≤ g) wr 53 2 (.slice va nk vc) ks.length (kcells ks)) ∧ Hid (Kids (putNs T (ns.take k)) (ns.take k) ks) ∧ Hid (TSw w wr s O' (putNs T (ns.take k)) (m + pagesN (ns.take k))) ∧ Hid (∀ i,O' i → O i ∨ w1.heap.size ≤ i) ∧ Hid (Onl O w1 wr)) (fun _ i _ => nr - (intOf i).toNat)
 case atStart => exact ⟨0,[],O,none,0,0,Nat.zero_le _,rfl,rfl,hide rfl,hide (Row.nil _ _ _ _),hide (by simp only [List.take_zero]; exact Kids.nil _),hide (by simpa [putNs,pagesN] using HW1.out),hide (fun i q => .inl q),hide (Onl.refl _ _)⟩
 case round =>
  obtain ⟨k,ks,O',va,nk,vc,hk,rfl,rfl,HNK2,HRW,HKD,HTS,HSUB,HON⟩:=hrel
  by_cases hkn:k < nr
  ·obtain ⟨g,u,r,rfl,hu,hrk,hcl⟩:=HCELL.out k hkn
   have hce:=hcl wr HON.out
   have hnk:=HAT.out k r hrk
   obtain ⟨G,off,e1,e2,e3,e4,e5,cs,e6⟩:=(HR1.out.off HON.out (fun i q => by have:=HHI.out i q; omega)).fin k u r hu hrk
   subst e1
   have gn:=HG.out _ (List.mem_of_getElem? hnk)
   have htk:ns.take (k + 1) = ns.take k ++ [(⟨lv,[],r⟩:Nd)]:=by rw [List.take_add_one,hnk]; rfl
   have hpg:=pagesN_take ns (k + 1)
   rw [htk,pagesN_append] at hpg
   have hp1:pagesN [(⟨lv,[],r⟩:Nd)] = needP (ndB (⟨lv,[],r⟩:Nd)).length:=by simp [pagesN]
   have hpl:=putNs_len T (ns.take k)
   have hkl:(ns.take k).length ≤ nr:=by rw [List.length_take,HNL.out]; omega
   have hGw:=(e6.onl (Onl.refl O wr) (fun q => by have:=HHI.out _ q; omega)).lt
   have hG1:G < w1.heap.size:=by
    obtain ⟨G2,off2,f1,f2,f3,f4,f5,cs2,f6⟩:=HR1.out.fin k _ r hu hrk
    injection f1 with f1 _ _
    injection f1 with f1
    injection f1 with f1 _ _
    rw [f1]
    exact f6.lt
   have hnO:¬ O' G:=fun q => by
    rcases HSUB.out G q with z | z
    ·have:=HHI.out G z; omega
    ·omega
   have okx:OkN wr (kdN lv (some ⟨G,off,none⟩) r.length r):=okN_kd e2 (fun q => by cases q) (Nat.le_refl _) e4 gn.ok hlv (fun e he => HID.out r (List.mem_of_getElem? hrk) e he)
   have C3:=tnode_any HTS.out (by omega) hmp (kdN lv (some ⟨G,off,none⟩) r.length r) okx ⟨fun y hy => (by cases hy),fun y hy _ q => (by cases hy; exact hnO q)⟩ gn.small.1 gn.small.2 gn.ok (Nat.le_trans gn.len (by decide)) (by have:=HM.out; show _ + needP (ndB (⟨lv,[],r⟩:Nd)).length ≤ 4096; omega) gn.byt
   have kbr:=HK2.out.onl HON.out (fun q => by have:=HHI.out _ q; omega)
   have c0:=kbr.cell 0
   have c1:=kbr.cell 1
   simp only [List.getElem?_cons_zero,List.getElem?_cons_succ] at c0 c1
   simp only [bldV,NdA.cells,kdN] at C3
   have HC3:=hide C3
   have HTK:=hide htk
   have HP1:=hide hp1
   obtain ⟨rl,hrl2⟩:∃ rl,rl = r.length:=⟨_,rfl⟩
   rw [← hrl2] at HC3 hce
   have hrl3:rl ≤ maxLen:=by rw [hrl2]; exact e4
   have hgx:=HON.out.size
   clear C3 htk hp1 hcl hnk hrk hu e2 e3 e6 gn okx kbr hrl2
   go_wp2_with fail
   refine HC3.out.mono ?_
   rintro e w6 ⟨id,rfl,p1,p2,p3,t6,o6⟩
   obtain ⟨LK,hLK⟩:∃ LK,LK = lastK (⟨lv,[],r⟩:Nd):=⟨_,rfl⟩
   rw [← hLK]
   have sO6:=o6.size
   have rw6:Row (fun g => ¬ Gro O' wr w6 g ∧ w1.heap.size ≤ g) w6 53 2 (.slice va nk vc) ks.length (kcells ks):=by
    refine ⟨(HRW.out.onl o6 (fun g hg => (HRW.out.2 g hg).1)).1,fun g hg => ⟨fun q => ?_,(HRW.out.2 g hg).2⟩⟩
    rcases q with q | q
    ·exact (HRW.out.2 g hg).1 q
    ·have:=HRW.out.lt g hg; have:=q.1; omega
   obtain ⟨w7,hw7⟩:∃ w7,w7 = w6.alloc (.cells #[.string LK,.int .u64 (id:Int)] 53):=⟨_,rfl⟩
   have b7:Below w6.heap.size w6 w7:=by rw [hw7]; exact (Below.refl _ w6).alloc (Nat.le_refl _) _
   have rw7:=rw6.onl (F:=fun _ => False) (Onl.ofBelow b7) (fun _ _ q => q)
   have t7:=t6.below b7
   have k7:Ob w7 w6.heap.size 53 [.string LK,.int .u64 (id:Int)]:=by rw [hw7]; exact Ob.new w6 [.string LK,.int .u64 (id:Int)] 53
   have s7:w7.heap.size = w6.heap.size + 1:=by rw [hw7]; simp
   have hkc:ks.length ≤ 1000000:=by have:=HKD.out.1; rw [this]; omega
   have o7:Onl O' wr w7:=o6.trans (Onl.ofBelow b7)
   have q0:=k7.cell 0
   have q1:=k7.cell 1
   simp only [List.getElem?_cons_zero,List.getElem?_cons_succ] at q0 q1
   obtain ⟨v8,w8,RR,r8,o8⟩:=app_Ki rw7 hkc ⟨LK,id⟩
   simp only at RR
   have f8:=r8.form
   obtain ⟨va8,vc8,hva8,_⟩:=f8
   subst hva8
   obtain ⟨n8,hn8⟩:∃ n8,n8 = (ks ++ [(⟨LK,id⟩:Ki)]).length:=⟨_,rfl⟩
   rw [← hn8] at RR r8
   have HN8:=hide hn8
   obtain ⟨x1,x2,x3⟩:=app_runs RR
   rw [s7] at x1 x2 x3
   have HF:Hid (∃ (ks8:List Ki) (O8:Nat → Prop),n8 = ks8.length ∧ Row (fun g => ¬ O8 g ∧ w1.heap.size ≤ g) w8 53 2 (.slice va8 n8 vc8) ks8.length (kcells ks8) ∧ Kids (putNs T (ns.take (k + 1))) (ns.take (k + 1)) ks8 ∧ TSw w w8 s O8 (putNs T (ns.take (k + 1))) (m + pagesN (ns.take (k + 1))) ∧ (∀ i,O8 i → O i ∨ w1.heap.size ≤ i) ∧ Onl O w1 w8):=by
    refine hide ⟨ks ++ [⟨LK,id⟩],Gro O' wr w6,HN8.out,?_,?_,?_,?_,?_⟩
    ·rw [← HN8.out]
     refine r8.mono (fun i q => ?_)
     rcases q with q | q
     ·exact q
     ·subst q
      exact ⟨fun z => by have:=t7.hi _ z; omega,by omega⟩
    ·rw [HTK.out,putNs_snoc]
     exact HKD.out.snoc hLK p1 p2
    ·rw [HTK.out,putNs_snoc,pagesN_append,HP1.out,← Nat.add_assoc]
     exact t7.onl o8 (fun i q z => z.1 q) (fun i q => by have:=q.2; have:=HW1.out.bel.size; omega)
    ·intro i q
     rcases q with q | q
     ·exact HSUB.out i q
     ·exact .inr (by have:=q.1; omega)
    ·exact (HON.out.more o7 (fun i q => HSUB.out i q)).more o8 (fun i q => .inr q.2)
   have HX:=hide (And.intro p1 (And.intro p2 p3))
   clear RR r8 o8 p1 p2 p3 t6 o6 o7 rw6 rw7 t7 k7 b7 hLK hn8 HRW HKD HTS HSUB HON
   subst hw7
   go_wp2
   go_roundw
   case rel =>
    obtain ⟨ks8,O8,a0,a1,a2,a3,a4,a5⟩:=HF.out
    exact ⟨k + 1,ks8,O8,va8,n8,vc8,by omega,by simp,rfl,hide a0,hide a1,hide a2,hide a3,hide a4,hide a5⟩
   case measure => simp [intOf]; omega
  ·obtain rfl:k = nr:=by omega
   have HF:Hid (TKids w W s O T m ns (.returned (.tuple #[.slice va nk vc,.int .i64 0])) wr):=by
    have htn:ns.take k = ns:=List.take_of_length_le (by rw [HNL.out]; omega)
    have h1:=HRW.out
    have h2:=HKD.out
    have h3:=HTS.out
    rw [htn] at h2 h3
    refine hide ⟨.slice va nk vc,ks,O',rfl,h1.mono (fun i q => ⟨q.1,by omega⟩),h2,h3,fun i q => (HSUB.out i q).imp id (fun z => by omega),?_⟩
    exact (Onl.ofBelow (HB1.out.trans (HB2.out.mono (by omega)))).trans HON.out
   clear HRW HKD HTS HSUB HON
   go_wp2
   refine bodyPost_ret (by simp [results,Tryz.results89,go_sem]; rfl) rfl ?_
   exact HF.out
end Go.Proofs.YtnblmdmlollmaaaGreat
namespace Go.Proofs.YtnblmdmlollmaaaGreat
set_option maxRecDepth 100000
set_option maxHeartbeats 8000000
open Go.RowKit Apo
theorem bytes_of_list {a b:ByteArray} (h:a.toList = b.toList):a = b:=by
 rw [ByteArray.toList_eq,ByteArray.toList_eq] at h
 exact ByteArray.ext (Array.ext' h)
open Classical in
theorem neqEn (f g:En) (w:World):(binOp .neq 80 (.agg #[.string f.k,.string f.v]) (.agg #[.string g.k,.string g.v])).run Tryz.prog w = .ok (.bool (!decide (f = g))) w:=by
 have u9:=Tryz.underlying9
 have hS:Tryz.prog.underlying 80 = some (.struct (Tryz.prog.fieldsOf 80)):=by kernel_rfl
 have hp:Tryz.prog.stoodInHeld 80 = false:=by kernel_rfl
 rw [run_neq_struct,show (10000:Nat) = 9999 + 1 from rfl,run_equalIn_agg w 9999 80 _ _ hS hp]
 simp only [Program.fieldsOf,Tryz.underlying80]
 go_simp
 obtain ⟨fk,fv⟩:=f
 obtain ⟨gk,gv⟩:=g
 simp only
 by_cases h1:fk = gk
 ·by_cases h2:fv = gv
  ·simp [h1,h2]
  ·have h2':¬ fv.toList = gv.toList:=fun e => h2 (bytes_of_list e)
   simp [h1,h2,h2']
 ·have h1':¬ fk.toList = gk.toList:=fun e => h1 (bytes_of_list e)
  simp [h1,h1']
end Go.Proofs.YtnblmdmlollmaaaGreat
namespace Apo
set_option maxRecDepth 100000
set_option maxHeartbeats 8000000
open Go Go.RowKit
theorem bl_irr:∀ x:List UInt8,Op.bytesLess x x = false
 | [] => rfl
 | a :: x => by simp [Op.bytesLess,bl_irr x]
theorem bl_trans:∀ x y z:List UInt8,Op.bytesLess x y = true → Op.bytesLess y z = true → Op.bytesLess x z = true
 | _,[],_,h,_ => by simp [Op.bytesLess] at h
 | _,_ :: _,[],_,h => by simp [Op.bytesLess] at h
 | [],_ :: _,_ :: _,_,_ => by simp [Op.bytesLess]
 | a :: x,b :: y,c :: z,h,k => by
  simp only [Op.bytesLess,Bool.or_eq_true,Bool.and_eq_true,decide_eq_true_eq,beq_iff_eq] at h k ⊢
  rcases h with h | ⟨rfl,h⟩
  ·rcases k with k | ⟨rfl,k⟩
   ·exact .inl (UInt8.lt_trans h k)
   ·exact .inl h
  ·rcases k with k | ⟨rfl,k⟩
   ·exact .inl k
   ·exact .inr ⟨rfl,bl_trans x y z h k⟩
theorem bl_conn:∀ x y:List UInt8,Op.bytesLess x y = false → Op.bytesLess y x = false → x = y
 | [],[],_,_ => rfl
 | [],_ :: _,h,_ => by simp [Op.bytesLess] at h
 | _ :: _,[],_,h => by simp [Op.bytesLess] at h
 | a :: x,b :: y,h,k => by
  simp only [Op.bytesLess,Bool.or_eq_false_iff,decide_eq_false_iff_not,Bool.and_eq_false_iff] at h k
  have hab:a = b:=by
   have h1:=h.1
   have h2:=k.1
   rw [UInt8.not_lt] at h1 h2
   exact UInt8.le_antisymm h2 h1
  subst hab
  have h2:=h.2
  have k2:=k.2
  simp at h2 k2
  rw [bl_conn x y h2 k2]
theorem sLt_trans {a b c:ByteArray} (h:sLt a b = true) (k:sLt b c = true):sLt a c = true:=bl_trans _ _ _ h k
theorem sLt_irr (a:ByteArray):sLt a a = false:=bl_irr _
end Apo
namespace Go.Proofs.YtnblmdmlollmaaaGreat
set_option maxRecDepth 100000
set_option maxHeartbeats 8000000
open Go.RowKit Apo
theorem sLt_conn {a b:ByteArray} (h:sLt a b = false) (k:sLt b a = false):a = b:=bytes_of_list (bl_conn _ _ h k)
def Rise (l:List ByteArray):Prop:=l.Pairwise (fun a b => sLt a b = true)
theorem rise_of {l:List ByteArray} (h:∀ i,i + 1 < l.length → sLt (l.getD i ByteArray.empty) (l.getD (i + 1) ByteArray.empty) = true):Rise l:=by
 induction l with
 | nil => exact List.Pairwise.nil
 | cons x l ih =>
  have hl:Rise l:=ih (fun i hi => by have:=h (i + 1) (by simp; omega); simpa using this)
  refine List.Pairwise.cons (fun y hy => ?_) hl
  cases l with
  | nil => simp at hy
  | cons z l =>
   have h0:sLt x z = true:=by have:=h 0 (by simp); simpa using this
   rcases List.mem_cons.1 hy with rfl | q
   ·exact h0
   ·exact sLt_trans h0 (List.rel_of_pairwise_cons hl q)
theorem Rise.at {l:List ByteArray} (h:Rise l) {i:Nat} (hi:i + 1 < l.length):sLt (l.getD i ByteArray.empty) (l.getD (i + 1) ByteArray.empty) = true:=by
 have:=List.pairwise_iff_getElem.1 h i (i + 1) (by omega) hi (by omega)
 rw [List.getD_eq_getElem?_getD,List.getD_eq_getElem?_getD,List.getElem?_eq_getElem (by omega),List.getElem?_eq_getElem hi]
 exact this
structure MapOk (es:List En):Prop where
 rise:Rise (es.map En.k)
 key:∀ e ∈ es,1 ≤ e.k.size ∧ e.k.size ≤ 40
 val:∀ e ∈ es,e.v.size ≤ 200
section
variable {α:Type} {p:α → Bool} {l:List α}
theorem cut_left {α:Type} (p:α → Bool) (l m:List α):∀ k,k ≤ l.length → cutK p (l ++ m) k = cutK p l k:=by
 intro k hk
 induction k with
 | zero => rfl
 | succ k ih =>
  have h1:l[k]? = some (l[k]'(by omega)):=List.getElem?_eq_getElem _
  have h2:(l ++ m)[k]? = some (l[k]'(by omega)):=by rw [List.getElem?_append_left (by omega)]; exact h1
  rw [cutK_step h1,cutK_step h2,ih (by omega)]
theorem cut_flat (k:Nat) (hk:k ≤ l.length):(cutK p l k).1.flatten ++ (cutK p l k).2 = l.take k:=by
 induction k with
 | zero => simp [cutK]
 | succ k ih =>
  have h1:l[k]? = some (l[k]'(by omega)):=List.getElem?_eq_getElem _
  have h2:l.take (k + 1) = l.take k ++ [l[k]'(by omega)]:=by rw [List.take_add_one,h1]; rfl
  rw [cutK_step h1,h2,← ih (by omega)]
  split <;> simp
theorem split_flat:(splitN p l).flatten = l:=by
 have h:=cut_flat (p:=p) (l:=l) l.length (Nat.le_refl _)
 rw [List.take_length] at h
 rw [cut_split]
 by_cases q:(cutK p l l.length).2.length = 0
 ·rw [if_pos q]
  have:(cutK p l l.length).2 = []:=List.eq_nil_of_length_eq_zero q
  rw [this] at h
  simpa using h
 ·rw [if_neg q]
  simpa using h
def RowOk (p:α → Bool) (r:List α):Prop:=r ≠ [] ∧ ∀ x ∈ r.dropLast,p x = false
theorem cut_ok (k:Nat):(∀ r ∈ (cutK p l k).1,RowOk p r) ∧ ∀ x ∈ (cutK p l k).2,p x = false:=by
 induction k with
 | zero => exact ⟨fun r hr => by simp [cutK] at hr,fun x hx => by simp [cutK] at hx⟩
 | succ k ih =>
  cases h:l[k]? with
  | none => unfold cutK; rw [h]; exact ih
  | some x =>
   rw [cutK_step h]
   split
   ·refine ⟨fun r hr => ?_,fun y hy => by simp at hy⟩
    rcases List.mem_append.1 hr with q | q
    ·exact ih.1 r q
    ·simp only [List.mem_singleton] at q
     subst q
     exact ⟨by simp,fun y hy => by rw [List.dropLast_concat] at hy; exact ih.2 y hy⟩
   ·next hp =>
    refine ⟨ih.1,fun y hy => ?_⟩
    rcases List.mem_append.1 hy with q | q
    ·exact ih.2 y q
    ·simp only [List.mem_singleton] at q; rw [q]; simpa using hp
theorem split_ok:∀ r ∈ splitN p l,RowOk p r:=by
 intro r hr
 rw [cut_split] at hr
 have h:=cut_ok (p:=p) (l:=l) l.length
 rcases List.mem_append.1 hr with q | q
 ·exact h.1 r q
 ·by_cases z:(cutK p l l.length).2.length = 0
  ·rw [if_pos z] at q; simp at q
  ·rw [if_neg z] at q
   simp only [List.mem_singleton] at q
   subst q
   refine ⟨fun e => z (by rw [e]; rfl),fun x hx => h.2 x (List.dropLast_subset _ hx)⟩
theorem split_one (h:∀ x ∈ l,p x = false) (hl:l ≠ []):splitN p l = [l]:=by
 have hc:∀ k,k ≤ l.length → cutK p l k = ([],l.take k):=by
  intro k hk
  induction k with
  | zero => simp [cutK]
  | succ k ih =>
   have h1:l[k]? = some (l[k]'(by omega)):=List.getElem?_eq_getElem _
   rw [cutK_step h1,ih (by omega),if_neg (by rw [h _ (List.getElem_mem _)]; simp),List.take_add_one,h1]
   rfl
 rw [cut_split,hc _ (Nat.le_refl _)]
 simp only [List.take_length,List.nil_append]
 rw [if_neg (fun q => hl (List.eq_nil_of_length_eq_zero q))]
end
def Can (T:List (List Int)) (es:List En):Nat → List Ki → Prop
 | 0,ks => Kids T (lvns (splitN (fun e:En => endsN 0 e.k) es)) ks
 | l + 1,ks => ∃ ks0,Can T es l ks0 ∧ 1 < ks0.length ∧ Kids T (abns ((l + 1:Nat):Int) (splitN (fun e:Ki => endsN ((l + 1:Nat):Int) e.k) ks0)) ks
def Sub (T T':List (List Int)):Prop:=∀ (i:Nat) (t:List Int),T[i]? = some t → T'[i]? = some t
theorem Sub.refl (T:List (List Int)):Sub T T:=fun _ _ h => h
theorem Sub.trans {A B C:List (List Int)} (h:Sub A B) (k:Sub B C):Sub A C:=fun i t q => k i t (h i t q)
theorem Sub.put (T:List (List Int)) (ns:List Nd):Sub T (putNs T ns):=fun _ _ h => putNs_keeps h ns
theorem Kids.sub {T T':List (List Int)} {ns:List Nd} {ks:List Ki} (h:Kids T ns ks) (s:Sub T T'):Kids T' ns ks:=⟨h.1,fun i n k hn hk => by obtain ⟨a,b,c⟩:=h.2 i n k hn hk; exact ⟨a,s _ _ b,c⟩⟩
theorem Can.sub {T T':List (List Int)} {es:List En} (s:Sub T T'):∀ {l:Nat} {ks:List Ki},Can T es l ks → Can T' es l ks
 | 0,_,h => Kids.sub h s
 | _ + 1,_,⟨ks0,h1,h2,h3⟩ => ⟨ks0,Can.sub s h1,h2,h3.sub s⟩
theorem Kids.keys {T:List (List Int)} {ns:List Nd} {ks:List Ki} (h:Kids T ns ks):ks.map Ki.k = ns.map lastK:=by
 refine List.ext_getElem? (fun i => ?_)
 rw [List.getElem?_map,List.getElem?_map]
 by_cases q:i < ks.length
 ·have q2:i < ns.length:=by rw [← h.1]; exact q
  rw [List.getElem?_eq_getElem q,List.getElem?_eq_getElem q2]
  obtain ⟨a,_,_⟩:=h.2 i _ _ (List.getElem?_eq_getElem q2) (List.getElem?_eq_getElem q)
  simp [a]
 ·rw [List.getElem?_eq_none (by omega),List.getElem?_eq_none (by rw [← h.1]; omega)]
  rfl
theorem lastK_lf {r:List En} (h:r ≠ []):∃ e,r.getLast? = some e ∧ lastK ⟨0,r,[]⟩ = e.k:=by
 refine ⟨r.getLast h,List.getLast?_eq_some_getLast h,?_⟩
 unfold lastK Nd.keys
 simp [List.getLast?_map,List.getLast?_eq_some_getLast h]
theorem lastK_kd {lv:Int} {r:List Ki} (h:r ≠ []):∃ e,r.getLast? = some e ∧ lastK ⟨lv,[],r⟩ = e.k:=by
 refine ⟨r.getLast h,List.getLast?_eq_some_getLast h,?_⟩
 unfold lastK Nd.keys
 simp [List.getLast?_map,List.getLast?_eq_some_getLast h]
theorem sub_lf:∀ {R:List (List En)},(∀ r ∈ R,r ≠ []) → ((lvns R).map lastK).Sublist (R.flatten.map En.k)
 | [],_ => by simp [lvns]
 | r :: R,h => by
  obtain ⟨e,h1,h2⟩:=lastK_lf (h r (by simp))
  have ih:=sub_lf (R:=R) (fun x hx => h x (by simp [hx]))
  have:(lvns (r :: R)).map lastK = [e.k] ++ (lvns R).map lastK:=by simp [lvns,h2]
  rw [this,List.flatten_cons,List.map_append]
  exact List.Sublist.append (List.singleton_sublist.2 (List.mem_map.2 ⟨e,List.mem_of_getLast? h1,rfl⟩)) ih
theorem sub_kd {lv:Int}:∀ {R:List (List Ki)},(∀ r ∈ R,r ≠ []) → ((abns lv R).map lastK).Sublist (R.flatten.map Ki.k)
 | [],_ => by simp [abns]
 | r :: R,h => by
  obtain ⟨e,h1,h2⟩:=lastK_kd (lv:=lv) (h r (by simp))
  have ih:=sub_kd (lv:=lv) (R:=R) (fun x hx => h x (by simp [hx]))
  have:(abns lv (r :: R)).map lastK = [e.k] ++ (abns lv R).map lastK:=by simp [abns,h2]
  rw [this,List.flatten_cons,List.map_append]
  exact List.Sublist.append (List.singleton_sublist.2 (List.mem_map.2 ⟨e,List.mem_of_getLast? h1,rfl⟩)) ih
theorem Can.keys {T:List (List Int)} {es:List En}:∀ {l:Nat} {ks:List Ki},Can T es l ks → (ks.map Ki.k).Sublist (es.map En.k)
 | 0,ks,h => by
  rw [Kids.keys h]
  have:=sub_lf (R:=splitN (fun e:En => endsN 0 e.k) es) (fun r hr => (split_ok r hr).1)
  rw [split_flat] at this
  exact this
 | l + 1,ks,⟨ks0,h1,h2,h3⟩ => by
  rw [h3.keys]
  have:=sub_kd (lv:=((l + 1:Nat):Int)) (R:=splitN (fun e:Ki => endsN ((l + 1:Nat):Int) e.k) ks0) (fun r hr => (split_ok r hr).1)
  rw [split_flat] at this
  exact this.trans (Can.keys h1)
theorem Can.len {T:List (List Int)} {es:List En} {l:Nat} {ks:List Ki} (h:Can T es l ks):ks.length ≤ es.length:=by
 have:=h.keys.length_le
 simpa using this
theorem Can.ids {T:List (List Int)} {es:List En}:∀ {l:Nat} {ks:List Ki},Can T es l ks → ∀ k ∈ ks,1 ≤ k.i ∧ k.i ≤ T.length
 | 0,_,h => Kids.id_le h
 | _ + 1,_,⟨_,_,_,h3⟩ => h3.id_le
theorem Can.top {T:List (List Int)} {es:List En} {ks:List Ki} (h:Can T es 20 ks):ks.length ≤ 1:=by
 obtain ⟨ks0,h1,h2,h3⟩:=h
 rw [h3.1]
 have:splitN (fun e:Ki => endsN ((19 + 1:Nat):Int) e.k) ks0 = [ks0]:=split_one (fun x _ => by simp [endsN]) (by intro q; rw [q] at h2; simp at h2)
 rw [this]
 simp [abns]
end Go.Proofs.YtnblmdmlollmaaaGreat
