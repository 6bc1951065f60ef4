import Derived.Test.YtnblmdmlollmaaaGreatQM38
import Derived.Test.YtnblmdmlollmaaaGreatQM46
import Derived.Test.YtnblmdmlollmaaaGreatQM45
import Derived.Test.YtnblmdmlollmaaaGreatQM37
namespace Go.Proofs.YtnblmdmlollmaaaGreat
set_option maxRecDepth 100000
set_option maxHeartbeats 16000000
open Go.RowKit Apo
open Classical in
theorem eqlKi (f g:Ki) (w:World):(binOp .eql 53 (.agg #[.string f.k,.int .u64 (f.i:Int)]) (.agg #[.string g.k,.int .u64 (g.i:Int)])).run Tryz.prog w = .ok (.bool (decide (f = g))) w:=by
 have u9:=Tryz.underlying9
 have u6:=Tryz.underlying31
 have hS:Tryz.prog.underlying 53 = some (.struct (Tryz.prog.fieldsOf 53)):=by kernel_rfl
 have hp:Tryz.prog.stoodInHeld 53 = false:=by kernel_rfl
 rw [run_eql_struct,show (10000:Nat) = 9999 + 1 from rfl,run_equalIn_agg w 9999 53 _ _ hS hp]
 simp only [Program.fieldsOf,Tryz.underlying53]
 go_simp
 obtain ⟨fk,fv⟩:=f
 obtain ⟨gk,gv⟩:=g
 simp only
 by_cases h1:fk = gk
 ·by_cases h2:fv = gv
  ·simp [h1,h2]
  ·have h2':¬ (fv:Int) = (gv:Int):=fun e => h2 (by omega)
   simp [h1,h2,h2']
 ·have h1':¬ fk.toList = gk.toList:=fun e => h1 (bytes_of_list e)
  simp [h1,h1']
open Classical in
noncomputable def freshK (old l:List Ki):Nat:=(l.filter (fun k => decide (k ∉ old))).length
theorem freshK_app (old a b:List Ki):freshK old (a ++ b) = freshK old a + freshK old b:=by simp [freshK]
theorem freshK_old {old a:List Ki} (h:∀ k ∈ a,k ∈ old):freshK old a = 0:=by
 unfold freshK
 rw [List.length_eq_zero_iff,List.filter_eq_nil_iff]
 intro k hk
 simp [h k hk]
theorem freshK_le (old a:List Ki):freshK old a ≤ a.length:=List.length_filter_le _ _
open Classical in
theorem freshK_snoc (old a:List Ki) (k:Ki):freshK old (a ++ [k]) = freshK old a + (if k ∈ old then 0 else 1):=by
 rw [freshK_app]
 congr 1
 unfold freshK
 by_cases h:k ∈ old
 ·simp [h]
 ·simp [h]
theorem leaf_old {T T':List (List Int)} (hs:Sub T T') (hn:T'.Nodup) {p q:Nat × List En} (hp:T[p.1 - 1]? = some (ndB ⟨0,p.2,[]⟩) ∧ 1 ≤ p.1) (hq:T'[q.1 - 1]? = some (ndB ⟨0,q.2,[]⟩) ∧ 1 ≤ q.1) (he:p.2 = q.2):p = q:=by
 have h1:=hs _ _ hp.1
 rw [he] at h1
 have h2:=hq.1
 obtain ⟨a1,a2⟩:=List.getElem?_eq_some_iff.1 h1
 obtain ⟨b1,b2⟩:=List.getElem?_eq_some_iff.1 h2
 have h3:=(List.getElem_inj (h₀:=a1) (h₁:=b1) hn).1 (a2.trans b2.symm)
 obtain ⟨x,y⟩:=p
 obtain ⟨x',y'⟩:=q
 simp only at he h3 hp hq
 rw [he]
 congr 1
 omega
theorem fresh_two {T T':List (List Int)} (hs:Sub T T') (hn:T'.Nodup) {es fs:List En} {x:Ed} (hr:RiseE es) (ha:ApR es [x] fs) {ls ls':List (Nat × List En)} (h1:ls.map Prod.snd = splitN (fun e:En => endsN 0 e.k) es) (h2:ls'.map Prod.snd = splitN (fun e:En => endsN 0 e.k) fs) (h3:∀ p ∈ ls,T[p.1 - 1]? = some (ndB ⟨0,p.2,[]⟩) ∧ 1 ≤ p.1 ∧ p.1 ≤ T.length) (h4:∀ p ∈ ls',T'[p.1 - 1]? = some (ndB ⟨0,p.2,[]⟩) ∧ 1 ≤ p.1 ∧ p.1 ≤ T'.length):freshK (kidsOf ls) (kidsOf ls') ≤ 2:=by
 obtain ⟨D,N,R,e1,e2,e3,e4⟩:=leaves_near hr ha (fun e:En => endsN 0 e.k)
 rw [e1,List.map_eq_append_iff] at h2
 obtain ⟨l1,l2,rfl,m1,m2⟩:=h2
 rw [List.map_eq_append_iff] at m2
 obtain ⟨l3,l4,rfl,m3,m4⟩:=m2
 have old:∀ q,q ∈ l1 ++ (l3 ++ l4) → q.2 ∈ splitN (fun e:En => endsN 0 e.k) es → kidOf q ∈ kidsOf ls:=fun q hq hm => by
  rw [← h1] at hm
  obtain ⟨p,hp,hpe⟩:=List.mem_map.1 hm
  have:=leaf_old hs hn ⟨(h3 p hp).1,(h3 p hp).2.1⟩ ⟨(h4 q hq).1,(h4 q hq).2.1⟩ hpe
  rw [← this]
  exact List.mem_map.2 ⟨p,hp,rfl⟩
 have q1:freshK (kidsOf ls) (kidsOf l1) = 0:=freshK_old (fun k hk => by
  obtain ⟨q,hq,rfl⟩:=List.mem_map.1 hk
  exact old q (by simp [hq]) (e3 _ (by rw [← m1]; exact List.mem_map.2 ⟨q,hq,rfl⟩)))
 have q4:freshK (kidsOf ls) (kidsOf l4) = 0:=freshK_old (fun k hk => by
  obtain ⟨q,hq,rfl⟩:=List.mem_map.1 hk
  exact old q (by simp [hq]) (e4 _ (by rw [← m4]; exact List.mem_map.2 ⟨q,hq,rfl⟩)))
 have q3:freshK (kidsOf ls) (kidsOf l3) ≤ 2:=by
  refine Nat.le_trans (freshK_le _ _) ?_
  have:=congrArg List.length m3
  simp only [List.length_map] at this
  simp only [kidsOf,List.length_map]
  omega
 have:kidsOf (l1 ++ (l3 ++ l4)) = kidsOf l1 ++ (kidsOf l3 ++ kidsOf l4):=by simp [kidsOf]
 rw [this,freshK_app,freshK_app,q1,q4]
 omega
def edE (x:Ed):Int:=if keyE x.k ≠ 0 then keyE x.k else if x.g = true then 0 else valE x.v
theorem edE_ok {x:Ed} (h:edE x = 0):keyE x.k = 0 ∧ (x.g = true ∨ valE x.v = 0):=by
 unfold edE at h
 by_cases h1:keyE x.k = 0
 ·rw [if_neg (by simp [h1])] at h
  by_cases h2:x.g = true
  ·exact ⟨h1,.inl h2⟩
  ·rw [if_neg h2] at h
   exact ⟨h1,.inr h⟩
 ·rw [if_pos h1] at h
  exact absurd h h1
theorem edits_one (W:World) (a:Option Addr) (c:Nat) (x:Ed) (hr:RdG cEd 3 W a [x]) (hk:x.k.size ≤ 9223372036854775807) (hv:x.v.size ≤ 9223372036854775807) :
  Calls Tryz.prog 13 #[.slice a 1 c] W fun e w' => e = .returned (.int .i64 (edE x)) ∧ Below W.heap.size W w':=by
 obtain ⟨xk,xv,xg⟩:=x
 have HR:=hide hr
 have HK:=hide (fun W => rkey_any xk W hk)
 have HV:=hide (fun W => rval_any xv W hv)
 clear hr hk hv
 go_enter Tryz.func13,Tryz.ntmps13
 go_wp2
 go_loopw [9] (fun i wr => ∃ j:Nat,j ≤ 1 ∧ i = .int .i64 j ∧ Hid (j = 1 → edE ⟨xk,xv,xg⟩ = 0) ∧ Hid (Below W.heap.size W wr)) (fun i _ => 1 - (intOf i).toNat)
 case atStart => exact ⟨0,Nat.zero_le _,rfl,hide (fun q => by omega),hide (Below.refl _ _)⟩
 case round =>
  obtain ⟨j,hj,rfl,HE,HB⟩:=hrel
  by_cases hj0:j = 0
  ·subst hj0
   obtain ⟨g,o,rfl,c0,c1,c2⟩:=(HR.out.below HB.out).ed (i:=0) rfl
   simp only [Nat.zero_mul,Nat.add_zero] at c0 c1 c2
   have HBF:Hid (Below W.heap.size W (wr.alloc (.cells #[.string xk,.string xv,.bool xg] 63))):=hide (HB.out.alloc HB.out.size _)
   clear HE
   by_cases h1:keyE xk = 0
   ·have CK:=HK.out
    rw [h1] at CK
    have HK2:=hide CK
    clear CK
    go_wp2_with fail
    refine (HK2.out _).mono ?_
    rintro e w1 ⟨rfl,rfl⟩
    go_wp2_with fail
    refine (HV.out _).mono ?_
    rintro e w1 ⟨rfl,rfl⟩
    cases xg with
    | true =>
     have HE2:Hid (∀ j:Nat,j = 1 → edE ⟨xk,xv,true⟩ = 0):=hide (fun _ _ => by unfold edE; simp [h1])
     clear h1
     go_wp2
     go_roundw
     case rel => exact ⟨1,by omega,by go_num,hide (HE2.out 1),HBF⟩
     case measure => simp [intOf]
    | false =>
     by_cases h2:valE xv = 0
     ·have HE2:Hid (∀ j:Nat,j = 1 → edE ⟨xk,xv,false⟩ = 0):=hide (fun _ _ => by unfold edE; simp [h1,h2])
      rw [h2]
      clear h1 h2
      go_wp2
      go_roundw
      case rel => exact ⟨1,by omega,by go_num,hide (HE2.out 1),HBF⟩
      case measure => simp [intOf]
     ·have HE2:Hid (edE ⟨xk,xv,false⟩ = valE xv):=hide (by unfold edE; simp [h1])
      have hd:(valE xv == 0) = false:=by simpa using h2
      clear h1 h2
      go_wp2
      go_ret
      exact ⟨by rw [HE2.out]; first | done | rfl,HBF.out⟩
   ·have HE2:Hid (edE ⟨xk,xv,xg⟩ = keyE xk):=hide (by unfold edE; simp [h1])
    have hd:(keyE xk == 0) = false:=by simpa using h1
    clear h1
    go_wp2_with fail
    refine (HK.out _).mono ?_
    rintro e w1 ⟨rfl,rfl⟩
    go_wp2
    go_ret
    exact ⟨by rw [HE2.out]; first | done | rfl,HBF.out⟩
  ·obtain rfl:j = 1:=by omega
   have HE2:=hide (HE.out rfl)
   clear HE
   go_wp2
   go_ret
   exact ⟨by rw [HE2.out]; first | done | rfl,HB.out⟩
end Go.Proofs.YtnblmdmlollmaaaGreat
namespace Go.Proofs.YtnblmdmlollmaaaGreat
set_option maxRecDepth 100000
set_option maxHeartbeats 16000000
open Go.RowKit Apo
theorem keyE_ok {k:ByteArray} (h:keyE k = 0):1 ≤ k.size ∧ k.size ≤ 40:=by
 unfold keyE at h
 split at h
 ·simp at h
 ·omega
theorem valE_ok {v:ByteArray} (h:valE v = 0):v.size ≤ 200:=by
 unfold valE at h
 split at h
 ·simp at h
 ·omega
theorem RootOf.sub {T T':List (List Int)} {es:List En} {id:Nat} (h:RootOf T es id) (s:Sub T T'):RootOf T' es id:=by
 obtain ⟨l,ks,h1,h2⟩:=h
 exact ⟨l,ks,h1.sub s,h2⟩
theorem ApR.map {es fs:List En} {x:Ed} (hok:MapOk es) (hx:edE x = 0) (h:ApR es [x] fs):fs.length ≤ es.length + 1 ∧ MapOk fs:=by
 have hr:RiseE es:=riseE_iff.2 hok.rise
 obtain ⟨h1,h2⟩:=h.one hr
 obtain ⟨k1,k2⟩:=edE_ok hx
 refine ⟨h1,⟨riseE_iff.1 h.1,fun e he => ?_,fun e he => ?_⟩⟩
 ·rcases h2 e he with q | ⟨rfl,_⟩
  ·exact hok.key e q
  ·exact keyE_ok k1
 ·rcases h2 e he with q | ⟨rfl,q⟩
  ·exact hok.val e q
  ·rcases k2 with z | z
   ·rw [q] at z; cases z
   ·exact valE_ok z
theorem split_ent {ls:List (Nat × List En)} {es:List En} (h:ls.map Prod.snd = splitN (fun e:En => endsN 0 e.k) es):ls.flatMap (fun p => p.2) = es:=by
 have h1:ls.flatMap (fun p => p.2) = (ls.map Prod.snd).flatten:=by rw [List.flatMap_def]
 rw [h1,h]
 exact split_flat
theorem rows_len {rows:List (List En)} (h:∀ r ∈ rows,0 < r.length):rows.length ≤ rows.flatten.length:=by
 induction rows with
 | nil => simp
 | cons r rows ih =>
  have:=h r (by simp)
  have:=ih (fun q hq => h q (by simp [hq]))
  simp only [List.length_cons,List.flatten_cons,List.length_append]
  omega
structure ShK (es fs:List En) (T:List (List Int)) (id id':Nat):Prop where
 two:∃ ls ls',RootT T id ls ∧ RootT T id' ls' ∧ ls.length ≤ 1000 ∧ ls'.length ≤ 1000 ∧ freshK (kidsOf ls) (kidsOf ls') ≤ 2
theorem shk_of {es fs:List En} {x:Ed} {T:List (List Int)} {id id':Nat} (hok:MapOk es) (hx:edE x = 0) (ha:ApR es [x] fs) (hl:es.length ≤ 60) (hT:T.length ≤ 16000) (hn:T.Nodup) (h1:RootOf T es id) (h2:RootOf T fs id'):ShK es fs T id id':=by
 obtain ⟨f1,f2⟩:=ha.map hok hx
 obtain ⟨ls,a1,a2,a3⟩:=h1.tree2 hok (by omega) hT
 obtain ⟨ls',b1,b2,b3⟩:=h2.tree2 f2 (by omega) hT
 have len:∀ {T id} {ls:List (Nat × List En)} {es:List En},RootT T id ls → ls.map Prod.snd = splitN (fun e:En => endsN 0 e.k) es → ls.length ≤ es.length:=fun {T id ls es} hr hm => by
  have hp:∀ p ∈ ls,0 < p.2.length:=by
   rcases hr with ⟨_,rfl⟩ | ⟨l,n,hr⟩
   ·intro p hp; simp at hp
   ·exact hr.leaves
  have h3:=rows_len (rows:=ls.map Prod.snd) (fun r hr => by obtain ⟨p,q,rfl⟩:=List.mem_map.1 hr; exact hp p q)
  rw [hm] at h3
  rw [split_flat,← hm,List.length_map] at h3
  exact h3
 have q1:=len a1 a2
 have q2:=len b1 b2
 exact ⟨ls,ls',a1,b1,by omega,by omega,fresh_two (Sub.refl T) hn (riseE_iff.2 hok.rise) ha a2 b2 a3 b3⟩
open Classical in
theorem shares10 (w:World) (x:EsA) (hx:OkEs w x) (ed:Ed) (hek:ed.k.size ≤ maxLen) (hev:ed.v.size ≤ maxLen) :
  Calls Tryz.prog 6 #[.slice x.a x.l.length x.c,.agg #[.string ed.k,.string ed.v,.bool ed.g]] w fun e w' => e = .returned (.bool true) ∧ Below w.heap.size w w':=by
 obtain ⟨a,c,es⟩:=x
 obtain ⟨xk,xv,xg⟩:=ed
 simp only at hek hev ⊢
 have hml:maxLen ≤ 9223372036854775807:=by decide
 have hbig:=hx.big
 have hlen:=hx.len
 simp only at hbig hlen
 obtain ⟨W0,hW0⟩:∃ W0,W0 = w.alloc (.cells #[.string xk,.string xv,.bool xg] 63):=⟨_,rfl⟩
 have b0:Below w.heap.size w W0:=by rw [hW0]; exact (Below.refl _ w).alloc (Nat.le_refl _) _
 have kx0:Ob W0 w.heap.size 63 [.string xk,.string xv,.bool xg]:=by rw [hW0]; exact Ob.new w [.string xk,.string xv,.bool xg] 63
 have CL:∀ W,Below w.heap.size w W → Calls Tryz.prog 10 #[.slice a es.length c] W fun e w' => e = .returned (.bool (lightB es)) ∧ Below W.heap.size W w':=fun W b => light_any W a c es (hx.rd.below b) (by omega) hx.sz
 obtain ⟨n,hn⟩:∃ n,n = es.length:=⟨_,rfl⟩
 have HN:=hide hn
 have HX:=hide hx
 have HCL:=hide CL
 have HAW:=hide (tawake_any W0)
 have HB0:=hide b0
 have HKX:=hide kx0
 have HEK:=hide (And.intro hek hev)
 rw [← hn] at HCL hlen ⊢
 clear CL hx hn b0 kx0 hek hev
 cases hli:lightB es with
 | false =>
  rw [hli] at HCL
  clear hli
  go_enter Tryz.func6,Tryz.ntmps6
  go_wp2_with fail
  rw [← hW0]
  clear hW0
  refine HAW.out.mono ?_
  rintro e w1 ⟨rfl,b1⟩
  have HB1:=hide (HB0.out.trans (b1.mono HB0.out.size))
  have HD1:=hide b1
  have HC2:=hide (HCL.out w1 HB1.out)
  clear b1
  go_wp2_with fail
  refine HC2.out.mono ?_
  rintro e w2 ⟨rfl,b2⟩
  have HB2:=hide (HB1.out.trans (b2.mono HB1.out.size))
  have HD2:=hide (HD1.out.trans (b2.mono HD1.out.size))
  clear b2 HC2 HB1 HD1
  go_wp2
  go_ret
  exact ⟨rfl,HB2.out⟩
 | true =>
  rw [hli] at HCL
  have hn60:n ≤ 60:=by
   unfold lightB at hli
   simp only [Bool.and_eq_true,decide_eq_true_eq] at hli
   have:=HN.out
   omega
  clear hli
  by_cases hr:rightE es = 0
  ·have HRI:=hide hr
   clear hr
   go_enter Tryz.func6,Tryz.ntmps6
   go_wp2_with fail
   rw [← hW0]
   clear hW0
   refine HAW.out.mono ?_
   rintro e w1 ⟨rfl,b1⟩
   have HB1:=hide (HB0.out.trans (b1.mono HB0.out.size))
   have HD1:=hide b1
   have HC2:=hide (HCL.out w1 HB1.out)
   clear b1
   go_wp2_with fail
   refine HC2.out.mono ?_
   rintro e w2 ⟨rfl,b2⟩
   have HB2:=hide (HB1.out.trans (b2.mono HB1.out.size))
   have HD2:=hide (HD1.out.trans (b2.mono HD1.out.size))
   clear b2 HC2 HB1 HD1
   have CR:=rright_any w2 a c es (HX.out.rd.below HB2.out) (by have:=HN.out; omega) HX.out.sz
   unfold RrP at CR
   rw [HRI.out,← HN.out] at CR
   have HCR:=hide CR
   clear CR
   go_wp2_with fail
   refine HCR.out.mono ?_
   rintro e w3 ⟨rfl,b3⟩
   have HB3:=hide (HB2.out.trans (b3.mono HB2.out.size))
   have HD3:=hide (HD2.out.trans (b3.mono HD2.out.size))
   clear b3 HCR HB2 HD2
   have kx3:=HKX.out.old HD3.out
   have y0:=kx3.cell 0
   have y1:=kx3.cell 1
   have y2:=kx3.cell 2
   simp only [List.getElem?_cons_zero,List.getElem?_cons_succ] at y0 y1 y2
   obtain ⟨W4,hW4⟩:∃ W4,W4 = w3.alloc (.cells #[.string xk,.string xv,.bool xg] 63):=⟨_,rfl⟩
   have b4:Below w3.heap.size w3 W4:=by rw [hW4]; exact (Below.refl _ w3).alloc (Nat.le_refl _) _
   have rd4:RdG cEd 3 W4 (some ⟨w3.heap.size,0,none⟩) [⟨xk,xv,xg⟩]:=by rw [hW4]; exact rd_lit (c:=cEd) (k:=3) 63 w3 ⟨xk,xv,xg⟩
   have CE:=edits_one W4 _ 1 ⟨xk,xv,xg⟩ rd4 (by have:=HEK.out.1; simp only; omega) (by have:=HEK.out.2; simp only; omega)
   have HCE:=hide CE
   have HB4:=hide (HB3.out.trans (b4.mono HB3.out.size))
   have HD4:=hide (HD3.out.trans (b4.mono HD3.out.size))
   clear CE b4 rd4 kx3 HB3 HD3
   go_wp2_with fail
   rw [← hW4]
   clear hW4 y0 y1 y2
   refine HCE.out.mono ?_
   rintro e w5 ⟨rfl,b5⟩
   have HB5:=hide (HB4.out.trans (b5.mono HB4.out.size))
   have HD5:=hide (HD4.out.trans (b5.mono HD4.out.size))
   clear b5 HCE HB4 HD4
   by_cases hed:edE ⟨xk,xv,xg⟩ = 0
   ·rw [hed]
    have HEE:=hide hed
    clear hed
    go_wp2_with fail
    refine (tstore_any w5).mono ?_
    rintro e w6 ⟨s,O6,rfl,t6⟩
    have B6:Below w.heap.size w w6:=HB5.out.trans (t6.bel.mono HB5.out.size)
    have D6:Below W0.heap.size W0 w6:=HD5.out.trans (t6.bel.mono HD5.out.size)
    have rd6:=HX.out.rd.below B6
    simp only at rd6
    have C7:=tBuild_any t6 a c es rd6 HX.out.nil (by have:=HN.out; omega) HX.out.sz (by have:=HN.out; omega) (by have:=HN.out; simp; omega)
    rw [← HN.out] at C7
    have HC7:=hide C7
    have HB6:=hide B6
    have HD6:=hide D6
    have HLO6:=hide t6.lo
    have hs5:=HB5.out.size
    have hd5:=HD5.out.size
    clear C7 t6 B6 D6 rd6 HB5 HD5
    go_wp2_with fail
    refine HC7.out.mono ?_
    rintro e w7 hb7
    obtain ⟨id,O7,T7,rfl,p1,p2,p2',p3,p4,p5,p6⟩:=hb7.good HRI.out
    have hok:=rightE_map HRI.out
    have B7:Below w.heap.size w w7:=Below.onl HB6.out p6 (fun i q => by have:=HLO6.out i q; omega) (Nat.le_refl _)
    have D7:Below W0.heap.size W0 w7:=Below.onl HD6.out p6 (fun i q => by have:=HLO6.out i q; omega) (Nat.le_refl _)
    have hT7:T7.length ≤ 1260:=by have:=HN.out; simp only [List.length_nil] at p3; omega
    have tx7:TxOk T7:=p2' (fun t ht => by simp at ht)
    obtain ⟨ls,q1,q2,q3⟩:=p1.tree2 hok (by have:=HN.out; omega) (by omega)
    have q4:ls.flatMap (fun p => p.2) = es:=split_ent q2
    have q5:∀ p ∈ ls,0 < p.2.length:=by
     rcases q1 with ⟨_,rfl⟩ | ⟨l,nn,q1⟩
     ·intro p hp; simp at hp
     ·exact q1.leaves
    have q6:ls.length ≤ 1000:=by
     have h3:=rows_len (rows:=ls.map Prod.snd) (fun r hr => by obtain ⟨p,q,rfl⟩:=List.mem_map.1 hr; exact q5 p q)
     rw [q2] at h3
     rw [split_flat,← q2,List.length_map] at h3
     have:=HN.out
     omega
    obtain ⟨W8,hW8⟩:∃ W8,W8 = w7.alloc (.cells #[.string xk,.string xv,.bool xg] 63):=⟨_,rfl⟩
    have b8:Below w7.heap.size w7 W8:=by rw [hW8]; exact (Below.refl _ w7).alloc (Nat.le_refl _) _
    have rd8:RdG cEd 3 W8 (some ⟨w7.heap.size,0,none⟩) [⟨xk,xv,xg⟩]:=by rw [hW8]; exact rd_lit (c:=cEd) (k:=3) 63 w7 ⟨xk,xv,xg⟩
    have C9:=tedit_any (p4.below b8) (by omega) tx7 id ls q1 q5 (by rw [q4]; have:=HN.out; omega) q6 q3 (by rw [q4]; exact hok.rise) _ 1 [⟨xk,xv,xg⟩] rd8 (by simp) (fun y hy => by rw [List.mem_singleton.1 hy]; have h1:=edE_ok HEE.out; have h2:=HEK.out; exact ⟨h1.1,h1.2,by simp only; omega,by simp only; omega⟩) (fun fs hf => by
     rw [q4] at hf
     obtain ⟨f1,f2⟩:=hf.map hok HEE.out
     have:=HN.out
     exact ⟨by omega,f2,by omega,by omega⟩)
    rw [q4] at C9
    have HC9:=hide C9
    have kx7:=HKX.out.old D7
    have y0:=kx7.cell 0
    have y1:=kx7.cell 1
    have y2:=kx7.cell 2
    simp only [List.getElem?_cons_zero,List.getElem?_cons_succ] at y0 y1 y2
    have HB8:=hide (B7.trans (b8.mono B7.size))
    have HP1:=hide p1
    have HOK:=hide hok
    have HTX:=hide tx7
    have HT7:=hide hT7
    have HLO7:=hide p4.lo
    clear C9 kx7 b8 rd8 p1 p2 p2' p3 p4 p5 p6 hok B7 D7 tx7 hT7 q1 q2 q3 q4 q5 q6 hb7 HC7 HB6 HD6
    go_wp2_with fail
    rw [← hW8]
    clear hW8 y0 y1 y2
    refine HC9.out.mono ?_
    rintro e w9 ⟨fs,hap,id',O9,T9,rfl,r1,r2,r2',r3,r4,r5,r6⟩
    have hfm:=hap.map HOK.out HEE.out
    have B9:Below w.heap.size w w9:=Below.onl HB8.out r6 (fun i q => by have:=HLO7.out i q; omega) (Nat.le_refl _)
    have hT9:T9.length ≤ 16000:=by have:=HT7.out; have:=HN.out; omega
    obtain ⟨ls,ls',k1,k2,k3,k4,k5⟩:=(shk_of HOK.out HEE.out hap (by have:=HN.out; omega) hT9 r4.nodup (HP1.out.sub r2) r1).two
    have CA:=tleaves_any r4 hT9 (r2' HTX.out) id ls k1 k3
    have CB:∀ W,Below w9.heap.size w9 W → Calls Tryz.prog 20 #[.pointer (some ⟨s,0,none⟩),.int .u64 id'] W (LvP W (kidsOf ls')):=fun W u => tleaves_any (r4.below u) hT9 (r2' HTX.out) id' ls' k2 k4
    have HCA:=hide CA
    have HCB:=hide CB
    have HK5:=hide k5
    have HK34:=hide (And.intro k3 k4)
    have HB9:=hide B9
    clear CA CB k1 k2 k3 k4 k5 r1 r2 r2' r3 r4 r5 r6 hfm B9 hT9 hap HC9 HB8
    go_wp2_with fail
    refine HCA.out.mono ?_
    rintro e w10 ⟨v,rfl,row1,b10⟩
    obtain ⟨ua,uc,hv,rdk,_⟩:=rd_kcells row1
    subst hv
    obtain ⟨nu,hnu⟩:∃ n,n = (kidsOf ls).length:=⟨_,rfl⟩
    rw [← hnu]
    have HNU:=hide hnu
    have HRU:=hide rdk
    have HCB2:=hide (HCB.out w10 b10)
    have HB10:=hide (HB9.out.trans (b10.mono HB9.out.size))
    clear row1 rdk hnu b10 HCA HCB HB9
    go_wp2_with fail
    refine HCB2.out.mono ?_
    rintro e w11 ⟨v,rfl,row2,b11⟩
    obtain ⟨va,vc,hv,rdk,_⟩:=rd_kcells row2
    subst hv
    obtain ⟨nv,hnv⟩:∃ n,n = (kidsOf ls').length:=⟨_,rfl⟩
    rw [← hnv]
    have HNV:=hide hnv
    have HRV:=hide rdk
    have HRU2:=hide (HRU.out.below b11)
    have HB11:=hide (HB10.out.trans (b11.mono HB10.out.size))
    have hnv1:nv ≤ 1000:=by have:=HK34.out.2; rw [hnv]; simpa [kidsOf] using this
    have hnu1:nu ≤ 1000:=by have:=HK34.out.1; have h2:=HNU.out; rw [h2]; simpa [kidsOf] using this
    clear row2 rdk hnv b11 HCB2 HB10 HRU
    generalize kidsOf ls = old at *
    generalize kidsOf ls' = now at *
    go_wp2
    go_loopw [14,75] (fun f i wr => ∃ k fr:Nat,k ≤ nv ∧ i = .int .i64 k ∧ f = .int .i64 fr ∧ Hid (fr = freshK old (now.take k)) ∧ fr ≤ k ∧ Hid (Below w11.heap.size w11 wr)) (fun _ i _ => nv - (intOf i).toNat)
    case atStart => exact ⟨0,0,Nat.zero_le _,rfl,rfl,hide (by simp [freshK]),Nat.le_refl _,hide (Below.refl _ _)⟩
    case round =>
     obtain ⟨k,fr,hk,rfl,rfl,HFR,hfk,HBr⟩:=hrel
     by_cases hkn:k < nv
     ·obtain ⟨⟨kk,ki⟩,hx⟩:∃ x,now[k]? = some x:=⟨now[k]'(by have:=HNV.out; omega),List.getElem?_eq_getElem _⟩
      obtain ⟨g,o,rfl,c0,c1⟩:=(HRV.out.below HBr.out) k _ hx
      simp only at c0 c1
      have HTK:Hid (freshK old (now.take (k + 1)) = freshK old (now.take k) + (if (⟨kk,ki⟩:Ki) ∈ old then 0 else 1)):=hide (by rw [List.take_add_one,hx]; exact freshK_snoc old _ _)
      obtain ⟨A0,hA0⟩:∃ A0,A0 = wr.alloc (.cells #[.string kk,.int .u64 (ki:Int)] 53):=⟨_,rfl⟩
      have bA:Below wr.heap.size wr A0:=by rw [hA0]; exact (Below.refl _ wr).alloc (Nat.le_refl _) _
      have kA:Ob A0 wr.heap.size 53 [.string kk,.int .u64 (ki:Int)]:=by rw [hA0]; exact Ob.new wr [.string kk,.int .u64 (ki:Int)] 53
      have HKA:=hide kA
      have HBA:=hide (HBr.out.trans (bA.mono HBr.out.size))
      clear hx bA kA
      go_wp2
      rw [← hA0]
      clear hA0 c0 c1
      go_loopw [17,81] (fun b i wq => ∃ (j:Nat) (bb:Bool),j ≤ nu ∧ i = .int .i64 j ∧ b = .bool bb ∧ Hid (bb = true ↔ (⟨kk,ki⟩:Ki) ∈ old.take j) ∧ Hid (Below A0.heap.size A0 wq)) (fun _ i _ => nu - (intOf i).toNat)
      case atStart => exact ⟨0,false,Nat.zero_le _,rfl,rfl,hide (by simp),hide (Below.refl _ _)⟩
      case round =>
       obtain ⟨j,bb,hj,rfl,rfl,HI,HBq⟩:=hrel
       by_cases hjn:j < nu
       ·obtain ⟨⟨jk,ji⟩,hy⟩:∃ x,old[j]? = some x:=⟨old[j]'(by have:=HNU.out; omega),List.getElem?_eq_getElem _⟩
        obtain ⟨g2,o2,rfl,c0,c1⟩:=((HRU2.out.below HBA.out).below HBq.out) j _ hy
        simp only at c0 c1
        have htk:old.take (j + 1) = old.take j ++ [⟨jk,ji⟩]:=by rw [List.take_add_one,hy]; rfl
        obtain ⟨Q0,hQ0⟩:∃ Q0,Q0 = wr.alloc (.cells #[.string jk,.int .u64 (ji:Int)] 53):=⟨_,rfl⟩
        have bQ:Below wr.heap.size wr Q0:=by rw [hQ0]; exact (Below.refl _ wr).alloc (Nat.le_refl _) _
        have kQ:=(HKA.out.old HBq.out).old bQ
        rw [hQ0] at kQ
        have z0:=kQ.cell 0
        have z1:=kQ.cell 1
        simp only [List.getElem?_cons_zero,List.getElem?_cons_succ] at z0 z1
        have HBF:Hid (Below A0.heap.size A0 (wr.alloc (.cells #[.string jk,.int .u64 (ji:Int)] 53))):=hide (HBq.out.alloc HBq.out.size _)
        have hgd:Tryz.prog.eqGuardType Tryz.prog.depth 53 = false:=by kernel_rfl
        have hcmp:=eqlKi ⟨jk,ji⟩ ⟨kk,ki⟩
        simp only at hcmp
        cases bb with
        | true =>
         have HI2:Hid (true = true ↔ (⟨kk,ki⟩:Ki) ∈ old.take (j + 1)):=hide (by rw [htk]; simp [HI.out.1 rfl])
         clear hy htk HI bQ kQ hQ0 hcmp
         go_wp2
         go_roundw
         case rel => exact ⟨j + 1,true,by omega,by go_num,rfl,HI2,HBF⟩
         case measure => simp [intOf]; omega
        | false =>
         by_cases heq:(⟨jk,ji⟩:Ki) = ⟨kk,ki⟩
         ·have HI2:Hid (true = true ↔ (⟨kk,ki⟩:Ki) ∈ old.take (j + 1)):=hide (by rw [htk,heq]; simp)
          rw [decide_eq_true heq] at hcmp
          clear hy htk HI bQ kQ hQ0 heq
          go_wp2
          go_roundw
          case rel => exact ⟨j + 1,true,by omega,by go_num,rfl,HI2,HBF⟩
          case measure => simp [intOf]; omega
         ·have HI2:Hid (false = true ↔ (⟨kk,ki⟩:Ki) ∈ old.take (j + 1)):=hide (by
           rw [htk,List.mem_append,List.mem_singleton]
           constructor
           ·intro q; cases q
           ·rintro (q | q)
            ·exact HI.out.2 q
            ·exact absurd q.symm heq)
          rw [decide_eq_false heq] at hcmp
          clear hy htk HI bQ kQ hQ0 heq
          go_wp2
          go_roundw
          case rel => exact ⟨j + 1,false,by omega,by go_num,rfl,HI2,HBF⟩
          case measure => simp [intOf]; omega
       ·have hI:=HI.out
        rw [List.take_of_length_le (by have:=HNU.out; omega)] at hI
        have HBF:=hide (HBA.out.trans (HBq.out.mono HBA.out.size))
        cases bb with
        | true =>
         have HF2:Hid (fr = freshK old (now.take (k + 1))):=hide (by rw [HTK.out,if_pos (hI.1 rfl)]; exact HFR.out)
         clear hI HI
         go_wp2
         go_roundw
         case rel => exact ⟨k + 1,fr,by omega,by go_num,rfl,HF2,by omega,HBF⟩
         case measure => simp [intOf]; omega
        | false =>
         have HF2:Hid (fr + 1 = freshK old (now.take (k + 1))):=hide (by rw [HTK.out,if_neg (fun q => by have:=hI.2 q; cases this),HFR.out])
         clear hI HI
         go_wp2
         go_roundw
         case rel => exact ⟨k + 1,fr + 1,by omega,by go_num,by go_num,HF2,by omega,HBF⟩
         case measure => simp [intOf]; omega
     ·have hfr:fr ≤ 2:=by
       have h1:=HFR.out
       rw [List.take_of_length_le (by have:=HNV.out; omega)] at h1
       have:=HK5.out
       omega
      have hd:decide ((fr:Int) ≤ 3) = true:=decide_eq_true (by omega)
      have HF:=hide (HB11.out.trans (HBr.out.mono HB11.out.size))
      go_wp2
      go_ret
      exact ⟨rfl,HF.out⟩
   ·have hd:(edE ⟨xk,xv,xg⟩ == 0) = false:=by simpa using hed
    clear hed
    go_wp2
    go_ret
    exact ⟨rfl,HB5.out⟩
  ·have hd:(rightE es == 0) = false:=by simpa using hr
   clear hr
   go_enter Tryz.func6,Tryz.ntmps6
   go_wp2_with fail
   rw [← hW0]
   clear hW0
   refine HAW.out.mono ?_
   rintro e w1 ⟨rfl,b1⟩
   have HB1:=hide (HB0.out.trans (b1.mono HB0.out.size))
   have HD1:=hide b1
   have HC2:=hide (HCL.out w1 HB1.out)
   clear b1
   go_wp2_with fail
   refine HC2.out.mono ?_
   rintro e w2 ⟨rfl,b2⟩
   have HB2:=hide (HB1.out.trans (b2.mono HB1.out.size))
   have HD2:=hide (HD1.out.trans (b2.mono HD1.out.size))
   clear b2 HC2 HB1 HD1
   have CR:=rright_any w2 a c es (HX.out.rd.below HB2.out) (by have:=HN.out; omega) HX.out.sz
   unfold RrP at CR
   rw [← HN.out] at CR
   generalize rightE es = r at CR hd
   have hz:¬ r = 0:=by simpa using hd
   have h3:(r != 0) = true:=by simpa using hd
   have HCR:=hide CR
   clear CR
   go_wp2_with fail
   refine HCR.out.mono ?_
   rintro e w3 ⟨rfl,b3⟩
   have HB3:=hide (HB2.out.trans (b3.mono HB2.out.size))
   clear b3 HCR HB2 HD2
   go_wp2
   go_ret
   exact ⟨rfl,HB3.out⟩
end Go.Proofs.YtnblmdmlollmaaaGreat
