import Derived.Test.YtnblmdmlollmaaaGreatQM37
import Derived.Test.YtnblmdmlollmaaaGreatQM36
import Derived.Test.YtnblmdmlollmaaaGreatQM32
namespace Go.Proofs.YtnblmdmlollmaaaGreat
set_option maxRecDepth 100000
set_option maxHeartbeats 1000000
open Go.RowKit Apo
end Go.Proofs.YtnblmdmlollmaaaGreat
namespace Go.Proofs.YtnblmdmlollmaaaGreat
set_option maxRecDepth 100000
set_option maxHeartbeats 1000000
open Go.RowKit Apo
def Says (ws:List Ed) (key v:ByteArray) (b:Bool):Prop:=(b = true ∧ ∃ x,(ofKey ws key).getLast? = some x ∧ x.g = false ∧ x.v = v) ∨ (b = false ∧ v = ⟨#[]⟩ ∧ ∀ x,(ofKey ws key).getLast? = some x → x.g = true)
theorem says_ex (ws:List Ed) (key:ByteArray):∃ v b,Says ws key v b:=by
 cases h:(ofKey ws key).getLast? with
 | none => exact ⟨_,false,.inr ⟨rfl,rfl,fun x hx => by rw [h] at hx; cases hx⟩⟩
 | some x =>
  cases hg:x.g with
  | true => exact ⟨_,false,.inr ⟨rfl,rfl,fun y hy => by rw [h] at hy; cases hy; exact hg⟩⟩
  | false => exact ⟨x.v,true,.inl ⟨rfl,x,h,hg,rfl⟩⟩
def wordOf (e:En):Ed:=⟨e.k,e.v,false⟩
theorem ofK_ne {ws:List Ed} {x:Ed} {key:ByteArray} (h:x.k ≠ key):ofKey (ws ++ [x]) key = ofKey ws key:=by
 rw [ofK_app]
 simp [ofKey,h]
theorem ofK_eq {ws:List Ed} {x:Ed} {key:ByteArray} (h:x.k = key):ofKey (ws ++ [x]) key = ofKey ws key ++ [x]:=by
 rw [ofK_app]
 simp [ofKey,h]
theorem says_ne {ws:List Ed} {x:Ed} {key v:ByteArray} {b:Bool} (h:x.k ≠ key):Says (ws ++ [x]) key v b ↔ Says ws key v b:=by unfold Says; rw [ofK_ne h]
theorem says_eq {ws:List Ed} {x:Ed} {key v:ByteArray} {b:Bool} (h:x.k = key):Says (ws ++ [x]) key v b ↔ (b = true ∧ x.g = false ∧ x.v = v) ∨ (b = false ∧ v = ⟨#[]⟩ ∧ x.g = true):=by
 unfold Says
 rw [ofK_eq h]
 simp
def ApR (a:List En) (l:List Ed) (es:List En):Prop:=RiseE es ∧ ∀ key v b,Says (a.map wordOf ++ l) key v b → Gets es key v b
theorem ent_mem {es:List En} {e:En}:e ∈ es ↔ Gets es e.k e.v true:=by
 constructor
 ·exact fun h => .inl ⟨rfl,e,h,rfl,rfl⟩
 ·rintro (⟨_,f,hf,h1,h2⟩ | ⟨h,_⟩)
  ·have:f = e:=by cases f; cases e; simp only at h1 h2; rw [h1,h2]
   rwa [← this]
  ·cases h
theorem riseE_uniq {es fs:List En} (h:RiseE es) (h':RiseE fs) (hm:∀ e,e ∈ es ↔ e ∈ fs):es = fs:=by
 induction es generalizing fs with
 | nil =>
  cases fs with
  | nil => rfl
  | cons c l => exact absurd ((hm c).2 (by simp)) (by simp)
 | cons c l ih =>
  cases fs with
  | nil => exact absurd ((hm c).1 (by simp)) (by simp)
  | cons c' l' =>
   unfold RiseE at h h'
   rw [List.pairwise_cons] at h h'
   have hcc:c = c':=by
    rcases List.mem_cons.1 ((hm c).1 (by simp)) with q | q
    ·exact q
    ·rcases List.mem_cons.1 ((hm c').2 (by simp)) with q' | q'
     ·exact q'.symm
     ·have:=sLt_trans (h'.1 c q) (h.1 c' q')
      rw [sLt_irr] at this
      cases this
   subst hcc
   congr 1
   refine ih h.2 h'.2 (fun x => ?_)
   constructor
   ·intro hx
    rcases List.mem_cons.1 ((hm x).1 (by simp [hx])) with q | q
    ·have:=h.1 x hx
     rw [q,sLt_irr] at this
     cases this
    ·exact q
   ·intro hx
    rcases List.mem_cons.1 ((hm x).2 (by simp [hx])) with q | q
    ·have:=h'.1 x hx
     rw [q,sLt_irr] at this
     cases this
    ·exact q
theorem ApR.uniq {a:List En} {l:List Ed} {es fs:List En} (h:ApR a l es) (h':ApR a l fs):es = fs:=by
 refine riseE_uniq h.1 h'.1 (fun e => ?_)
 obtain ⟨v,b,hs⟩:=says_ex (a.map wordOf ++ l) e.k
 have g1:=h.2 _ _ _ hs
 have g2:=h'.2 _ _ _ hs
 rw [ent_mem,ent_mem]
 constructor
 ·intro q
  obtain ⟨e1,e2⟩:=gets_uniq h.1 q g1
  rw [e1,e2]; exact g2
 ·intro q
  obtain ⟨e1,e2⟩:=gets_uniq h'.1 q g2
  rw [e1,e2]; exact g1
theorem says_words {a:List En} {key v:ByteArray} {b:Bool} (h:Says (a.map wordOf) key v b):Gets a key v b:=by
 rcases h with ⟨rfl,x,hx,hg,hv⟩ | ⟨rfl,rfl,hx⟩
 ·have hm:=List.mem_of_getLast? hx
  unfold ofKey at hm
  rw [List.mem_filter,decide_eq_true_eq] at hm
  obtain ⟨e,he,rfl⟩:=List.mem_map.1 hm.1
  exact .inl ⟨rfl,e,he,hm.2,hv⟩
 ·refine .inr ⟨rfl,rfl,fun e he hk => ?_⟩
  have hm:wordOf e ∈ ofKey (a.map wordOf) key:=by
   unfold ofKey
   rw [List.mem_filter,decide_eq_true_eq]
   exact ⟨List.mem_map.2 ⟨e,he,rfl⟩,hk⟩
  cases hq:(ofKey (a.map wordOf) key).getLast? with
  | none => rw [List.getLast?_eq_none_iff] at hq; rw [hq] at hm; simp at hm
  | some y =>
   have hy:=hx y hq
   have hm2:=List.mem_of_getLast? hq
   unfold ofKey at hm2
   rw [List.mem_filter] at hm2
   obtain ⟨f,_,rfl⟩:=List.mem_map.1 hm2.1
   cases hy
theorem ApR.nil {a:List En} (hr:RiseE a):ApR a [] a:=⟨hr,fun key v b h => says_words (by simpa using h)⟩
def SetC (es:List En) (x:Ed) (fs:List En):Prop:=RiseE fs ∧ (∀ key v b,key ≠ x.k → Gets es key v b → Gets fs key v b) ∧ (x.g = false → Gets fs x.k x.v true) ∧ (x.g = true → Gets fs x.k ⟨#[]⟩ false)
theorem ApR.snoc {a:List En} {l:List Ed} {es fs:List En} {x:Ed} (h:ApR a l es) (hs:SetC es x fs):ApR a (l ++ [x]) fs:=by
 refine ⟨hs.1,fun key v b q => ?_⟩
 rw [← List.append_assoc] at q
 by_cases z:x.k = key
 ·rw [says_eq z] at q
  rcases q with ⟨rfl,h1,rfl⟩ | ⟨rfl,rfl,h1⟩
  ·rw [← z]; exact hs.2.2.1 h1
  ·rw [← z]; exact hs.2.2.2 h1
 ·rw [says_ne z] at q
  exact hs.2.1 key v b (Ne.symm z) (h.2 key v b q)
def Kept (d:List Ed) (t:Nat) (x:Ed):Prop:=d[t]? = some x ∧ x.g = false ∧ ∀ y,d[t + 1]? = some y → y.k ≠ x.k
open Classical in
noncomputable def keepO (d:List Ed) (t:Nat):List En:=if h:∃ x,Kept d t x then [⟨h.choose.k,h.choose.v⟩] else []
theorem keep_yes {d:List Ed} {t:Nat} {x:Ed} (h:Kept d t x):keepO d t = [⟨x.k,x.v⟩]:=by
 have hex:∃ x,Kept d t x:=⟨x,h⟩
 unfold keepO
 rw [dif_pos hex]
 have h1:=hex.choose_spec.1
 rw [h.1] at h1
 cases h1
 rfl
theorem keep_no {d:List Ed} {t:Nat} (h:∀ x,¬ Kept d t x):keepO d t = []:=by
 unfold keepO
 rw [dif_neg (fun ⟨x,hx⟩ => h x hx)]
noncomputable def keptTo (d:List Ed):Nat → List En
 | 0 => []
 | n + 1 => keptTo d n ++ keepO d n
theorem keep_len (d:List Ed) (t:Nat):(keepO d t).length ≤ 1:=by
 unfold keepO
 split <;> simp
theorem keptTo_len (d:List Ed):∀ n,(keptTo d n).length ≤ n
 | 0 => Nat.le_refl _
 | n + 1 => by have h1:=keptTo_len d n; have h2:=keep_len d n; simp only [keptTo,List.length_append]; omega
theorem keptTo_mem {d:List Ed} {e:En}:∀ {n:Nat},e ∈ keptTo d n ↔ ∃ t x,t < n ∧ Kept d t x ∧ e = ⟨x.k,x.v⟩
 | 0 => by simp [keptTo]
 | n + 1 => by
  simp only [keptTo,List.mem_append]
  rw [keptTo_mem (n:=n)]
  constructor
  ·rintro (⟨t,x,h1,h2⟩ | h)
   ·exact ⟨t,x,by omega,h2⟩
   ·by_cases q:∃ x,Kept d n x
    ·obtain ⟨x,hx⟩:=q
     rw [keep_yes hx,List.mem_singleton] at h
     exact ⟨n,x,by omega,hx,h⟩
    ·rw [keep_no (fun x hx => q ⟨x,hx⟩)] at h
     simp at h
  ·rintro ⟨t,x,h1,h2,rfl⟩
   by_cases z:t < n
   ·exact .inl ⟨t,x,z,h2,rfl⟩
   ·obtain rfl:t = n:=by omega
    right
    rw [keep_yes h2]
    simp
theorem leK_anti {a b:ByteArray} (h:leK a b) (k:leK b a):a = b:=sLt_conn k h
theorem kept_lt {d:List Ed} {n t u:Nat} {x y:Ed} (hs:SrtIn d 0 n) (hn:d.length ≤ n) (h:Kept d t x) (hy:d[u]? = some y) (htu:t < u):sLt x.k y.k = true:=by
 have hu:=(List.getElem?_eq_some_iff.1 hy).1
 have h1:=hs t u (Nat.zero_le _) htu (by omega)
 rw [kAt_some h.1,kAt_some hy] at h1
 cases q:sLt x.k y.k with
 | true => rfl
 | false =>
  exfalso
  have hxy:x.k = y.k:=leK_anti h1 q
  obtain ⟨z,hz⟩:∃ z,d[t + 1]? = some z:=⟨d[t + 1]'(by omega),List.getElem?_eq_getElem _⟩
  have h2:=hs.le (i:=t) (j:=t + 1) (Nat.zero_le _) (by omega) (by omega)
  have h3:=hs.le (i:=t + 1) (j:=u) (Nat.zero_le _) (by omega) (by omega)
  rw [kAt_some h.1,kAt_some hz] at h2
  rw [kAt_some hz,kAt_some hy,← hxy] at h3
  exact h.2.2 z hz (leK_anti h3 h2)
theorem keptTo_rise {d:List Ed} {n:Nat} (hs:SrtIn d 0 n) (hn:d.length ≤ n):∀ m,RiseE (keptTo d m)
 | 0 => List.Pairwise.nil
 | m + 1 => by
  have ih:=keptTo_rise hs hn m
  unfold RiseE at ih ⊢
  simp only [keptTo]
  rw [List.pairwise_append]
  refine ⟨ih,?_,fun e he f hf => ?_⟩
  ·by_cases q:∃ x,Kept d m x
   ·obtain ⟨x,hx⟩:=q; rw [keep_yes hx]; simp
   ·rw [keep_no (fun x hx => q ⟨x,hx⟩)]; exact List.Pairwise.nil
  ·by_cases q:∃ x,Kept d m x
   ·obtain ⟨x,hx⟩:=q
    rw [keep_yes hx,List.mem_singleton] at hf
    obtain ⟨t,y,ht,hy,rfl⟩:=keptTo_mem.1 he
    rw [hf]
    exact kept_lt hs hn hy hx.1 ht
   ·rw [keep_no (fun x hx => q ⟨x,hx⟩)] at hf
    simp at hf
theorem lastk_at {d:List Ed} {t:Nat} {x:Ed} {key:ByteArray} (h:d[t]? = some x) (hk:x.k = key) (hl:∀ u y,t < u → d[u]? = some y → y.k ≠ key):(ofKey d key).getLast? = some x:=by
 have ht:=(List.getElem?_eq_some_iff.1 h).1
 have hd:d = d.take t ++ ([x] ++ d.drop (t + 1)):=by
  conv => lhs; rw [← List.take_append_drop t d]
  rw [List.drop_eq_getElem_cons ht,(List.getElem?_eq_some_iff.1 h).2]
  simp
 have h0:ofKey (d.drop (t + 1)) key = []:=by
  unfold ofKey
  rw [List.filter_eq_nil_iff]
  intro y hy z
  rw [decide_eq_true_eq] at z
  obtain ⟨i,hi,rfl⟩:=List.mem_iff_getElem.1 hy
  simp only [List.length_drop] at hi
  exact hl (t + 1 + i) _ (by omega) (by rw [List.getElem?_eq_getElem (by omega),List.getElem_drop]) z
 have h1:ofKey [x] key = [x]:=by simp [ofKey,hk]
 rw [hd,ofK_app,ofK_app,h0,h1]
 simp
theorem last_place {p:Nat → Prop}:∀ n,(∃ t,t < n ∧ p t) → ∃ t,t < n ∧ p t ∧ ∀ u,t < u → u < n → ¬ p u
 | 0,⟨t,h,_⟩ => by omega
 | n + 1,⟨t,h,hp⟩ => by
  by_cases q:p n
  ·exact ⟨n,by omega,q,fun u h1 h2 => by omega⟩
  ·have htn:t ≠ n:=fun z => q (by rw [← z]; exact hp)
   obtain ⟨s,h1,h2,h3⟩:=last_place n ⟨t,by omega,hp⟩
   refine ⟨s,by omega,h2,fun u z1 z2 => ?_⟩
   by_cases y:u = n
   ·rw [y]; exact q
   ·exact h3 u z1 (by omega)
theorem kept_apr {a:List En} {l d:List Ed} (hst:Stb (a.map wordOf ++ l) d) (hs:SrtIn d 0 d.length):ApR a l (keptTo d d.length):=by
 refine ⟨keptTo_rise hs (Nat.le_refl _) _,fun key v b h => ?_⟩
 unfold Says at h
 rw [← hst.2 key] at h
 by_cases q:∃ t,t < d.length ∧ ∃ x,d[t]? = some x ∧ x.k = key
 ·obtain ⟨t,ht,⟨x,hx,hk⟩,hl⟩:=last_place (p:=fun t => ∃ x,d[t]? = some x ∧ x.k = key) d.length q
  have hlast:=lastk_at hx hk (fun u y h1 h2 h3 => hl u h1 (List.getElem?_eq_some_iff.1 h2).1 ⟨y,h2,h3⟩)
  rw [hlast] at h
  have hnext:∀ y,d[t + 1]? = some y → y.k ≠ x.k:=fun y hy z => hl (t + 1) (by omega) (List.getElem?_eq_some_iff.1 hy).1 ⟨y,hy,z.trans hk⟩
  rcases h with ⟨rfl,y,hy,hg,hv⟩ | ⟨rfl,rfl,hy⟩
  ·cases hy
   exact .inl ⟨rfl,⟨x.k,x.v⟩,keptTo_mem.2 ⟨t,x,ht,⟨hx,hg,hnext⟩,rfl⟩,hk,hv⟩
  ·have hg:=hy x rfl
   refine .inr ⟨rfl,rfl,fun e he hek => ?_⟩
   obtain ⟨u,z,hu,hz,rfl⟩:=keptTo_mem.1 he
   simp only at hek
   have hut:u ≤ t:=by
    rcases Nat.lt_or_ge t u with y | y
    ·exact absurd ⟨z,hz.1,hek⟩ (hl u y hu)
    ·exact y
   rcases Nat.lt_or_ge u t with y | y
   ·have:=kept_lt hs (Nat.le_refl _) hz hx y
    rw [hek,hk,sLt_irr] at this
    cases this
   ·obtain rfl:u = t:=by omega
    have hz1:=hz.1
    rw [hx] at hz1
    cases hz1
    rw [hz.2.1] at hg
    cases hg
 ·have hno:ofKey d key = []:=by
   unfold ofKey
   rw [List.filter_eq_nil_iff]
   intro y hy z
   rw [decide_eq_true_eq] at z
   obtain ⟨i,hi,rfl⟩:=List.mem_iff_getElem.1 hy
   exact q ⟨i,hi,_,List.getElem?_eq_getElem hi,z⟩
  rw [hno] at h
  rcases h with ⟨_,y,hy,_⟩ | ⟨rfl,rfl,_⟩
  ·simp at hy
  ·refine .inr ⟨rfl,rfl,fun e he hek => ?_⟩
   obtain ⟨u,z,hu,hz,rfl⟩:=keptTo_mem.1 he
   exact q ⟨u,hu,z,hz.1,hek⟩
end Go.Proofs.YtnblmdmlollmaaaGreat
namespace Go.Proofs.YtnblmdmlollmaaaGreat
set_option maxRecDepth 100000
set_option maxHeartbeats 1000000
open Go.RowKit Apo
theorem Can.trees2 {T:List (List Int)} {es:List En} (hok:MapOk es) (hel:es.length ≤ 100) (hT:T.length ≤ 16000):∀ {l:Nat} {ks:List Ki},l ≤ 20 → Can T es l ks → ∃ L:List (Nd × List (Nat × List En)),L.length = ks.length ∧ (∀ (i:Nat) (k:Ki) (x:Nd × List (Nat × List En)),ks[i]? = some k → L[i]? = some x → k.k = lastK x.1 ∧ IsT T l k.i x.1 x.2) ∧ ((L.map Prod.snd).flatten.map Prod.snd = splitN (fun e:En => endsN 0 e.k) es ∧ ∀ p ∈ (L.map Prod.snd).flatten,T[p.1 - 1]? = some (ndB ⟨0,p.2,[]⟩) ∧ 1 ≤ p.1)
 | 0,ks,_,h => by
  obtain ⟨g1,_⟩:=hok.leaves (by omega)
  obtain ⟨rows,hrows⟩:∃ rows,rows = splitN (fun e:En => endsN 0 e.k) es:=⟨_,rfl⟩
  have h':Kids T (lvns rows) ks:=by rw [hrows]; exact h
  rw [← hrows] at g1
  have hlen:ks.length = rows.length:=by have:=h'.1; simpa [lvns] using this
  refine ⟨(ks.zip rows).map (fun x => (⟨0,x.2,[]⟩,[(x.1.i,x.2)])),by simp; omega,fun i k x hk hx => ?_,?_⟩
  ·rw [List.getElem?_map] at hx
   cases hz:(ks.zip rows)[i]? with
   | none => rw [hz] at hx; cases hx
   | some y =>
    rw [hz] at hx
    simp only [Option.map_some,Option.some.injEq] at hx
    rw [List.getElem?_zip_eq_some] at hz
    obtain ⟨z1,z2⟩:=hz
    rw [hk] at z1
    have hy1:y.1 = k:=by cases z1; rfl
    have hn:(lvns rows)[i]? = some ⟨0,y.2,[]⟩:=by simp [lvns,z2]
    obtain ⟨c1,c2,c3⟩:=h'.2 i _ k hn hk
    subst hx
    rw [hy1]
    have gn:=g1 _ (List.mem_of_getElem? hn)
    exact ⟨c1,gn.nod c3 c2 hT (fun k hk => by simp at hk),rfl,rfl⟩
  ·have hfl:(((ks.zip rows).map (fun x => ((⟨0,x.2,[]⟩:Nd),[(x.1.i,x.2)]))).map Prod.snd).flatten = (ks.zip rows).map (fun x => (x.1.i,x.2)):=by
    rw [List.map_map]
    generalize ks.zip rows = z
    induction z with
    | nil => rfl
    | cons y z ih => simp only [List.map_cons,List.flatten_cons,ih]; rfl
   rw [hfl]
   refine ⟨?_,fun p hp => ?_⟩
   ·rw [List.map_map,← hrows]
    have h2:(Prod.snd ∘ fun x:Ki × List En => (x.1.i,x.2)) = Prod.snd:=rfl
    rw [h2,List.map_snd_zip (by omega)]
   ·obtain ⟨y,hy,rfl⟩:=List.mem_map.1 hp
    obtain ⟨i,hi,q⟩:=List.mem_iff_getElem.1 hy
    have hz:(ks.zip rows)[i]? = some y:=by rw [List.getElem?_eq_getElem hi,q]
    rw [List.getElem?_zip_eq_some] at hz
    have hn:(lvns rows)[i]? = some ⟨0,y.2,[]⟩:=by simp [lvns,hz.2]
    obtain ⟨c1,c2,c3⟩:=h'.2 i _ y.1 hn hz.1
    exact ⟨c2,c3⟩
 | l + 1,ks,hl,⟨ks0,h1,h2,h3⟩ => by
  obtain ⟨L0,p1,p2,p3⟩:=Can.trees2 hok hel hT (by omega) h1
  obtain ⟨g1,_⟩:=h1.up hok (by omega) (by omega) (show l < 20 by omega)
  obtain ⟨lv,hlv⟩:∃ lv:Int,lv = ((l + 1:Nat):Int):=⟨_,rfl⟩
  rw [← hlv] at h3 g1
  obtain ⟨R,hR⟩:∃ R,R = splitN (fun x:Ki × (Nd × List (Nat × List En)) => endsN lv x.1.k) (ks0.zip L0):=⟨_,rfl⟩
  have hfst:(ks0.zip L0).map Prod.fst = ks0:=List.map_fst_zip (by omega)
  have hrows:splitN (fun e:Ki => endsN lv e.k) ks0 = R.map (List.map Prod.fst):=by
   rw [hR,← split_map (f:=Prod.fst) (p:=fun e:Ki => endsN lv e.k),hfst]
  have hRf:R.flatten = ks0.zip L0:=by rw [hR]; exact split_flat
  rw [hrows] at h3 g1
  have hlen:ks.length = R.length:=by have:=h3.1; simpa [abns] using this
  refine ⟨R.map (fun r => (⟨lv,[],r.map Prod.fst⟩,(r.map (fun y => y.2.2)).flatten)),by simp; omega,fun i k x hk hx => ?_,?_⟩
  ·rw [List.getElem?_map] at hx
   cases hz:R[i]? with
   | none => rw [hz] at hx; cases hx
   | some r =>
    rw [hz] at hx
    simp only [Option.map_some,Option.some.injEq] at hx
    have hn:(abns lv (R.map (List.map Prod.fst)))[i]? = some ⟨lv,[],r.map Prod.fst⟩:=by simp [abns,hz]
    obtain ⟨c1,c2,c3⟩:=h3.2 i _ k hn hk
    have gn:=g1 _ (List.mem_of_getElem? hn)
    subst hx
    have hmem:∀ y ∈ r,y ∈ ks0.zip L0:=fun y hy => by rw [← hRf]; exact List.mem_flatten.2 ⟨r,List.mem_of_getElem? hz,hy⟩
    have hpair:∀ y ∈ r,y.1.k = lastK y.2.1 ∧ IsT T l y.1.i y.2.1 y.2.2:=fun y hy => by
     obtain ⟨t,ht,q⟩:=List.mem_iff_getElem.1 (hmem y hy)
     have hq:(ks0.zip L0)[t]? = some y:=by rw [List.getElem?_eq_getElem ht,q]
     rw [List.getElem?_zip_eq_some] at hq
     exact p2 t y.1 y.2 hq.1 hq.2
    refine ⟨c1,gn.nod c3 c2 hT (fun k hk' => ?_),hlv,by omega,r.map (fun y => y.2.1),r.map (fun y => y.2.2),by simp,by simp,fun j k' n' x' hk' hn' hx' => ?_,rfl⟩
    ·simp only [List.mem_map] at hk'
     obtain ⟨y,hy,rfl⟩:=hk'
     exact (hpair y hy).2.nod.1.lt
    ·rw [List.getElem?_map] at hk' hn' hx'
     cases hy:r[j]? with
     | none => rw [hy] at hk'; cases hk'
     | some y =>
      rw [hy] at hk' hn' hx'
      simp only [Option.map_some,Option.some.injEq] at hk' hn' hx'
      subst hk' hn' hx'
      exact hpair y (List.mem_of_getElem? hy)
  ·have hsnd:(ks0.zip L0).map Prod.snd = L0:=List.map_snd_zip (by omega)
   have h5:((R.map (fun r => ((⟨lv,[],r.map Prod.fst⟩:Nd),(r.map (fun y => y.2.2)).flatten))).map Prod.snd).flatten = (L0.map Prod.snd).flatten:=by
    rw [List.map_map,← hsnd,← hRf,List.map_map]
    have:∀ R:List (List (Ki × (Nd × List (Nat × List En)))),(R.map (Prod.snd ∘ fun r => ((⟨lv,[],r.map Prod.fst⟩:Nd),(r.map (fun y => y.2.2)).flatten))).flatten = (R.flatten.map (Prod.snd ∘ Prod.snd)).flatten:=by
     intro R
     induction R with
     | nil => rfl
     | cons r R ih =>
      simp only [List.map_cons,List.flatten_cons,List.map_append,List.flatten_append,ih]
      rfl
    exact this R
   rw [h5]
   exact p3
theorem RootOf.tree2 {T:List (List Int)} {es:List En} {id:Nat} (hok:MapOk es) (hel:es.length ≤ 100) (hT:T.length ≤ 16000) (h:RootOf T es id):∃ ls,RootT T id ls ∧ ls.map Prod.snd = splitN (fun e:En => endsN 0 e.k) es ∧ ∀ p ∈ ls,T[p.1 - 1]? = some (ndB ⟨0,p.2,[]⟩) ∧ 1 ≤ p.1 ∧ p.1 ≤ T.length:=by
 obtain ⟨l,ks,h1,h2,h3,h4⟩:=h
 obtain ⟨L,p1,p2,p3,p4⟩:=h1.trees2 hok hel hT h2
 have lt:∀ p:Nat × List En,T[p.1 - 1]? = some (ndB ⟨0,p.2,[]⟩) ∧ 1 ≤ p.1 → p.1 ≤ T.length:=fun p q => by
  have:=(List.getElem?_eq_some_iff.1 q.1).1
  omega
 match ks,L,p1 with
 | [],[],_ => exact ⟨[],.inl ⟨h4,rfl⟩,p3,fun p hp => by simp at hp⟩
 | [k],[x],_ =>
  obtain ⟨c1,c2⟩:=p2 0 k x rfl rfl
  have hid:id = k.i:=h4
  rw [← hid] at c2
  simp only [List.map_cons,List.map_nil,List.flatten_cons,List.flatten_nil,List.append_nil] at p3 p4
  exact ⟨x.2,.inr ⟨l,x.1,c2⟩,p3,fun p hp => ⟨(p4 p hp).1,(p4 p hp).2,lt p (p4 p hp)⟩⟩
 | _ :: _ :: _,_,_ => simp at h3
def goS {α:Type} (p:α → Bool):List α → List α → List (List α)
 | cur,[] => if cur.length = 0 then [] else [cur]
 | cur,z :: l => if p z = true then (cur ++ [z]) :: goS p [] l else goS p (cur ++ [z]) l
theorem goS_cut {α:Type} (p:α → Bool):∀ (b a:List α),splitN p (a ++ b) = (cutK p (a ++ b) a.length).1 ++ goS p (cutK p (a ++ b) a.length).2 b
 | [],a => by
  rw [List.append_nil,cut_split]
  rfl
 | z :: b,a => by
  have h:=goS_cut p b (a ++ [z])
  rw [List.append_assoc,List.singleton_append] at h
  have hz:(a ++ z :: b)[a.length]? = some z:=by simp
  rw [h,List.length_append,List.length_singleton,cutK_step hz]
  simp only [goS]
  split
  ·simp
  ·rfl
theorem cut_same {α:Type} (p:α → Bool) (a b b':List α):∀ k,k ≤ a.length → cutK p (a ++ b) k = cutK p (a ++ b') k
 | 0,_ => rfl
 | k + 1,h => by
  have h1:(a ++ b)[k]? = a[k]?:=List.getElem?_append_left (by omega)
  have h2:(a ++ b')[k]? = a[k]?:=List.getElem?_append_left (by omega)
  obtain ⟨x,hx⟩:∃ x,a[k]? = some x:=⟨a[k]'(by omega),List.getElem?_eq_getElem _⟩
  rw [cutK_step (h1.trans hx),cutK_step (h2.trans hx),cut_same p a b b' k (by omega)]
theorem goS_tail {α:Type} (p:α → Bool):∀ (b c c':List α),∃ R r r',goS p c b = r ++ R ∧ goS p c' b = r' ++ R ∧ r.length ≤ 1 ∧ r'.length ≤ 1
 | [],c,c' => ⟨[],goS p c [],goS p c' [],by simp,by simp,by simp only [goS]; split <;> simp,by simp only [goS]; split <;> simp⟩
 | z :: b,c,c' => by
  by_cases h:p z = true
  ·exact ⟨goS p [] b,[c ++ [z]],[c' ++ [z]],by simp [goS,h],by simp [goS,h],by simp,by simp⟩
  ·obtain ⟨R,r,r',h1,h2,h3,h4⟩:=goS_tail p b (c ++ [z]) (c' ++ [z])
   exact ⟨R,r,r',by simp [goS,h,h1],by simp [goS,h,h2],h3,h4⟩
theorem goS_one {α:Type} (p:α → Bool) (y b c:List α) (hy:y.length ≤ 1):∃ s d,goS p c (y ++ b) = s ++ goS p d b ∧ s.length ≤ 1:=by
 match y,hy with
 | [],_ => exact ⟨[],c,rfl,by simp⟩
 | [z],_ =>
  by_cases h:p z = true
  ·exact ⟨[c ++ [z]],[],by simp [goS,h],by simp⟩
  ·exact ⟨[],c ++ [z],by simp [goS,h],by simp⟩
theorem split_near {α:Type} (p:α → Bool) (a x y b:List α) (hx:x.length ≤ 1) (hy:y.length ≤ 1):∃ D N R,splitN p (a ++ (y ++ b)) = D ++ (N ++ R) ∧ N.length ≤ 2 ∧ (∀ r ∈ D,r ∈ splitN p (a ++ (x ++ b))) ∧ ∀ r ∈ R,r ∈ splitN p (a ++ (x ++ b)):=by
 have e1:=goS_cut p (y ++ b) a
 have e2:=goS_cut p (x ++ b) a
 rw [cut_same p a (x ++ b) (y ++ b) a.length (Nat.le_refl _)] at e2
 obtain ⟨s,d,h1,h2⟩:=goS_one p y b (cutK p (a ++ (y ++ b)) a.length).2 hy
 obtain ⟨s',d',h3,h4⟩:=goS_one p x b (cutK p (a ++ (y ++ b)) a.length).2 hx
 obtain ⟨R,r,r',h5,h6,h7,h8⟩:=goS_tail p b d d'
 refine ⟨(cutK p (a ++ (y ++ b)) a.length).1,s ++ r,R,?_,by simp; omega,fun q hq => ?_,fun q hq => ?_⟩
 ·rw [e1,h1,h5,List.append_assoc]
 ·rw [e2]
  exact List.mem_append.2 (.inl hq)
 ·rw [e2,h3,h6]
  simp [hq]
theorem rise_parts (key:ByteArray):∀ {es:List En},RiseE es → ∃ A X B,es = A ++ (X ++ B) ∧ X.length ≤ 1 ∧ (∀ e ∈ A,sLt e.k key = true) ∧ (∀ e ∈ X,e.k = key) ∧ ∀ e ∈ B,sLt key e.k = true
 | [],_ => ⟨[],[],[],rfl,by simp,by simp,by simp,by simp⟩
 | e :: es,h => by
  unfold RiseE at h
  rw [List.pairwise_cons] at h
  cases h1:sLt e.k key with
  | true =>
   obtain ⟨A,X,B,q1,q2,q3,q4,q5⟩:=rise_parts key h.2
   refine ⟨e :: A,X,B,by rw [q1]; rfl,q2,fun f hf => ?_,q4,q5⟩
   rcases List.mem_cons.1 hf with z | z
   ·rw [z]; exact h1
   ·exact q3 f z
  | false =>
   cases h2:sLt key e.k with
   | true =>
    refine ⟨[],[],e :: es,rfl,by simp,by simp,by simp,fun f hf => ?_⟩
    rcases List.mem_cons.1 hf with z | z
    ·rw [z]; exact h2
    ·exact sLt_trans h2 (h.1 f z)
   | false =>
    have hk:=sLt_conn h1 h2
    exact ⟨[],[e],es,rfl,by simp,by simp,fun f hf => by rw [List.mem_singleton.1 hf]; exact hk,fun f hf => by rw [← hk]; exact h.1 f hf⟩
theorem ApR.near {es fs:List En} {x:Ed} (hr:RiseE es) (h:ApR es [x] fs):∃ A X Y B,es = A ++ (X ++ B) ∧ fs = A ++ (Y ++ B) ∧ X.length ≤ 1 ∧ Y.length ≤ 1 ∧ ∀ e ∈ Y,e = ⟨x.k,x.v⟩ ∧ x.g = false:=by
 obtain ⟨A,X,B,q1,q2,q3,q4,q5⟩:=rise_parts x.k hr
 obtain ⟨Y,hY⟩:∃ Y,Y = (if x.g = true then [] else [(⟨x.k,x.v⟩:En)]):=⟨_,rfl⟩
 have hYl:Y.length ≤ 1:=by rw [hY]; split <;> simp
 have hYk:∀ e ∈ Y,e.k = x.k:=fun e he => by
  rw [hY] at he
  split at he
  ·simp at he
  ·rw [List.mem_singleton.1 he]
 have hrA:RiseE A ∧ RiseE B ∧ ∀ a ∈ A,∀ b ∈ B,sLt a.k b.k = true:=by
  unfold RiseE at hr ⊢
  rw [q1,List.pairwise_append,List.pairwise_append] at hr
  exact ⟨hr.1,hr.2.1.2.1,fun a ha b hb => hr.2.2 a ha b (by simp [hb])⟩
 have hset:SetC es x (A ++ (Y ++ B)):=by
  refine ⟨?_,fun key v b hk hg => ?_,fun hg => ?_,fun hg => ?_⟩
  ·unfold RiseE
   rw [List.pairwise_append,List.pairwise_append]
   refine ⟨hrA.1,⟨?_,hrA.2.1,fun a ha b hb => by rw [hYk a ha]; exact q5 b hb⟩,fun a ha b hb => ?_⟩
   ·match Y,hYl with
    | [],_ => exact List.Pairwise.nil
    | [y],_ => exact List.pairwise_singleton _ _
   ·rcases List.mem_append.1 hb with z | z
    ·rw [hYk b z]; exact q3 a ha
    ·exact hrA.2.2 a ha b z
  ·rcases hg with ⟨g1,e,g2,g3,g4⟩ | ⟨g1,g2,g3⟩
   ·refine .inl ⟨g1,e,?_,g3,g4⟩
    rw [q1] at g2
    simp only [List.mem_append] at g2 ⊢
    rcases g2 with z | z | z
    ·exact .inl z
    ·exact absurd ((q4 e z).symm.trans g3).symm hk
    ·exact .inr (.inr z)
   ·refine .inr ⟨g1,g2,fun e he => ?_⟩
    simp only [List.mem_append] at he
    rcases he with z | z | z
    ·exact g3 e (by rw [q1]; simp [z])
    ·exact fun q => hk (q.symm.trans (hYk e z))
    ·exact g3 e (by rw [q1]; simp [z])
  ·refine .inl ⟨rfl,⟨x.k,x.v⟩,?_,rfl,rfl⟩
   rw [hY,hg]
   simp
  ·refine .inr ⟨rfl,rfl,fun e he q => ?_⟩
   rw [hY,hg] at he
   simp only [List.mem_append] at he
   rcases he with z | z | z
   ·have:=q3 e z
    rw [q,sLt_irr] at this
    cases this
   ·simp at z
   ·have:=q5 e z
    rw [q,sLt_irr] at this
    cases this
 have h0:ApR es ([] ++ [x]) (A ++ (Y ++ B)):=(ApR.nil hr).snoc hset
 refine ⟨A,X,Y,B,q1,h.uniq h0,q2,hYl,fun e he => ?_⟩
 rw [hY] at he
 split at he
 ·simp at he
 ·exact ⟨List.mem_singleton.1 he,by simpa using ‹¬ x.g = true›⟩
theorem ApR.one {es fs:List En} {x:Ed} (hr:RiseE es) (h:ApR es [x] fs):fs.length ≤ es.length + 1 ∧ ∀ e ∈ fs,e ∈ es ∨ (e = ⟨x.k,x.v⟩ ∧ x.g = false):=by
 obtain ⟨A,X,Y,B,h1,h2,h3,h4,h5⟩:=h.near hr
 refine ⟨by rw [h1,h2]; simp; omega,fun e he => ?_⟩
 rw [h2] at he
 rw [h1]
 simp only [List.mem_append] at he ⊢
 rcases he with z | z | z
 ·exact .inl (.inl z)
 ·exact .inr (h5 e z)
 ·exact .inl (.inr (.inr z))
theorem leaves_near {es fs:List En} {x:Ed} (hr:RiseE es) (h:ApR es [x] fs) (p:En → Bool):∃ D N R,splitN p fs = D ++ (N ++ R) ∧ N.length ≤ 2 ∧ (∀ r ∈ D,r ∈ splitN p es) ∧ ∀ r ∈ R,r ∈ splitN p es:=by
 obtain ⟨A,X,Y,B,h1,h2,h3,h4,_⟩:=h.near hr
 rw [h1,h2]
 exact split_near p A X Y B h3 h4
end Go.Proofs.YtnblmdmlollmaaaGreat
namespace Go.Proofs.YtnblmdmlollmaaaGreat
set_option maxRecDepth 100000
set_option maxHeartbeats 1000000
open Go.RowKit Apo
open Classical in
theorem slEq_any (a:Option Addr) (acap:Nat) (l:List En) (b:Option Addr) (bcap:Nat) (m:List En) (w:World) (ha:RdEn w a l) (hb:RdEn w b m) (hl:l.length ≤ 9223372036854775807) :
  Calls Tryz.prog 186 #[.slice a l.length acap,.slice b m.length bcap] w fun e w' => e = .returned (.bool (decide (l = m))) ∧ Below w.heap.size w w':=by
 have hA:=hide ha
 have hB:=hide hb
 clear ha hb
 by_cases hlen:l.length = m.length
 ·rw [← hlen]
  have HL:=hide hlen
  clear hlen
  go_enter Tryz.func186,Tryz.ntmps186
  go_wp2
  go_loopw [13] (fun i wr => ∃ k:Nat,k ≤ l.length ∧ i = .int .i64 k ∧ Hid (l.take k = m.take k) ∧ Below w.heap.size w wr) (fun i _ => l.length - (intOf i).toNat)
  case atStart => exact ⟨0,Nat.zero_le _,rfl,rfl,Below.refl _ _⟩
  case round =>
   obtain ⟨k,hk,rfl,hE,hbr⟩:=hrel
   by_cases hlt:k < l.length
   ·have hz:l[k]? = some l[k]:=List.getElem?_eq_getElem hlt
    have hlt2:k < m.length:=by rw [← HL.out]; exact hlt
    have hy:m[k]? = some m[k]:=List.getElem?_eq_getElem hlt2
    generalize l[k] = f at hz
    generalize m[k] = g at hy
    obtain ⟨p,off,rfl,c0,c1⟩:=(hA.out.below hbr) k f hz
    obtain ⟨p',off',rfl,d0,d1⟩:=(hB.out.below hbr) k g hy
    have HZ:=hide hz
    have HY:=hide hy
    clear hz hy
    have hm:Tryz.prog.eqGuardType Tryz.prog.depth 80 = false:=by kernel_rfl
    have hcmp:=neqEn f g
    by_cases hfg:f = g
    ·subst hfg
     simp only [decide_true,Bool.not_true] at hcmp
     have hE':Hid (l.take (k + 1) = m.take (k + 1)):=by
      show _ = _
      rw [List.take_add_one,List.take_add_one,HZ.out,HY.out,hE.out]
     go_wp2
     go_quiet (fail)
     go_wp2
     go_roundw
     case rel => exact ⟨k + 1,by omega,by go_num,hE',below_drewN hbr _⟩
     case measure => simp [intOf]; omega
    ·have hd:decide (f = g) = false:=by simp [hfg]
     simp only [hd,Bool.not_false] at hcmp
     have hE':Hid (l ≠ m):=by
      intro e
      have h1:=HZ.out
      rw [e,HY.out] at h1
      exact hfg (by cases h1; rfl)
     go_wp2
     go_quiet (fail)
     go_wp2
     go_ret
     exact ⟨by simp [hE'.out],below_drewN hbr _⟩
   ·have hE':Hid (l = m):=by
     have h1:=hE.out
     rw [List.take_of_length_le (by omega),List.take_of_length_le (by rw [← HL.out]; omega)] at h1
     exact h1
    go_wp2
    go_ret
    exact ⟨by simp [hE'.out],hbr⟩
 ·have hne:l ≠ m:=fun e => hlen (by rw [e])
  have hN:=hide hne
  have hlb:((l.length:Int) == (m.length:Int)) = false:=by simp; omega
  clear hne
  go_enter Tryz.func186,Tryz.ntmps186
  go_wp2
  go_ret
  exact ⟨by simp [hN.out],Below.refl _ _⟩
end Go.Proofs.YtnblmdmlollmaaaGreat
