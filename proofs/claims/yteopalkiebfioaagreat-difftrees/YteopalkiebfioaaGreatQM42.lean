import Derived.Test.YteopalkiebfioaaGreatQM41
set_option maxRecDepth 100000
set_option maxHeartbeats 4000000
namespace Go.Proofs.YteopalkiebfioaaGreat
section
open Go.RowKit Apo
def Says (ws:List Ed) (key v:ByteArray) (b:Bool):Prop:=(b=true/\∃ x,(ofKey ws key).getLast?=some x/\x.g=false/\x.v=v)\/(b=false/\v=⟨#[]⟩/\∀ x,(ofKey ws key).getLast?=some x->x.g=true)
theorem says_ex (ws:List Ed) (key:ByteArray):∃ v b,Says ws key v b:=by
 cases h:(ofKey ws key).getLast? with
 | none=>exact ⟨_,false,.inr ⟨rfl,rfl,fun x hx=>by rw [h] at hx;cases hx⟩⟩
 | some x =>
  cases hg:x.g with
  | true=>exact ⟨_,false,.inr ⟨rfl,rfl,fun y hy=>by rw [h] at hy;cases hy;exact hg⟩⟩
  | false=>exact ⟨x.v,true,.inl ⟨rfl,x,h,hg,rfl⟩⟩
def Z2 (e:En):Ed:=⟨e.k,e.v,false⟩
theorem ofK_ne {ws:List Ed} {x:Ed} {key:ByteArray} (h:x.k≠key):ofKey (ws++[x]) key=ofKey ws key:=by
 rw [ofK_app];simp [ofKey,h]
theorem ofK_eq {ws:List Ed} {x:Ed} {key:ByteArray} (h:x.k=key):ofKey (ws++[x]) key=ofKey ws key++[x]:=by
 rw [ofK_app];simp [ofKey,h]
theorem says_ne {ws:List Ed} {x:Ed} {key v:ByteArray} {b:Bool} (h:x.k≠key):Says (ws++[x]) key v b↔Says ws key v b:=by unfold Says;rw [ofK_ne h]
theorem says_eq {ws:List Ed} {x:Ed} {key v:ByteArray} {b:Bool} (h:x.k=key):Says (ws++[x]) key v b↔(b=true/\x.g=false/\x.v=v)\/(b=false/\v=⟨#[]⟩/\x.g=true):=by
 unfold Says;rw [ofK_eq h];simp
def ApR (a:List En) (l:List Ed) (es:List En):Prop:=Zo es/\∀ key v b,Says (a.map Z2++l) key v b->Gets es key v b
theorem ent_mem {es:List En} {e:En}:e ∈ es↔Gets es e.k e.v true:=by
 constructor
 ·exact fun h=>.inl ⟨rfl,e,h,rfl,rfl⟩
 ·rintro (⟨_,f,hf,h1,h2⟩ | ⟨h,_⟩)
  ·have:f=e:=by cases f;cases e;simp only at h1 h2;rw [h1,h2]
   rwa [<- this]
  ·cases h
theorem riseE_uniq {es fs:List En} (h:Zo es) (h':Zo fs) (hm:∀ e,e ∈ es↔e ∈ fs):es=fs:=by
 induction es generalizing fs with
 | nil =>
  cases fs with
  | nil=>rfl
  | cons c l=>exact absurd ((hm c).2 (by simp)) (by simp)
 | cons c l ih =>
  cases fs with
  | nil=>exact absurd ((hm c).1 (by simp)) (by simp)
  | cons c' l' =>
   unfold Zo at h h';rw [List.pairwise_cons] at h h'
   have hcc:c=c':=by
    rcases List.mem_cons.1 ((hm c).1 (by simp)) with q | q
    ·exact q
    ·rcases List.mem_cons.1 ((hm c').2 (by simp)) with q' | q'
     ·exact q'.symm
     ·have:=ZQ (h'.1 c q) (h.1 c' q');rw [Zr] at this;cases this
   subst hcc;congr 1
   refine ih h.2 h'.2 (fun x=>?_)
   constructor
   ·intro hx;rcases List.mem_cons.1 ((hm x).1 (by simp [hx])) with q | q
    ·have:=h.1 x hx;rw [q,Zr] at this;cases this
    ·exact q
   ·intro hx;rcases List.mem_cons.1 ((hm x).2 (by simp [hx])) with q | q
    ·have:=h'.1 x hx;rw [q,Zr] at this;cases this
    ·exact q
theorem ApR.uniq {a:List En} {l:List Ed} {es fs:List En} (h:ApR a l es) (h':ApR a l fs):es=fs:=by
 refine riseE_uniq h.1 h'.1 (fun e=>?_)
 obtain ⟨v,b,hs⟩:=says_ex (a.map Z2++l) e.k;have g1:=h.2 _ _ _ hs;have g2:=h'.2 _ _ _ hs;rw [ent_mem,ent_mem];constructor
 ·intro q;obtain ⟨e1,e2⟩:=Z7 h.1 q g1;rw [e1,e2];exact g2
 ·intro q;obtain ⟨e1,e2⟩:=Z7 h'.1 q g2;rw [e1,e2];exact g1
theorem says_words {a:List En} {key v:ByteArray} {b:Bool} (h:Says (a.map Z2) key v b):Gets a key v b:=by
 rcases h with ⟨rfl,x,hx,hg,hv⟩ | ⟨rfl,rfl,hx⟩
 ·have hm:=List.mem_of_getLast? hx;unfold ofKey at hm;rw [List.mem_filter,decide_eq_true_eq] at hm;obtain ⟨e,he,rfl⟩:=List.mem_map.1 hm.1;exact .inl ⟨rfl,e,he,hm.2,hv⟩
 ·refine .inr ⟨rfl,rfl,fun e he hk=>?_⟩
  have hm:Z2 e ∈ ofKey (a.map Z2) key:=by
   unfold ofKey;rw [List.mem_filter,decide_eq_true_eq];exact ⟨List.mem_map.2 ⟨e,he,rfl⟩,hk⟩
  cases hq:(ofKey (a.map Z2) key).getLast? with
  | none=>rw [List.getLast?_eq_none_iff] at hq;rw [hq] at hm;simp at hm
  | some y =>
   have hy:=hx y hq;have hm2:=List.mem_of_getLast? hq;unfold ofKey at hm2;rw [List.mem_filter] at hm2;obtain ⟨f,_,rfl⟩:=List.mem_map.1 hm2.1;cases hy
theorem ApR.nil {a:List En} (hr:Zo a):ApR a [] a:=⟨hr,fun key v b h=>says_words (by simpa using h)⟩
def SetC (es:List En) (x:Ed) (fs:List En):Prop:=Zo fs/\(∀ key v b,key≠x.k->Gets es key v b->Gets fs key v b)/\(x.g=false->Gets fs x.k x.v true)/\(x.g=true->Gets fs x.k ⟨#[]⟩ false)
theorem ApR.snoc {a:List En} {l:List Ed} {es fs:List En} {x:Ed} (h:ApR a l es) (hs:SetC es x fs):ApR a (l++[x]) fs:=by
 refine ⟨hs.1,fun key v b q=>?_⟩
 rw [<- List.append_assoc] at q;by_cases z:x.k=key
 ·rw [says_eq z] at q;rcases q with ⟨rfl,h1,rfl⟩ | ⟨rfl,rfl,h1⟩
  ·rw [<- z];exact hs.2.2.1 h1
  ·rw [<- z];exact hs.2.2.2 h1
 ·rw [says_ne z] at q;exact hs.2.1 key v b (Ne.symm z) (h.2 key v b q)
def Kept (d:List Ed) (t:Nat) (x:Ed):Prop:=d[t]?=some x/\x.g=false/\∀ y,d[t+1]?=some y->y.k≠x.k
open Classical in
noncomputable def keepO (d:List Ed) (t:Nat):List En:=if h:∃ x,Kept d t x then [⟨h.choose.k,h.choose.v⟩] else []
theorem keep_yes {d:List Ed} {t:Nat} {x:Ed} (h:Kept d t x):keepO d t=[⟨x.k,x.v⟩]:=by
 have hex:∃ x,Kept d t x:=⟨x,h⟩;unfold keepO;rw [dif_pos hex];have h1:=hex.choose_spec.1;rw [h.1] at h1;cases h1
 rfl
theorem keep_no {d:List Ed} {t:Nat} (h:∀ x,¬ Kept d t x):keepO d t=[]:=by
 unfold keepO;rw [dif_neg (fun ⟨x,hx⟩=>h x hx)]
noncomputable def Zx (d:List Ed):Nat->List En
 | 0=>[]
 | n+1=>Zx d n++keepO d n
theorem keep_len (d:List Ed) (t:Nat):(keepO d t).length<=1:=by
 unfold keepO;split <;> simp
theorem keptTo_len (d:List Ed):∀ n,(Zx d n).length<=n
 | 0=>Nat.le_refl _
 | n+1=>by have h1:=keptTo_len d n;have h2:=keep_len d n;simp only [Zx,List.length_append];omega
theorem keptTo_mem {d:List Ed} {e:En}:∀ {n:Nat},e ∈ Zx d n↔∃ t x,t < n/\Kept d t x/\e=⟨x.k,x.v⟩
 | 0=>by simp [Zx]
 | n+1=>by
  simp only [Zx,List.mem_append];rw [keptTo_mem (n:=n)];constructor
  ·rintro (⟨t,x,h1,h2⟩ | h)
   ·exact ⟨t,x,by omega,h2⟩
   ·by_cases q:∃ x,Kept d n x
    ·obtain ⟨x,hx⟩:=q;rw [keep_yes hx,List.mem_singleton] at h;exact ⟨n,x,by omega,hx,h⟩
    ·rw [keep_no (fun x hx=>q ⟨x,hx⟩)] at h
     simp at h
  ·rintro ⟨t,x,h1,h2,rfl⟩;by_cases z:t < n
   ·exact .inl ⟨t,x,z,h2,rfl⟩
   ·obtain rfl:t=n:=by omega
    right
    rw [keep_yes h2];simp
theorem leK_anti {a b:ByteArray} (h:leK a b) (k:leK b a):a=b:=sLt_conn k h
theorem kept_lt {d:List Ed} {n t u:Nat} {x y:Ed} (hs:SrtIn d 0 n) (hn:d.length<=n) (h:Kept d t x) (hy:d[u]?=some y) (htu:t < u):ZR x.k y.k=true:=by
 have hu:=(List.getElem?_eq_some_iff.1 hy).1
 have h1:=hs t u (Nat.zero_le _) htu (by omega)
 rw [ZW h.1,ZW hy] at h1;cases q:ZR x.k y.k with
 | true=>rfl
 | false =>
  exfalso
  have hxy:x.k=y.k:=leK_anti h1 q;obtain ⟨z,hz⟩:∃ z,d[t+1]?=some z:=⟨d[t+1]'(by omega),List.getElem?_eq_getElem _⟩
  have h2:=hs.le (i:=t) (j:=t+1) (Nat.zero_le _) (by omega) (by omega)
  have h3:=hs.le (i:=t+1) (j:=u) (Nat.zero_le _) (by omega) (by omega)
  rw [ZW h.1,ZW hz] at h2;rw [ZW hz,ZW hy,<- hxy] at h3;exact h.2.2 z hz (leK_anti h3 h2)
theorem keptTo_rise {d:List Ed} {n:Nat} (hs:SrtIn d 0 n) (hn:d.length<=n):∀ m,Zo (Zx d m)
 | 0=>List.Pairwise.nil
 | m+1=>by
  have ih:=keptTo_rise hs hn m;unfold Zo at ih ⊢;simp only [Zx];rw [List.pairwise_append];refine ⟨ih,?_,fun e he f hf=>?_⟩
  ·by_cases q:∃ x,Kept d m x
   ·obtain ⟨x,hx⟩:=q;rw [keep_yes hx];simp
   ·rw [keep_no (fun x hx=>q ⟨x,hx⟩)];exact List.Pairwise.nil
  ·by_cases q:∃ x,Kept d m x
   ·obtain ⟨x,hx⟩:=q;rw [keep_yes hx,List.mem_singleton] at hf;obtain ⟨t,y,ht,hy,rfl⟩:=keptTo_mem.1 he;rw [hf];exact kept_lt hs hn hy hx.1 ht
   ·rw [keep_no (fun x hx=>q ⟨x,hx⟩)] at hf
    simp at hf
theorem lastk_at {d:List Ed} {t:Nat} {x:Ed} {key:ByteArray} (h:d[t]?=some x) (hk:x.k=key) (hl:∀ u y,t < u->d[u]?=some y->y.k≠key):(ofKey d key).getLast?=some x:=by
 have ht:=(List.getElem?_eq_some_iff.1 h).1
 have hd:d=d.take t++([x]++d.drop (t+1)):=by
  conv=>lhs;rw [<- List.take_append_drop t d]
  rw [List.drop_eq_getElem_cons ht,(List.getElem?_eq_some_iff.1 h).2]
  simp
 have h0:ofKey (d.drop (t+1)) key=[]:=by
  unfold ofKey;rw [List.filter_eq_nil_iff];intro y hy z;rw [decide_eq_true_eq] at z;obtain ⟨i,hi,rfl⟩:=List.mem_iff_getElem.1 hy;simp only [List.length_drop] at hi;exact hl (t+1+i) _ (by omega) (by rw [List.getElem?_eq_getElem (by omega),List.getElem_drop]) z
 have h1:ofKey [x] key=[x]:=by simp [ofKey,hk]
 rw [hd,ofK_app,ofK_app,h0,h1];simp
theorem last_place {p:Nat->Prop}:∀ n,(∃ t,t < n/\p t)->∃ t,t < n/\p t/\∀ u,t < u->u < n->¬ p u
 | 0,⟨t,h,_⟩=>by omega
 | n+1,⟨t,h,hp⟩=>by
  by_cases q:p n
  ·exact ⟨n,by omega,q,fun u h1 h2=>by omega⟩
  ·have htn:t≠n:=fun z=>q (by rw [<- z];exact hp)
   obtain ⟨s,h1,h2,h3⟩:=last_place n ⟨t,by omega,hp⟩
   refine ⟨s,by omega,h2,fun u z1 z2=>?_⟩
   by_cases y:u=n
   ·rw [y];exact q
   ·exact h3 u z1 (by omega)
theorem kept_apr {a:List En} {l d:List Ed} (hst:Stb (a.map Z2++l) d) (hs:SrtIn d 0 d.length):ApR a l (Zx d d.length):=by
 refine ⟨keptTo_rise hs (Nat.le_refl _) _,fun key v b h=>?_⟩
 unfold Says at h;rw [<- hst.2 key] at h;by_cases q:∃ t,t < d.length/\∃ x,d[t]?=some x/\x.k=key
 ·obtain ⟨t,ht,⟨x,hx,hk⟩,hl⟩:=last_place (p:=fun t=>∃ x,d[t]?=some x/\x.k=key) d.length q
  have hlast:=lastk_at hx hk (fun u y h1 h2 h3=>hl u h1 (List.getElem?_eq_some_iff.1 h2).1 ⟨y,h2,h3⟩)
  rw [hlast] at h;have hnext:∀ y,d[t+1]?=some y->y.k≠x.k:=fun y hy z=>hl (t+1) (by omega) (List.getElem?_eq_some_iff.1 hy).1 ⟨y,hy,z.trans hk⟩
  rcases h with ⟨rfl,y,hy,hg,hv⟩ | ⟨rfl,rfl,hy⟩
  ·cases hy
   exact .inl ⟨rfl,⟨x.k,x.v⟩,keptTo_mem.2 ⟨t,x,ht,⟨hx,hg,hnext⟩,rfl⟩,hk,hv⟩
  ·have hg:=hy x rfl;refine .inr ⟨rfl,rfl,fun e he hek=>?_⟩
   obtain ⟨u,z,hu,hz,rfl⟩:=keptTo_mem.1 he;simp only at hek
   have hut:u<=t:=by
    rcases Nat.lt_or_ge t u with y | y
    ·exact absurd ⟨z,hz.1,hek⟩ (hl u y hu)
    ·exact y
   rcases Nat.lt_or_ge u t with y | y
   ·have:=kept_lt hs (Nat.le_refl _) hz hx y;rw [hek,hk,Zr] at this;cases this
   ·obtain rfl:u=t:=by omega
    have hz1:=hz.1;rw [hx] at hz1;cases hz1
    rw [hz.2.1] at hg;cases hg
 ·have hno:ofKey d key=[]:=by
   unfold ofKey;rw [List.filter_eq_nil_iff];intro y hy z;rw [decide_eq_true_eq] at z;obtain ⟨i,hi,rfl⟩:=List.mem_iff_getElem.1 hy;exact q ⟨i,hi,_,List.getElem?_eq_getElem hi,z⟩
  rw [hno] at h;rcases h with ⟨_,y,hy,_⟩ | ⟨rfl,rfl,_⟩
  ·simp at hy
  ·refine .inr ⟨rfl,rfl,fun e he hek=>?_⟩
   obtain ⟨u,z,hu,hz,rfl⟩:=keptTo_mem.1 he;exact q ⟨u,hu,z,hz.1,hek⟩
theorem Can.trees2 {T:List (List Int)} {es:List En} (hok:MapOk es) (hel:es.length<=100) (hT:T.length<=16000):∀ {l:Nat} {ks:List Ki},l<=20->Can T es l ks->∃ L:List (Nd × List (Nat × List En)),L.length=ks.length/\(∀ (i:Nat) (k:Ki) (x:Nd × List (Nat × List En)),ks[i]?=some k->L[i]?=some x->k.k=ZC x.1/\IsT T l k.i x.1 x.2)/\((L.map Prod.snd).flatten.map Prod.snd=Ze (fun e:En=>Zk 0 e.k) es/\∀ p ∈ (L.map Prod.snd).flatten,T[p.1 - 1]?=some (Z4 ⟨0,p.2,[]⟩)/\1<=p.1)
 | 0,ks,_,h=>by
  obtain ⟨g1,_⟩:=hok.leaves (by omega) (hok.bytes (by omega))
  obtain ⟨rows,hrows⟩:∃ rows,rows=Ze (fun e:En=>Zk 0 e.k) es:=⟨_,rfl⟩
  have h':Kids T (lvns rows) ks:=by rw [hrows];exact h
  rw [<- hrows] at g1;have hlen:ks.length=rows.length:=by have:=h'.1;simpa [lvns] using this
  refine ⟨(ks.zip rows).map (fun x=>(⟨0,x.2,[]⟩,[(x.1.i,x.2)])),by simp;omega,fun i k x hk hx=>?_,?_⟩
  ·rw [List.getElem?_map] at hx
   cases hz:(ks.zip rows)[i]? with
   | none=>rw [hz] at hx;cases hx
   | some y =>
    rw [hz] at hx;simp only [Option.map_some,Option.some.injEq] at hx;rw [List.getElem?_zip_eq_some] at hz
    obtain ⟨z1,z2⟩:=hz;rw [hk] at z1;have hy1:y.1=k:=by cases z1;rfl
    have hn:(lvns rows)[i]?=some ⟨0,y.2,[]⟩:=by simp [lvns,z2]
    obtain ⟨c1,c2,c3⟩:=h'.2 i _ k hn hk;subst hx;rw [hy1];have gn:=g1 _ (List.mem_of_getElem? hn);exact ⟨c1,gn.nod c3 c2 hT (fun k hk=>by simp at hk),rfl,rfl⟩
  ·have hfl:(((ks.zip rows).map (fun x=>((⟨0,x.2,[]⟩:Nd),[(x.1.i,x.2)]))).map Prod.snd).flatten=(ks.zip rows).map (fun x=>(x.1.i,x.2)):=by
    rw [List.map_map];generalize ks.zip rows=z;induction z with
    | nil=>rfl
    | cons y z ih=>simp only [List.map_cons,List.flatten_cons,ih];rfl
   rw [hfl];refine ⟨?_,fun p hp=>?_⟩
   ·rw [List.map_map,<- hrows];have h2:(Prod.snd ∘ fun x:Ki × List En=>(x.1.i,x.2))=Prod.snd:=rfl
    rw [h2,List.map_snd_zip (by omega)]
   ·obtain ⟨y,hy,rfl⟩:=List.mem_map.1 hp;obtain ⟨i,hi,q⟩:=List.mem_iff_getElem.1 hy;have hz:(ks.zip rows)[i]?=some y:=by rw [List.getElem?_eq_getElem hi,q]
    rw [List.getElem?_zip_eq_some] at hz
    have hn:(lvns rows)[i]?=some ⟨0,y.2,[]⟩:=by simp [lvns,hz.2]
    obtain ⟨c1,c2,c3⟩:=h'.2 i _ y.1 hn hz.1;exact ⟨c2,c3⟩
 | l+1,ks,hl,⟨ks0,h1,h2,h3⟩=>by
  obtain ⟨L0,p1,p2,p3⟩:=Can.trees2 hok hel hT (by omega) h1
  obtain ⟨g1,_⟩:=h1.up hok (by omega) (by omega) (show l < 20 by omega)
  obtain ⟨lv,hlv⟩:∃ lv:Int,lv=((l+1:Nat):Int):=⟨_,rfl⟩;rw [<- hlv] at h3 g1;obtain ⟨R,hR⟩:∃ R,R=Ze (fun x:Ki × (Nd × List (Nat × List En))=>Zk lv x.1.k) (ks0.zip L0):=⟨_,rfl⟩
  have hfst:(ks0.zip L0).map Prod.fst=ks0:=List.map_fst_zip (by omega)
  have hrows:Ze (fun e:Ki=>Zk lv e.k) ks0=R.map (List.map Prod.fst):=by
   rw [hR,<- split_map (f:=Prod.fst) (p:=fun e:Ki=>Zk lv e.k),hfst]
  have hRf:R.flatten=ks0.zip L0:=by rw [hR];exact Z6
  rw [hrows] at h3 g1;have hlen:ks.length=R.length:=by have:=h3.1;simpa [abns] using this
  refine ⟨R.map (fun r=>(⟨lv,[],r.map Prod.fst⟩,(r.map (fun y=>y.2.2)).flatten)),by simp;omega,fun i k x hk hx=>?_,?_⟩
  ·rw [List.getElem?_map] at hx
   cases hz:R[i]? with
   | none=>rw [hz] at hx;cases hx
   | some r =>
    rw [hz] at hx;simp only [Option.map_some,Option.some.injEq] at hx;have hn:(abns lv (R.map (List.map Prod.fst)))[i]?=some ⟨lv,[],r.map Prod.fst⟩:=by simp [abns,hz]
    obtain ⟨c1,c2,c3⟩:=h3.2 i _ k hn hk;have gn:=g1 _ (List.mem_of_getElem? hn);subst hx;have hmem:∀ y ∈ r,y ∈ ks0.zip L0:=fun y hy=>by rw [<- hRf];exact List.mem_flatten.2 ⟨r,List.mem_of_getElem? hz,hy⟩
    have hpair:∀ y ∈ r,y.1.k=ZC y.2.1/\IsT T l y.1.i y.2.1 y.2.2:=fun y hy=>by
     obtain ⟨t,ht,q⟩:=List.mem_iff_getElem.1 (hmem y hy);have hq:(ks0.zip L0)[t]?=some y:=by rw [List.getElem?_eq_getElem ht,q]
     rw [List.getElem?_zip_eq_some] at hq
     exact p2 t y.1 y.2 hq.1 hq.2
    refine ⟨c1,gn.nod c3 c2 hT (fun k hk'=>?_),hlv,by omega,r.map (fun y=>y.2.1),r.map (fun y=>y.2.2),by simp,by simp,fun j k' n' x' hk' hn' hx'=>?_,rfl⟩
    ·simp only [List.mem_map] at hk';obtain ⟨y,hy,rfl⟩:=hk';exact (hpair y hy).2.nod.1.lt
    ·rw [List.getElem?_map] at hk' hn' hx'
     cases hy:r[j]? with
     | none=>rw [hy] at hk';cases hk'
     | some y =>
      rw [hy] at hk' hn' hx';simp only [Option.map_some,Option.some.injEq] at hk' hn' hx';subst hk' hn' hx';exact hpair y (List.mem_of_getElem? hy)
  ·have hsnd:(ks0.zip L0).map Prod.snd=L0:=List.map_snd_zip (by omega)
   have h5:((R.map (fun r=>((⟨lv,[],r.map Prod.fst⟩:Nd),(r.map (fun y=>y.2.2)).flatten))).map Prod.snd).flatten=(L0.map Prod.snd).flatten:=by
    rw [List.map_map,<- hsnd,<- hRf,List.map_map]
    have:∀ R:List (List (Ki × (Nd × List (Nat × List En)))),(R.map (Prod.snd ∘ fun r=>((⟨lv,[],r.map Prod.fst⟩:Nd),(r.map (fun y=>y.2.2)).flatten))).flatten=(R.flatten.map (Prod.snd ∘ Prod.snd)).flatten:=by
     intro R;induction R with
     | nil=>rfl
     | cons r R ih =>
      simp only [List.map_cons,List.flatten_cons,List.map_append,List.flatten_append,ih];rfl
    exact this R
   rw [h5];exact p3
theorem RootOf.tree2 {T:List (List Int)} {es:List En} {id:Nat} (hok:MapOk es) (hel:es.length<=100) (hT:T.length<=16000) (h:RootOf T es id):∃ ls,RootT T id ls/\ls.map Prod.snd=Ze (fun e:En=>Zk 0 e.k) es/\∀ p ∈ ls,T[p.1 - 1]?=some (Z4 ⟨0,p.2,[]⟩)/\1<=p.1/\p.1<=T.length:=by
 obtain ⟨l,ks,h1,h2,h3,h4⟩:=h;obtain ⟨L,p1,p2,p3,p4⟩:=h1.trees2 hok hel hT h2
 have lt:∀ p:Nat × List En,T[p.1 - 1]?=some (Z4 ⟨0,p.2,[]⟩)/\1<=p.1->p.1<=T.length:=fun p q=>by
  have:=(List.getElem?_eq_some_iff.1 q.1).1
  omega
 match ks,L,p1 with
 | [],[],_=>exact ⟨[],.inl ⟨h4,rfl⟩,p3,fun p hp=>by simp at hp⟩
 | [k],[x],_ =>
  obtain ⟨c1,c2⟩:=p2 0 k x rfl rfl;have hid:id=k.i:=h4;rw [<- hid] at c2;simp only [List.map_cons,List.map_nil,List.flatten_cons,List.flatten_nil,List.append_nil] at p3 p4;exact ⟨x.2,.inr ⟨l,x.1,c2⟩,p3,fun p hp=>⟨(p4 p hp).1,(p4 p hp).2,lt p (p4 p hp)⟩⟩
 | _ :: _ :: _,_,_=>simp at h3
theorem rise_parts (key:ByteArray):∀ {es:List En},Zo es->∃ A X B,es=A++(X++B)/\X.length<=1/\(∀ e ∈ A,ZR e.k key=true)/\(∀ e ∈ X,e.k=key)/\∀ e ∈ B,ZR key e.k=true
 | [],_=>⟨[],[],[],rfl,by simp,by simp,by simp,by simp⟩
 | e :: es,h=>by
  unfold Zo at h;rw [List.pairwise_cons] at h;cases h1:ZR e.k key with
  | true =>
   obtain ⟨A,X,B,q1,q2,q3,q4,q5⟩:=rise_parts key h.2;refine ⟨e :: A,X,B,by rw [q1];rfl,q2,fun f hf=>?_,q4,q5⟩
   rcases List.mem_cons.1 hf with z | z
   ·rw [z];exact h1
   ·exact q3 f z
  | false =>
   cases h2:ZR key e.k with
   | true =>
    refine ⟨[],[],e :: es,rfl,by simp,by simp,by simp,fun f hf=>?_⟩
    rcases List.mem_cons.1 hf with z | z
    ·rw [z];exact h2
    ·exact ZQ h2 (h.1 f z)
   | false =>
    have hk:=sLt_conn h1 h2;exact ⟨[],[e],es,rfl,by simp,by simp,fun f hf=>by rw [List.mem_singleton.1 hf];exact hk,fun f hf=>by rw [<- hk];exact h.1 f hf⟩
theorem setC_near {es:List En} {x:Ed} (hr:Zo es):∃ A X Y B,es=A++(X++B)/\SetC es x (A++(Y++B))/\X.length<=1/\Y.length<=1/\∀ e ∈ Y,e=⟨x.k,x.v⟩/\x.g=false:=by
 obtain ⟨A,X,B,q1,q2,q3,q4,q5⟩:=rise_parts x.k hr;obtain ⟨Y,hY⟩:∃ Y,Y=(if x.g=true then [] else [(⟨x.k,x.v⟩:En)]):=⟨_,rfl⟩
 have hYl:Y.length<=1:=by rw [hY];split <;> simp
 have hYk:∀ e ∈ Y,e.k=x.k:=fun e he=>by
  rw [hY] at he;split at he
  ·simp at he
  ·rw [List.mem_singleton.1 he]
 have hrA:Zo A/\Zo B/\∀ a ∈ A,∀ b ∈ B,ZR a.k b.k=true:=by
  unfold Zo at hr ⊢;rw [q1,List.pairwise_append,List.pairwise_append] at hr;exact ⟨hr.1,hr.2.1.2.1,fun a ha b hb=>hr.2.2 a ha b (by simp [hb])⟩
 have hset:SetC es x (A++(Y++B)):=by
  refine ⟨?_,fun key v b hk hg=>?_,fun hg=>?_,fun hg=>?_⟩
  ·unfold Zo;rw [List.pairwise_append,List.pairwise_append];refine ⟨hrA.1,⟨?_,hrA.2.1,fun a ha b hb=>by rw [hYk a ha];exact q5 b hb⟩,fun a ha b hb=>?_⟩
   ·match Y,hYl with
    | [],_=>exact List.Pairwise.nil
    | [y],_=>exact List.pairwise_singleton _ _
   ·rcases List.mem_append.1 hb with z | z
    ·rw [hYk b z];exact q3 a ha
    ·exact hrA.2.2 a ha b z
  ·rcases hg with ⟨g1,e,g2,g3,g4⟩ | ⟨g1,g2,g3⟩
   ·refine .inl ⟨g1,e,?_,g3,g4⟩;rw [q1] at g2;simp only [List.mem_append] at g2 ⊢;rcases g2 with z | z | z
    ·exact .inl z
    ·exact absurd ((q4 e z).symm.trans g3).symm hk
    ·exact .inr (.inr z)
   ·refine .inr ⟨g1,g2,fun e he=>?_⟩
    simp only [List.mem_append] at he;rcases he with z | z | z
    ·exact g3 e (by rw [q1];simp [z])
    ·exact fun q=>hk (q.symm.trans (hYk e z))
    ·exact g3 e (by rw [q1];simp [z])
  ·refine .inl ⟨rfl,⟨x.k,x.v⟩,?_,rfl,rfl⟩;rw [hY,hg];simp
  ·refine .inr ⟨rfl,rfl,fun e he q=>?_⟩
   rw [hY,hg] at he;simp only [List.mem_append] at he;rcases he with z | z | z
   ·have:=q3 e z;rw [q,Zr] at this;cases this
   ·simp at z
   ·have:=q5 e z;rw [q,Zr] at this;cases this
 refine ⟨A,X,Y,B,q1,hset,q2,hYl,fun e he=>?_⟩
 rw [hY] at he;split at he
 ·simp at he
 ·exact ⟨List.mem_singleton.1 he,by simpa using ‹¬ x.g=true›⟩
end
section
open Go.RowKit Go.Shelf Apo
def HdL (U:Nat->Prop) (A:World) (M:ByteArray->Option Value) (T:List (List Int)):Prop :=
 ∀ key v,M key=some v->∃ (xid:Nat) (xa:Option Addr) (xc:Nat) (xs:List En),v=.agg #[.int .u64 (xid:Int),.slice xa xs.length xc]/\OkN A (lfN xa xc xs)/\OffN U (lfN xa xc xs)/\xs.length<=1000000/\T[xid - 1]?=some (Z4 ⟨0,xs,[]⟩)/\1<=xid/\xid<=T.length
section
variable {U U' O:Nat->Prop} {A A':World} {M:ByteArray->Option Value} {T:List (List Int)}
theorem HdL.none (U:Nat->Prop) (A:World) (T:List (List Int)):HdL U A (fun _=>none) T:=fun _ _ h=>by cases h
theorem HdL.step (h:HdL U A M T) (o:Onl U A A') (hU:∀ i,U' i->U i\/A.heap.size<=i):HdL U' A' M T:=by
 intro key v hv;obtain ⟨xid,xa,xc,xs,e1,e2,e3,e4,e5,e6,e7⟩:=h key v hv;refine ⟨xid,xa,xc,xs,e1,OkN.off e2 o e3,⟨fun y hy hp q=>?_,fun y hy=>by cases hy⟩,e4,e5,e6,e7⟩
 rcases hU _ q with z | z
 ·exact e3.1 y hy hp z
 ·obtain ⟨x0,hx0⟩:∃ x0,xs[0]?=some x0:=⟨xs[0]'hp,List.getElem?_eq_getElem hp⟩
  obtain ⟨g,of,f1,f2,_⟩:=e2.es 0 x0 hx0;have hgl:=World.block_lt_of_cell? _ _ f2;have hy':xa=some y:=hy;rw [hy'] at f1;cases f1
  simp only at z hgl;omega
theorem HdL.below (h:HdL U A M T) (b:Below A.heap.size A A'):HdL U A' M T:=h.step (Onl.ofBelow b) (fun _ q=>.inl q)
theorem HdL.put {xid:Nat} {xa:Option Addr} {xc:Nat} {xs:List En} (h:HdL U A M T) (key:ByteArray) (h1:OkN A (lfN xa xc xs)) (h2:OffN U (lfN xa xc xs)) (h3:xs.length<=1000000) (h4:T[xid - 1]?=some (Z4 ⟨0,xs,[]⟩)) (h5:1<=xid) (h6:xid<=T.length):HdL U A (updS M key (some (.agg #[.int .u64 (xid:Int),.slice xa xs.length xc]))) T:=by
 intro k v hv;by_cases q:k=key
 ·subst q;rw [updS_same] at hv;cases hv
  exact ⟨xid,xa,xc,xs,rfl,h1,h2,h3,h4,h5,h6⟩
 ·rw [updS_other _ _ q] at hv;exact h k v hv
theorem HdL.hd {hb c:Nat} (h:HdL U A M T) (hM:Ms Tryz.prog 9 A hb c M) (hO:∀ i,O i->U i) (hn:¬ O hb):HdP O A hb T:=by
 refine ⟨c,M,hM,hn,fun key v hv=>?_⟩
 obtain ⟨xid,xa,xc,xs,e1,e2,e3,e4,e5,e6,e7⟩:=h key v hv;exact ⟨xid,xa,xc,xs,e1,e2,⟨fun y hy hp q=>e3.1 y hy hp (hO _ q),fun y hy=>by cases hy⟩,e4,e5,e6,e7⟩
end
structure EdJ (W:World) (O:Nat->Prop) (T:List (List Int)) (b d:Nat) (r:Loop) (it:Nat->Nat × List En) (k:Nat) (U:Nat->Prop) (A:World):Prop where
 lp:LpAt d r A
 bel:Below W.heap.size W A
 k0:Ob A W.heap.size 29 [.int .u64 0]
 k1:Ob A (W.heap.size+1) 30 [.int .i64 0]
 kh:Ob A (b+2) 59 [.map (some (b+1))]
 row:∃ v,Ob A b 22 [v]/\Row (fun g=>d+2<=g) A 47 2 v (esK it k).length (ZI (esK it k))/\(∃ M,Ms Tryz.prog 9 A (b+1) k M/\HdL U A M T)/\∀ i,U i↔(O i\/i=b\/i=b+1\/v.ownBlock=some i)
section
variable {W A B:World} {O U:Nat->Prop} {T:List (List Int)} {b d k:Nat} {r:Loop} {it:Nat->Nat × List En}
theorem EdJ.below (h:EdJ W O T b d r it k U A) (hb:Below A.heap.size A B):EdJ W O T b d r it k U B:=by
 obtain ⟨v,v1,v2,⟨M,m1,m2⟩,v3⟩:=h.row;exact ⟨h.lp.below hb,h.bel.trans (hb.mono h.bel.size),h.k0.old hb,h.k1.old hb,h.kh.old hb,v,v1.old hb,v2.onl (F:=fun _=>False) (Onl.ofBelow hb) (fun _ _ q=>q),⟨M,m1.below hb,m2.below hb⟩,v3⟩
theorem EdJ.lt (h:EdJ W O T b d r it k U A) (hO:∀ i,O i->i < W.heap.size):∀ i,U i->i < A.heap.size:=by
 obtain ⟨v,v1,v2,⟨M,m1,m2⟩,v3⟩:=h.row;intro i q;rcases (v3 i).1 q with q | rfl | rfl | q
 ·exact Nat.lt_of_lt_of_le (hO i q) h.bel.size
 ·exact v1.lt
 ·exact m1.lt
 ·exact v2.lt i q
end
def EdR (W:World) (O:Nat->Prop) (T:List (List Int)) (b d:Nat) (r:Loop) (it:Nat->Nat × List En) (k:Nat) (U:Nat->Prop) (A A':World):Prop:=∃ U',EdJ W O T b d r it k U' A'/\Onl U A A'/\∀ i,U' i->U i\/A.heap.size<=i
end
section
open Go.RowKit Apo
def RoE (w:World) (g:Nat) (d:List Ed) (ex:List Value):Prop:=Ob w g 52 (Zg cEd d++ex)
def aggE (x:Ed):Value:=.agg #[.string x.k,.string x.v,.bool x.g]
section
variable {w w':World} {g:Nat} {d:List Ed} {ex:List Value}
theorem RoE.old (h:RoE w g d ex) (b:Below w.heap.size w w'):RoE w' g d ex:=Ob.old h b
theorem RoE.drew (h:RoE w g d ex):RoE w.drew g d ex:=h.old (Below.refl _ _).drew
theorem RoE.at (h:RoE w g d ex) {i:Nat} {x:Ed} (hx:d[i]?=some x) (j:Nat) (u:Value) (hu:(cEd x)[j]?=some u):w.cell? ⟨g,i * 3+j,none⟩=some u:=by
 have hc:=Ob.cell h (i * 3+j);have:=gcells_at cEd_len d hx hu;rw [hc,List.getElem?_append_left (List.getElem?_eq_some_iff.1 this).1]
 exact this
theorem RoE.cells (h:RoE w g d ex) {i:Nat} {x:Ed} (hx:d[i]?=some x):w.cell? ⟨g,i * 3,none⟩=some (.string x.k)/\w.cell? ⟨g,i * 3+1,none⟩=some (.string x.v)/\w.cell? ⟨g,i * 3+2,none⟩=some (.bool x.g) :=
 ⟨h.at hx 0 _ rfl,h.at hx 1 _ rfl,h.at hx 2 _ rfl⟩
theorem gcells_set {α:Type} {c:α->List Value} {k:Nat} (hk:∀ x,(c x).length=k):∀ (l:List α) (i:Nat) (y:α),i < l.length->over (Zg c l) (i * k) (c y)=Zg c (l.set i y)
 | [],_,_,h=>by simp at h
 | x :: l,0,y,_=>by
  simp [over,Zg,hk]
 | x :: l,i+1,y,h=>by
  have ih:=gcells_set hk l i y (by simpa using h)
  have e1:Zg c ((x :: l).set (i+1) y)=c x++Zg c (l.set i y):=by simp [Zg]
  have e2:Zg c (x :: l)=c x++Zg c l:=by simp [Zg]
  rw [e1,e2,<- ih];unfold over;rw [show (i+1) * k=(c x).length+i * k by rw [hk,Nat.succ_mul];omega,Nat.add_assoc,List.take_length_add_append,List.drop_length_add_append]
  simp [List.append_assoc]
theorem size_ed:(Tryz.prog.info? 52).map (·.size)=some 3:=by kernel_rfl
theorem RoE.load (h:RoE w g d ex) {i:Nat} {x:Ed} (hx:d[i]?=some x):(Instr.loadAt 52 (.pointer (some ⟨g,i * 3,none⟩))).run Tryz.prog w=.ok (aggE x) w:=by
 refine run_loadAt_cells (P:=Tryz.prog) 52 _ Tryz.underlying52 rfl (cEd x) size_ed ⟨g,i * 3,none⟩ (fun j v hv=>?_)
 rw [show (⟨g,i * 3,none⟩:Addr).add j=⟨g,i * 3+j,none⟩ by unfold Addr.add;split <;> simp_all]
 exact h.at hx j v hv
theorem RoE.store (h:RoE w g d ex) {i:Nat} (hi:i < d.length) (y:Ed):∃ w',(Instr.storeAt 52 (.pointer (some ⟨g,i * 3,none⟩)) (aggE y)).run Tryz.prog w=.ok () w'/\RoE w' g (d.set i y) ex/\Onl (fun k=>k=g) w w':=by
 have hle:i * 3+3<=d.length * 3:=by omega
 obtain ⟨w',h1,h2,h3⟩:=run_storeAt_cells (P:=Tryz.prog) (w:=w) 52 52 g (i * 3) (Zg cEd d++ex) (cEd y) size_ed (cEd_one y) h (by rw [List.length_append,gcells_len cEd_len,cEd_len];omega)
 refine ⟨w',h1,?_,h3⟩;unfold RoE;rw [<- gcells_set cEd_len d i y hi]
 have:over (Zg cEd d++ex) (i * 3) (cEd y)=over (Zg cEd d) (i * 3) (cEd y)++ex:=by
  unfold over;rw [List.take_append_of_le_length (by rw [gcells_len cEd_len];omega),List.drop_append_of_le_length (by rw [gcells_len cEd_len,cEd_len];omega)]
  simp
 rw [<- this];exact h2
structure SwE (W:World) (g:Nat) (d:List Ed) (ex:List Value) (i j:Nat) (x y:Ed) (S1 S2:World):Prop where
 l1:LdRuns Tryz.prog W 52 (.pointer (some ⟨g,i * 3,none⟩))
 l2:ldVal Tryz.prog W 52 (.pointer (some ⟨g,i * 3,none⟩))=aggE x
 l3:LdRuns Tryz.prog W 52 (.pointer (some ⟨g,j * 3,none⟩))
 l4:ldVal Tryz.prog W 52 (.pointer (some ⟨g,j * 3,none⟩))=aggE y
 s1:StRuns Tryz.prog W 52 (.pointer (some ⟨g,i * 3,none⟩)) (aggE y)
 s2:stWld Tryz.prog W 52 (.pointer (some ⟨g,i * 3,none⟩)) (aggE y)=S1
 s3:StRuns Tryz.prog S1 52 (.pointer (some ⟨g,j * 3,none⟩)) (aggE x)
 s4:stWld Tryz.prog S1 52 (.pointer (some ⟨g,j * 3,none⟩)) (aggE x)=S2
 ro:RoE S2 g (swL d i j) ex
 on:Onl (fun k=>k=g) W S2
theorem RoE.swap (h:RoE w g d ex) {i j:Nat} (hi:i < d.length) (hj:j < d.length):∃ x y S1 S2,SwE w g d ex i j x y S1 S2:=by
 have e1:d[i]?=some d[i]:=List.getElem?_eq_getElem hi
 have e2:d[j]?=some d[j]:=List.getElem?_eq_getElem hj
 obtain ⟨S1,a1,r1,o1⟩:=h.store hi d[j];obtain ⟨S2,a2,r2,o2⟩:=r1.store (i:=j) (by simpa using hj) d[i]
 obtain ⟨b1,b2⟩:=ld_runs (h.load e1);obtain ⟨b3,b4⟩:=ld_runs (h.load e2);obtain ⟨c1,c2⟩:=st_runs a1;obtain ⟨c3,c4⟩:=st_runs a2;refine ⟨d[i],d[j],S1,S2,b1,b2,b3,b4,c1,c2,c3,c4,?_,o1.trans o2⟩;have:swL d i j=(d.set i d[j]).set j d[i]:=by unfold swL;rw [e1,e2]
 rw [this];exact r2
end
theorem ldE_exec {P:Program} {w:World} {ρ:Operand->Value} {dst:Option Tmp} {x:Operand} {ty:TypeId} {pos:String} {after:Array Edge} {guard:Option (Nat × Bool)} (h:LdRuns P w 52 (ρ x)) :
  (execOp ρ { dst,op:=.load 52 x,type:=ty,pos,after,guard }).run P w=.ok (.value (ldVal P w 52 (ρ x))) w:=ld_exec h
theorem stE_exec {P:Program} {w:World} {ρ:Operand->Value} {dst:Option Tmp} {x y:Operand} {ty:TypeId} {pos:String} {after:Array Edge} {guard:Option (Nat × Bool)} (h:StRuns P w 52 (ρ x) (ρ y)) :
  (execOp ρ { dst,op:=.store 52 x y,type:=ty,pos,after,guard }).run P w=.ok .skip (stWld P w 52 (ρ x) (ρ y)):=st_exec h
attribute [local go_sem ↓] ldE_exec stE_exec
def SoP (w:World) (g:Nat) (ex:List Value) (R:List Ed->Prop) (e:Ending) (w':World):Prop:=e=.returned (.tuple #[])/\∃ d',RoE w' g d' ex/\R d'/\Onl (fun j=>j=g) w w'
def swR (d:List Ed) (a b:Nat):Nat->List Ed
 | 0=>d
 | n+1=>swL (swR d a b n) (a+n) (b+n)
theorem swR_len (d:List Ed) (a b:Nat):∀ n,(swR d a b n).length=d.length
 | 0=>rfl
 | n+1=>by unfold swR;rw [swL_len,swR_len d a b n]
theorem swr_any (w:World) (g cap:Nat) (d:List Ed) (ex:List Value) (F:Value) (h:RoE w g d ex) (hl:d.length<=1000000) (a b n:Nat) (ha:a+n<=d.length) (hb:b+n<=d.length) :
  Calls Tryz.prog 189 #[.slice (some ⟨g,0,none⟩) d.length cap,.int .i64 a,.int .i64 b,.int .i64 n,F] w (SoP w g ex (fun d'=>d'=swR d a b n)):=by
 have HR:=Za h;obtain ⟨ln,hln⟩:∃ ln,ln=d.length:=⟨_,rfl⟩;have HLN:=Za hln;rw [<- hln] at ha hb hl ⊢;clear h hln;go_enter Tryz.func189,Tryz.ntmps189
 go_wp2;go_loopw [10] (fun v wr=>∃ i:Nat,i<=n/\v=.int .i64 i/\Hid (RoE wr g (swR d a b i) ex)/\Hid (Onl (fun j=>j=g) w wr)) (fun v _=>n - (intOf v).toNat)
 case atStart=>exact ⟨0,Nat.zero_le _,rfl,HR,Za (Onl.refl _ _)⟩
 case round =>
  obtain ⟨i,hi,rfl,HRo,HO⟩:=hrel;by_cases hin:i < n
  ·obtain ⟨x,y,S1,S2,sw⟩:=(HRo.out.drew).swap (i:=a+i) (j:=b+i) (by rw [swR_len];have:=HLN.out;omega) (by rw [swR_len];have:=HLN.out;omega)
   obtain ⟨l1,l2,l3,l4,s1,s2,s3,s4,ro,on⟩:=sw;have HF:Hid (RoE S2 g (swR d a b (i+1)) ex):=Za ro;have HO2:Hid (Onl (fun j=>j=g) w S2):=Za ((HO.out.drew).trans on)
   unfold aggE at l2 l4 s1 s2 s3 s4;obtain ⟨ai,hai⟩:∃ ai,ai=a+i:=⟨_,rfl⟩;obtain ⟨bi,hbi⟩:∃ bi,bi=b+i:=⟨_,rfl⟩;rw [<- hai] at l1 l2 s1 s2;rw [<- hbi] at l3 l4 s3 s4;have w1:IntKind.i64.wrap ((a:Int)+(i:Int))=(ai:Int):=by rw [IntKind.wrap_i64];omega
   have w2:IntKind.i64.wrap ((b:Int)+(i:Int))=(bi:Int):=by rw [IntKind.wrap_i64];omega
   have w3:(a:Int)+(i:Int)=(ai:Int):=by omega
   have w4:(b:Int)+(i:Int)=(bi:Int):=by omega
   have h1:ai < ln:=by omega
   have h2:bi < ln:=by omega
   clear ro on HR HRo HO hai hbi;go_wp2;go_region
   go_wp2;go_roundw
   case rel=>exact ⟨i+1,by omega,by simp,HF,HO2⟩
   case measure=>simp [intOf];omega
  ·obtain rfl:i=n:=by omega
   go_wp2;go_end0
   exact ⟨rfl,_,HRo.out,rfl,HO.out⟩
end
end Go.Proofs.YteopalkiebfioaaGreat
