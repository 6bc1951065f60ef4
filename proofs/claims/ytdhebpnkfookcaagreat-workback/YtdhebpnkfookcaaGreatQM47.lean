import Derived.Test.YtdhebpnkfookcaaGreatQM46
set_option maxRecDepth 100000
set_option maxHeartbeats 8000000
namespace Go.Proofs.YtdhebpnkfookcaaGreat
section
open Go.RowKit Apo
theorem Can.trees2 {T:List (List Int)} {es:List En} (hok:MapOk es) (hel:es.length<=100) (hT:T.length<=16000):∀ {l:Nat} {ks:List Ki},l<=20->Can T es l ks->∃ L:List (Nd × List (Nat × List En)),L.length=ks.length/\(∀ (i:Nat) (k:Ki) (x:Nd × List (Nat × List En)),ks[i]?=some k->L[i]?=some x->k.k=ZK x.1/\IsT T l k.i x.1 x.2)/\((L.map Prod.snd).flatten.map Prod.snd=Zi (fun e:En=>Zm 0 e.k) es/\∀ p ∈ (L.map Prod.snd).flatten,T[p.1 - 1]?=some (ndB ⟨0,p.2,[]⟩)/\1<=p.1)
 | 0,ks,_,h=>by
  obtain ⟨g1,_⟩:=hok.leaves (by omega) (hok.bytes (by omega))
  obtain ⟨rows,hrows⟩:∃ rows,rows=Zi (fun e:En=>Zm 0 e.k) es:=⟨_,rfl⟩
  have h':Kids T (lvns rows) ks:=by rw [hrows];exact h
  rw [<- hrows] at g1;have hlen:ks.length=rows.length:=by have:=h'.1;simpa [lvns] using this
  refine ⟨(ks.zip rows).map (fun x=>(⟨0,x.2,[]⟩,[(x.1.i,x.2)])),by simp;omega,fun i k x hk hx=>?_,?_⟩
  ·rw [List.getElem?_map] at hx
   cases hz:(ks.zip rows)[i]? with
   | none=>rw [hz] at hx;cases hx
   | some y =>
    rw [hz] at hx;simp only [Option.map_some,Option.some.injEq] at hx;rw [List.getElem?_zip_eq_some] at hz
    obtain ⟨z1,z2⟩:=hz;rw [hk] at z1;have hy1:y.1=k:=by cases z1;rfl
    have hn:(lvns rows)[i]?=some ⟨0,y.2,[]⟩:=by simp [lvns,z2]
    obtain ⟨c1,c2,c3⟩:=h'.2 i _ k hn hk;subst hx;rw [hy1];have gn:=g1 _ (List.mem_of_getElem? hn);exact ⟨c1,gn.nod c3 c2 hT (fun k hk=>by simp at hk),rfl,rfl⟩
  ·have hfl:(((ks.zip rows).map (fun x=>((⟨0,x.2,[]⟩:Nd),[(x.1.i,x.2)]))).map Prod.snd).flatten=(ks.zip rows).map (fun x=>(x.1.i,x.2)):=by
    rw [List.map_map];generalize ks.zip rows=z;induction z with
    | nil=>rfl
    | cons y z ih=>simp only [List.map_cons,List.flatten_cons,ih];rfl
   rw [hfl];refine ⟨?_,fun p hp=>?_⟩
   ·rw [List.map_map,<- hrows];have h2:(Prod.snd ∘ fun x:Ki × List En=>(x.1.i,x.2))=Prod.snd:=rfl
    rw [h2,List.map_snd_zip (by omega)]
   ·obtain ⟨y,hy,rfl⟩:=List.mem_map.1 hp;obtain ⟨i,hi,q⟩:=List.mem_iff_getElem.1 hy;have hz:(ks.zip rows)[i]?=some y:=by rw [List.getElem?_eq_getElem hi,q]
    rw [List.getElem?_zip_eq_some] at hz
    have hn:(lvns rows)[i]?=some ⟨0,y.2,[]⟩:=by simp [lvns,hz.2]
    obtain ⟨c1,c2,c3⟩:=h'.2 i _ y.1 hn hz.1;exact ⟨c2,c3⟩
 | l+1,ks,hl,⟨ks0,h1,h2,h3⟩=>by
  obtain ⟨L0,p1,p2,p3⟩:=Can.trees2 hok hel hT (by omega) h1
  obtain ⟨g1,_⟩:=h1.up hok (by omega) (by omega) (show l < 20 by omega)
  obtain ⟨lv,hlv⟩:∃ lv:Int,lv=((l+1:Nat):Int):=⟨_,rfl⟩;rw [<- hlv] at h3 g1;obtain ⟨R,hR⟩:∃ R,R=Zi (fun x:Ki × (Nd × List (Nat × List En))=>Zm lv x.1.k) (ks0.zip L0):=⟨_,rfl⟩
  have hfst:(ks0.zip L0).map Prod.fst=ks0:=List.map_fst_zip (by omega)
  have hrows:Zi (fun e:Ki=>Zm lv e.k) ks0=R.map (List.map Prod.fst):=by
   rw [hR,<- split_map (f:=Prod.fst) (p:=fun e:Ki=>Zm lv e.k),hfst]
  have hRf:R.flatten=ks0.zip L0:=by rw [hR];exact Z4
  rw [hrows] at h3 g1;have hlen:ks.length=R.length:=by have:=h3.1;simpa [abns] using this
  refine ⟨R.map (fun r=>(⟨lv,[],r.map Prod.fst⟩,(r.map (fun y=>y.2.2)).flatten)),by simp;omega,fun i k x hk hx=>?_,?_⟩
  ·rw [List.getElem?_map] at hx
   cases hz:R[i]? with
   | none=>rw [hz] at hx;cases hx
   | some r =>
    rw [hz] at hx;simp only [Option.map_some,Option.some.injEq] at hx;have hn:(abns lv (R.map (List.map Prod.fst)))[i]?=some ⟨lv,[],r.map Prod.fst⟩:=by simp [abns,hz]
    obtain ⟨c1,c2,c3⟩:=h3.2 i _ k hn hk;have gn:=g1 _ (List.mem_of_getElem? hn);subst hx;have hmem:∀ y ∈ r,y ∈ ks0.zip L0:=fun y hy=>by rw [<- hRf];exact List.mem_flatten.2 ⟨r,List.mem_of_getElem? hz,hy⟩
    have hpair:∀ y ∈ r,y.1.k=ZK y.2.1/\IsT T l y.1.i y.2.1 y.2.2:=fun y hy=>by
     obtain ⟨t,ht,q⟩:=List.mem_iff_getElem.1 (hmem y hy);have hq:(ks0.zip L0)[t]?=some y:=by rw [List.getElem?_eq_getElem ht,q]
     rw [List.getElem?_zip_eq_some] at hq
     exact p2 t y.1 y.2 hq.1 hq.2
    refine ⟨c1,gn.nod c3 c2 hT (fun k hk'=>?_),hlv,by omega,r.map (fun y=>y.2.1),r.map (fun y=>y.2.2),by simp,by simp,fun j k' n' x' hk' hn' hx'=>?_,rfl⟩
    ·simp only [List.mem_map] at hk';obtain ⟨y,hy,rfl⟩:=hk';exact (hpair y hy).2.nod.1.lt
    ·rw [List.getElem?_map] at hk' hn' hx'
     cases hy:r[j]? with
     | none=>rw [hy] at hk';cases hk'
     | some y =>
      rw [hy] at hk' hn' hx';simp only [Option.map_some,Option.some.injEq] at hk' hn' hx';subst hk' hn' hx';exact hpair y (List.mem_of_getElem? hy)
  ·have hsnd:(ks0.zip L0).map Prod.snd=L0:=List.map_snd_zip (by omega)
   have h5:((R.map (fun r=>((⟨lv,[],r.map Prod.fst⟩:Nd),(r.map (fun y=>y.2.2)).flatten))).map Prod.snd).flatten=(L0.map Prod.snd).flatten:=by
    rw [List.map_map,<- hsnd,<- hRf,List.map_map]
    have:∀ R:List (List (Ki × (Nd × List (Nat × List En)))),(R.map (Prod.snd ∘ fun r=>((⟨lv,[],r.map Prod.fst⟩:Nd),(r.map (fun y=>y.2.2)).flatten))).flatten=(R.flatten.map (Prod.snd ∘ Prod.snd)).flatten:=by
     intro R;induction R with
     | nil=>rfl
     | cons r R ih =>
      simp only [List.map_cons,List.flatten_cons,List.map_append,List.flatten_append,ih];rfl
    exact this R
   rw [h5];exact p3
theorem RootOf.tree2 {T:List (List Int)} {es:List En} {id:Nat} (hok:MapOk es) (hel:es.length<=100) (hT:T.length<=16000) (h:RootOf T es id):∃ ls,RootT T id ls/\ls.map Prod.snd=Zi (fun e:En=>Zm 0 e.k) es/\∀ p ∈ ls,T[p.1 - 1]?=some (ndB ⟨0,p.2,[]⟩)/\1<=p.1/\p.1<=T.length:=by
 obtain ⟨l,ks,h1,h2,h3,h4⟩:=h;obtain ⟨L,p1,p2,p3,p4⟩:=h1.trees2 hok hel hT h2
 have lt:∀ p:Nat × List En,T[p.1 - 1]?=some (ndB ⟨0,p.2,[]⟩)/\1<=p.1->p.1<=T.length:=fun p q=>by
  have:=(List.getElem?_eq_some_iff.1 q.1).1
  omega
 match ks,L,p1 with
 | [],[],_=>exact ⟨[],.inl ⟨h4,rfl⟩,p3,fun p hp=>by simp at hp⟩
 | [k],[x],_ =>
  obtain ⟨c1,c2⟩:=p2 0 k x rfl rfl;have hid:id=k.i:=h4;rw [<- hid] at c2;simp only [List.map_cons,List.map_nil,List.flatten_cons,List.flatten_nil,List.append_nil] at p3 p4;exact ⟨x.2,.inr ⟨l,x.1,c2⟩,p3,fun p hp=>⟨(p4 p hp).1,(p4 p hp).2,lt p (p4 p hp)⟩⟩
 | _ :: _ :: _,_,_=>simp at h3
theorem rise_parts (key:ByteArray):∀ {es:List En},ZY es->∃ A X B,es=A++(X++B)/\X.length<=1/\(∀ e ∈ A,ZN e.k key=true)/\(∀ e ∈ X,e.k=key)/\∀ e ∈ B,ZN key e.k=true
 | [],_=>⟨[],[],[],rfl,by simp,by simp,by simp,by simp⟩
 | e :: es,h=>by
  unfold ZY at h;rw [List.pairwise_cons] at h;cases h1:ZN e.k key with
  | true =>
   obtain ⟨A,X,B,q1,q2,q3,q4,q5⟩:=rise_parts key h.2;refine ⟨e :: A,X,B,by rw [q1];rfl,q2,fun f hf=>?_,q4,q5⟩
   rcases List.mem_cons.1 hf with z | z
   ·rw [z];exact h1
   ·exact q3 f z
  | false =>
   cases h2:ZN key e.k with
   | true =>
    refine ⟨[],[],e :: es,rfl,by simp,by simp,by simp,fun f hf=>?_⟩
    rcases List.mem_cons.1 hf with z | z
    ·rw [z];exact h2
    ·exact ZO h2 (h.1 f z)
   | false =>
    have hk:=sLt_conn h1 h2;exact ⟨[],[e],es,rfl,by simp,by simp,fun f hf=>by rw [List.mem_singleton.1 hf];exact hk,fun f hf=>by rw [<- hk];exact h.1 f hf⟩
theorem setC_near {es:List En} {x:Ed} (hr:ZY es):∃ A X Y B,es=A++(X++B)/\SetC es x (A++(Y++B))/\X.length<=1/\Y.length<=1/\∀ e ∈ Y,e=⟨x.k,x.v⟩/\x.g=false:=by
 obtain ⟨A,X,B,q1,q2,q3,q4,q5⟩:=rise_parts x.k hr;obtain ⟨Y,hY⟩:∃ Y,Y=(if x.g=true then [] else [(⟨x.k,x.v⟩:En)]):=⟨_,rfl⟩
 have hYl:Y.length<=1:=by rw [hY];split <;> simp
 have hYk:∀ e ∈ Y,e.k=x.k:=fun e he=>by
  rw [hY] at he;split at he
  ·simp at he
  ·rw [List.mem_singleton.1 he]
 have hrA:ZY A/\ZY B/\∀ a ∈ A,∀ b ∈ B,ZN a.k b.k=true:=by
  unfold ZY at hr ⊢;rw [q1,List.pairwise_append,List.pairwise_append] at hr;exact ⟨hr.1,hr.2.1.2.1,fun a ha b hb=>hr.2.2 a ha b (by simp [hb])⟩
 have hset:SetC es x (A++(Y++B)):=by
  refine ⟨?_,fun key v b hk hg=>?_,fun hg=>?_,fun hg=>?_⟩
  ·unfold ZY;rw [List.pairwise_append,List.pairwise_append];refine ⟨hrA.1,⟨?_,hrA.2.1,fun a ha b hb=>by rw [hYk a ha];exact q5 b hb⟩,fun a ha b hb=>?_⟩
   ·match Y,hYl with
    | [],_=>exact List.Pairwise.nil
    | [y],_=>exact List.pairwise_singleton _ _
   ·rcases List.mem_append.1 hb with z | z
    ·rw [hYk b z];exact q3 a ha
    ·exact hrA.2.2 a ha b z
  ·rcases hg with ⟨g1,e,g2,g3,g4⟩ | ⟨g1,g2,g3⟩
   ·refine .inl ⟨g1,e,?_,g3,g4⟩;rw [q1] at g2;simp only [List.mem_append] at g2 ⊢;rcases g2 with z | z | z
    ·exact .inl z
    ·exact absurd ((q4 e z).symm.trans g3).symm hk
    ·exact .inr (.inr z)
   ·refine .inr ⟨g1,g2,fun e he=>?_⟩
    simp only [List.mem_append] at he;rcases he with z | z | z
    ·exact g3 e (by rw [q1];simp [z])
    ·exact fun q=>hk (q.symm.trans (hYk e z))
    ·exact g3 e (by rw [q1];simp [z])
  ·refine .inl ⟨rfl,⟨x.k,x.v⟩,?_,rfl,rfl⟩;rw [hY,hg];simp
  ·refine .inr ⟨rfl,rfl,fun e he q=>?_⟩
   rw [hY,hg] at he;simp only [List.mem_append] at he;rcases he with z | z | z
   ·have:=q3 e z;rw [q,ZQ] at this;cases this
   ·simp at z
   ·have:=q5 e z;rw [q,ZQ] at this;cases this
 refine ⟨A,X,Y,B,q1,hset,q2,hYl,fun e he=>?_⟩
 rw [hY] at he;split at he
 ·simp at he
 ·exact ⟨List.mem_singleton.1 he,by simpa using ‹¬ x.g=true›⟩
def edE (x:Ed):Int:=if ZT x.k≠0 then ZT x.k else if x.g=true then 0 else valE x.v
theorem edE_ok {x:Ed} (h:edE x=0):ZT x.k=0/\(x.g=true\/valE x.v=0):=by
 unfold edE at h;by_cases h1:ZT x.k=0
 ·rw [if_neg (by simp [h1])] at h
  by_cases h2:x.g=true
  ·exact ⟨h1,.inl h2⟩
  ·rw [if_neg h2] at h;exact ⟨h1,.inr h⟩
 ·rw [if_pos h1] at h;exact absurd h h1
theorem near_place {A X Y B:List En} (hX:X.length<=1) (hY:Y.length<=1):NearR En.k (A++(X++B)) (A++(Y++B)):=by
 cases B with
 | nil=>exact ⟨A,X,Y,[],by simp,by simp,by omega,by omega,.inl rfl⟩
 | cons b B=>exact ⟨A,X++[b],Y++[b],B,by simp,by simp,by simp;omega,by simp;omega,.inr ⟨b,b,by simp,by simp,rfl⟩⟩
theorem keyE_okT {k:ByteArray} (h:ZT k=0):1<=k.size/\k.size<=40:=by
 unfold ZT at h;split at h
 ·simp at h
 ·omega
theorem valE_okT {v:ByteArray} (h:valE v=0):v.size<=200:=by
 unfold valE at h;split at h
 ·simp at h
 ·omega
theorem apr_chain {es:List En} (hok:MapOk es):∀ (n:Nat) (l:List Ed),l.length=n->(∀ x ∈ l,edE x=0)->∃ fs,ApR es l fs/\ChN n es fs/\MapOk fs
 | 0,l,hl,_=>by
  have:l=[]:=List.eq_nil_of_length_eq_zero hl;subst this;exact ⟨es,ApR.nil (riseE_iff.2 hok.rise),rfl,hok⟩
 | n+1,l,hl,he=>by
  obtain ⟨l0,x,rfl⟩:∃ l0 x,l=l0++[x]:=by
   cases hq:l.getLast? with
   | none =>
    have:l=[]:=by simpa using hq
    subst this;simp at hl
   | some x =>
    obtain ⟨l0,h⟩:=List.getLast?_eq_some_iff.1 hq
    exact ⟨l0,x,h⟩
  obtain ⟨c,h1,h2,h3⟩:=apr_chain hok n l0 (by simpa using hl) (fun y hy=>he y (by simp [hy]))
  obtain ⟨A,X,Y,B,q1,q2,q3,q4,q5⟩:=setC_near (x:=x) h1.1;obtain ⟨k1,k2⟩:=edE_ok (he x (by simp))
  refine ⟨A++(Y++B),h1.snoc q2,⟨c,h2,by rw [q1];exact near_place q3 q4,by rw [q1];simp;omega⟩,⟨riseE_iff.1 q2.1,fun e hm=>?_,fun e hm=>?_⟩⟩
  ·simp only [List.mem_append] at hm;rcases hm with z | z | z
   ·exact h3.key e (by rw [q1];simp [z])
   ·rw [(q5 e z).1];exact keyE_okT k1
   ·exact h3.key e (by rw [q1];simp [z])
  ·simp only [List.mem_append] at hm;rcases hm with z | z | z
   ·exact h3.val e (by rw [q1];simp [z])
   ·rcases k2 with y | y
    ·rw [(q5 e z).2] at y;cases y
    ·rw [(q5 e z).1];exact valE_okT y
   ·exact h3.val e (by rw [q1];simp [z])
theorem ApR.chain {es fs:List En} {l:List Ed} (hok:MapOk es) (he:∀ x ∈ l,edE x=0) (h:ApR es l fs):ChN l.length es fs/\MapOk fs/\fs.length<=es.length+l.length:=by
 obtain ⟨gs,h1,h2,h3⟩:=apr_chain hok l.length l rfl he;have:=h.uniq h1;subst this;exact ⟨h2,h3,h2.len⟩
theorem IsT.uniq {T:List (List Int)}:∀ {l id:Nat} {n n':Nd} {ls ls':List (Nat × List En)} {l':Nat},IsT T l id n ls->IsT T l' id n' ls'->l=l'/\n=n'/\ls=ls'
 | l,id,n,n',ls,ls',l',h,h'=>by
  have a1:=h.nod;have a2:=h'.nod
  have hn:n=n':=by
   have:=a1.1.ld.symm.trans a2.1.ld;exact (Prod.mk.inj this).1
  subst hn;have hl:l=l':=by have:=a1.2;have:=a2.2;omega
  subst hl;refine ⟨rfl,rfl,?_⟩;match l,h,h' with
  | 0,h,h'=>rw [h.2.2,h'.2.2]
  | l+1,h,h' =>
   obtain ⟨_,_,_,ns,lss,p1,p2,p3,p4⟩:=h;obtain ⟨_,_,_,ms,mss,q1,q2,q3,q4⟩:=h'
   have e:lss=mss:=by
    refine List.ext_getElem? (fun i=>?_)
    by_cases hi:i < n.ks.length
    ·have x1:=List.getElem?_eq_getElem (l:=lss) (i:=i) (by omega)
     have x2:=List.getElem?_eq_getElem (l:=mss) (i:=i) (by omega)
     obtain ⟨_,b1⟩:=p3 i _ _ _ (List.getElem?_eq_getElem hi) (List.getElem?_eq_getElem (by omega)) x1
     obtain ⟨_,b2⟩:=q3 i _ _ _ (List.getElem?_eq_getElem hi) (List.getElem?_eq_getElem (by omega)) x2
     rw [x1,x2,(IsT.uniq b1 b2).2.2]
    ·rw [List.getElem?_eq_none (by omega),List.getElem?_eq_none (by omega)]
   rw [p4,q4,e]
theorem RootOf.inj {T:List (List Int)} {es fs:List En} {id:Nat} (hT:T.length<=16000) (h1:MapOk es) (h2:MapOk fs) (l1:es.length<=160) (l2:fs.length<=160) (h:RootOf T es id) (k:RootOf T fs id):es=fs:=by
 obtain ⟨ls,a1,a2,_,a4⟩:=h.tree h1 l1 hT;obtain ⟨ms,b1,b2,_,b4⟩:=k.tree h2 l2 hT;by_cases hz:id=0
 ·rw [a4.1 hz,b4.1 hz]
 ·rcases a1 with ⟨q,_⟩ | ⟨l,n,q⟩
  ·exact absurd q hz
  ·rcases b1 with ⟨q2,_⟩ | ⟨l',n',q2⟩
   ·exact absurd q2 hz
   ·rw [<- a2,<- b2,(IsT.uniq q q2).2.2]
theorem split_entT {ls:List (Nat × List En)} {es:List En} (h:ls.map Prod.snd=Zi (fun e:En=>Zm 0 e.k) es):ls.flatMap (fun p=>p.2)=es:=by
 have h1:ls.flatMap (fun p=>p.2)=(ls.map Prod.snd).flatten:=by rw [List.flatMap_def]
 rw [h1,h];exact Z4
theorem rows_lenT {rows:List (List En)} (h:∀ r ∈ rows,0 < r.length):rows.length<=rows.flatten.length:=by
 induction rows with
 | nil=>simp
 | cons r rows ih =>
  have:=h r (by simp)
  have:=ih (fun q hq=>h q (by simp [hq]))
  simp only [List.length_cons,List.flatten_cons,List.length_append];omega
theorem tedit_map {w W:World} {s m:Nat} {O:Nat->Prop} {T:List (List Int)} (h:TSw w W s O T m) (hp:pgT T<=4096) (hx:TxOk T) {es:List En} {id:Nat} (hr:RootOf T es id) (hok:MapOk es) (hle:es.length<=100) (ea:Option Addr) (ec:Nat) (l:List Ed) (hl:RdG cEd 3 W ea l) (hll:l.length<=400) (hE:∀ x ∈ l,edE x=0) (hz:∀ x ∈ l,x.k.size<=maxLen/\x.v.size<=maxLen)
  (hroom:∀ fs,ApR es l fs->ChN l.length es fs->MapOk fs->fs.length<=es.length+l.length->(fs.flatMap enB).length<=40000/\pgT (treeT T fs)<=4096) :
  Calls Tryz.prog 36 #[.pointer (some ⟨s,0,none⟩),.int .u64 id,.slice ea l.length ec] W fun e W'=>∃ fs,ApR es l fs/\ChN l.length es fs/\MapOk fs/\fs.length<=es.length+l.length/\TRoot w W s O T m fs e W':=by
 have hT:T.length<=4095:=by have:=h.len;omega
 have hml:maxLen<=9223372036854775807:=by decide
 obtain ⟨ls,q1,q2,q3⟩:=hr.tree2 hok hle (by omega)
 have q4:ls.flatMap (fun p=>p.2)=es:=split_entT q2
 have q5:∀ p ∈ ls,0 < p.2.length:=by
  rcases q1 with ⟨_,rfl⟩ | ⟨l,nn,q1⟩
  ·intro p hp;simp at hp
  ·exact q1.leaves
 have q6:ls.length<=1000:=by
  have h3:=rows_lenT (rows:=ls.map Prod.snd) (fun r hr=>by obtain ⟨p,q,rfl⟩:=List.mem_map.1 hr;exact q5 p q)
  rw [q2] at h3;rw [Z4,<- q2,List.length_map] at h3;omega
 have C:=tedit_any h (by omega) hx id ls q1 q5 (by rw [q4];omega) q6 q3 (by rw [q4];exact hok.rise) ea ec l hl (by omega) (fun y hy=>by have h1:=edE_ok (hE y hy);have h2:=hz y hy;exact ⟨h1.1,h1.2,by omega,by omega⟩) (fun fs hf=>by
  rw [q4] at hf;obtain ⟨c1,c2,c3⟩:=hf.chain hok hE;obtain ⟨r1,r2⟩:=hroom fs hf c1 c2 c3;exact ⟨by omega,c2,r1,r2⟩)
 rw [q4] at C;refine C.mono ?_;rintro e W' ⟨fs,hf,ht⟩;obtain ⟨c1,c2,c3⟩:=hf.chain hok hE;exact ⟨fs,hf,c1,c2,c3,ht⟩
def edsE (l:List Ed):Int:=ZD edE l
end
section
open Go.RowKit Go.Shelf Apo
attribute [local go_sem] Oper.semAt_some
attribute [local go_sem ↓] app_sem
theorem tedit_err (W:World) (s root:Nat) (ea:Option Addr) (ec:Nat) (l:List Ed) (hl:RdG cEd 3 W ea l) (hll:l.length<=1000) (hz:∀ x ∈ l,x.k.size<=9223372036854775807/\x.v.size<=9223372036854775807) (hbad:¬ ∀ x ∈ l,edE x=0) :
  Calls Tryz.prog 36 #[.pointer (some ⟨s,0,none⟩),.int .u64 root,.slice ea l.length ec] W fun e W'=>e=.returned (.tuple #[.int .u64 0,.int .i64 (edsE l)])/\Below W.heap.size W W':=by
 refine (callsIn_wide (n:=1)).1 ?_;obtain ⟨W2,hW2⟩:∃ W2,W2=(W.alloc (.cells #[.int .u64 0] 27)).alloc (.cells #[.int .i64 0] 28):=⟨_,rfl⟩;have s2:W2.heap.size=W.heap.size+2:=by rw [hW2];simp
 have b2:Below W.heap.size W W2:=by rw [hW2];exact ((Below.refl _ W).alloc (Nat.le_refl _) _).alloc (by simp) _
 have k0:Ob W2 W.heap.size 27 [.int .u64 0]:=by rw [hW2];exact (Ob.new W [.int .u64 0] 27).alloc _
 have k1:Ob W2 (W.heap.size+1) 28 [.int .i64 0]:=by
  have:=Ob.new (W.alloc (.cells #[.int .u64 0] 27)) [.int .i64 0] 28;rw [World.size_alloc] at this;rw [hW2];exact this
 have HL:=Za hl;have HZ:=Za hz;have HBAD:=Za hbad;have HB2:=Za b2;have HK0:=Za k0;have HK1:=Za k1;have HS2:=Za s2;obtain ⟨nl,hnl⟩:∃ n,n=l.length:=⟨_,rfl⟩;have HNL:=Za hnl;rw [<- hnl] at hll ⊢;clear hl hz hbad b2 k0 k1 hnl s2;refine callsIn_of_wp_marks Tryz.func36 rfl trivial ?_ rfl;simp only [Tryz.ntmps36,List.size_toArray,List.length_cons,List.length_nil,Nat.reduceAdd,Nat.reduceSub,Array.replicate_succ,Array.replicate_zero,List.push_toArray,List.append_toArray,List.nil_append,List.cons_append];gi_wp2
 rw [<- hW2];clear hW2;gi_loopw [18] (fun i wr=>∃ j:Nat,j<=nl/\i=.int .i64 j/\Hid (Below W2.heap.size W2 wr)/\Hid (∀ x ∈ l.take j,edE x=0)) (fun i _=>nl - (intOf i).toNat)
 case atStart=>exact ⟨0,Nat.zero_le _,rfl,Za (Below.refl _ _),Za (by simp)⟩
 case round =>
 obtain ⟨j,hj,rfl,HBr,HZR⟩:=hrel;by_cases hjn:j < nl
 ·obtain ⟨⟨xk,xv,xg⟩,hxj⟩:∃ x,l[j]?=some x:=⟨l[j]'(by have:=HNL.out;omega),List.getElem?_eq_getElem _⟩
  obtain ⟨g,o,rfl,c0,c1,c2⟩:=((HL.out.below HB2.out).below HBr.out).ed hxj;simp only at c0 c1 c2;obtain ⟨q3,q4⟩:=HZ.out _ (List.mem_of_getElem? hxj);simp only at q3 q4;have CK:=fun W=>key_any xk W q3
  have CV:=fun W=>val_any xv W q4
  have HNX:Hid (edE ⟨xk,xv,xg⟩=0->∀ x ∈ l.take (j+1),edE x=0):=Za (fun h0 x hx=>by
   rw [List.take_add_one,hxj] at hx;rcases List.mem_append.1 hx with q | q
   ·exact HZR.out x q
   ·have:x=⟨xk,xv,xg⟩:=by simpa using q
    rw [this];exact h0)
  have HERR:Hid (edE ⟨xk,xv,xg⟩≠0->edsE l=edE ⟨xk,xv,xg⟩):=Za (fun q=>firstE_at hxj HZR.out q)
  obtain ⟨K,hK⟩:∃ K,K=ZT xk:=⟨_,rfl⟩;obtain ⟨V,hV⟩:∃ V,V=valE xv:=⟨_,rfl⟩;rw [<- hK] at CK;rw [<- hV] at CV;have HCK:=Za CK;have HCV:=Za CV;have HKE:=Za hK;have HVE:=Za hV;have b1:Below W2.heap.size W2 (wr.alloc (.cells #[.string xk,.string xv,.bool xg] 46)):=HBr.out.alloc HBr.out.size _;have HBF:=Za b1;have d0:=HK0.out.old b1;have d1:=HK1.out.old b1;obtain ⟨W3,hW3⟩:∃ W3,W3=wr.alloc (.cells #[.string xk,.string xv,.bool xg] 46):=⟨_,rfl⟩
  have HFIN:Hid (∀ er:Int,er≠0->Below W.heap.size W ((W3.setCell ⟨W.heap.size,0,none⟩ (.int .u64 0)).setCell ⟨W.heap.size+1,0,none⟩ (.int .i64 er))/\Ob ((W3.setCell ⟨W.heap.size,0,none⟩ (.int .u64 0)).setCell ⟨W.heap.size+1,0,none⟩ (.int .i64 er)) W.heap.size 27 [.int .u64 0]/\Ob ((W3.setCell ⟨W.heap.size,0,none⟩ (.int .u64 0)).setCell ⟨W.heap.size+1,0,none⟩ (.int .i64 er)) (W.heap.size+1) 28 [.int .i64 er]):=Za (fun er _=>by
   rw [<- hW3] at d0 d1 b1;have o4:Onl (fun i=>i=W.heap.size\/i=W.heap.size+1) W3 ((W3.setCell ⟨W.heap.size,0,none⟩ (.int .u64 0)).setCell ⟨W.heap.size+1,0,none⟩ (.int .i64 er)):=((Onl.refl (fun i=>i=W.heap.size\/i=W.heap.size+1) W3).set (p:=W.heap.size) (.inl (.inl rfl)) _).set (p:=W.heap.size+1) (.inl (.inr rfl)) _
   exact ⟨Below.onl (HB2.out.trans (b1.mono HB2.out.size)) o4 (fun i q=>by omega) (Nat.le_refl _),(d0.set 0 _).set_other (by omega) _,(d1.set_other (by omega) _).set 0 _⟩)
  have y0:=d0.cell 0;have y1:=d1.cell 0;have f0:=d0.frozen 0;have f1:=d1.frozen 0;have e1:=(d1.set_other (i:=0) (show W.heap.size+1≠W.heap.size by omega) (.int .u64 0)).cell 0
  have e2:=(d1.set_other (i:=0) (show W.heap.size+1≠W.heap.size by omega) (.int .u64 0)).frozen 0
  simp only [List.getElem?_cons_zero] at y0 y1 e1
  rw [hW3] at HFIN;clear CK CV q3 q4 hxj b1 d0 d1 hW3 hK hV;gi_wp2_with fail
  refine ⟨trivial,(callsIn_wide.2 (HCK.out _)).mono ?_⟩;rintro e w1 ⟨rfl,rfl⟩;by_cases hK0:K=0
  rotate_left
  ·have dc:(K != 0)=true:=by simpa using hK0
   have HF:=Za (HFIN.out K hK0);have hE1:edE ⟨xk,xv,xg⟩=K:=by unfold edE;rw [if_pos (by rw [<- HKE.out];exact hK0)];exact HKE.out.symm
   have HE:=Za ((HERR.out (by rw [hE1];exact hK0)).trans hE1)
   clear HFIN HERR hE1;gi_wp2
   obtain ⟨z1,z2,z3⟩:=HF.out;exact ⟨_,fin_edit z2 z3 rfl rfl,by rw [HE.out],z1⟩
  subst hK0;gi_wp2_with fail
  refine ⟨trivial,(callsIn_wide.2 (HCV.out _)).mono ?_⟩;rintro e w1 ⟨rfl,rfl⟩;cases xg with
  | true =>
   have HN:=Za (HNX.out (by unfold edE;rw [if_neg (by simp [<- HKE.out]),if_pos rfl]))
   clear HFIN HNX HERR;gi_wp2
   go_roundw
   case rel=>exact ⟨j+1,by omega,by go_num,HBF,HN⟩
   case measure=>simp [intOf];omega
  | false =>
   by_cases hV0:V=0
   ·subst hV0;have HN:=Za (HNX.out (by unfold edE;rw [if_neg (by simp [<- HKE.out]),if_neg (by simp)];exact HVE.out.symm))
    clear HFIN HNX HERR;gi_wp2
    go_roundw
    case rel=>exact ⟨j+1,by omega,by go_num,HBF,HN⟩
    case measure=>simp [intOf];omega
   ·have dc:(V != 0)=true:=by simpa using hV0
    have HF:=Za (HFIN.out V hV0);have hE1:edE ⟨xk,xv,false⟩=V:=by unfold edE;rw [if_neg (by simp [<- HKE.out]),if_neg (by simp)];exact HVE.out.symm
    have HE:=Za ((HERR.out (by rw [hE1];exact hV0)).trans hE1)
    clear HFIN HNX HERR hE1;gi_wp2
    obtain ⟨z1,z2,z3⟩:=HF.out;exact ⟨_,fin_edit z2 z3 rfl rfl,by rw [HE.out],z1⟩
 ·exfalso
  have:=HZR.out;rw [List.take_of_length_le (by have:=HNL.out;omega)] at this
  exact HBAD.out this
end
section
open Go.RowKit Go.Shelf Apo
theorem firstW {α:Type} {f:α->Int}:∀ {l:List α},ZD f l=0->∀ x ∈ l,f x=0
 | [],_,x,hx=>by simp at hx
 | y :: l,h,x,hx=>by
  unfold ZD at h;by_cases q:f y=0
  ·rw [if_neg (by simp [q])] at h
   rcases List.mem_cons.1 hx with rfl | z
   ·exact q
   ·exact firstW h x z
  ·rw [if_pos q] at h;exact absurd h q
def DoP (w W:World) (s:Nat) (O:Nat->Prop) (T:List (List Int)) (m:Nat) (es:List En) (l:List Ed) (e:Ending) (W':World):Prop :=
 ∃ (fs:List En) (id:Nat) (O':Nat->Prop) (T':List (List Int)),ApR es l fs/\ChN l.length es fs/\MapOk fs/\fs.length<=es.length+l.length/\e=.returned (.tuple #[.int .u64 (if fs.length<=400 then (id:Int) else 0),.int .i64 (if fs.length<=400 then 0 else 4)])/\RootOf T' fs id/\Sub T T'/\(TxOk T->TxOk T')/\(T'=treeT T fs/\id=rootT T fs)/\TSw w W' s O' T' m/\(∀ i,O' i->O i\/W.heap.size<=i)/\Onl O W W'
theorem wdo_walk {w W:World} {s m id:Nat} {O:Nat->Prop} {T:List (List Int)} {es:List En} {ea:Option Addr} {ec:Nat} {l:List Ed}
  (HE:Calls Tryz.prog 36 #[.pointer (some ⟨s,0,none⟩),.int .u64 id,.slice ea l.length ec] W fun e W'=>∃ fs,ApR es l fs/\ChN l.length es fs/\MapOk fs/\fs.length<=es.length+l.length/\TRoot w W s O T m fs e W')
  (HK:∀ fs W' O' T',ApR es l fs->T'=treeT T fs->TSw w W' s O' T' m->Sub T T'->(TxOk T->TxOk T')->Onl O W W'->Calls Tryz.prog 37 #[.pointer (some ⟨s,0,none⟩),.int .u64 id,.slice ea l.length ec] W' (KyP es l W')) :
  Calls Tryz.prog 19 #[.pointer (some ⟨s,0,none⟩),.int .u64 id,.slice ea l.length ec] W (DoP w W s O T m es l):=by
 unfold DoP;obtain ⟨nl,hnl⟩:∃ n,n=l.length:=⟨_,rfl⟩;rw [<- hnl] at HE HK ⊢;have HE':=Za HE;have HK':=Za HK;clear HE HK hnl;go_enter Tryz.func19,Tryz.ntmps19
 go_wp2_with fail
 refine HE'.out.mono ?_;rintro e w1 ⟨fs,hap,c1,c2,c3,id',O',T',rfl,r1,r2,r2',r3,r4,r5,r6⟩;have HC:=Za (HK'.out fs w1 O' T' hap r3.1 r4 r2 r2' r6);have HAP:=Za hap;have HR:=Za (And.intro c1 (And.intro c2 (And.intro c3 (And.intro r1 (And.intro r2 (And.intro r2' (And.intro r3 (And.intro r4 (And.intro r5 r6)))))))));clear hap c1 c2 c3 r1 r2 r2' r3 r4 r5 r6 HK' HE';go_wp2_with fail
 refine HC.out.mono ?_;rintro e w2 ⟨gs,hg,rfl,b2⟩;have hgs:gs=fs:=hg.uniq HAP.out;subst hgs;have hsz:gs.length < 1000000\/True:=.inr trivial
 have HF:Hid (ApR es l gs/\ChN nl es gs/\MapOk gs/\gs.length<=es.length+nl/\RootOf T' gs id'/\Sub T T'/\(TxOk T->TxOk T')/\(T'=treeT T gs/\id'=rootT T gs)/\TSw w w2 s O' T' m/\(∀ i,O' i->O i\/W.heap.size<=i)/\Onl O W w2):=by
  obtain ⟨c1,c2,c3,r1,r2,r2',r3,r4,r5,r6⟩:=HR.out;exact Za ⟨HAP.out,c1,c2,c3,r1,r2,r2',r3,r4.below b2,r5,r6.trans (Onl.ofBelow b2)⟩
 clear hg b2 HC HR HAP hsz;by_cases hn:gs.length<=400
 ·have hd:decide ((gs.length:Int) > 400)=false:=decide_eq_false (by omega)
  have hd2:decide ((400:Int) < (gs.length:Int))=false:=decide_eq_false (by omega)
  go_wp2;refine bodyPost_ret (by simp [results,Tryz.results19,go_sem];rfl) rfl ?_
  obtain ⟨f1,f2,f3,f4,f5,f6,f7,f8,f9,f10,f11⟩:=HF.out;exact ⟨gs,id',O',T',f1,f2,f3,f4,by rw [if_pos hn,if_pos hn],f5,f6,f7,f8,f9,f10,f11⟩
 ·have hd:decide ((gs.length:Int) > 400)=true:=decide_eq_true (by omega)
  have hd2:decide ((400:Int) < (gs.length:Int))=true:=decide_eq_true (by omega)
  go_wp2;refine bodyPost_ret (by simp [results,Tryz.results19,go_sem];rfl) rfl ?_
  obtain ⟨f1,f2,f3,f4,f5,f6,f7,f8,f9,f10,f11⟩:=HF.out;exact ⟨gs,id',O',T',f1,f2,f3,f4,by rw [if_neg hn,if_neg hn],f5,f6,f7,f8,f9,f10,f11⟩
theorem wdo_err (W:World) (s root:Nat) (ea:Option Addr) (ec:Nat) (l:List Ed) (hl:RdG cEd 3 W ea l) (hll:l.length<=1000) (hz:∀ x ∈ l,x.k.size<=9223372036854775807/\x.v.size<=9223372036854775807) (hbad:¬ ∀ x ∈ l,edE x=0) :
  Calls Tryz.prog 19 #[.pointer (some ⟨s,0,none⟩),.int .u64 root,.slice ea l.length ec] W fun e W'=>e=.returned (.tuple #[.int .u64 0,.int .i64 (edsE l)])/\Below W.heap.size W W':=by
 have HE:=Za (tedit_err W s root ea ec l hl hll hz hbad);have hne:edsE l≠0:=fun q=>hbad (firstW q)
 have hd:(edsE l != 0)=true:=by simpa using hne
 obtain ⟨E,hE⟩:∃ E,E=edsE l:=⟨_,rfl⟩;obtain ⟨nl,hnl⟩:∃ n,n=l.length:=⟨_,rfl⟩;rw [<- hE] at hd HE hne ⊢;rw [<- hnl] at HE ⊢;clear hl hz hbad hE hnl;go_enter Tryz.func19,Tryz.ntmps19
 go_wp2_with fail
 refine HE.out.mono ?_;rintro e w1 ⟨rfl,b1⟩;have HB:=Za b1;clear b1;go_wp2;refine bodyPost_ret (by simp [results,Tryz.results19,go_sem];rfl) rfl ?_
 exact ⟨rfl,HB.out⟩
theorem wdo_any {w W:World} {s m:Nat} {O:Nat->Prop} {T:List (List Int)} (h:TSw w W s O T m) (hp:pgT T<=4096) (hx:TxOk T) {es:List En} {id:Nat} (hr:RootOf T es id) (hok:MapOk es) (hle:es.length<=100) (ea:Option Addr) (ec:Nat) (l:List Ed) (hl:RdG cEd 3 W ea l) (hlb:∀ x,ea=some x->x.block < W.heap.size/\¬ O x.block) (hll:l.length<=400) (hE:∀ x ∈ l,edE x=0) (hz:∀ x ∈ l,x.k.size<=maxLen/\x.v.size<=maxLen)
  (hroom:∀ fs,ApR es l fs->ChN l.length es fs->MapOk fs->fs.length<=es.length+l.length->(fs.flatMap enB).length<=40000/\pgT (treeT T fs)<=4096) :
  Calls Tryz.prog 19 #[.pointer (some ⟨s,0,none⟩),.int .u64 id,.slice ea l.length ec] W (DoP w W s O T m es l):=by
 refine wdo_walk (tedit_map h hp hx hr hok hle ea ec l hl hll hE hz hroom) (fun fs W' O' T' hap ht t4 hs htx ho=>?_)
 obtain ⟨c1,c2,c3⟩:=hap.chain hok hE;have hpg:=(hroom fs hap c1 c2 c3).2
 have hT':T'.length<=16000:=by
  have:=t4.len;rw [ht] at this ⊢;omega
 obtain ⟨ls,q1,q2,q3,_⟩:=(hr.sub hs).tree hok (by omega) hT'
 have q2':ls.flatMap (fun p=>p.2)=es:=q2
 have C:=wkeys_any t4 hT' (htx hx) id ls q1 q3 (by rw [q2'];omega) ea ec l (hl.onl ho (fun x hx=>(hlb x hx).2)) (fun x hx=>Nat.lt_of_lt_of_le (hlb x hx).1 ho.size) (by omega)
 rwa [q2'] at C
end
end Go.Proofs.YtdhebpnkfookcaaGreat
