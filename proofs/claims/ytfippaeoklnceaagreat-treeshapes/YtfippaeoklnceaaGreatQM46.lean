import Derived.Test.YtfippaeoklnceaaGreatQM33
import Derived.Test.YtfippaeoklnceaaGreatQM45
namespace Go.Proofs.YtfippaeoklnceaaGreat
set_option maxRecDepth 100000
set_option maxHeartbeats 4000000
open Go.RowKit Apo
theorem near_place {A X Y B:List En} (hX:X.length≤1) (hY:Y.length≤1):NearR En.k (A++(X++B)) (A++(Y++B)):=by
 cases B with
 | nil=>exact ⟨A,X,Y,[],by simp,by simp,by omega,by omega,.inl rfl⟩
 | cons b B=>exact ⟨A,X++[b],Y++[b],B,by simp,by simp,by simp; omega,by simp; omega,.inr ⟨b,b,by simp,by simp,rfl⟩⟩
theorem keyE_okT {k:ByteArray} (h:keyE k=0):1≤k.size∧k.size≤40:=by
 unfold keyE at h
 split at h
 ·simp at h
 ·omega
theorem valE_okT {v:ByteArray} (h:valE v=0):v.size≤200:=by
 unfold valE at h
 split at h
 ·simp at h
 ·omega
theorem apr_chain {es:List En} (hok:MapOk es):∀ (n:Nat) (l:List Ed),l.length=n→(∀ x ∈ l,edE x=0)→∃ fs,ApR es l fs∧ChN n es fs∧MapOk fs
 | 0,l,hl,_=>by
  have:l=[]:=List.eq_nil_of_length_eq_zero hl
  subst this
  exact ⟨es,ApR.nil (riseE_iff.2 hok.rise),rfl,hok⟩
 | n+1,l,hl,he=>by
  obtain ⟨l0,x,rfl⟩:∃ l0 x,l=l0++[x]:=by
   cases hq:l.getLast? with
   | none =>
    have:l=[]:=by simpa using hq
    subst this
    simp at hl
   | some x =>
    obtain ⟨l0,h⟩:=List.getLast?_eq_some_iff.1 hq
    exact ⟨l0,x,h⟩
  obtain ⟨c,h1,h2,h3⟩:=apr_chain hok n l0 (by simpa using hl) (fun y hy=>he y (by simp [hy]))
  obtain ⟨A,X,Y,B,q1,q2,q3,q4,q5⟩:=setC_near (x:=x) h1.1
  obtain ⟨k1,k2⟩:=edE_ok (he x (by simp))
  refine ⟨A++(Y++B),h1.snoc q2,⟨c,h2,by rw [q1]; exact near_place q3 q4,by rw [q1]; simp; omega⟩,⟨riseE_iff.1 q2.1,fun e hm=>?_,fun e hm=>?_⟩⟩
  ·simp only [List.mem_append] at hm
   rcases hm with z | z | z
   ·exact h3.key e (by rw [q1]; simp [z])
   ·rw [(q5 e z).1]; exact keyE_okT k1
   ·exact h3.key e (by rw [q1]; simp [z])
  ·simp only [List.mem_append] at hm
   rcases hm with z | z | z
   ·exact h3.val e (by rw [q1]; simp [z])
   ·rcases k2 with y | y
    ·rw [(q5 e z).2] at y; cases y
    ·rw [(q5 e z).1]; exact valE_okT y
   ·exact h3.val e (by rw [q1]; simp [z])
theorem ApR.chain {es fs:List En} {l:List Ed} (hok:MapOk es) (he:∀ x ∈ l,edE x=0) (h:ApR es l fs):ChN l.length es fs∧MapOk fs∧fs.length≤es.length+l.length:=by
 obtain ⟨gs,h1,h2,h3⟩:=apr_chain hok l.length l rfl he
 have:=h.uniq h1
 subst this
 exact ⟨h2,h3,h2.len⟩
theorem IsT.uniq {T:List (List Int)}:∀ {l id:Nat} {n n':Nd} {ls ls':List (Nat × List En)} {l':Nat},IsT T l id n ls→IsT T l' id n' ls'→l=l'∧n=n'∧ls=ls'
 | l,id,n,n',ls,ls',l',h,h'=>by
  have a1:=h.nod
  have a2:=h'.nod
  have hn:n=n':=by
   have:=a1.1.ld.symm.trans a2.1.ld
   exact (Prod.mk.inj this).1
  subst hn
  have hl:l=l':=by have:=a1.2; have:=a2.2; omega
  subst hl
  refine ⟨rfl,rfl,?_⟩
  match l,h,h' with
  | 0,h,h'=>rw [h.2.2,h'.2.2]
  | l+1,h,h' =>
   obtain ⟨_,_,_,ns,lss,p1,p2,p3,p4⟩:=h
   obtain ⟨_,_,_,ms,mss,q1,q2,q3,q4⟩:=h'
   have e:lss=mss:=by
    refine List.ext_getElem? (fun i=>?_)
    by_cases hi:i < n.ks.length
    ·have x1:=List.getElem?_eq_getElem (l:=lss) (i:=i) (by omega)
     have x2:=List.getElem?_eq_getElem (l:=mss) (i:=i) (by omega)
     obtain ⟨_,b1⟩:=p3 i _ _ _ (List.getElem?_eq_getElem hi) (List.getElem?_eq_getElem (by omega)) x1
     obtain ⟨_,b2⟩:=q3 i _ _ _ (List.getElem?_eq_getElem hi) (List.getElem?_eq_getElem (by omega)) x2
     rw [x1,x2,(IsT.uniq b1 b2).2.2]
    ·rw [List.getElem?_eq_none (by omega),List.getElem?_eq_none (by omega)]
   rw [p4,q4,e]
theorem RootOf.inj {T:List (List Int)} {es fs:List En} {id:Nat} (hT:T.length≤16000) (h1:MapOk es) (h2:MapOk fs) (l1:es.length≤160) (l2:fs.length≤160) (h:RootOf T es id) (k:RootOf T fs id):es=fs:=by
 obtain ⟨ls,a1,a2,_,a4⟩:=h.tree h1 l1 hT
 obtain ⟨ms,b1,b2,_,b4⟩:=k.tree h2 l2 hT
 by_cases hz:id=0
 ·rw [a4.1 hz,b4.1 hz]
 ·rcases a1 with ⟨q,_⟩ | ⟨l,n,q⟩
  ·exact absurd q hz
  ·rcases b1 with ⟨q2,_⟩ | ⟨l',n',q2⟩
   ·exact absurd q2 hz
   ·rw [← a2,← b2,(IsT.uniq q q2).2.2]
theorem split_entT {ls:List (Nat × List En)} {es:List En} (h:ls.map Prod.snd=splitN (fun e:En=>endsN 0 e.k) es):ls.flatMap (fun p=>p.2)=es:=by
 have h1:ls.flatMap (fun p=>p.2)=(ls.map Prod.snd).flatten:=by rw [List.flatMap_def]
 rw [h1,h]
 exact split_flat
theorem rows_lenT {rows:List (List En)} (h:∀ r ∈ rows,0 < r.length):rows.length≤rows.flatten.length:=by
 induction rows with
 | nil=>simp
 | cons r rows ih =>
  have:=h r (by simp)
  have:=ih (fun q hq=>h q (by simp [hq]))
  simp only [List.length_cons,List.flatten_cons,List.length_append]
  omega
theorem tedit_map {w W:World} {s m:Nat} {O:Nat→Prop} {T:List (List Int)} (h:TSw w W s O T m) (hp:pgT T≤4096) (hx:TxOk T) {es:List En} {id:Nat} (hr:RootOf T es id) (hok:MapOk es) (hle:es.length≤100) (ea:Option Addr) (ec:Nat) (l:List Ed) (hl:RdG cEd 3 W ea l) (hll:l.length≤400) (hE:∀ x ∈ l,edE x=0) (hz:∀ x ∈ l,x.k.size≤maxLen∧x.v.size≤maxLen)
  (hroom:∀ fs,ApR es l fs→ChN l.length es fs→MapOk fs→fs.length≤es.length+l.length→(fs.flatMap enB).length≤40000∧pgT (treeT T fs)≤4096) :
  Calls Tryz.prog 11 #[.pointer (some ⟨s,0,none⟩),.int .u64 id,.slice ea l.length ec] W fun e W'=>∃ fs,ApR es l fs∧ChN l.length es fs∧MapOk fs∧fs.length≤es.length+l.length∧TRoot w W s O T m fs e W':=by
 have hT:T.length≤4095:=by have:=h.len; omega
 have hml:maxLen≤9223372036854775807:=by decide
 obtain ⟨ls,q1,q2,q3⟩:=hr.tree2 hok hle (by omega)
 have q4:ls.flatMap (fun p=>p.2)=es:=split_entT q2
 have q5:∀ p ∈ ls,0 < p.2.length:=by
  rcases q1 with ⟨_,rfl⟩ | ⟨l,nn,q1⟩
  ·intro p hp; simp at hp
  ·exact q1.leaves
 have q6:ls.length≤1000:=by
  have h3:=rows_lenT (rows:=ls.map Prod.snd) (fun r hr=>by obtain ⟨p,q,rfl⟩:=List.mem_map.1 hr; exact q5 p q)
  rw [q2] at h3
  rw [split_flat,← q2,List.length_map] at h3
  omega
 have C:=tedit_any h (by omega) hx id ls q1 q5 (by rw [q4]; omega) q6 q3 (by rw [q4]; exact hok.rise) ea ec l hl (by omega) (fun y hy=>by have h1:=edE_ok (hE y hy); have h2:=hz y hy; exact ⟨h1.1,h1.2,by omega,by omega⟩) (fun fs hf=>by
  rw [q4] at hf
  obtain ⟨c1,c2,c3⟩:=hf.chain hok hE
  obtain ⟨r1,r2⟩:=hroom fs hf c1 c2 c3
  exact ⟨by omega,c2,r1,r2⟩)
 rw [q4] at C
 refine C.mono ?_
 rintro e W' ⟨fs,hf,ht⟩
 obtain ⟨c1,c2,c3⟩:=hf.chain hok hE
 exact ⟨fs,hf,c1,c2,c3,ht⟩
def edsE (l:List Ed):Int:=firstE edE l
theorem edits_any (W:World) (a:Option Addr) (c:Nat) (l:List Ed) (hr:RdG cEd 3 W a l) (hl:l.length≤1000000) (hz:∀ x ∈ l,x.k.size≤maxLen∧x.v.size≤maxLen) :
  Calls Tryz.prog 8 #[.slice a l.length c] W fun e w'=>e=.returned (.int .i64 (edsE l))∧Below W.heap.size W w':=by
 have hml:maxLen≤9223372036854775807:=by decide
 obtain ⟨n,hn⟩:∃ n,n=l.length:=⟨_,rfl⟩
 have HN:=hide hn
 have HR:=hide hr
 have HZ:=hide hz
 rw [← hn] at hl ⊢
 clear hr hz hn
 go_enter Tryz.func8,Tryz.ntmps8
 go_wp2
 go_loopw [9] (fun i wr=>∃ j:Nat,j≤n∧i=.int .i64 j∧Hid (∀ y ∈ l.take j,edE y=0)∧Hid (Below W.heap.size W wr)) (fun i _=>n - (intOf i).toNat)
 case atStart=>exact ⟨0,Nat.zero_le _,rfl,hide (fun y hy=>by simp at hy),hide (Below.refl _ _)⟩
 case round =>
  obtain ⟨j,hj,rfl,HE,HB⟩:=hrel
  by_cases hjn:j < n
  ·obtain ⟨⟨xk,xv,xg⟩,hx⟩:∃ x,l[j]?=some x:=⟨l[j]'(by have:=HN.out; omega),List.getElem?_eq_getElem _⟩
   obtain ⟨g,o,rfl,c0,c1,c2⟩:=(HR.out.below HB.out).ed hx
   have hz:=HZ.out _ (List.mem_of_getElem? hx)
   simp only at c0 c1 c2 hz
   have HBF:Hid (Below W.heap.size W (wr.alloc (.cells #[.string xk,.string xv,.bool xg] 44))):=hide (HB.out.alloc HB.out.size _)
   have HK:=hide (fun W=>rkey_any xk W (by omega))
   have HV:=hide (fun W=>rval_any xv W (by omega))
   have HX:=hide hx
   have HST:Hid (edE ⟨xk,xv,xg⟩=0→∀ y ∈ l.take (j+1),edE y=0):=hide (fun q y hy=>by
    rw [List.take_add_one,HX.out] at hy
    rcases List.mem_append.1 hy with z | z
    ·exact HE.out y z
    ·simp at z; rw [z]; exact q)
   have HBAD:Hid (edE ⟨xk,xv,xg⟩≠0→edsE l=edE ⟨xk,xv,xg⟩):=hide (fun q=>firstE_at HX.out HE.out q)
   clear HE hx hz
   by_cases h1:keyE xk=0
   ·have CK:=HK.out
    rw [h1] at CK
    have HK2:=hide CK
    clear CK
    go_wp2_with fail
    refine (HK2.out _).mono ?_
    rintro e w1 ⟨rfl,rfl⟩
    go_wp2_with fail
    refine (HV.out _).mono ?_
    rintro e w1 ⟨rfl,rfl⟩
    cases xg with
    | true =>
     have HE2:Hid (∀ y ∈ l.take (j+1),edE y=0):=hide (HST.out (by unfold edE; simp [h1]))
     clear h1
     go_wp2
     go_roundw
     case rel=>exact ⟨j+1,by omega,by go_num,HE2,HBF⟩
     case measure=>simp [intOf]; omega
    | false =>
     by_cases h2:valE xv=0
     ·have HE2:Hid (∀ y ∈ l.take (j+1),edE y=0):=hide (HST.out (by unfold edE; simp [h1,h2]))
      rw [h2]
      clear h1 h2
      go_wp2
      go_roundw
      case rel=>exact ⟨j+1,by omega,by go_num,HE2,HBF⟩
      case measure=>simp [intOf]; omega
     ·have HE2:Hid (edsE l=valE xv):=hide (by
       have he:edE ⟨xk,xv,false⟩=valE xv:=by unfold edE; simp [h1]
       rw [HBAD.out (by rw [he]; exact h2),he])
      have hd:(valE xv != 0)=true:=by simpa using h2
      generalize valE xv=V at *
      clear h1 h2
      go_wp2
      go_ret
      exact ⟨by rw [HE2.out]; rfl,HBF.out⟩
   ·have HE2:Hid (edsE l=keyE xk):=hide (by
     have he:edE ⟨xk,xv,xg⟩=keyE xk:=by unfold edE; rw [if_pos h1]
     rw [HBAD.out (by rw [he]; exact h1),he])
    have hd:(keyE xk != 0)=true:=by simpa using h1
    generalize keyE xk=V at *
    clear h1
    go_wp2_with fail
    refine (HK.out _).mono ?_
    rintro e w1 ⟨rfl,rfl⟩
    go_wp2
    go_ret
    exact ⟨by rw [HE2.out]; rfl,HBF.out⟩
  ·have HE2:Hid (edsE l=0):=hide (firstE_none (fun y hy=>HE.out y (by rw [List.take_of_length_le (by have:=HN.out; omega)]; exact hy)))
   go_wp2
   go_ret
   exact ⟨by rw [HE2.out]; rfl,HB.out⟩
end Go.Proofs.YtfippaeoklnceaaGreat
