import Derived.Test.YtdhebpnkfookcaaGreatRM37
set_option maxRecDepth 100000
set_option maxHeartbeats 8000000
namespace Go.Proofs.YtdhebpnkfookcaaGreat
open Go.RowKit Apo
def GtP (es:List En) (key:ByteArray) (W:World) (e:Ending) (W':World):Prop:=∃ (v:ByteArray) (b:Bool),e=.returned (.tuple #[.string v,.bool b,.int .i64 0])/\Gets es key v b/\Below W.heap.size W W'
noncomputable def hgt (T:List (List Int)) (id:Nat):Nat:=if id=0 then 0 else (loadT T id).1.lv.toNat+1
def GtS (T:List (List Int)) (key:ByteArray) (es:List En) (id:Nat):Prop:=(id=0/\∀ e ∈ es,e.k≠key)\/∃ l n ls,IsT T l id n ls/\Zz (ent ls)/\∀ v b,Gets (ent ls) key v b->Gets es key v b
theorem hgt_is {T:List (List Int)} {l id:Nat} {n:Nd} {ls:List (Nat × List En)} (h:IsT T l id n ls):hgt T id=l+1/\l<=100:=by
 have hn:=h.nod;refine ⟨?_,?_⟩
 ·unfold hgt;rw [if_neg (by have:=hn.1.pos;omega),hn.1.ld];simp only;rw [hn.2];simp
 ·cases l with
  | zero=>omega
  | succ l=>have:=h.2.2.1;omega
theorem GtS.hgt {T:List (List Int)} {key:ByteArray} {es:List En} {id:Nat} (h:GtS T key es id):hgt T id<=101:=by
 rcases h with ⟨rfl,_⟩ | ⟨l,n,ls,h,_⟩
 ·simp [Go.Proofs.YtdhebpnkfookcaaGreat.hgt]
 ·have:=hgt_is h;omega
theorem tgettree_any {w W:World} {s m:Nat} {O:Nat->Prop} {T:List (List Int)} (h:TSw w W s O T m) (hT:T.length<=16000) (hx:TxOk T) (root:Nat) (ls:List (Nat × List En)) (ht:RootT T root ls) (hr:Zz (ent ls)) (key:ByteArray) :
  Calls Tryz.prog 25 #[.pointer (some ⟨s,0,none⟩),.int .u64 root,.string key] W (GtP (ent ls) key W):=by
 have S0:GtS T key (ent ls) root:=by
  rcases ht with ⟨rfl,rfl⟩ | ⟨l,n,ht⟩
  ·exact .inl ⟨rfl,fun e he=>by simp [ent] at he⟩
  ·exact .inr ⟨l,n,ls,ht,hr,fun v b q=>q⟩
 have b0:Below W.heap.size W (W.alloc (.map #[] 0)):=(Below.refl _ W).alloc (Nat.le_refl _) _;have m0:=Mp.made W Tryz.prog 27;have HH:=Za h;have HS0:=Za S0;obtain ⟨es,hes⟩:∃ es,es=ent ls:=⟨_,rfl⟩;rw [<- hes] at HS0 ⊢;clear h ht hr S0 hes;have hmm:=@run_makeMap Tryz.prog;go_enter Tryz.func25,Tryz.ntmps25
 go_wp2;obtain ⟨W0,hW0⟩:∃ W0,W0=W.alloc (.map #[] 0):=⟨_,rfl⟩;rw [<- hW0] at m0 b0 ⊢;have HM0:=Za m0;have HB0:=Za b0;clear hW0 m0 b0;go_loopw [11] (fun u wr=>∃ (id:Nat) (M:Nat->Option Value) (L:List Nat),u=.int .u64 id/\Hid (GtS T key es id)/\Hid (Mp Tryz.prog 27 wr W.heap.size M)/\Hid ((∀ i v,M i=some v->v=.agg #[])/\(∀ i,M i≠none->i ∈ L)/\L.length+hgt T id<=200/\∀ i,M i≠none->hgt T id < hgt T i)/\Hid (Below W.heap.size W wr)) (fun u _=>hgt T (intOf u).toNat)
 case atStart =>
  refine ⟨root,fun _=>none,[],rfl,HS0,HM0,Za ⟨fun i v q=>(by cases q),fun i q=>absurd rfl q,?_,fun i q=>absurd rfl q⟩,HB0⟩;have:=HS0.out.hgt;simp only [List.length_nil];omega
 case round =>
  obtain ⟨id,M,L,rfl,HS,HM,HL,HB⟩:=hrel;rcases HS.out with ⟨hz,hno⟩ | ⟨l,n,ls',ht,hr,hback⟩
  ·subst hz;have HF:Hid (GtP es key W (.returned (.tuple #[.string ⟨#[]⟩,.bool false,.int .i64 0])) wr):=Za ⟨_,false,rfl,.inr ⟨rfl,rfl,hno⟩,HB.out⟩;clear hno HS HM HL;go_wp2;refine bodyPost_ret (by simp [results,Tryz.results25,go_sem];rfl) rfl ?_;exact HF.out
  ·have hnod:=ht.nod;have hhg:=hgt_is ht;have hne:((id:Int) != 0)=true:=by have:=hnod.1.pos;simp;omega
   have hMi:(M id).isSome=false:=by
    cases q:M id with
    | none=>rfl
    | some v=>exact absurd (HL.out.2.2.2 id (by rw [q];simp)) (Nat.lt_irrefl _)
   have CA:=add_any HM.out HL.out.1 HL.out.2.1 (by have:=HL.out.2.2.1;omega) id hnod.1.lt;unfold AdP at CA;rw [hMi] at CA;simp only [Bool.not_false] at CA;have HCA:=Za CA;have HT:=Za ht;have HRR:=Za hr;have HBK:=Za hback;have HNOD:=Za hnod;have HHG:=Za hhg;clear CA hMi ht hr hback HS hnod hhg;go_wp2_with fail
   refine HCA.out.mono ?_;rintro e w2 ⟨rfl,m2,o2⟩;have b2:Below W.heap.size W w2:=Below.onl HB.out o2 (fun i q=>by omega) (Nat.le_refl _);have CL:=tload_any (HH.out.below b2) hT hx id HNOD.out.1.lt;rw [HNOD.out.1.ld] at CL;simp only [ldV] at CL;have HM2:=Za m2;have HB2:=Za b2;have HCL:=Za CL;clear m2 o2 b2 CL HCA HM;go_wp2_with fail
   refine HCL.out.mono ?_;rintro e w3 ⟨x',hx'n,ok',nw',rfl,b3⟩;have s3:=b3.size;obtain ⟨w4,hw4⟩:∃ w4,w4=w3.alloc (.cells x'.cells.toArray 90):=⟨_,rfl⟩;have b4:Below w3.heap.size w3 w4:=by rw [hw4];exact (Below.refl _ w3).alloc (Nat.le_refl _) _
   have kx4:Ob w4 w3.heap.size 90 x'.cells:=by rw [hw4];exact Ob.new w3 x'.cells 90
   have b24:Below w2.heap.size w2 w4:=b3.trans (b4.mono (by omega));have bW4:=HB2.out.trans (b24.mono HB2.out.size);have m4:=HM2.out.below b24;have x0:=kx4.cell 0;have x1:=kx4.cell 1;have x2:=kx4.cell 2;have ok4:=ok'.below b4;have hkeys:=node_rise (n:=x'.n) (by rw [hx'n];exact HNOD.out.1.ok);have hlv:x'.n.lv=(l:Int):=by rw [hx'n];exact HNOD.out.2
   have hes:x'.n.es.length<=1000000:=by rw [hx'n];exact HNOD.out.1.es
   have hks:x'.n.ks.length<=1000000:=by rw [hx'n];exact HNOD.out.1.ks
   have HXN:=Za hx'n;obtain ⟨⟨lv',es',ks'⟩,ea',ec',ka',kc'⟩:=x';simp only [NdA.cells,List.getElem?_cons_zero,List.getElem?_cons_succ] at x0 x1 x2 hw4 hlv hes hks hkeys ⊢;subst hlv;have HXN:Hid ((⟨(l:Int),es',ks'⟩:Nd)=n):=Za HXN.out;have re4:=ok4.es;have rk4:=ok4.ks;simp only at re4 rk4;obtain ⟨ne',hne'⟩:∃ ne',ne'=es'.length:=⟨_,rfl⟩;obtain ⟨nk',hnk'⟩:∃ nk',nk'=ks'.length:=⟨_,rfl⟩;rw [<- hne'] at x1 hw4 ⊢;rw [<- hnk'] at x2 hw4 ⊢;have hw4':w4=w3.alloc (.cells #[.int .i64 (l:Int),.slice ea' ne' ec',.slice ka' nk' kc'] 90):=hw4;clear hw4;have HM4:=Za m4;have HBW4:=Za bW4;cases l with
   | zero =>
    have hks0:ks'=[]:=(node_leaf (n:=⟨((0:Nat):Int),es',ks'⟩) (by rw [HXN.out];exact HNOD.out.1.ok) rfl).2
    have hre:Rise (es'.map En.k):=by
     have:(⟨((0:Nat):Int),es',ks'⟩:Nd).keys=es'.map En.k:=by rw [hks0];simp [Nd.keys]
     rw [this] at hkeys;exact hkeys
    have CV:=value_any w4 ea' ec' es' key re4 hre hes;rw [<- hne'] at CV
    have HENT:Hid (ent ls'=es'):=Za (by
     have h3:=HT.out.2.2;rw [h3,<- HXN.out];simp [ent])
    have HCV:=Za CV;clear CV kx4 b3 b4 b24 bW4 m4 ok' ok4 nw' hx'n re4 rk4 hne' hnk' hes hks hkeys hre hks0 HXN;rw [hw4'] at x0 x1 x2;obtain ⟨LV,hLV⟩:∃ LV:Int,LV=((0:Nat):Int):=⟨_,rfl⟩;have hlz:(LV == 0)=true:=by rw [hLV];rfl
    rw [<- hLV] at x0 hw4' ⊢;rw [<- hLV] at x1 x2;clear hLV;go_wp2_with fail
    rw [<- hw4'];clear hw4';refine HCV.out.mono ?_;rintro e w5 ⟨v,bb,rfl,hg,b5⟩;have HF:Hid (GtP es key W (.returned (.tuple #[.string v,.bool bb,.int .i64 0])) w5):=Za ⟨v,bb,rfl,HBK.out v bb (by rw [HENT.out];exact hg),HBW4.out.trans (b5.mono HBW4.out.size)⟩;clear hg b5 x0 x1 x2;go_wp2;refine bodyPost_ret (by simp [results,Tryz.results25,go_sem];rfl) rfl ?_;exact HF.out
   | succ l =>
    have hes0:es'=[]:=(node_inner (n:=⟨((l+1:Nat):Int),es',ks'⟩) (by rw [HXN.out];exact HNOD.out.1.ok) (by simp only;omega)).2
    have hrk:Rise (ks'.map Ki.k):=by
     have:(⟨((l+1:Nat):Int),es',ks'⟩:Nd).keys=ks'.map Ki.k:=by rw [hes0];simp [Nd.keys]
     rw [this] at hkeys;exact hkeys
    have CV:=child_any w4 ka' kc' ks' key rk4 hrk hks;rw [<- hnk'] at CV;have hlz:(((l+1:Nat):Int) == 0)=false:=by simp;omega
    have hnks:n.ks=ks':=by rw [<- HXN.out]
    have HCV:=Za CV;have HKS:=Za hnks;clear CV kx4 b3 b4 b24 bW4 m4 ok' ok4 nw' hx'n re4 rk4 hne' hnk' hes hks hkeys hrk hes0 HXN hnks;rw [hw4'] at x0 x1 x2;obtain ⟨LV,hLV⟩:∃ LV:Int,LV=((l+1:Nat):Int):=⟨_,rfl⟩;rw [<- hLV] at x0 hw4' hlz ⊢;rw [<- hLV] at x1 x2;clear hLV;go_wp2_with fail
    rw [<- hw4'];clear hw4';refine HCV.out.mono ?_;rintro e w5 ⟨c,rfl,hc,b5⟩;rw [<- HKS.out] at hc
    have HF:Hid (GtS T key es c/\hgt T c < hgt T id):=by
     have h1:=HHG.out.1;rcases HT.out.step HRR.out hc with ⟨hc0,hno⟩ | ⟨n2,ls2,t2,r2,g2⟩
     ·refine Za ⟨.inl ⟨hc0,fun e he q=>?_⟩,?_⟩
      ·have:=HBK.out ⟨#[]⟩ false (.inr ⟨rfl,rfl,hno⟩);rcases this with ⟨z,_⟩ | ⟨_,_,z⟩
       ·cases z
       ·exact z e he q
      ·rw [hc0,h1];simp [hgt]
     ·refine Za ⟨.inr ⟨l,n2,ls2,t2,r2,fun v b q=>HBK.out v b (g2 v b q)⟩,?_⟩;have:=(hgt_is t2).1;omega
    have HL5:Hid ((∀ i v,upd M id (some (.agg #[])) i=some v->v=.agg #[])/\(∀ i,upd M id (some (.agg #[])) i≠none->i ∈ id :: L)/\(id :: L).length+hgt T c<=200/\∀ i,upd M id (some (.agg #[])) i≠none->hgt T c < hgt T i):=by
     obtain ⟨a1,a2,a3,a4⟩:=HL.out;have hlt:=HF.out.2;refine Za ⟨fun i v q=>?_,fun i q=>?_,?_,fun i q=>?_⟩
     ·by_cases z:i=id
      ·subst z;rw [Z5] at q;cases q;rfl
      ·rw [ZD _ _ z] at q;exact a1 i v q
     ·by_cases z:i=id
      ·subst z;simp
      ·rw [ZD _ _ z] at q;exact List.mem_cons_of_mem _ (a2 i q)
     ·simp only [List.length_cons];omega
     ·by_cases z:i=id
      ·subst z;exact hlt
      ·rw [ZD _ _ z] at q;have:=a4 i q;omega
    have HM5:=Za (HM4.out.below b5);have HB5:=Za (HBW4.out.trans (b5.mono HBW4.out.size));clear hc b5 x0 x1 x2 HL HB;go_wp2;go_roundw
    case rel=>exact ⟨c,_,_,rfl,Za HF.out.1,HM5,HL5,HB5⟩
    case measure=>simpa [intOf] using HF.out.2
theorem cut_map {α β:Type} (f:α->β) (p:β->Bool) (l:List α):∀ k,ZU p (l.map f) k=((ZU (fun x=>p (f x)) l k).1.map (List.map f),(ZU (fun x=>p (f x)) l k).2.map f)
 | 0=>rfl
 | k+1=>by
  cases h:l[k]? with
  | none =>
   have h2:(l.map f)[k]?=none:=by rw [List.getElem?_map,h];rfl
   unfold ZU;rw [h,h2];exact cut_map f p l k
  | some x =>
   have h2:(l.map f)[k]?=some (f x):=by rw [List.getElem?_map,h];rfl
   rw [cutK_step h,cutK_step h2,cut_map f p l k];by_cases q:p (f x)=true
   ·rw [if_pos q,if_pos q];simp
   ·rw [if_neg q,if_neg q];simp
theorem split_map {α β:Type} (f:α->β) (p:β->Bool) (l:List α):Zj p (l.map f)=(Zj (fun x=>p (f x)) l).map (List.map f):=by
 rw [cut_split,cut_split,List.length_map,cut_map];simp only [List.length_map];split <;> simp
theorem GoodN.nod {T:List (List Int)} {n:Nd} {id:Nat} (g:GoodN n) (h1:1<=id) (h2:T[id - 1]?=some (ndB n)) (hT:T.length<=16000) (hz:∀ k ∈ n.ks,k.i < 18446744073709551616):TNod T id n:=by
 have hs:=g.small;have hl:=(List.getElem?_eq_some_iff.1 h2).1;have hlen:=g.len;obtain ⟨g1,g2,_⟩:=nodeE_ok g.ok;have f1:=flat_ge (f:=enB) (c:=3) (l:=n.es) (fun e he=>enB_ge (g1 e he).1.1);have f2:=flat_ge (f:=kiB) (c:=3) (l:=n.ks) (fun e he=>kiB_ge (g2 e he).1.1)
 have hcnt:n.es.length+n.ks.length<=16384:=by
  unfold ndB at hlen;simp only [List.length_append] at hlen;omega
 refine ⟨h1,by omega,?_,hs.1,hs.2,g.ok⟩;have hg:getT T id=(ndB n,0):=by unfold getT;rw [if_neg (by omega),h2]
 unfold loadT;rw [hg,if_neg (by simp)];exact nodeOf_ndB g.ok hz (by omega) hcnt
theorem Can.trees {T:List (List Int)} {es:List En} (hok:MapOk es) (hel:es.length<=600) (hbl:(es.flatMap enB).length<=40000) (hT:T.length<=16000):∀ {l:Nat} {ks:List Ki},l<=20->Can T es l ks->∃ L:List (Nd × List (Nat × List En)),L.length=ks.length/\(∀ (i:Nat) (k:Ki) (x:Nd × List (Nat × List En)),ks[i]?=some k->L[i]?=some x->k.k=ZC x.1/\IsT T l k.i x.1 x.2)/\(L.map (fun x=>ent x.2)).flatten=es
 | 0,ks,_,h=>by
  obtain ⟨g1,_⟩:=hok.leaves (by omega) hbl;obtain ⟨rows,hrows⟩:∃ rows,rows=Zj (fun e:En=>Zo 0 e.k) es:=⟨_,rfl⟩;have h':Kids T (lvns rows) ks:=by rw [hrows];exact h
  rw [<- hrows] at g1;have hlen:ks.length=rows.length:=by have:=h'.1;simpa [lvns] using this
  refine ⟨(ks.zip rows).map (fun x=>(⟨0,x.2,[]⟩,[(x.1.i,x.2)])),by simp;omega,fun i k x hk hx=>?_,?_⟩
  ·rw [List.getElem?_map] at hx;cases hz:(ks.zip rows)[i]? with
   | none=>rw [hz] at hx;cases hx
   | some y =>
    rw [hz] at hx;simp only [Option.map_some,Option.some.injEq] at hx;rw [List.getElem?_zip_eq_some] at hz;obtain ⟨z1,z2⟩:=hz;rw [hk] at z1;have hy1:y.1=k:=by cases z1;rfl
    have hn:(lvns rows)[i]?=some ⟨0,y.2,[]⟩:=by simp [lvns,z2]
    obtain ⟨c1,c2,c3⟩:=h'.2 i _ k hn hk;subst hx;rw [hy1];have gn:=g1 _ (List.mem_of_getElem? hn);exact ⟨c1,gn.nod c3 c2 hT (fun k hk=>by simp at hk),rfl,rfl⟩
  ·have:((ks.zip rows).map (fun x=>((⟨0,x.2,[]⟩:Nd),[(x.1.i,x.2)]))).map (fun x=>ent x.2)=rows:=by
    rw [List.map_map];have h2:((fun x:Nd × List (Nat × List En)=>ent x.2) ∘ fun x:Ki × List En=>((⟨0,x.2,[]⟩:Nd),[(x.1.i,x.2)]))=Prod.snd:=by funext x;simp [ent]
    rw [h2,List.map_snd_zip (by omega)]
   rw [this,hrows];exact Z3
 | l+1,ks,hl,⟨ks0,h1,h2,h3⟩=>by
  obtain ⟨L0,p1,p2,p3⟩:=Can.trees hok hel hbl hT (by omega) h1;obtain ⟨g1,_⟩:=h1.up hok (by omega) (by omega) (show l < 20 by omega);obtain ⟨lv,hlv⟩:∃ lv:Int,lv=((l+1:Nat):Int):=⟨_,rfl⟩;rw [<- hlv] at h3 g1;obtain ⟨R,hR⟩:∃ R,R=Zj (fun x:Ki × (Nd × List (Nat × List En))=>Zo lv x.1.k) (ks0.zip L0):=⟨_,rfl⟩;have hfst:(ks0.zip L0).map Prod.fst=ks0:=List.map_fst_zip (by omega)
  have hrows:Zj (fun e:Ki=>Zo lv e.k) ks0=R.map (List.map Prod.fst):=by
   rw [hR,<- split_map (f:=Prod.fst) (p:=fun e:Ki=>Zo lv e.k),hfst]
  have hRf:R.flatten=ks0.zip L0:=by rw [hR];exact Z3
  rw [hrows] at h3 g1;have hlen:ks.length=R.length:=by have:=h3.1;simpa [abns] using this
  refine ⟨R.map (fun r=>(⟨lv,[],r.map Prod.fst⟩,(r.map (fun y=>y.2.2)).flatten)),by simp;omega,fun i k x hk hx=>?_,?_⟩
  ·rw [List.getElem?_map] at hx;cases hz:R[i]? with
   | none=>rw [hz] at hx;cases hx
   | some r =>
    rw [hz] at hx;simp only [Option.map_some,Option.some.injEq] at hx;have hn:(abns lv (R.map (List.map Prod.fst)))[i]?=some ⟨lv,[],r.map Prod.fst⟩:=by simp [abns,hz]
    obtain ⟨c1,c2,c3⟩:=h3.2 i _ k hn hk;have gn:=g1 _ (List.mem_of_getElem? hn);subst hx;have hmem:∀ y ∈ r,y ∈ ks0.zip L0:=fun y hy=>by rw [<- hRf];exact List.mem_flatten.2 ⟨r,List.mem_of_getElem? hz,hy⟩
    have hpair:∀ y ∈ r,y.1.k=ZC y.2.1/\IsT T l y.1.i y.2.1 y.2.2:=fun y hy=>by
     obtain ⟨t,ht,q⟩:=List.mem_iff_getElem.1 (hmem y hy);have hq:(ks0.zip L0)[t]?=some y:=by rw [List.getElem?_eq_getElem ht,q]
     rw [List.getElem?_zip_eq_some] at hq;exact p2 t y.1 y.2 hq.1 hq.2
    refine ⟨c1,gn.nod c3 c2 hT (fun k hk'=>?_),hlv,by omega,r.map (fun y=>y.2.1),r.map (fun y=>y.2.2),by simp,by simp,fun j k' n' x' hk' hn' hx'=>?_,rfl⟩
    ·simp only [List.mem_map] at hk';obtain ⟨y,hy,rfl⟩:=hk';exact (hpair y hy).2.nod.1.lt
    ·rw [List.getElem?_map] at hk' hn' hx';cases hy:r[j]? with
     | none=>rw [hy] at hk';cases hk'
     | some y =>
      rw [hy] at hk' hn' hx';simp only [Option.map_some,Option.some.injEq] at hk' hn' hx';subst hk' hn' hx';exact hpair y (List.mem_of_getElem? hy)
  ·have hsnd:(ks0.zip L0).map Prod.snd=L0:=List.map_snd_zip (by omega)
   have h5:(R.map (fun r=>((⟨lv,[],r.map Prod.fst⟩:Nd),(r.map (fun y=>y.2.2)).flatten))).map (fun x=>ent x.2)=R.map (fun r=>(r.map (fun y=>ent y.2.2)).flatten):=by
    rw [List.map_map];refine List.map_congr_left (fun r _=>?_);simp only [Function.comp_apply];rw [ent_flat,List.map_map];rfl
   rw [h5,<- p3,<- hsnd,<- hRf,List.map_map]
   have:∀ R:List (List (Ki × (Nd × List (Nat × List En)))),(R.map (fun r=>(r.map (fun y=>ent y.2.2)).flatten)).flatten=(R.flatten.map ((fun x=>ent x.2) ∘ Prod.snd)).flatten:=by
    intro R;induction R with
    | nil=>rfl
    | cons r R ih =>
     simp only [List.map_cons,List.flatten_cons,List.map_append,List.flatten_append,ih];rfl
   exact this R
theorem IsT.leaves {T:List (List Int)}:∀ {l id:Nat} {n:Nd} {ls:List (Nat × List En)},IsT T l id n ls->∀ p ∈ ls,0 < p.2.length
 | 0,id,n,ls,h=>by
  obtain ⟨h1,h2,h3⟩:=h;subst h3;intro p hp;simp only [List.mem_singleton] at hp;subst hp;exact List.length_pos_iff.2 (node_leaf h1.ok h2).1
 | l+1,id,n,ls,h=>by
  obtain ⟨h1,h2,h3,ns,lss,h4,h5,h6,h7⟩:=h;subst h7;intro p hp;obtain ⟨x,hx,hpx⟩:=List.mem_flatten.1 hp;obtain ⟨t,ht,q⟩:=List.mem_iff_getElem.1 hx;exact IsT.leaves (h6 t (n.ks[t]'(by omega)) (ns[t]'(by omega)) x (List.getElem?_eq_getElem _) (List.getElem?_eq_getElem _) (by rw [List.getElem?_eq_getElem ht,q])).2 p hpx
theorem RootOf.treeB {T:List (List Int)} {es:List En} {id:Nat} (hok:MapOk es) (hel:es.length<=600) (hbl:(es.flatMap enB).length<=40000) (hT:T.length<=16000) (h:RootOf T es id):∃ ls,RootT T id ls/\ent ls=es/\(∀ p ∈ ls,0 < p.2.length)/\(id=0↔es=[]):=by
 obtain ⟨l,ks,h1,h2,h3,h4⟩:=h;obtain ⟨L,p1,p2,p3⟩:=h1.trees hok hel hbl hT h2;match ks,L,p1 with
 | [],[],_ =>
  have hes:es=[]:=by rw [<- p3];rfl
  exact ⟨[],.inl ⟨h4,rfl⟩,by rw [hes];rfl,fun p hp=>by simp at hp,⟨fun _=>hes,fun _=>h4⟩⟩
 | [k],[x],_ =>
  obtain ⟨c1,c2⟩:=p2 0 k x rfl rfl;have hid:id=k.i:=h4;rw [<- hid] at c2
  have hes:es≠[]:=fun q=>by
   obtain ⟨e,e1,_⟩:=c2.last;rw [<- p3] at q;simp only [List.map_cons,List.map_nil,List.flatten_cons,List.flatten_nil,List.append_nil] at q;rw [q] at e1;cases e1
  refine ⟨x.2,.inr ⟨l,x.1,c2⟩,by rw [<- p3];simp,c2.leaves,⟨fun q=>?_,fun q=>absurd q hes⟩⟩;have:=c2.nod.1.pos;omega
 | _ :: _ :: _,_,_=>simp at h3
theorem RootOf.tree {T:List (List Int)} {es:List En} {id:Nat} (hok:MapOk es) (hel:es.length<=160) (hT:T.length<=16000) (h:RootOf T es id):∃ ls,RootT T id ls/\ent ls=es/\(∀ p ∈ ls,0 < p.2.length)/\(id=0↔es=[]):=h.treeB hok (by omega) (hok.bytes hel) hT
end Go.Proofs.YtdhebpnkfookcaaGreat
