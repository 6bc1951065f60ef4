import Derived.Test.YtdhebpnkfookcaaGreatSM37
set_option maxRecDepth 100000
set_option maxHeartbeats 8000000
namespace Go.Proofs.YtdhebpnkfookcaaGreat
open Go.RowKit Apo
def GtP (es:List En) (key:ByteArray) (W:World) (e:Ending) (W':World):Prop:=∃ (v:ByteArray) (b:Bool),e=.returned (.tuple #[.string v,.bool b,.int .i64 0])/\Gets es key v b/\Below W.heap.size W W'
noncomputable def hgt (T:List (List Int)) (id:Nat):Nat:=if id=0 then 0 else (loadT T id).1.lv.toNat+1
def GtS (T:List (List Int)) (key:ByteArray) (es:List En) (id:Nat):Prop:=(id=0/\∀ e ∈ es,e.k≠key)\/∃ l n ls,IsT T l id n ls/\Z1 (ent ls)/\∀ v b,Gets (ent ls) key v b->Gets es key v b
theorem hgt_is {T:List (List Int)} {l id:Nat} {n:Nd} {ls:List (Nat × List En)} (h:IsT T l id n ls):hgt T id=l+1/\l<=100:=by
 have hn:=h.nod;refine ⟨?_,?_⟩
 ·unfold hgt;rw [if_neg (by have:=hn.1.pos;omega),hn.1.ld];simp only;rw [hn.2];simp
 ·cases l with
  | zero=>omega
  | succ l=>have:=h.2.2.1;omega
theorem GtS.hgt {T:List (List Int)} {key:ByteArray} {es:List En} {id:Nat} (h:GtS T key es id):hgt T id<=101:=by
 rcases h with ⟨rfl,_⟩ | ⟨l,n,ls,h,_⟩
 ·simp [Go.Proofs.YtdhebpnkfookcaaGreat.hgt]
 ·have:=hgt_is h;omega
theorem tgettree_any {w W:World} {s m:Nat} {O:Nat->Prop} {T:List (List Int)} (h:TSw w W s O T m) (hT:T.length<=16000) (hx:TxOk T) (root:Nat) (ls:List (Nat × List En)) (ht:RootT T root ls) (hr:Z1 (ent ls)) (key:ByteArray) :
  Calls Tryz.prog 25 #[.pointer (some ⟨s,0,none⟩),.int .u64 root,.string key] W (GtP (ent ls) key W):=by
 have S0:GtS T key (ent ls) root:=by
  rcases ht with ⟨rfl,rfl⟩ | ⟨l,n,ht⟩
  ·exact .inl ⟨rfl,fun e he=>by simp [ent] at he⟩
  ·exact .inr ⟨l,n,ls,ht,hr,fun v b q=>q⟩
 have b0:Below W.heap.size W (W.alloc (.map #[] 0)):=(Below.refl _ W).alloc (Nat.le_refl _) _;have m0:=Mp.made W Tryz.prog 27;have HH:=Za h;have HS0:=Za S0;obtain ⟨es,hes⟩:∃ es,es=ent ls:=⟨_,rfl⟩;rw [<- hes] at HS0 ⊢;clear h ht hr S0 hes;have hmm:=@run_makeMap Tryz.prog;go_enter Tryz.func25,Tryz.ntmps25
 go_wp2;obtain ⟨W0,hW0⟩:∃ W0,W0=W.alloc (.map #[] 0):=⟨_,rfl⟩;rw [<- hW0] at m0 b0 ⊢;have HM0:=Za m0;have HB0:=Za b0;clear hW0 m0 b0;go_loopw [11] (fun u wr=>∃ (id:Nat) (M:Nat->Option Value) (L:List Nat),u=.int .u64 id/\Hid (GtS T key es id)/\Hid (Mp Tryz.prog 27 wr W.heap.size M)/\Hid ((∀ i v,M i=some v->v=.agg #[])/\(∀ i,M i≠none->i ∈ L)/\L.length+hgt T id<=200/\∀ i,M i≠none->hgt T id < hgt T i)/\Hid (Below W.heap.size W wr)) (fun u _=>hgt T (intOf u).toNat)
 case atStart =>
  refine ⟨root,fun _=>none,[],rfl,HS0,HM0,Za ⟨fun i v q=>(by cases q),fun i q=>absurd rfl q,?_,fun i q=>absurd rfl q⟩,HB0⟩;have:=HS0.out.hgt;simp only [List.length_nil];omega
 case round =>
  obtain ⟨id,M,L,rfl,HS,HM,HL,HB⟩:=hrel;rcases HS.out with ⟨hz,hno⟩ | ⟨l,n,ls',ht,hr,hback⟩
  ·subst hz;have HF:Hid (GtP es key W (.returned (.tuple #[.string ⟨#[]⟩,.bool false,.int .i64 0])) wr):=Za ⟨_,false,rfl,.inr ⟨rfl,rfl,hno⟩,HB.out⟩;clear hno HS HM HL;go_wp2;refine bodyPost_ret (by simp [results,Tryz.results25,go_sem];rfl) rfl ?_;exact HF.out
  ·have hnod:=ht.nod;have hhg:=hgt_is ht;have hne:((id:Int) != 0)=true:=by have:=hnod.1.pos;simp;omega
   have hMi:(M id).isSome=false:=by
    cases q:M id with
    | none=>rfl
    | some v=>exact absurd (HL.out.2.2.2 id (by rw [q];simp)) (Nat.lt_irrefl _)
   have CA:=add_any HM.out HL.out.1 HL.out.2.1 (by have:=HL.out.2.2.1;omega) id hnod.1.lt;unfold AdP at CA;rw [hMi] at CA;simp only [Bool.not_false] at CA;have HCA:=Za CA;have HT:=Za ht;have HRR:=Za hr;have HBK:=Za hback;have HNOD:=Za hnod;have HHG:=Za hhg;clear CA hMi ht hr hback HS hnod hhg;go_wp2_with fail
   refine HCA.out.mono ?_;rintro e w2 ⟨rfl,m2,o2⟩;have b2:Below W.heap.size W w2:=Below.onl HB.out o2 (fun i q=>by omega) (Nat.le_refl _);have CL:=tload_any (HH.out.below b2) hT hx id HNOD.out.1.lt;rw [HNOD.out.1.ld] at CL;simp only [ldV] at CL;have HM2:=Za m2;have HB2:=Za b2;have HCL:=Za CL;clear m2 o2 b2 CL HCA HM;go_wp2_with fail
   refine HCL.out.mono ?_;rintro e w3 ⟨x',hx'n,ok',nw',rfl,b3⟩;have s3:=b3.size;obtain ⟨w4,hw4⟩:∃ w4,w4=w3.alloc (.cells x'.cells.toArray 90):=⟨_,rfl⟩;have b4:Below w3.heap.size w3 w4:=by rw [hw4];exact (Below.refl _ w3).alloc (Nat.le_refl _) _
   have kx4:Ob w4 w3.heap.size 90 x'.cells:=by rw [hw4];exact Ob.new w3 x'.cells 90
   have b24:Below w2.heap.size w2 w4:=b3.trans (b4.mono (by omega));have bW4:=HB2.out.trans (b24.mono HB2.out.size);have m4:=HM2.out.below b24;have x0:=kx4.cell 0;have x1:=kx4.cell 1;have x2:=kx4.cell 2;have ok4:=ok'.below b4;have hkeys:=node_rise (n:=x'.n) (by rw [hx'n];exact HNOD.out.1.ok);have hlv:x'.n.lv=(l:Int):=by rw [hx'n];exact HNOD.out.2
   have hes:x'.n.es.length<=1000000:=by rw [hx'n];exact HNOD.out.1.es
   have hks:x'.n.ks.length<=1000000:=by rw [hx'n];exact HNOD.out.1.ks
   have HXN:=Za hx'n;obtain ⟨⟨lv',es',ks'⟩,ea',ec',ka',kc'⟩:=x';simp only [NdA.cells,List.getElem?_cons_zero,List.getElem?_cons_succ] at x0 x1 x2 hw4 hlv hes hks hkeys ⊢;subst hlv;have HXN:Hid ((⟨(l:Int),es',ks'⟩:Nd)=n):=Za HXN.out;have re4:=ok4.es;have rk4:=ok4.ks;simp only at re4 rk4;obtain ⟨ne',hne'⟩:∃ ne',ne'=es'.length:=⟨_,rfl⟩;obtain ⟨nk',hnk'⟩:∃ nk',nk'=ks'.length:=⟨_,rfl⟩;rw [<- hne'] at x1 hw4 ⊢;rw [<- hnk'] at x2 hw4 ⊢;have hw4':w4=w3.alloc (.cells #[.int .i64 (l:Int),.slice ea' ne' ec',.slice ka' nk' kc'] 90):=hw4;clear hw4;have HM4:=Za m4;have HBW4:=Za bW4;cases l with
   | zero =>
    have hks0:ks'=[]:=(node_leaf (n:=⟨((0:Nat):Int),es',ks'⟩) (by rw [HXN.out];exact HNOD.out.1.ok) rfl).2
    have hre:Rise (es'.map En.k):=by
     have:(⟨((0:Nat):Int),es',ks'⟩:Nd).keys=es'.map En.k:=by rw [hks0];simp [Nd.keys]
     rw [this] at hkeys;exact hkeys
    have CV:=value_any w4 ea' ec' es' key re4 hre hes;rw [<- hne'] at CV
    have HENT:Hid (ent ls'=es'):=Za (by
     have h3:=HT.out.2.2;rw [h3,<- HXN.out];simp [ent])
    have HCV:=Za CV;clear CV kx4 b3 b4 b24 bW4 m4 ok' ok4 nw' hx'n re4 rk4 hne' hnk' hes hks hkeys hre hks0 HXN;rw [hw4'] at x0 x1 x2;obtain ⟨LV,hLV⟩:∃ LV:Int,LV=((0:Nat):Int):=⟨_,rfl⟩;have hlz:(LV == 0)=true:=by rw [hLV];rfl
    rw [<- hLV] at x0 hw4' ⊢;rw [<- hLV] at x1 x2;clear hLV;go_wp2_with fail
    rw [<- hw4'];clear hw4';refine HCV.out.mono ?_;rintro e w5 ⟨v,bb,rfl,hg,b5⟩;have HF:Hid (GtP es key W (.returned (.tuple #[.string v,.bool bb,.int .i64 0])) w5):=Za ⟨v,bb,rfl,HBK.out v bb (by rw [HENT.out];exact hg),HBW4.out.trans (b5.mono HBW4.out.size)⟩;clear hg b5 x0 x1 x2;go_wp2;refine bodyPost_ret (by simp [results,Tryz.results25,go_sem];rfl) rfl ?_;exact HF.out
   | succ l =>
    have hes0:es'=[]:=(node_inner (n:=⟨((l+1:Nat):Int),es',ks'⟩) (by rw [HXN.out];exact HNOD.out.1.ok) (by simp only;omega)).2
    have hrk:Rise (ks'.map Ki.k):=by
     have:(⟨((l+1:Nat):Int),es',ks'⟩:Nd).keys=ks'.map Ki.k:=by rw [hes0];simp [Nd.keys]
     rw [this] at hkeys;exact hkeys
    have CV:=child_any w4 ka' kc' ks' key rk4 hrk hks;rw [<- hnk'] at CV;have hlz:(((l+1:Nat):Int) == 0)=false:=by simp;omega
    have hnks:n.ks=ks':=by rw [<- HXN.out]
    have HCV:=Za CV;have HKS:=Za hnks;clear CV kx4 b3 b4 b24 bW4 m4 ok' ok4 nw' hx'n re4 rk4 hne' hnk' hes hks hkeys hrk hes0 HXN hnks;rw [hw4'] at x0 x1 x2;obtain ⟨LV,hLV⟩:∃ LV:Int,LV=((l+1:Nat):Int):=⟨_,rfl⟩;rw [<- hLV] at x0 hw4' hlz ⊢;rw [<- hLV] at x1 x2;clear hLV;go_wp2_with fail
    rw [<- hw4'];clear hw4';refine HCV.out.mono ?_;rintro e w5 ⟨c,rfl,hc,b5⟩;rw [<- HKS.out] at hc
    have HF:Hid (GtS T key es c/\hgt T c < hgt T id):=by
     have h1:=HHG.out.1;rcases HT.out.step HRR.out hc with ⟨hc0,hno⟩ | ⟨n2,ls2,t2,r2,g2⟩
     ·refine Za ⟨.inl ⟨hc0,fun e he q=>?_⟩,?_⟩
      ·have:=HBK.out ⟨#[]⟩ false (.inr ⟨rfl,rfl,hno⟩);rcases this with ⟨z,_⟩ | ⟨_,_,z⟩
       ·cases z
       ·exact z e he q
      ·rw [hc0,h1];simp [hgt]
     ·refine Za ⟨.inr ⟨l,n2,ls2,t2,r2,fun v b q=>HBK.out v b (g2 v b q)⟩,?_⟩;have:=(hgt_is t2).1;omega
    have HL5:Hid ((∀ i v,upd M id (some (.agg #[])) i=some v->v=.agg #[])/\(∀ i,upd M id (some (.agg #[])) i≠none->i ∈ id :: L)/\(id :: L).length+hgt T c<=200/\∀ i,upd M id (some (.agg #[])) i≠none->hgt T c < hgt T i):=by
     obtain ⟨a1,a2,a3,a4⟩:=HL.out;have hlt:=HF.out.2;refine Za ⟨fun i v q=>?_,fun i q=>?_,?_,fun i q=>?_⟩
     ·by_cases z:i=id
      ·subst z;rw [upd_same] at q;cases q;rfl
      ·rw [ZY _ _ z] at q;exact a1 i v q
     ·by_cases z:i=id
      ·subst z;simp
      ·rw [ZY _ _ z] at q;exact List.mem_cons_of_mem _ (a2 i q)
     ·simp only [List.length_cons];omega
     ·by_cases z:i=id
      ·subst z;exact hlt
      ·rw [ZY _ _ z] at q;have:=a4 i q;omega
    have HM5:=Za (HM4.out.below b5);have HB5:=Za (HBW4.out.trans (b5.mono HBW4.out.size));clear hc b5 x0 x1 x2 HL HB;go_wp2;go_roundw
    case rel=>exact ⟨c,_,_,rfl,Za HF.out.1,HM5,HL5,HB5⟩
    case measure=>simpa [intOf] using HF.out.2
theorem cut_map {α β:Type} (f:α->β) (p:β->Bool) (l:List α):∀ k,ZN p (l.map f) k=((ZN (fun x=>p (f x)) l k).1.map (List.map f),(ZN (fun x=>p (f x)) l k).2.map f)
 | 0=>rfl
 | k+1=>by
  cases h:l[k]? with
  | none =>
   have h2:(l.map f)[k]?=none:=by rw [List.getElem?_map,h];rfl
   unfold ZN;rw [h,h2];exact cut_map f p l k
  | some x =>
   have h2:(l.map f)[k]?=some (f x):=by rw [List.getElem?_map,h];rfl
   rw [ZZ h,ZZ h2,cut_map f p l k];by_cases q:p (f x)=true
   ·rw [if_pos q,if_pos q];simp
   ·rw [if_neg q,if_neg q];simp
theorem split_map {α β:Type} (f:α->β) (p:β->Bool) (l:List α):Zd p (l.map f)=(Zd (fun x=>p (f x)) l).map (List.map f):=by
 rw [cut_split,cut_split,List.length_map,cut_map];simp only [List.length_map];split <;> simp
theorem GoodN.nod {T:List (List Int)} {n:Nd} {id:Nat} (g:GoodN n) (h1:1<=id) (h2:T[id - 1]?=some (ZW n)) (hT:T.length<=16000) (hz:∀ k ∈ n.ks,k.i < 18446744073709551616):TNod T id n:=by
 have hs:=g.small;have hl:=(List.getElem?_eq_some_iff.1 h2).1;have hlen:=g.len;obtain ⟨g1,g2,_⟩:=nodeE_ok g.ok;have f1:=flat_ge (f:=enB) (c:=3) (l:=n.es) (fun e he=>enB_ge (g1 e he).1.1);have f2:=flat_ge (f:=kiB) (c:=3) (l:=n.ks) (fun e he=>kiB_ge (g2 e he).1.1)
 have hcnt:n.es.length+n.ks.length<=16384:=by
  unfold ZW at hlen;simp only [List.length_append] at hlen;omega
 refine ⟨h1,by omega,?_,hs.1,hs.2,g.ok⟩;have hg:getT T id=(ZW n,0):=by unfold getT;rw [if_neg (by omega),h2]
 unfold loadT;rw [hg,if_neg (by simp)];exact nodeOf_ndB g.ok hz (by omega) hcnt
theorem Can.trees {T:List (List Int)} {es:List En} (hok:MapOk es) (hel:es.length<=600) (hbl:(es.flatMap enB).length<=40000) (hT:T.length<=16000):∀ {l:Nat} {ks:List Ki},l<=20->Can T es l ks->∃ L:List (Nd × List (Nat × List En)),L.length=ks.length/\(∀ (i:Nat) (k:Ki) (x:Nd × List (Nat × List En)),ks[i]?=some k->L[i]?=some x->k.k=Zz x.1/\IsT T l k.i x.1 x.2)/\(L.map (fun x=>ent x.2)).flatten=es
 | 0,ks,_,h=>by
  obtain ⟨g1,_⟩:=hok.leaves (by omega) hbl;obtain ⟨rows,hrows⟩:∃ rows,rows=Zd (fun e:En=>Zf 0 e.k) es:=⟨_,rfl⟩;have h':Kids T (lvns rows) ks:=by rw [hrows];exact h
  rw [<- hrows] at g1;have hlen:ks.length=rows.length:=by have:=h'.1;simpa [lvns] using this
  refine ⟨(ks.zip rows).map (fun x=>(⟨0,x.2,[]⟩,[(x.1.i,x.2)])),by simp;omega,fun i k x hk hx=>?_,?_⟩
  ·rw [List.getElem?_map] at hx;cases hz:(ks.zip rows)[i]? with
   | none=>rw [hz] at hx;cases hx
   | some y =>
    rw [hz] at hx;simp only [Option.map_some,Option.some.injEq] at hx;rw [List.getElem?_zip_eq_some] at hz;obtain ⟨z1,z2⟩:=hz;rw [hk] at z1;have hy1:y.1=k:=by cases z1;rfl
    have hn:(lvns rows)[i]?=some ⟨0,y.2,[]⟩:=by simp [lvns,z2]
    obtain ⟨c1,c2,c3⟩:=h'.2 i _ k hn hk;subst hx;rw [hy1];have gn:=g1 _ (List.mem_of_getElem? hn);exact ⟨c1,gn.nod c3 c2 hT (fun k hk=>by simp at hk),rfl,rfl⟩
  ·have:((ks.zip rows).map (fun x=>((⟨0,x.2,[]⟩:Nd),[(x.1.i,x.2)]))).map (fun x=>ent x.2)=rows:=by
    rw [List.map_map];have h2:((fun x:Nd × List (Nat × List En)=>ent x.2) ∘ fun x:Ki × List En=>((⟨0,x.2,[]⟩:Nd),[(x.1.i,x.2)]))=Prod.snd:=by funext x;simp [ent]
    rw [h2,List.map_snd_zip (by omega)]
   rw [this,hrows];exact ZP
 | l+1,ks,hl,⟨ks0,h1,h2,h3⟩=>by
  obtain ⟨L0,p1,p2,p3⟩:=Can.trees hok hel hbl hT (by omega) h1;obtain ⟨g1,_⟩:=h1.up hok (by omega) (by omega) (show l < 20 by omega);obtain ⟨lv,hlv⟩:∃ lv:Int,lv=((l+1:Nat):Int):=⟨_,rfl⟩;rw [<- hlv] at h3 g1;obtain ⟨R,hR⟩:∃ R,R=Zd (fun x:Ki × (Nd × List (Nat × List En))=>Zf lv x.1.k) (ks0.zip L0):=⟨_,rfl⟩;have hfst:(ks0.zip L0).map Prod.fst=ks0:=List.map_fst_zip (by omega)
  have hrows:Zd (fun e:Ki=>Zf lv e.k) ks0=R.map (List.map Prod.fst):=by
   rw [hR,<- split_map (f:=Prod.fst) (p:=fun e:Ki=>Zf lv e.k),hfst]
  have hRf:R.flatten=ks0.zip L0:=by rw [hR];exact ZP
  rw [hrows] at h3 g1;have hlen:ks.length=R.length:=by have:=h3.1;simpa [abns] using this
  refine ⟨R.map (fun r=>(⟨lv,[],r.map Prod.fst⟩,(r.map (fun y=>y.2.2)).flatten)),by simp;omega,fun i k x hk hx=>?_,?_⟩
  ·rw [List.getElem?_map] at hx;cases hz:R[i]? with
   | none=>rw [hz] at hx;cases hx
   | some r =>
    rw [hz] at hx;simp only [Option.map_some,Option.some.injEq] at hx;have hn:(abns lv (R.map (List.map Prod.fst)))[i]?=some ⟨lv,[],r.map Prod.fst⟩:=by simp [abns,hz]
    obtain ⟨c1,c2,c3⟩:=h3.2 i _ k hn hk;have gn:=g1 _ (List.mem_of_getElem? hn);subst hx;have hmem:∀ y ∈ r,y ∈ ks0.zip L0:=fun y hy=>by rw [<- hRf];exact List.mem_flatten.2 ⟨r,List.mem_of_getElem? hz,hy⟩
    have hpair:∀ y ∈ r,y.1.k=Zz y.2.1/\IsT T l y.1.i y.2.1 y.2.2:=fun y hy=>by
     obtain ⟨t,ht,q⟩:=List.mem_iff_getElem.1 (hmem y hy);have hq:(ks0.zip L0)[t]?=some y:=by rw [List.getElem?_eq_getElem ht,q]
     rw [List.getElem?_zip_eq_some] at hq;exact p2 t y.1 y.2 hq.1 hq.2
    refine ⟨c1,gn.nod c3 c2 hT (fun k hk'=>?_),hlv,by omega,r.map (fun y=>y.2.1),r.map (fun y=>y.2.2),by simp,by simp,fun j k' n' x' hk' hn' hx'=>?_,rfl⟩
    ·simp only [List.mem_map] at hk';obtain ⟨y,hy,rfl⟩:=hk';exact (hpair y hy).2.nod.1.lt
    ·rw [List.getElem?_map] at hk' hn' hx';cases hy:r[j]? with
     | none=>rw [hy] at hk';cases hk'
     | some y =>
      rw [hy] at hk' hn' hx';simp only [Option.map_some,Option.some.injEq] at hk' hn' hx';subst hk' hn' hx';exact hpair y (List.mem_of_getElem? hy)
  ·have hsnd:(ks0.zip L0).map Prod.snd=L0:=List.map_snd_zip (by omega)
   have h5:(R.map (fun r=>((⟨lv,[],r.map Prod.fst⟩:Nd),(r.map (fun y=>y.2.2)).flatten))).map (fun x=>ent x.2)=R.map (fun r=>(r.map (fun y=>ent y.2.2)).flatten):=by
    rw [List.map_map];refine List.map_congr_left (fun r _=>?_);simp only [Function.comp_apply];rw [ent_flat,List.map_map];rfl
   rw [h5,<- p3,<- hsnd,<- hRf,List.map_map]
   have:∀ R:List (List (Ki × (Nd × List (Nat × List En)))),(R.map (fun r=>(r.map (fun y=>ent y.2.2)).flatten)).flatten=(R.flatten.map ((fun x=>ent x.2) ∘ Prod.snd)).flatten:=by
    intro R;induction R with
    | nil=>rfl
    | cons r R ih =>
     simp only [List.map_cons,List.flatten_cons,List.map_append,List.flatten_append,ih];rfl
   exact this R
theorem IsT.leaves {T:List (List Int)}:∀ {l id:Nat} {n:Nd} {ls:List (Nat × List En)},IsT T l id n ls->∀ p ∈ ls,0 < p.2.length
 | 0,id,n,ls,h=>by
  obtain ⟨h1,h2,h3⟩:=h;subst h3;intro p hp;simp only [List.mem_singleton] at hp;subst hp;exact List.length_pos_iff.2 (node_leaf h1.ok h2).1
 | l+1,id,n,ls,h=>by
  obtain ⟨h1,h2,h3,ns,lss,h4,h5,h6,h7⟩:=h;subst h7;intro p hp;obtain ⟨x,hx,hpx⟩:=List.mem_flatten.1 hp;obtain ⟨t,ht,q⟩:=List.mem_iff_getElem.1 hx;exact IsT.leaves (h6 t (n.ks[t]'(by omega)) (ns[t]'(by omega)) x (List.getElem?_eq_getElem _) (List.getElem?_eq_getElem _) (by rw [List.getElem?_eq_getElem ht,q])).2 p hpx
theorem RootOf.treeB {T:List (List Int)} {es:List En} {id:Nat} (hok:MapOk es) (hel:es.length<=600) (hbl:(es.flatMap enB).length<=40000) (hT:T.length<=16000) (h:RootOf T es id):∃ ls,RootT T id ls/\ent ls=es/\(∀ p ∈ ls,0 < p.2.length)/\(id=0↔es=[]):=by
 obtain ⟨l,ks,h1,h2,h3,h4⟩:=h;obtain ⟨L,p1,p2,p3⟩:=h1.trees hok hel hbl hT h2;match ks,L,p1 with
 | [],[],_ =>
  have hes:es=[]:=by rw [<- p3];rfl
  exact ⟨[],.inl ⟨h4,rfl⟩,by rw [hes];rfl,fun p hp=>by simp at hp,⟨fun _=>hes,fun _=>h4⟩⟩
 | [k],[x],_ =>
  obtain ⟨c1,c2⟩:=p2 0 k x rfl rfl;have hid:id=k.i:=h4;rw [<- hid] at c2
  have hes:es≠[]:=fun q=>by
   obtain ⟨e,e1,_⟩:=c2.last;rw [<- p3] at q;simp only [List.map_cons,List.map_nil,List.flatten_cons,List.flatten_nil,List.append_nil] at q;rw [q] at e1;cases e1
  refine ⟨x.2,.inr ⟨l,x.1,c2⟩,by rw [<- p3];simp,c2.leaves,⟨fun q=>?_,fun q=>absurd q hes⟩⟩;have:=c2.nod.1.pos;omega
 | _ :: _ :: _,_,_=>simp at h3
theorem RootOf.tree {T:List (List Int)} {es:List En} {id:Nat} (hok:MapOk es) (hel:es.length<=160) (hT:T.length<=16000) (h:RootOf T es id):∃ ls,RootT T id ls/\ent ls=es/\(∀ p ∈ ls,0 < p.2.length)/\(id=0↔es=[]):=h.treeB hok (by omega) (hok.bytes hel) hT
section
attribute [local go_sem ↓] Apo.app_exec
end
end Go.Proofs.YtdhebpnkfookcaaGreat
namespace Apo
open Go Go.RowKit
end Apo
namespace Go.Proofs.YtdhebpnkfookcaaGreat
open Go.RowKit Go.Shelf Apo
attribute [local go_sem] Oper.semAt_some
end Go.Proofs.YtdhebpnkfookcaaGreat
namespace Apo
open Go Go.RowKit
def codeOf:Exit->Option Code
 | .ret=>some .ret
 | .exit id=>some (.exit id)
 | _=>none
def TwoP (d:Nat) (r rb:Loop) (rd:Code->Loop) (R Rx:World->Prop) (e:Exit) (_:Act) (w3:World):Prop:=(e=.normal/\w3.heap[d+1]?=some (.loop rb)/\R (w3.putObj (d+1) (.loop r)))\/(∃ c,codeOf e=some c/\w3.heap[d+1]?=some (.loop rb)/\Rx (w3.putObj (d+1) (.loop (rd c))))
theorem yield_two {P:Program} {nn d:Nat} {r rb:Loop} {rd:Code->Loop} {asg bdy:Code} {ps:Array Tmp} {tm:Array Value} {args:Array Value} {A:World} {R:World->Prop} {Rx:World->Prop} (hrb:rb={ r with state:=.busy }) (hrd:∀ c,rd c={ r with state:=.done,pending:=some c }) (hr1:r.state=.ready) (hr2:r.pending=none) (ha:r.assign=asg) (hb:r.body=bdy) (hpa:r.params=ps) (htm:r.tmps=tm) (hl:LpAt d r A) (hs:args.size=ps.size)
  (h:asg.wpIn (Fence.wide.inRound (d+1)) nn P (Exit.then (fun a1 w1=>LpAt d r w1/\bdy.wpIn (Fence.wide.inRound (d+1)) nn P (TwoP d r rb rd R Rx) a1 (w1.putObj (d+1) (.loop rb))) (fun _ _ _=>False))
    { tmps:=(ps.zip args).foldl (fun tmps (t,a)=>tmps.setIfInBounds t a) tm,defers:=[] } A) :
  YieldAt Fence.wide nn P (d+1) args A fun e A'=>(e=.returned (.bool true)/\R A')\/(e=.returned (.bool false)/\Rx A'):=by
 subst hrb ha hb hpa htm;refine ⟨r.fn,_,r.assign,r.body,run_yield hl.1 hs,roundIn_of_wpIn trivial (wpIn_mono h ?_)⟩;intro e a1 w1 q;cases e with
 | normal =>
  obtain ⟨q1,q2⟩:=q;refine ⟨_,run_beginRound q1.1 hr1,wpIn_mono q2 ?_⟩;rintro e2 a2 w3 (⟨rfl,z1,z2⟩ | ⟨c,zc,z1,z2⟩)
  ·refine ⟨_,_,run_endRound none z1,.inl ⟨rfl,?_⟩⟩
   have:({ { r with state:=.busy } with state:=if (none:Option Code).isNone then .ready else .done,pending:=none }:Loop)=r:=by
    obtain ⟨st,pe,fn,tm,pa,asg,bo,de⟩:=r;simp only at hr1 hr2;subst hr1 hr2;rfl
   rw [this];exact z2
  ·rw [hrd] at z2;cases e2 with
   | ret =>
    cases zc
    exact ⟨_,_,run_endRound (some .ret) z1,.inr ⟨rfl,z2⟩⟩
   | exit id =>
    cases zc
    exact ⟨_,_,run_endRound (some (.exit id)) z1,.inr ⟨rfl,z2⟩⟩
   | normal=>cases zc
   | goto t=>cases zc
   | panic ch=>cases zc
   | outgrown=>cases zc
 | exit id=>exact q.elim
 | goto t=>exact q.elim
 | ret=>exact q.elim
 | panic ch=>exact q.elim
 | outgrown=>exact q.elim
theorem range_two {P:Program} {n:Nat} {g:Operand} {ps:Array Tmp} {assign body:Code} {Q:Exit->Act->World->Prop} {a:Act} {w:World} {gf:Nat} {lb:Array Value} (hg:a.eval g=.func (.func gf) #[] lb) (eg:∀ args w,(callFunc gf args).run P w=.ok (.enter gf args) w) (R:World->Prop) (Rx:Code->World->Prop)
  (hcall:∀ (fn:FuncId) (r:Loop) (rd:Code->Loop) (W1:World),r=recL fn a.tmps ps assign body w.heap.size->(∀ c,rd c={ r with state:=.done,pending:=some c })->LpAt w.heap.size r W1->Below w.heap.size w W1->W1.heap.size=w.heap.size+2->CallsIn Fence.wide (n - 1) P gf (#[.func (.yield (w.heap.size+1)) #[] #[]]++lb) W1 fun e W2=>(∃ v,e=.returned v)/\((LpAt w.heap.size r W2/\R W2)\/(∃ c,LpAt w.heap.size (rd c) W2/\Rx c W2)))
  (hdone:∀ (W2:World) (o:Obj),R W2->W2.heap[w.heap.size]?=some (.deferred (some []))->w.heap.size+1 < W2.heap.size->Q .normal { a with defers:={ target:=.collected w.heap.size,args:=#[] } :: a.defers } (W2.putObj (w.heap.size+1) o))
  (hstop:∀ (c:Code) (W2:World) (o:Obj),Rx c W2->W2.heap[w.heap.size]?=some (.deferred (some []))->w.heap.size+1 < W2.heap.size->c.wpIn Fence.wide n P Q { a with defers:={ target:=.collected w.heap.size,args:=#[] } :: a.defers } (W2.putObj (w.heap.size+1) o)) :
  (Code.rangeFunc g ps assign body).wpIn Fence.wide n P Q a w:=by
 refine wpIn_rangeFunc (fun fn hfn=>?_);obtain ⟨r,hr⟩:∃ r,r=recL fn a.tmps ps assign body w.heap.size:=⟨_,rfl⟩;obtain ⟨rd,hrd⟩:∃ rd:Code->Loop,∀ c,rd c={ r with state:=.done,pending:=some c }:=⟨_,fun _=>rfl⟩;obtain ⟨W1,hW1⟩:∃ W1,W1=(w.alloc (.deferred (some []))).alloc (.loop r):=⟨_,rfl⟩
 have h1:W1.heap[w.heap.size+1]?=some (.loop r):=by
  rw [hW1];have:=World.alloc_heap_new (w.alloc (.deferred (some []))) (.loop r);rwa [World.size_alloc] at this
 have h2:W1.heap[w.heap.size]?=some (.deferred (some [])):=by
  rw [hW1];exact (Below.heap_alloc _ _ _ (by simp)).trans (World.alloc_heap_new w _)
 have b1:Below w.heap.size w W1:=by rw [hW1];exact ((Below.refl _ w).alloc (Nat.le_refl _) _).alloc (by simp) _
 have s1:W1.heap.size=w.heap.size+2:=by rw [hW1];simp
 refine ⟨w.heap.size+1,[{ target:=.collected w.heap.size,args:=#[] }],W1,{ target:=.fn (.func gf) lb,args:=#[.func (.yield (w.heap.size+1)) #[] #[]] },W1,gf,#[.func (.yield (w.heap.size+1)) #[] #[]]++lb,W1,?_,?_,fun f' _=>trivial,?_,fun q=>(by cases q),?_⟩
 ·rw [hW1,hr];exact run_enterLoop_outer _ _ _ _ _
 ·simp only [resolve,hg];simp [go_sem]
 ·simp [invoke,go_sem,eg]
 ·refine (hcall fn r rd W1 hr hrd ⟨h1,h2⟩ b1 s1).mono ?_;rintro e W2 ⟨⟨v,rfl⟩,⟨l2,r2⟩ | ⟨c,l2,r2⟩⟩
  ·refine ⟨none,_,(by have:=run_endLoop (P:=P) l2.1 (by rw [hr];simp [recL]);rw [show r.pending=none by rw [hr];rfl] at this;exact this),?_⟩;exact hdone W2 _ r2 l2.2 (Array.getElem?_eq_some_iff.1 l2.1).1
  ·refine ⟨some c,_,(by have:=run_endLoop (P:=P) l2.1 (by rw [hrd];simp);rw [show (rd c).pending=some c by rw [hrd]] at this;exact this),?_⟩;exact hstop c W2 _ r2 l2.2 (Array.getElem?_eq_some_iff.1 l2.1).1
end Apo
namespace Go.Proofs.YtdhebpnkfookcaaGreat
open Go.RowKit Go.Shelf Apo
attribute [local go_sem] Oper.semAt_some
structure TellsE (N:Nat) (it:Nat->En) (lp B:Nat) (X:Nat->Prop) (J Jx:Nat->(Nat->Prop)->World->Prop):Prop where
 bel:∀ k U A B,J k U A->Below A.heap.size A B->J k U B
 lt:∀ k U A,J k U A->∀ i,U i->i < A.heap.size
 put:∀ k U A l (o o':Obj),J k U A->B<=l->A.heap[l]?=some o->o.isCells=false->J k U (A.putObj l o')
 putx:∀ k U A l (o o':Obj),Jx k U A->B<=l->A.heap[l]?=some o->o.isCells=false->Jx k U (A.putObj l o')
 yield:∀ k U A,J k U A->k < N->∀ nn,YieldAt Fence.wide nn Tryz.prog lp #[.string (it k).k,.string (it k).v] A fun e A' =>
  (e=.returned (.bool true)/\∃ U',J (k+1) U' A'/\Onl U A A'/\∀ i,U' i->U i\/A.heap.size<=i)\/(e=.returned (.bool false)/\∃ U',Jx (k+1) U' A'/\Onl (fun i=>U i\/X i) A A'/\∀ i,U' i->U i\/A.heap.size<=i)
def Told2 (n:Nat) (X:Nat->Prop) (J Jx:Nat->(Nat->Prop)->World->Prop) (U:Nat->Prop) (W:World) (e:Ending) (W':World):Prop:=(∃ v,e=.returned v)/\((∃ U',J n U' W'/\Onl U W W'/\∀ i,U' i->U i\/W.heap.size<=i)\/(∃ k U',k<=n/\Jx k U' W'/\Onl (fun i=>U i\/X i) W W'/\∀ i,U' i->U i\/W.heap.size<=i))
theorem all1_in {it:Nat->En} {lp B:Nat} {X:Nat->Prop} {J Jx:Nat->(Nat->Prop)->World->Prop} (es:List En) (hlen:es.length<=1000000) (H:TellsE es.length it lp B X J Jx) (hit:∀ (i:Nat) e,es[i]?=some e->it i=e) (nn:Nat) (W:World) (Bs:Nat) (v:Value) (U:Nat->Prop) (hj:J 0 U W) (hb:Ob W Bs 22 [v]) (hr:Row (fun _=>True) W 43 2 v es.length (Zo es)) (hU:∀ i,v.ownBlock=some i->¬ U i) :
  CallsIn Fence.wide nn Tryz.prog 108 #[.func (.yield lp) #[] #[],.pointer (some ⟨Bs,0,none⟩)] W (Told2 es.length X J Jx U W):=by
 obtain ⟨va,vc,hva,_⟩:=hr.form;obtain ⟨n,hn⟩:∃ n,n=es.length:=⟨_,rfl⟩;rw [<- hn] at hva hlen;have x0:=hb.cell 0;simp only [List.getElem?_cons_zero] at x0;rw [hva] at x0
 have hcell:∀ (A:World),Onl U W A->∀ K,(hK:K < n)->∃ g of,va=some ⟨g,of,none⟩/\A.cell? ⟨g,of+K * 2,none⟩=some (.string (it K).k)/\A.cell? ⟨g,of+K * 2+1,none⟩=some (.string (it K).v):=by
  intro A oA K hK
  have hx:es[K]?=some (it K):=by
   have h1:=List.getElem?_eq_getElem (l:=es) (i:=K) (by omega)
   rw [h1,hit K _ h1]
  rcases row_ob hr with ⟨e,h1,_⟩ | ⟨g,cap,cur,e,_,bR,_,_,_,hr4⟩
  ·omega
  ·rw [hva] at e;cases e
   have kA:=bR.onl oA (fun q=>hU g (by rw [hva];rfl) q);obtain ⟨h1,h2⟩:=ecells_at es hx;rw [<- hr4,List.getElem?_take_of_lt (by omega)] at h1 h2;refine ⟨g,0,rfl,?_,?_⟩
   ·rw [Nat.zero_add];exact (kA.cell _).trans h1
   ·rw [Nat.zero_add];exact (kA.cell _).trans h2
 have HCELL:=Za hcell;have HH:=Za H;have HN:=Za hn;have HJ:=Za hj;rw [<- hn];clear hcell H hn hj hb hr hU hva hit;refine callsIn_of_wp Tryz.func108 rfl trivial ?_ rfl;simp only [Tryz.ntmps108,List.size_toArray,List.length_cons,List.length_nil,Nat.reduceAdd,Nat.reduceSub,Array.replicate_succ,Array.replicate_zero,List.push_toArray,List.append_toArray,List.nil_append,List.cons_append];gi_wp2
 gi_loopw [7] (fun i wr=>∃ (k:Nat) (U':Nat->Prop),k<=n/\i=.int .i64 k/\Hid (J k U' wr)/\Hid (Onl U W wr)/\Hid (∀ i,U' i->U i\/W.heap.size<=i)) (fun i _=>n - (intOf i).toNat)
 case atStart=>exact ⟨0,U,Nat.zero_le _,rfl,HJ,Za (Onl.refl _ _),Za (fun i q=>.inl q)⟩
 case round =>
  obtain ⟨k,U',hk,rfl,HJr,HOr,HUr⟩:=hrel;by_cases hlt:k < n
  ·obtain ⟨g,of,rfl,c1,c2⟩:=HCELL.out wr HOr.out k hlt;obtain ⟨K2,hK2⟩:∃ K2,K2=of+k * 2:=⟨_,rfl⟩;have hgw:g < wr.heap.size:=World.block_lt_of_cell? _ _ c1;have bA:Below wr.heap.size wr (wr.alloc (.cells #[.string (it k).k,.string (it k).v] 43)):=(Below.refl _ wr).alloc (Nat.le_refl _) _;obtain ⟨fn,tmps,assign,body,hy,hRR⟩:=HH.out.yield k U' _ (HH.out.bel _ _ _ _ HJr.out bA) (by rw [<- HN.out];exact hlt) (nn - 1);have HBA:=Za bA;obtain ⟨x,hx⟩:∃ x,x=it k:=⟨_,rfl⟩;rw [<- hx] at c1 c2 hy hRR HBA;clear bA hx hK2;gi_wp2
   refine ⟨fun q=>(by cases q),hRR.mono ?_⟩;rintro e W3 (⟨rfl,U3,j3,o3,u3⟩ | ⟨rfl,U3,j3,o3,u3⟩)
   ·have sb:=HBA.out.size
    have HF:Hid (J (k+1) U3 W3/\Onl U W W3/\∀ i,U3 i->U i\/W.heap.size<=i):=by
     have s0:=HOr.out.size;refine Za ⟨j3,(HOr.out.trans (Onl.ofBelow HBA.out)).more o3 (fun i q=>(HUr.out i q)),fun i q=>?_⟩;rcases u3 i q with z | z
     ·exact HUr.out i z
     ·exact .inr (by omega)
    clear j3 o3 u3 c1 c2 hy hRR;gi_wp2
    go_roundw
    case rel=>exact ⟨k+1,U3,by omega,by simp,Za HF.out.1,Za HF.out.2.1,Za HF.out.2.2⟩
    case measure=>simp [intOf];omega
   ·have sb:=HBA.out.size
    have HF:Hid (Jx (k+1) U3 W3/\Onl (fun i=>U i\/X i) W W3/\∀ i,U3 i->U i\/W.heap.size<=i):=by
     have s0:=HOr.out.size;refine Za ⟨j3,((HOr.out.trans (Onl.ofBelow HBA.out)).mono (fun i q=>.inl q)).more o3 (fun i q=>q.elim (fun z=>(HUr.out i z).imp .inl (fun z=>z)) (fun z=>.inl (.inr z))),fun i q=>?_⟩;rcases u3 i q with z | z
     ·exact HUr.out i z
     ·exact .inr (by omega)
    clear j3 o3 u3 c1 c2 hy hRR;gi_wp2
    refine bodyPost_ret (results_none rfl _ _ _) rfl ?_;exact ⟨⟨_,rfl⟩,.inr ⟨k+1,U3,by omega,HF.out.1,HF.out.2.1,HF.out.2.2⟩⟩
  ·obtain rfl:k=n:=by omega
   gi_wp2
   go_end0
   exact ⟨⟨_,rfl⟩,.inl ⟨U',HJr.out,HOr.out,HUr.out⟩⟩
theorem enter_all1:∀ args w,(callFunc 108 args).run Tryz.prog w=.ok (.enter 108 args) w:=fun _ _=>by kernel_rfl
def AlP (W:World) (es:List En) (e:Ending) (W':World):Prop:=∃ Bs v,W.heap.size<=Bs/\e=.returned (.func (.func 108) #[] #[.pointer (some ⟨Bs,0,none⟩)])/\Ob W' Bs 22 [v]/\Row (fun g=>W.heap.size<=g) W' 43 2 v es.length (Zo es)/\Below W.heap.size W W'
theorem tall_any {w W:World} {s m:Nat} {O:Nat->Prop} {T:List (List Int)} (h:TSw w W s O T m) (hT:T.length<=16000) (hx:TxOk T) (root:Nat) (ls:List (Nat × List En)) (ht:RootT T root ls) (hpos:∀ p ∈ ls,0 < p.2.length) (hsz:(ls.flatMap (fun p=>p.2)).length<=1000) :
  Calls Tryz.prog 65 #[.pointer (some ⟨s,0,none⟩),.int .u64 root] W (AlP W (ls.flatMap (fun p=>p.2))):=by
 have C:=tlist_any h hT hx root ls ht hpos hsz;obtain ⟨es,hes⟩:∃ es,es=ls.flatMap (fun p=>p.2):=⟨_,rfl⟩;rw [<- hes] at C ⊢;have HC:=Za C;clear C h hes hsz hpos ht;go_enter Tryz.func65,Tryz.ntmps65
 go_wp2_with fail
 refine HC.out.mono ?_;rintro e w3 ⟨v,rfl,r3,b3⟩;have hz:=b3.size;obtain ⟨va,vc,hva,_⟩:=r3.form;obtain ⟨n,hn⟩:∃ n,n=es.length:=⟨_,rfl⟩;rw [<- hn] at hva;have b4:Below w3.heap.size w3 (w3.alloc (.cells #[v] 22)):=(Below.refl _ w3).alloc (Nat.le_refl _) _
 have HF:Hid (AlP W es (.returned (.func (.func 108) #[] #[.pointer (some ⟨w3.heap.size,0,none⟩)])) (w3.alloc (.cells #[v] 22))):=by
  refine Za ⟨w3.heap.size,v,hz,rfl,Ob.new w3 [v] 22,r3.onl (F:=fun _=>False) (Onl.ofBelow b4) (fun _ _ q=>q),b3.trans (b4.mono hz)⟩
 rw [hva] at HF;rw [hva];clear r3 b3 hva hn b4 HC;go_wp2;go_ret
 exact HF.out
end Go.Proofs.YtdhebpnkfookcaaGreat
