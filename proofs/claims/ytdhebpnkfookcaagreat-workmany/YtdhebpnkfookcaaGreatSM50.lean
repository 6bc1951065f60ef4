import Derived.Test.YtdhebpnkfookcaaGreatSM49
set_option maxRecDepth 100000
set_option maxHeartbeats 8000000
namespace Go.Proofs.YtdhebpnkfookcaaGreat
section
open Go.RowKit Apo
theorem pg_none:pgT []=1:=by simp [pgT]
theorem room_put {T:List (List Int)} {n:Nat} (hT:T.length+1<=pgT T) (hn:n<=100) (hp:pgT T+22 * (n+1)<=4096):∀ fs,MapOk fs->fs.length<=n+1->(fs.flatMap enB).length<=40000/\pgT (treeT T fs)<=4096:=fun fs ok hl=>by
 have hb:=ok.bytes (by omega);have:=tree_pages (T:=T) ok (by omega) hb (by omega);exact ⟨hb,by omega⟩
theorem pages_put {T:List (List Int)} {fs:List En} {n:Nat} (hT:T.length+1<=pgT T) (hn:n<=100) (hp:pgT T<=4096) (ok:MapOk fs) (hl:fs.length<=n+1):pgT (treeT T fs)<=pgT T+22 * (n+1):=by
 have hb:=ok.bytes (by omega);have:=tree_pages (T:=T) ok (by omega) hb (by omega);omega
theorem one_put {fs:List En} {k v:ByteArray} (h:ApR [] [⟨k,v,false⟩] fs):fs=[⟨k,v⟩]:=by
 have:=h.uniq (apr_set (es:=[]) (riseE_iff.2 (rightE_map rightE_nil).rise) true k v);rw [this];simp [setE,lowE,higE,midE]
theorem awake18 (w:World):Calls Tryz.prog 7 #[] w fun e w'=>e=.returned (.bool true)/\Below w.heap.size w w':=by
 go_enter Tryz.func7,Tryz.ntmps7
 go_wp2_with fail
 refine (tstore_any w).mono ?_;rintro e w1 ⟨s,O,rfl,t1⟩;have C2:=wput_any t1 (by rw [pg_none];omega) (fun t ht=>by simp at ht) root_none (rightE_map rightE_nil) (by simp) ⟨#[97]⟩ ⟨#[49]⟩ ⟨by decide,by decide⟩ (room_put (by rw [pg_none];simp) (by simp) (by rw [pg_none];simp));have HC2:=Za C2;have HB1:=Za t1.bel;have HLO:=Za t1.lo;clear C2 t1;go_wp2_with fail
 refine HC2.out.mono ?_;rintro e w2 hh
 obtain ⟨fs,id,O',T',rfl,hap,hok,hfl,r1,r2,r2',r3,r4,r5,r6⟩:OneP w w1 s O [] 1 [] ⟨⟨#[97]⟩,⟨#[49]⟩,false⟩ e w2:=by
  rcases hh with ⟨q,_⟩ | ⟨_,q⟩
  ·exact absurd (by decide) q
  ·exact q
 have hfs:=one_put hap
 have hpg:pgT T'<=23:=by
  have:=pages_put (T:=[]) (n:=0) (by rw [pg_none];simp) (by omega) (by rw [pg_none];omega) hok hfl;rw [r3.1];rw [pg_none] at this;omega
 have htx:TxOk T':=r2' (fun t ht=>by simp at ht);subst hfs;have hlen:=r4.len;have C3:=wdel_any r4 (by omega) htx r1 hok (by simp) ⟨#[98]⟩ (by decide) (room_put hlen (by simp) (by simp;omega));have HC3:=Za C3;have HR:=Za (And.intro r1 (And.intro r4 (And.intro htx (And.intro hok hpg))));have HB2:=Za (Below.onl HB1.out r6 (fun i q=>HLO.out i q) (Nat.le_refl _));clear C3 r1 r2 r2' r3 r4 r5 r6 hpg htx hok hlen hap hfl hh HC2;go_wp2_with fail
 refine HC3.out.mono ?_;rintro e w3 hh
 obtain ⟨rfl,b3⟩:BadP 3 w2 e w3:=by
  rcases hh with ⟨q,_⟩ | ⟨_,_,q⟩ | ⟨_,⟨x,hx,hk⟩,_⟩
  ·exact absurd (by decide) q
  ·exact q
  ·rw [List.mem_singleton.1 hx] at hk;exact absurd hk (by decide)
 obtain ⟨r1,r4,htx,hok,hpg⟩:=HR.out;have hlen:=r4.len;have hT:T'.length<=16000:=by omega
 obtain ⟨ls,q1,q2,q3,q4⟩:=r1.tree hok (by simp) hT;have C4:=tgettree_any (r4.below b3) hT htx id ls q1 (by rw [q2];exact riseE_iff.2 hok.rise) ⟨#[97]⟩;rw [q2] at C4;have HC4:=Za C4;have HB3:=Za (HB2.out.trans (b3.mono HB2.out.size));have HRI:Hid (Z1 [(⟨⟨#[97]⟩,⟨#[49]⟩⟩:En)]):=Za (riseE_iff.2 hok.rise);clear C4 b3 r1 r4 htx hok hpg hlen hT q1 q2 q3 q4 HR hh HC3;go_wp2_with fail
 refine HC4.out.mono ?_;rintro e w4 ⟨v,b,rfl,hg,b4⟩;obtain ⟨rfl,rfl⟩:v=⟨#[49]⟩/\b=true:=gets_uniq HRI.out hg (.inl ⟨rfl,_,List.mem_singleton.2 rfl,rfl,rfl⟩);have HF:=Za (HB3.out.trans (b4.mono HB3.out.size));clear hg b4;go_wp2;go_ret
 exact ⟨rfl,HF.out⟩
theorem edE_put {k v:ByteArray}:edE ⟨k,v,false⟩=if Z2 k≠0 then Z2 k else valE v:=by
 unfold edE;split
 ·rfl
 ·simp
theorem cEn_len:∀ x,(cEn x).length=2:=fun _=>rfl
theorem ctL_from {es:List En} (l:Nat):∀ d,(ctL es (l+d)).length<=(ctL es l).length
 | 0=>Nat.le_refl _
 | d+1=>Nat.le_trans (ctL_less es (l+d)) (ctL_from l d)
def sumC (es:List En):Nat->Nat
 | 0=>0
 | l+1=>sumC es l+((ctL es l).length+(ctL es (l+1)).length)
theorem sumC_le {es:List En} {c0 c1:Nat} (h0:(ctL es 0).length<=c0) (h1:(ctL es 1).length<=c1):∀ l,sumC es (l+1)<=c0+c1+l * (2 * c1)
 | 0=>by simp only [sumC,Nat.zero_mul,Nat.zero_add];omega
 | l+1=>by
  have ih:=sumC_le h0 h1 l;have e:sumC es (l+2)=sumC es (l+1)+((ctL es (l+1)).length+(ctL es (l+2)).length):=rfl;have a1:=ctL_from (es:=es) 1 l;have a2:=ctL_from (es:=es) 1 (l+1);rw [show 1+l=l+1 by omega] at a1;rw [show 1+(l+1)=l+2 by omega] at a2;rw [Nat.add_mul,Nat.one_mul];have e2:sumC es (l+1+1)=sumC es (l+2):=rfl;omega
theorem fine_lvs {T:List (List Int)} {fs:List En} (hok:MapOk fs) (hl:fs.length<=600) (hb:(fs.flatMap enB).length<=40000) (hTl:T.length<=4096) :
  ∀ l,l<=20->2 * pgT (lvT T fs l).1<=2 * pgT T+4 * fs.length+sumC fs l
 | 0,_=>by
  have:=(lvT_pages (T:=T) hok hl hb (by omega) 0 (by omega)).1;simp only [sumC];omega
 | l+1,h20=>by
  have ih:=fine_lvs hok hl hb hTl l (by omega);have e1:sumC fs (l+1)=sumC fs l+((ctL fs l).length+(ctL fs (l+1)).length):=rfl;by_cases q:(lvT T fs l).2.length<=1
  ·rw [lvT_stop q];omega
  ·obtain ⟨k,hk,hc,he⟩:=lvT_can (T:=T) (es:=fs) l;have hkl:k=l:=by rcases he with he | he;exact he;exact absurd he q
   subst hkl;obtain ⟨_,hlen⟩:=lvT_pages (T:=T) hok hl hb (by omega) k (by omega);have hm:(1+k) * fs.length<=21 * fs.length:=Nat.mul_le_mul_right _ (by omega);have hrow:=(hc.up hok hl (by omega) (by omega)).2.2;rw [lvT_go (by omega)];simp only;obtain ⟨zs,z1,z2,z3⟩:=can_prs hc;generalize (lvT T fs k).1=U at *;generalize (lvT T fs k).2=ks at *
   have e2:Zd (fun e:Ki=>Zf ((k+1:Nat):Int) e.k) ks=(Zd (fun z:Tre × Ki=>Zf ((k+1:Nat):Int) z.1.key) zs).map (List.map Prod.snd):=by
    rw [z2,split_mapT];congr 1
    exact split_congr (fun z hz=>by rw [InT.keys (z3 z hz)])
   have e3:ctL fs (k+1)=(Zd (fun z:Tre × Ki=>Zf ((k+1:Nat):Int) z.1.key) zs).map (fun R=>mkT (R.map Prod.fst)):=by
    show (Zd (fun t:Tre=>Zf ((k+1:Nat):Int) t.key) (ctL fs k)).map mkT=_
    rw [z1,split_mapT,List.map_map];rfl
   obtain ⟨Z,hZ⟩:∃ Z,Z=Zd (fun z:Tre × Ki=>Zf ((k+1:Nat):Int) z.1.key) zs:=⟨_,rfl⟩;have hflat:Z.flatten.length=(ctL fs k).length:=by rw [hZ,ZP,z1];simp
   rw [<- hZ] at e2 e3
   have hns:lvNk (k+1) ks=Z.map (fun R=>(⟨((k+1:Nat):Int),[],R.map Prod.snd⟩:Nd)):=by
    unfold lvNk abns;rw [e2,List.map_map];rfl
   rw [hns];have hp:=pgT_newP (Z.map (fun R=>(⟨((k+1:Nat):Int),[],R.map Prod.snd⟩:Nd))) U
   have hneed:∀ R ∈ Z,2 * Zc ((ZW (⟨((k+1:Nat):Int),[],R.map Prod.snd⟩:Nd)).length:Int)<=R.length+1:=fun R hR=>by
    have:=hrow (R.map Prod.snd) (by rw [e2];exact List.mem_map.2 ⟨R,hR,rfl⟩);rw [List.length_map] at this;exact this
   have hfl:=newP_rows (U:=U) (fun R:List (Tre × Ki)=>(⟨((k+1:Nat):Int),[],R.map Prod.snd⟩:Nd)) (fun _=>true) hneed (fun R _ h=>absurd h (by simp));have h4:Z.length=(ctL fs (k+1)).length:=by rw [e3,List.length_map]
   have h5:=List.countP_le_length (p:=fun _:List (Tre × Ki)=>true) (l:=Z);omega
theorem fine_pages {T:List (List Int)} {fs:List En} {c0 c1:Nat} (hok:MapOk fs) (hl:fs.length<=600) (hb:(fs.flatMap enB).length<=40000) (hTl:T.length<=4096) (h0:(ctL fs 0).length<=c0) (h1:(ctL fs 1).length<=c1):2 * pgT (treeT T fs)<=2 * pgT T+4 * fs.length+c0+39 * c1:=by
 have a:=fine_lvs (T:=T) hok hl hb hTl 20 (Nat.le_refl _);have b:=sumC_le h0 h1 19;have e:sumC fs 20=sumC fs (19+1):=rfl;unfold treeT;omega
theorem ChN.countE (q:En->Bool):∀ {n:Nat} {a b:List En},ChN n a b->b.countP q<=a.countP q+2 * n
 | 0,_,_,h=>by have:_=_:=h;rw [this];omega
 | n+1,a,b,⟨c,h1,h2,_⟩=>by
  have i1:=ChN.countE q h1;have i2:=h2.count q;omega
theorem few_bytes (q:En->Bool) (m M:Nat):∀ {l:List En},(∀ e ∈ l,(enB e).length<=M)->(∀ e ∈ l,q e=false->(enB e).length<=m)->(l.flatMap enB).length<=l.length * m+l.countP q * M
 | [],_,_=>by simp
 | e :: l,h1,h2=>by
  have ih:=few_bytes q m M (l:=l) (fun x hx=>h1 x (by simp [hx])) (fun x hx=>h2 x (by simp [hx]));have a1:=h1 e (by simp);rw [List.flatMap_cons,List.length_append,List.length_cons,List.countP_cons,Nat.add_mul,Nat.one_mul,Nat.add_mul];cases hq:q e with
  | false =>
   have a2:=h2 e (by simp) hq;simp only [Bool.false_eq_true,if_false];omega
  | true =>
   simp only [if_true];omega
theorem split_goS {α:Type} (p:α->Bool) (l:List α):Zd p l=goS p [] l:=by
 have:=goS_cut p l [];simpa [ZN] using this
theorem goS_len {α:Type} (p:α->Bool):∀ (l cur:List α),(goS p cur l).length<=l.countP p+1
 | [],cur=>by unfold goS;split <;> simp
 | z :: l,cur=>by
  unfold goS;rw [List.countP_cons];by_cases h:p z=true
  ·rw [if_pos h,if_pos h,List.length_cons];have:=goS_len p l [];omega
  ·rw [if_neg h,if_neg h];exact goS_len p l _
theorem goS_cnt {α:Type} (p g:α->Bool) (f:List α->Bool) (hf:∀ c z,f (c++[z])=g z):∀ (l cur:List α),(goS p cur l).countP f<=l.countP (fun z=>p z && g z)+1
 | [],cur=>by
  unfold goS;split
  ·simp
  ·rw [List.countP_cons];simp only [List.countP_nil];split <;> omega
 | z :: l,cur=>by
  unfold goS;rw [List.countP_cons];by_cases h:p z=true
  ·rw [if_pos h,List.countP_cons,hf];have:=goS_cnt p g f hf l [];rw [h,Bool.true_and];omega
  ·have h':p z=false:=by simpa using h
   rw [if_neg h,h',Bool.false_and];have:=goS_cnt p g f hf l (cur++[z]);simp only [Bool.false_eq_true,if_false];omega
theorem ct_zero (es:List En):(ctL es 0).length<=es.countP (fun e=>Zf 0 e.k)+1:=by
 show ((Zd (fun e:En=>Zf 0 e.k) es).map Tre.lf).length<=_
 rw [List.length_map,split_goS];exact goS_len _ _ _
theorem ct_one (es:List En):(ctL es 1).length<=es.countP (fun e=>Zf 0 e.k && Zf 1 e.k)+2:=by
 show ((Zd (fun t:Tre=>Zf ((0+1:Nat):Int) t.key) ((Zd (fun e:En=>Zf 0 e.k) es).map Tre.lf)).map mkT).length<=_
 rw [List.length_map,split_goS];have h1:=goS_len (fun t:Tre=>Zf ((0+1:Nat):Int) t.key) ((Zd (fun e:En=>Zf 0 e.k) es).map Tre.lf) [];rw [List.countP_map,split_goS] at h1;have h2:=goS_cnt (fun e:En=>Zf 0 e.k) (fun e:En=>Zf 1 e.k) ((fun t:Tre=>Zf ((0+1:Nat):Int) t.key) ∘ Tre.lf) (fun c z=>by simp [Tre.key,keyRow_snoc]) es [];rw [split_goS];omega
def mkE (i:Nat):En:=⟨strOfNums [97+(i:Int) / 26,97+(i:Int) % 26],⟨#[]⟩⟩
def mE (n:Nat):List En:=(List.range n).map mkE
theorem mE_len (n:Nat):(mE n).length=n:=by simp [mE]
theorem mE_sub {n:Nat} (h:n<=400):(mE n).Sublist (mE 400):=(List.range_sublist.2 h).map mkE
theorem mE_bytes:(mE 400).all (fun e=>decide ((enB e).length<=4))=true:=by kernel_rfl
theorem mE_e0:decide ((mE 400).countP (fun e=>Zf 0 e.k)<=101)=true:=by kernel_rfl
theorem mE_e1:decide ((mE 400).countP (fun e=>Zf 0 e.k && Zf 1 e.k)<=22)=true:=by kernel_rfl
theorem mE_rise:(List.range 399).all (fun i=>ZQ (mkE i).k (mkE (i+1)).k)=true:=by kernel_rfl
theorem mE_at {n i:Nat} (h:i < n):(mE n)[i]?=some (mkE i):=by
 unfold mE;rw [List.getElem?_map,List.getElem?_range h];rfl
theorem mE_succ (n:Nat):mE (n+1)=mE n++[mkE n]:=by simp [mE,List.range_succ]
theorem mE_key {e:En} {n:Nat} (h:e ∈ mE n):e.k.size=2/\e.v.size=0:=by
 unfold mE at h;obtain ⟨i,_,rfl⟩:=List.mem_map.1 h;exact ⟨by unfold mkE;rw [strOfNums_size];rfl,rfl⟩
theorem mE_ok {n:Nat} (hn:n<=400):MapOk (mE n):=by
 refine ⟨rise_of (fun i hi=>?_),fun e he=>by have:=mE_key he;omega,fun e he=>by have:=mE_key he;omega⟩;rw [List.length_map,mE_len] at hi;have h1:((mE n).map En.k).getD i ByteArray.empty=(mkE i).k:=by rw [List.getD_eq_getElem?_getD,List.getElem?_map,mE_at (by omega)];rfl
 have h2:((mE n).map En.k).getD (i+1) ByteArray.empty=(mkE (i+1)).k:=by rw [List.getD_eq_getElem?_getD,List.getElem?_map,mE_at (by omega)];rfl
 rw [h1,h2];have:=List.all_eq_true.1 mE_rise i (List.mem_range.2 (by omega));exact this
theorem mE_small {n:Nat} (hn:n<=400):∀ e ∈ mE n,(enB e).length<=4:=fun e he=>by
 have:=List.all_eq_true.1 mE_bytes e ((mE_sub hn).subset he);exact of_decide_eq_true this
theorem mE_flat {n:Nat} (hn:n<=400):((mE n).flatMap enB).length<=40000:=by
 have h:=few_bytes (fun _=>false) 4 4 (l:=mE n) (mE_small hn) (fun e he _=>mE_small hn e he);have h2:(mE n).countP (fun _=>false)=0:=by rw [List.countP_eq_zero];simp
 rw [h2,mE_len] at h;omega
theorem mE_c0 {n:Nat} (hn:n<=400):(ctL (mE n) 0).length<=102:=by
 have h1:=ct_zero (mE n);have h2:=(mE_sub hn).countP_le (p:=fun e:En=>Zf 0 e.k);have h3:=of_decide_eq_true mE_e0;omega
theorem mE_c1 {n:Nat} (hn:n<=400):(ctL (mE n) 1).length<=24:=by
 have h1:=ct_one (mE n);have h2:=(mE_sub hn).countP_le (p:=fun e:En=>Zf 0 e.k && Zf 1 e.k);have h3:=of_decide_eq_true mE_e1;omega
theorem many_first {n:Nat} (hn:n<=400):pgT (treeT [] (mE n))<=1320:=by
 have:=fine_pages (T:=[]) (mE_ok hn) (by rw [mE_len];omega) (mE_flat hn) (by simp) (mE_c0 hn) (mE_c1 hn);rw [mE_len,show pgT []=1 by simp [pgT]] at this;omega
open Classical in
theorem many_room {n m:Nat} (hn:n<=400) (hm:m<=30) {fs:List En} (hch:ChN m (mE n) fs) (ok:MapOk fs):(fs.flatMap enB).length<=40000/\∀ T:List (List Int),T.length<=4096->pgT T<=1320->pgT (treeT T fs)<=4096:=by
 have hl:=hch.len;rw [mE_len] at hl;have h1:=hch.countE (fun e=>decide (e ∉ mE n))
 have h2:(mE n).countP (fun e=>decide (e ∉ mE n))=0:=by
  rw [List.countP_eq_zero];intro e he;simp [he]
 have hb:=few_bytes (fun e=>decide (e ∉ mE n)) 4 243 (l:=fs) (fun e he=>enB_small (ok.key e he).2 (ok.val e he)) (fun e he hq=>mE_small hn e (by simpa using hq))
 have hb2:(fs.flatMap enB).length<=40000:=by
  have a1:fs.length * 4<=430 * 4:=Nat.mul_le_mul_right _ (by omega);have a2:fs.countP (fun e=>decide (e ∉ mE n)) * 243<=60 * 243:=Nat.mul_le_mul_right _ (by omega);omega
 refine ⟨hb2,fun T hT hp=>?_⟩;have c0:=hch.lv (l:=0);have c1:=hch.lv (l:=1);have d0:=mE_c0 hn;have d1:=mE_c1 hn;have:=fine_pages (T:=T) (c0:=162) (c1:=84) ok (by omega) hb2 hT (by omega) (by omega);omega
theorem mapOk_right18 {es:List En} (h:MapOk es):rightE es=0:=by
 have h1:ZE enE es=0:=firstE_none (fun e he=>by
  have hk:=h.key e he;have hv:=h.val e he;rw [enE_val (keyE_zero hk)];exact valE_zero hv)
 unfold rightE;rw [if_neg (by rw [h1];simp),if_pos h.rise]
theorem Can.trees2B {T:List (List Int)} {es:List En} (hok:MapOk es) (hel:es.length<=600) (hbl:(es.flatMap enB).length<=40000) (hT:T.length<=16000):∀ {l:Nat} {ks:List Ki},l<=20->Can T es l ks->∃ L:List (Nd × List (Nat × List En)),L.length=ks.length/\(∀ (i:Nat) (k:Ki) (x:Nd × List (Nat × List En)),ks[i]?=some k->L[i]?=some x->k.k=Zz x.1/\IsT T l k.i x.1 x.2)/\((L.map Prod.snd).flatten.map Prod.snd=Zd (fun e:En=>Zf 0 e.k) es/\∀ p ∈ (L.map Prod.snd).flatten,T[p.1 - 1]?=some (ZW ⟨0,p.2,[]⟩)/\1<=p.1)
 | 0,ks,_,h=>by
  obtain ⟨g1,_⟩:=hok.leaves (by omega) hbl;obtain ⟨rows,hrows⟩:∃ rows,rows=Zd (fun e:En=>Zf 0 e.k) es:=⟨_,rfl⟩;have h':Kids T (lvns rows) ks:=by rw [hrows];exact h
  rw [<- hrows] at g1;have hlen:ks.length=rows.length:=by have:=h'.1;simpa [lvns] using this
  refine ⟨(ks.zip rows).map (fun x=>(⟨0,x.2,[]⟩,[(x.1.i,x.2)])),by simp;omega,fun i k x hk hx=>?_,?_⟩
  ·rw [List.getElem?_map] at hx;cases hz:(ks.zip rows)[i]? with
   | none=>rw [hz] at hx;cases hx
   | some y =>
    rw [hz] at hx;simp only [Option.map_some,Option.some.injEq] at hx;rw [List.getElem?_zip_eq_some] at hz;obtain ⟨z1,z2⟩:=hz;rw [hk] at z1;have hy1:y.1=k:=by cases z1;rfl
    have hn:(lvns rows)[i]?=some ⟨0,y.2,[]⟩:=by simp [lvns,z2]
    obtain ⟨c1,c2,c3⟩:=h'.2 i _ k hn hk;subst hx;rw [hy1];have gn:=g1 _ (List.mem_of_getElem? hn);exact ⟨c1,gn.nod c3 c2 hT (fun k hk=>by simp at hk),rfl,rfl⟩
  ·have hfl:(((ks.zip rows).map (fun x=>((⟨0,x.2,[]⟩:Nd),[(x.1.i,x.2)]))).map Prod.snd).flatten=(ks.zip rows).map (fun x=>(x.1.i,x.2)):=by
    rw [List.map_map];generalize ks.zip rows=z;induction z with
    | nil=>rfl
    | cons y z ih=>simp only [List.map_cons,List.flatten_cons,ih];rfl
   rw [hfl];refine ⟨?_,fun p hp=>?_⟩
   ·rw [List.map_map,<- hrows];have h2:(Prod.snd ∘ fun x:Ki × List En=>(x.1.i,x.2))=Prod.snd:=rfl;rw [h2,List.map_snd_zip (by omega)]
   ·obtain ⟨y,hy,rfl⟩:=List.mem_map.1 hp;obtain ⟨i,hi,q⟩:=List.mem_iff_getElem.1 hy;have hz:(ks.zip rows)[i]?=some y:=by rw [List.getElem?_eq_getElem hi,q]
    rw [List.getElem?_zip_eq_some] at hz;have hn:(lvns rows)[i]?=some ⟨0,y.2,[]⟩:=by simp [lvns,hz.2]
    obtain ⟨c1,c2,c3⟩:=h'.2 i _ y.1 hn hz.1;exact ⟨c2,c3⟩
 | l+1,ks,hl,⟨ks0,h1,h2,h3⟩=>by
  obtain ⟨L0,p1,p2,p3⟩:=Can.trees2B hok hel hbl hT (by omega) h1;obtain ⟨g1,_⟩:=h1.up hok (by omega) (by omega) (show l < 20 by omega);obtain ⟨lv,hlv⟩:∃ lv:Int,lv=((l+1:Nat):Int):=⟨_,rfl⟩;rw [<- hlv] at h3 g1;obtain ⟨R,hR⟩:∃ R,R=Zd (fun x:Ki × (Nd × List (Nat × List En))=>Zf lv x.1.k) (ks0.zip L0):=⟨_,rfl⟩;have hfst:(ks0.zip L0).map Prod.fst=ks0:=List.map_fst_zip (by omega)
  have hrows:Zd (fun e:Ki=>Zf lv e.k) ks0=R.map (List.map Prod.fst):=by
   rw [hR,<- split_map (f:=Prod.fst) (p:=fun e:Ki=>Zf lv e.k),hfst]
  have hRf:R.flatten=ks0.zip L0:=by rw [hR];exact ZP
  rw [hrows] at h3 g1;have hlen:ks.length=R.length:=by have:=h3.1;simpa [abns] using this
  refine ⟨R.map (fun r=>(⟨lv,[],r.map Prod.fst⟩,(r.map (fun y=>y.2.2)).flatten)),by simp;omega,fun i k x hk hx=>?_,?_⟩
  ·rw [List.getElem?_map] at hx;cases hz:R[i]? with
   | none=>rw [hz] at hx;cases hx
   | some r =>
    rw [hz] at hx;simp only [Option.map_some,Option.some.injEq] at hx;have hn:(abns lv (R.map (List.map Prod.fst)))[i]?=some ⟨lv,[],r.map Prod.fst⟩:=by simp [abns,hz]
    obtain ⟨c1,c2,c3⟩:=h3.2 i _ k hn hk;have gn:=g1 _ (List.mem_of_getElem? hn);subst hx;have hmem:∀ y ∈ r,y ∈ ks0.zip L0:=fun y hy=>by rw [<- hRf];exact List.mem_flatten.2 ⟨r,List.mem_of_getElem? hz,hy⟩
    have hpair:∀ y ∈ r,y.1.k=Zz y.2.1/\IsT T l y.1.i y.2.1 y.2.2:=fun y hy=>by
     obtain ⟨t,ht,q⟩:=List.mem_iff_getElem.1 (hmem y hy);have hq:(ks0.zip L0)[t]?=some y:=by rw [List.getElem?_eq_getElem ht,q]
     rw [List.getElem?_zip_eq_some] at hq;exact p2 t y.1 y.2 hq.1 hq.2
    refine ⟨c1,gn.nod c3 c2 hT (fun k hk'=>?_),hlv,by omega,r.map (fun y=>y.2.1),r.map (fun y=>y.2.2),by simp,by simp,fun j k' n' x' hk' hn' hx'=>?_,rfl⟩
    ·simp only [List.mem_map] at hk';obtain ⟨y,hy,rfl⟩:=hk';exact (hpair y hy).2.nod.1.lt
    ·rw [List.getElem?_map] at hk' hn' hx';cases hy:r[j]? with
     | none=>rw [hy] at hk';cases hk'
     | some y =>
      rw [hy] at hk' hn' hx';simp only [Option.map_some,Option.some.injEq] at hk' hn' hx';subst hk' hn' hx';exact hpair y (List.mem_of_getElem? hy)
  ·have hsnd:(ks0.zip L0).map Prod.snd=L0:=List.map_snd_zip (by omega)
   have h5:((R.map (fun r=>((⟨lv,[],r.map Prod.fst⟩:Nd),(r.map (fun y=>y.2.2)).flatten))).map Prod.snd).flatten=(L0.map Prod.snd).flatten:=by
    rw [List.map_map,<- hsnd,<- hRf,List.map_map]
    have:∀ R:List (List (Ki × (Nd × List (Nat × List En)))),(R.map (Prod.snd ∘ fun r=>((⟨lv,[],r.map Prod.fst⟩:Nd),(r.map (fun y=>y.2.2)).flatten))).flatten=(R.flatten.map (Prod.snd ∘ Prod.snd)).flatten:=by
     intro R;induction R with
     | nil=>rfl
     | cons r R ih =>
      simp only [List.map_cons,List.flatten_cons,List.map_append,List.flatten_append,ih];rfl
    exact this R
   rw [h5];exact p3
theorem RootOf.tree2B {T:List (List Int)} {es:List En} {id:Nat} (hok:MapOk es) (hel:es.length<=600) (hbl:(es.flatMap enB).length<=40000) (hT:T.length<=16000) (h:RootOf T es id):∃ ls,RootT T id ls/\ls.map Prod.snd=Zd (fun e:En=>Zf 0 e.k) es/\∀ p ∈ ls,T[p.1 - 1]?=some (ZW ⟨0,p.2,[]⟩)/\1<=p.1/\p.1<=T.length:=by
 obtain ⟨l,ks,h1,h2,h3,h4⟩:=h;obtain ⟨L,p1,p2,p3,p4⟩:=h1.trees2B hok hel hbl hT h2
 have lt:∀ p:Nat × List En,T[p.1 - 1]?=some (ZW ⟨0,p.2,[]⟩)/\1<=p.1->p.1<=T.length:=fun p q=>by
  have:=(List.getElem?_eq_some_iff.1 q.1).1;omega
 match ks,L,p1 with
 | [],[],_=>exact ⟨[],.inl ⟨h4,rfl⟩,p3,fun p hp=>by simp at hp⟩
 | [k],[x],_ =>
  obtain ⟨c1,c2⟩:=p2 0 k x rfl rfl;have hid:id=k.i:=h4;rw [<- hid] at c2;simp only [List.map_cons,List.map_nil,List.flatten_cons,List.flatten_nil,List.append_nil] at p3 p4;exact ⟨x.2,.inr ⟨l,x.1,c2⟩,p3,fun p hp=>⟨(p4 p hp).1,(p4 p hp).2,lt p (p4 p hp)⟩⟩
 | _ :: _ :: _,_,_=>simp at h3
theorem tedit_mapB {w W:World} {s m:Nat} {O:Nat->Prop} {T:List (List Int)} (h:TSw w W s O T m) (hp:pgT T<=4096) (hx:TxOk T) {es:List En} {id:Nat} (hr:RootOf T es id) (hok:MapOk es) (hbl:(es.flatMap enB).length<=40000) (ea:Option Addr) (ec:Nat) (l:List Ed) (hl:RdG cEd 3 W ea l) (hll:es.length+l.length<=600) (hE:∀ x ∈ l,edE x=0) (hz:∀ x ∈ l,x.k.size<=maxLen/\x.v.size<=maxLen)
  (hroom:∀ fs,ApR es l fs->ChN l.length es fs->MapOk fs->fs.length<=es.length+l.length->(fs.flatMap enB).length<=40000/\pgT (treeT T fs)<=4096) :
  Calls Tryz.prog 36 #[.pointer (some ⟨s,0,none⟩),.int .u64 id,.slice ea l.length ec] W fun e W'=>∃ fs,ApR es l fs/\ChN l.length es fs/\MapOk fs/\fs.length<=es.length+l.length/\TRoot w W s O T m fs e W':=by
 have hT:T.length<=4095:=by have:=h.len;omega
 have hml:maxLen<=9223372036854775807:=by decide
 obtain ⟨ls,q1,q2,q3⟩:=hr.tree2B hok (by omega) hbl (by omega);have q4:ls.flatMap (fun p=>p.2)=es:=split_entT q2
 have q5:∀ p ∈ ls,0 < p.2.length:=by
  rcases q1 with ⟨_,rfl⟩ | ⟨l,nn,q1⟩
  ·intro p hp;simp at hp
  ·exact q1.leaves
 have q6:ls.length<=1000:=by
  have h3:=rows_lenT (rows:=ls.map Prod.snd) (fun r hr=>by obtain ⟨p,q,rfl⟩:=List.mem_map.1 hr;exact q5 p q);rw [q2] at h3;rw [ZP,<- q2,List.length_map] at h3;omega
 have C:=tedit_any h (by omega) hx id ls q1 q5 (by rw [q4];omega) q6 q3 (by rw [q4];exact hok.rise) ea ec l hl (by omega) (fun y hy=>by have h1:=edE_ok (hE y hy);have h2:=hz y hy;exact ⟨h1.1,h1.2,by omega,by omega⟩) (fun fs hf=>by
  rw [q4] at hf;obtain ⟨c1,c2,c3⟩:=hf.chain hok hE;obtain ⟨r1,r2⟩:=hroom fs hf c1 c2 c3;exact ⟨by omega,c2,r1,r2⟩)
 rw [q4] at C;refine C.mono ?_;rintro e W' ⟨fs,hf,ht⟩;obtain ⟨c1,c2,c3⟩:=hf.chain hok hE;exact ⟨fs,hf,c1,c2,c3,ht⟩
end
section
open Go.RowKit Go.Shelf Apo
theorem wdo_anyB {w W:World} {s m:Nat} {O:Nat->Prop} {T:List (List Int)} (h:TSw w W s O T m) (hp:pgT T<=4096) (hx:TxOk T) {es:List En} {id:Nat} (hr:RootOf T es id) (hok:MapOk es) (hbl:(es.flatMap enB).length<=40000) (ea:Option Addr) (ec:Nat) (l:List Ed) (hl:RdG cEd 3 W ea l) (hlb:∀ x,ea=some x->x.block < W.heap.size/\¬ O x.block) (hll:es.length+l.length<=600) (hE:∀ x ∈ l,edE x=0) (hz:∀ x ∈ l,x.k.size<=maxLen/\x.v.size<=maxLen)
  (hroom:∀ fs,ApR es l fs->ChN l.length es fs->MapOk fs->fs.length<=es.length+l.length->(fs.flatMap enB).length<=40000/\pgT (treeT T fs)<=4096) :
  Calls Tryz.prog 19 #[.pointer (some ⟨s,0,none⟩),.int .u64 id,.slice ea l.length ec] W (DoP w W s O T m es l):=by
 refine wdo_walk (tedit_mapB h hp hx hr hok hbl ea ec l hl hll hE hz hroom) (fun fs W' O' T' hap ht t4 hs htx ho=>?_);obtain ⟨c1,c2,c3⟩:=hap.chain hok hE;have hpg:=(hroom fs hap c1 c2 c3).2
 have hT':T'.length<=16000:=by
  have:=t4.len;rw [ht] at this ⊢;omega
 obtain ⟨ls,q1,q2,q3,_⟩:=(hr.sub hs).treeB hok (by omega) hbl hT';have q2':ls.flatMap (fun p=>p.2)=es:=q2;have C:=wkeys_any t4 hT' (htx hx) id ls q1 q3 (by rw [q2'];omega) ea ec l (hl.onl ho (fun x hx=>(hlb x hx).2)) (fun x hx=>Nat.lt_of_lt_of_le (hlb x hx).1 ho.size) (by omega);rwa [q2'] at C
end
section
open Go.RowKit Apo
open Classical in
theorem tells18B {w W:World} {s m:Nat} {O:Nat->Prop} {T:List (List Int)} (h:TSw w W s O T m) (hT:T.length<=16000) (hx:TxOk T) {fs:List En} {id:Nat} (hr:RootOf T fs id) (hok:MapOk fs) (hl:fs.length<=600) (hbl:(fs.flatMap enB).length<=40000) (a:Option Addr) (c:Nat) (gs:List En) (hg:RdEn W a gs) :
  Calls Tryz.prog 16 #[.pointer (some ⟨s,0,none⟩),.int .u64 id,.slice a gs.length c] W fun e W'=>e=.returned (.bool (decide (fs=gs)))/\Below W.heap.size W W':=by
 obtain ⟨ls,q1,q2,q3,_⟩:=hr.treeB hok hl hbl hT;have q2':ls.flatMap (fun p=>p.2)=fs:=q2;have C:=tlist_any h hT hx id ls q1 q3 (by rw [q2'];omega);rw [q2'] at C;obtain ⟨n,hn⟩:∃ n,n=gs.length:=⟨_,rfl⟩;have HC:=Za C;have HG:=Za hg;have HN:=Za hn;rw [<- hn];clear C h hT hx hr hok hg hn q1 q2 q3 q2';go_enter Tryz.func16,Tryz.ntmps16
 go_wp2_with fail
 refine HC.out.mono ?_;rintro e w1 ⟨v,rfl,row,b1⟩;obtain ⟨va,vc,hv,rd,_⟩:=rd_ecells row;subst hv;have CS:=sameEn_any va vc fs a c gs w1 rd (HG.out.below b1) (by omega);rw [<- HN.out] at CS;obtain ⟨k,hk⟩:∃ k,k=fs.length:=⟨_,rfl⟩;rw [<- hk] at CS ⊢;have HS:=Za CS;have HB:=Za b1;clear CS row rd b1 hk HC;go_wp2_with fail
 refine HS.out.mono ?_;rintro e w2 ⟨rfl,b2⟩;have HF:=Za (HB.out.trans (b2.mono HB.out.size));clear b2;go_wp2;go_ret
 exact ⟨rfl,HF.out⟩
end
section
open Go.RowKit Apo Go.ChangeShapes Go.WideShapes Go.Deep
structure StA where
 a:Option Addr
 c:Nat
 l:List ByteArray
structure OkSt (w:World) (x:StA):Prop where
 rd:RdG cTx 1 w x.a x.l
 sz:∀ f ∈ x.l,f.size<=maxLen
 len:x.l.length<=x.c
 big:x.c<=maxLen
 nil:x.a=none->x.c=0
section
variable {H:Type} {enc:TypeId × Value->H} {w:World} {base:Nat} {spare:Nat->Bool} {held:Bool}
theorem open_strs {fuel:Nat} {v:Value} {x:DataW H × List MemPlace} (h:DataW.trod enc Tryz.prog w base spare held fuel 40 [v]=some x) :
  ∃ (a:Option Addr) (cap:Nat) (fs:List ByteArray),v=.slice a fs.length cap/\RdG cTx 1 w a fs/\(∀ f ∈ fs,f.size<=maxLen)/\fs.length<=cap/\cap<=maxLen/\(a=none->cap=0):=by
 rcases open_slice Tryz.underlying40 h with ⟨hcs,_⟩ | ⟨ad,len,cap,m,n,D,Pl,hcs,hb,hl,hm,hmm,_,hx⟩
 ·simp only [List.cons.injEq,and_true] at hcs;exact ⟨none,0,[],hcs,(fun i e hi=>by simp at hi),by simp,by simp,by omega,fun _=>rfl⟩
 ·simp only [List.cons.injEq,and_true] at hcs;have hlm:len<=m:=by rw [hmm];split <;> omega
  have ce:Tryz.prog.cellsOf 9=1:=by kernel_rfl
  have each:∀ i,i < len->∃ f:ByteArray,w.cell? (ad.add i)=some (.string f)/\f.size<=maxLen:=by
   intro i hi;obtain ⟨cs',h1,h2⟩:=hx i (by omega);rw [ce] at h1;obtain ⟨_,hlen,hcell⟩:=World.cells?_some h1
   match cs',hlen with
   | [v0],_ =>
    obtain ⟨kk,e0,_,w0⟩:=DataW.trod_string Tryz.underlying9 h2;have q0:=hcell 0 (by omega);rw [add_add] at q0;simp only [List.cons.injEq,and_true] at e0;subst e0;exact ⟨kk,by simpa using q0,w0⟩
  obtain ⟨F,hF⟩:=choose_lt each;refine ⟨some ad,cap,(List.range len).map F,by simpa using hcs,?_,?_,by simp;omega,by omega,fun e=>by cases e⟩
  ·intro i f hi;obtain ⟨hlt,hv⟩:=List.getElem?_eq_some_iff.1 hi
   have hil:i < len:=by simpa using hlt
   have hfi:F i=f:=by simpa using hv
   have p0:=(hF i hil).1;have z0:=(hF 0 (by omega)).1;obtain ⟨b,off,spot⟩:=ad;have hspot:spot=none:=by simpa [Addr.add] using World.cell?_spot z0
   subst hspot;rw [hfi] at p0;refine ⟨b,off,rfl,fun j u hj=>?_⟩;have hj0:j=0:=by have:=(List.getElem?_eq_some_iff.1 hj).1;simp [cTx] at this;omega
   subst hj0;simp only [cTx,List.getElem?_cons_zero,Option.some.injEq] at hj;subst hj;rw [add_plain] at p0;simpa using p0
  ·intro f hf;simp only [List.mem_map,List.mem_range] at hf;obtain ⟨i,hi,rfl⟩:=hf;exact (hF i hi).2
theorem strs_in {r:Reach} {b0:Nat} {v:Value} {d:DataW H} {ps:List MemPlace} (hval:Value.okWide Tryz.prog w r b0 40 v) (h:DataW.Trod enc Tryz.prog w base spare held 40 v d ps):∃ t:StA,v=.slice t.a t.l.length t.c/\OkSt w t:=by
 obtain ⟨a,l,c,rfl⟩:=okWide_slice Tryz.underlying40 hval;obtain ⟨fuel,hf⟩:=h;obtain ⟨a',c',fs,e,h1,h2,h3,h4,h5⟩:=open_strs hf;exact ⟨⟨a',c',fs⟩,e,⟨h1,h2,h3,h4,h5⟩⟩
end
end
section
open Go.RowKit Apo
attribute [local go_sem ↓] app_exec
theorem rapply_lie (w:World) (a b:Option Addr) (ca cb:Nat) (es:List En) (l:List Ed) (ha:RdEn w a es) (hb:RdG cEd 3 w b l) (hla:es.length<=1000) (hlb:l.length<=1000) (hr:Z1 es) (han:a=none->ca=0) (P:Nat->Prop) (hP:∀ x,a=some x->P x.block) (hP2:∀ g,w.heap.size<=g->P g) :
  Calls Tryz.prog 18 #[.slice a es.length ca,.slice b l.length cb] w fun e w'=>∃ (fs:List En) (va:Option Addr) (vc:Nat),e=.returned (.slice va fs.length vc)/\ApR es l fs/\RdEn w' va fs/\(va=none->vc=0)/\(∀ x,va=some x->P x.block)/\fs.length<=es.length+l.length/\Below w.heap.size w w':=by
 obtain ⟨n,hn⟩:∃ n,n=es.length:=⟨_,rfl⟩;obtain ⟨m,hm⟩:∃ m,m=l.length:=⟨_,rfl⟩;have HN:=Za hn;have HM:=Za hm;have HA:=Za (And.intro ha (And.intro han hP));have HP2:=Za hP2;have HBL:=Za hb;have HRI:=Za hr;rw [<- hn] at hla;rw [<- hm] at hlb;rw [<- hn,<- hm];clear ha han hb hn hm hr hP hP2;go_enter Tryz.func18,Tryz.ntmps18
 go_wp2;go_loopw [0,9] (fun v i wr=>∃ (k:Nat) (cur:List En) (va:Option Addr) (vc nk:Nat),k<=m/\i=.int .i64 k/\v=.slice va nk vc/\Hid (nk=cur.length)/\Hid (ApR es (l.take k) cur)/\Hid (RdEn wr va cur/\(va=none->vc=0)/\∀ x,va=some x->P x.block)/\Hid (cur.length<=n+k)/\Hid (Below w.heap.size w wr)) (fun _ i _=>m - (intOf i).toNat)
 case atStart=>exact ⟨0,es,a,ca,n,Nat.zero_le _,rfl,rfl,HN,Za (by simpa using ApR.nil HRI.out),HA,Za (by have:=HN.out;omega),Za (Below.refl _ _)⟩
 case round =>
  obtain ⟨k,cur,va,vc,nk,hk,rfl,rfl,HNK,HAP,HRC,HLC,HBr⟩:=hrel;by_cases hkm:k < m
  ·obtain ⟨⟨xk,xv,xg⟩,hx⟩:∃ x,l[k]?=some x:=⟨l[k]'(by have:=HM.out;omega),List.getElem?_eq_getElem _⟩;obtain ⟨g,o,rfl,c0,c1,c2⟩:=(HBL.out.below HBr.out).ed hx;simp only at c0 c1 c2;obtain ⟨W1,hW1⟩:∃ W1,W1=wr.alloc (.cells #[.string xk,.string xv,.bool xg] 46):=⟨_,rfl⟩;have b1:Below wr.heap.size wr W1:=by rw [hW1];exact (Below.refl _ wr).alloc (Nat.le_refl _) _
   have kb:Ob W1 wr.heap.size 46 [.string xk,.string xv,.bool xg]:=by rw [hW1];exact Ob.new wr [.string xk,.string xv,.bool xg] 46
   have y0:=kb.cell 0;have y1:=kb.cell 1;have y2:=kb.cell 2;simp only [List.getElem?_cons_zero,List.getElem?_cons_succ] at y0 y1 y2;have CS:=rset_any W1 va vc cur xk xv (!xg) (HRC.out.1.below b1) (by have:=HLC.out;omega) HAP.out.1;rw [<- HNK.out] at CS;have HCS:=Za CS;have HB1:=Za (HBr.out.trans (b1.mono HBr.out.size));have htk:l.take (k+1)=l.take k++[⟨xk,xv,xg⟩]:=by rw [List.take_add_one,hx];rfl
   have HTK:=Za htk;rw [hW1] at y0 y1 y2;clear CS b1 kb htk hx;go_wp2_with fail
   rw [<- hW1];clear hW1;refine HCS.out.mono ?_;rintro e' w2 ⟨fs,va2,vc2,rfl,hfs,row2,b2⟩;obtain ⟨a',cp',hv',rd',_,_,hnil',_⟩:=rd_gcells cEn_len row2;injection hv' with e1 _ e3
   subst e1 e3
   have HAP2:Hid (ApR es (l.take (k+1)) fs):=by
    rw [HTK.out,hfs];have h1:=setE_ok (has:=!xg) (kv:=⟨xk,xv⟩) HAP.out.1;rw [Bool.not_not] at h1;exact Za (HAP.out.snoc h1)
   have HRC2:=Za (And.intro (RdG.en.1 rd') (And.intro hnil' (fun (x:Addr) (hx:va2=some x)=>HP2.out x.block (by have h1:=row2.2 x.block (by rw [hx];rfl);have h2:=HB1.out.size;omega))))
   have HLC2:Hid (fs.length<=n+(k+1)):=by
    have h2:fs.length<=cur.length+1:=by
     rw [hfs];exact setE_len
    have:=HLC.out;exact Za (by omega)
   have HB2:=Za (HB1.out.trans (b2.mono HB1.out.size));obtain ⟨n2,hn2⟩:∃ n2,n2=fs.length:=⟨_,rfl⟩;have HN2:=Za hn2;rw [<- hn2];clear hfs row2 b2 rd' hn2 hnil';go_wp2;go_roundw
   case rel=>exact ⟨k+1,fs,va2,vc2,n2,by omega,by simp,rfl,HN2,HAP2,HRC2,HLC2,HB2⟩
   case measure=>simp [intOf];omega
  ·have HF:Hid (∃ (fs:List En) (va':Option Addr) (vc':Nat),(Ending.returned (.slice va nk vc):Ending)=.returned (.slice va' fs.length vc')/\ApR es l fs/\RdEn wr va' fs/\(va'=none->vc'=0)/\(∀ x,va'=some x->P x.block)/\fs.length<=n+m/\Below w.heap.size w wr):=by
    have h1:=HAP.out;rw [List.take_of_length_le (by have:=HM.out;omega)] at h1;exact Za ⟨cur,va,vc,by rw [HNK.out],h1,HRC.out.1,HRC.out.2.1,HRC.out.2.2,by have:=HLC.out;omega,HBr.out⟩
   clear HAP;go_wp2;go_ret
   exact HF.out
end
end Go.Proofs.YtdhebpnkfookcaaGreat
