import Derived.Test.YtdhebpnkfookcaaGreatRM52
import Derived.Test.YtdhebpnkfookcaaGreatRM48
set_option maxRecDepth 100000
set_option maxHeartbeats 4000000
namespace Go.Proofs.YtdhebpnkfookcaaGreat
open Go.RowKit Apo
section
open Classical in
noncomputable def offL (la lb:List (Nat × List En)):List (Nat × List En):=la.filter (fun p=>decide (kidOf p ∉ Zq lb))
theorem kidsOf_off (la lb:List (Nat × List En)):lessK (Zq lb) (Zq la)=Zq (offL la lb):=by
 unfold lessK Zq offL;rw [List.filter_map];rfl
theorem Z4 (la:List (Nat × List En)):(Zq la).length=la.length:=by simp [Zq]
theorem offL_mem {la lb:List (Nat × List En)} {p:Nat × List En} (h:p ∈ offL la lb):p ∈ la:=(List.mem_filter.1 h).1
theorem offL_len (la lb:List (Nat × List En)):(offL la lb).length<=la.length:=List.length_filter_le _ _
theorem entP_off (la lb:List (Nat × List En)):(ZQ (offL la lb)).length<=(ZQ la).length:=by
 unfold offL ZQ;induction la with
 | nil=>simp
 | cons p l ih =>
  rw [List.filter_cons];split
  ·simp only [List.flatMap_cons,List.length_append];omega
  ·simp only [List.flatMap_cons,List.length_append];omega
structure LvsT (T:List (List Int)) (root:Nat) (ls:List (Nat × List En)):Prop where
 root:RootT T root ls
 ld:∀ p ∈ ls,loadT T p.1=(⟨0,p.2,[]⟩,0)/\p.1 < 18446744073709551616/\0 < p.2.length
 kz:∀ f ∈ Zq ls,OkK f
 len:ls.length<=1000
 few:(ZQ ls).length<=1000
def DTP (la lb:List (Nat × List En)) (w:World) (e:Ending) (w':World):Prop:=∃ (cs:List Ch) (va:Option Addr) (vc:Nat),e=.returned (.tuple #[.slice va cs.length vc,.int .i64 (((offL la lb).length+(offL lb la).length:Nat):Int),.int .i64 0])/\OfR (ZQ (offL la lb)) (ZQ (offL lb la)) cs/\Row (fun g=>w.heap.size<=g) w' 80 5 (.slice va cs.length vc) cs.length (Zf cCh cs)/\Below w.heap.size w w'
theorem trees_any {w W:World} {s m:Nat} {O:Nat->Prop} {T:List (List Int)} (h:TSw w W s O T m) (hT:T.length<=16000) (hx:TxOk T) {ra rb:Nat} {la lb:List (Nat × List En)} (ha:LvsT T ra la) (hb:LvsT T rb lb) :
  Calls Tryz.prog 39 #[.pointer (some ⟨s,0,none⟩),.int .u64 ra,.int .u64 rb] W (DTP la lb W):=by
 have HS:=Za h;have HTL:=Za hT;have HX:=Za hx;have HA:=Za ha;have HBL:=Za hb;have HL1:=Za (tleaves_any h hT hx ra la ha.root ha.len);clear h hT hx ha hb;go_enter Tryz.func39,Tryz.ntmps39
 go_wp2_with fail
 refine HL1.out.mono ?_;rintro e w1 ⟨v,rfl,row1,b1⟩;obtain ⟨a1,c1,rfl,r1,_⟩:=rd_kcells row1;have HL2:=Za (tleaves_any (HS.out.below b1) HTL.out HX.out rb lb HBL.out.root HBL.out.len);have HR1:=Za r1;have HB1:=Za b1;rw [Z4];obtain ⟨n1,hn1⟩:∃ n,n=la.length:=⟨_,rfl⟩;have HN1:=Za hn1;rw [<- hn1];clear HL1 row1 r1 b1 hn1;go_wp2_with fail
 refine HL2.out.mono ?_;rintro e w2 ⟨v,rfl,row2,b2⟩;obtain ⟨a2,c2,rfl,r2,_⟩:=rd_kcells row2;have HR1:=Za (HR1.out.below b2);have HB2:=Za (HB1.out.trans (b2.mono HB1.out.size));have HC3:=Za (without_any w2 a1 a2 c1 c2 (Zq la) (Zq lb) HR1.out r2 (by rw [Z4];have:=HA.out.len;omega) (by rw [Z4];have:=HBL.out.len;omega) HA.out.kz HBL.out.kz);have HR2:=Za r2;rw [Z4];obtain ⟨n2,hn2⟩:∃ n,n=lb.length:=⟨_,rfl⟩;have HN2:=Za hn2;rw [<- hn2];rw [Z4,Z4,<- HN1.out,<- hn2] at HC3;clear HL2 row2 r2 b2 hn2;go_wp2_with fail
 refine HC3.out.mono ?_;rintro e w3 ⟨a3,c3,rfl,r3,_,_,_,b3⟩;rw [kidsOf_off] at r3 ⊢;rw [Z4];have HB3:=Za (HB2.out.trans (b3.mono HB2.out.size));have HC4:=Za (without_any w3 a2 a1 c2 c1 (Zq lb) (Zq la) (HR2.out.below b3) (HR1.out.below b3) (by rw [Z4];have:=HBL.out.len;omega) (by rw [Z4];have:=HA.out.len;omega) HBL.out.kz HA.out.kz);have HR3:=Za r3;obtain ⟨x1,hx1⟩:∃ n,n=offL la lb:=⟨_,rfl⟩;have HX1:=Za hx1;rw [<- hx1] at HR3 ⊢;obtain ⟨n3,hn3⟩:∃ n,n=x1.length:=⟨_,rfl⟩;have HN3:=Za hn3;rw [<- hn3];rw [Z4,Z4,<- HN1.out,<- HN2.out] at HC4;clear HC3 r3 b3 hx1 hn3;go_wp2_with fail
 refine HC4.out.mono ?_;rintro e w4 ⟨a4,c4,rfl,r4,_,_,_,b4⟩;rw [kidsOf_off] at r4 ⊢;rw [Z4];have HB4:=Za (HB3.out.trans (b4.mono HB3.out.size));obtain ⟨x2,hx2⟩:∃ n,n=offL lb la:=⟨_,rfl⟩;have HX2:=Za hx2;rw [<- hx2] at r4 ⊢;obtain ⟨n4,hn4⟩:∃ n,n=x2.length:=⟨_,rfl⟩;have HN4:=Za hn4;have HR4:=Za r4;have HC5:=Za (entries_any (HS.out.below HB4.out) HTL.out HX.out x1 a3 c3 (HR3.out.below b4) (fun p hp=>HA.out.ld p (offL_mem (by rw [<- HX1.out];exact hp))) (by have:=HA.out.len;have:=offL_len la lb;rw [HX1.out];omega) (by have:=HA.out.few;have:=entP_off la lb;rw [HX1.out];omega));rw [<- hn4];rw [<- HN3.out] at HC5;clear HC4 r4 b4 hx2 hn4;go_wp2_with fail
 refine HC5.out.mono ?_;rintro e w5 ⟨a5,c5,rfl,r5,q5,m5,b5⟩;have HB5:=Za (HB4.out.trans (b5.mono HB4.out.size));have HC6:=Za (entries_any (HS.out.below HB5.out) HTL.out HX.out x2 a4 c4 (HR4.out.below b5) (fun p hp=>HBL.out.ld p (offL_mem (by rw [<- HX2.out];exact hp))) (by have:=HBL.out.len;have:=offL_len lb la;rw [HX2.out];omega) (by have:=HBL.out.few;have:=entP_off lb la;rw [HX2.out];omega));have HR5:=Za r5;have HQ5:=Za (And.intro q5 m5);rw [<- HN4.out] at HC6;obtain ⟨n5,hn5⟩:∃ n,n=(ZQ x1).length:=⟨_,rfl⟩;have HN5:=Za hn5;rw [<- hn5];clear HC5 r5 q5 m5 b5 hn5;go_wp2_with fail
 refine HC6.out.mono ?_;rintro e w6 ⟨a6,c6,rfl,r6,q6,m6,b6⟩;have HB6:=Za (HB5.out.trans (b6.mono HB5.out.size));have HC7:=Za (dof_any w6 a5 a6 c5 c6 (ZQ x1) (ZQ x2) (HR5.out.below b6) r6 (by have:=HA.out.few;have:=entP_off la lb;rw [HX1.out];omega) (by have:=HBL.out.few;have:=entP_off lb la;rw [HX2.out];omega) HQ5.out.1 q6 HQ5.out.2 m6);rw [<- HN5.out] at HC7;obtain ⟨n6,hn6⟩:∃ n,n=(ZQ x2).length:=⟨_,rfl⟩;rw [<- hn6] at HC7 ⊢;have h3:n3<=1000:=by have:=HA.out.len;have:=offL_len la lb;rw [HN3.out,HX1.out];omega
 have h4:n4<=1000:=by have:=HBL.out.len;have:=offL_len lb la;rw [HN4.out,HX2.out];omega
 clear HC6 r6 q6 m6 b6 hn6;go_wp2_with fail
 refine HC7.out.mono ?_;rintro e w7 ⟨cs,va,vc,rfl,hof,row7,b7⟩
 have HF:Hid (DTP la lb W (.returned (.tuple #[.slice va cs.length vc,.int .i64 ((n3:Int)+(n4:Int)),.int .i64 0])) w7):=by
  have e1:=HX1.out;have e2:=HX2.out;refine Za ⟨cs,va,vc,?_,by rw [<- e1,<- e2];exact hof,row7.mono (fun g hg=>by have:=HB6.out.size;omega),HB6.out.trans (b7.mono HB6.out.size)⟩;rw [HN3.out,HN4.out,e1,e2];simp
 clear hof row7 b7;go_wp2;refine bodyPost_ret (by simp [results,Tryz.results39,go_sem];rfl) rfl ?_;exact HF.out
theorem leaf_one:∀ {la:List (Nat × List En)},Zz (ZQ la)->∀ p ∈ la,∀ q ∈ la,∀ e ∈ p.2,∀ f ∈ q.2,e.k=f.k->p=q
 | [],_,p,hp,_,_,_,_,_,_,_=>by simp at hp
 | x :: l,h,p,hp,q,hq,e,he,f,hf,hk=>by
  have h':Zz (x.2++ZQ l):=h;unfold Zz at h';rw [List.pairwise_append] at h';obtain ⟨_,h2,h3⟩:=h';have ent:∀ z ∈ l,∀ y ∈ z.2,y ∈ ZQ l:=fun z hz y hy=>List.mem_flatMap.2 ⟨z,hz,hy⟩
  rcases List.mem_cons.1 hp with rfl | hp'
  ·rcases List.mem_cons.1 hq with rfl | hq'
   ·rfl
   ·have:=h3 e he f (ent q hq' f hf);rw [hk,ZM] at this;cases this
  ·rcases List.mem_cons.1 hq with rfl | hq'
   ·have:=h3 f hf e (ent p hp' e he);rw [hk,ZM] at this;cases this
   ·exact leaf_one h2 p hp' q hq' e he f hf hk
theorem mem_entP {la:List (Nat × List En)} {e:En}:e ∈ ZQ la↔∃ p ∈ la,e ∈ p.2:=List.mem_flatMap
theorem mem_offL {la lb:List (Nat × List En)} {p:Nat × List En}:p ∈ offL la lb↔p ∈ la/\¬ kidOf p ∈ Zq lb:=by
 unfold offL;rw [List.mem_filter];simp
theorem offL_rise {la lb:List (Nat × List En)} (h:Zz (ZQ la)):Zz (ZQ (offL la lb)):=by
 refine List.Pairwise.sublist ?_ h;unfold ZQ offL;induction la with
 | nil=>simp
 | cons p l ih =>
  have h2:Zz (ZQ l):=by
   have h':Zz (p.2++ZQ l):=h;exact (List.pairwise_append.1 h').2.1
  rw [List.filter_cons];split
  ·exact List.Sublist.append (List.Sublist.refl _) (ih h2)
  ·exact (ih h2).trans (List.sublist_append_right p.2 (l.flatMap Prod.snd))
def SameT (la lb:List (Nat × List En)):Prop:=∀ p ∈ la,∀ q ∈ lb,p.1=q.1->p.2=q.2
theorem kid_mem {p:Nat × List En} {lb:List (Nat × List En)} (h:kidOf p ∈ Zq lb):∃ q ∈ lb,q.1=p.1:=by
 obtain ⟨q,hq,e⟩:=List.mem_map.1 h;exact ⟨q,hq,by have:=congrArg Ki.i e;exact this⟩
theorem gets_off {la lb:List (Nat × List En)} {key v:ByteArray} {b:Bool} (hn:∀ p ∈ la,kidOf p ∈ Zq lb->∀ e ∈ p.2,e.k≠key):Gets (ZQ (offL la lb)) key v b↔Gets (ZQ la) key v b:=by
 have hm:∀ e:En,e.k=key->(e ∈ ZQ (offL la lb)↔e ∈ ZQ la):=fun e hk=>by
  rw [mem_entP,mem_entP];constructor
  ·rintro ⟨p,hp,he⟩;exact ⟨p,(mem_offL.1 hp).1,he⟩
  ·rintro ⟨p,hp,he⟩;exact ⟨p,mem_offL.2 ⟨hp,fun q=>hn p hp q e he hk⟩,he⟩
 unfold Gets;constructor
 ·rintro (⟨h1,e,h2,h3,h4⟩ | ⟨h1,h2,h3⟩)
  ·exact .inl ⟨h1,e,(hm e h3).1 h2,h3,h4⟩
  ·exact .inr ⟨h1,h2,fun e he hk=>h3 e ((hm e hk).2 he) hk⟩
 ·rintro (⟨h1,e,h2,h3,h4⟩ | ⟨h1,h2,h3⟩)
  ·exact .inl ⟨h1,e,(hm e h3).2 h2,h3,h4⟩
  ·exact .inr ⟨h1,h2,fun e he hk=>h3 e ((hm e hk).1 he) hk⟩
theorem same_kid {p q:Nat × List En} (h1:p.1=q.1) (h2:p.2=q.2):p=q:=Prod.ext h1 h2
theorem isCh_off {la lb:List (Nat × List En)} (ra:Zz (ZQ la)) (rb:Zz (ZQ lb)) (hs:SameT la lb) (c:Ch):IsCh (ZQ (offL la lb)) (ZQ (offL lb la)) c↔IsCh (ZQ la) (ZQ lb) c:=by
 by_cases hc:∃ p ∈ la,kidOf p ∈ Zq lb/\∃ e ∈ p.2,e.k=c.k
 ·obtain ⟨p,hp,hk,e,he,hek⟩:=hc;obtain ⟨q,hq,hqp⟩:=kid_mem hk;have hpq:p=q:=same_kid hqp.symm (hs p hp q hq hqp.symm);subst hpq;have ka:kidOf p ∈ Zq la:=List.mem_map_of_mem hp
  have no1:∀ x ∈ ZQ (offL la lb),x.k≠c.k:=fun x hx hxk=>by
   obtain ⟨r,hr,hxr⟩:=mem_entP.1 hx;obtain ⟨r1,r2⟩:=mem_offL.1 hr;have:=leaf_one ra r r1 p hp x hxr e he (by rw [hxk,hek]);rw [this] at r2;exact r2 hk
  have no2:∀ x ∈ ZQ (offL lb la),x.k≠c.k:=fun x hx hxk=>by
   obtain ⟨r,hr,hxr⟩:=mem_entP.1 hx;obtain ⟨r1,r2⟩:=mem_offL.1 hr;have:=leaf_one rb r r1 p hq x hxr e he (by rw [hxk,hek]);rw [this] at r2;exact r2 ka
  constructor
  ·rintro ⟨h1,h2,h3⟩;exfalso
   rcases h1 with ⟨_,x,hx,hxk,_⟩ | ⟨h1,h1v,_⟩
   ·exact no1 x hx hxk
   ·rcases h2 with ⟨_,x,hx,hxk,_⟩ | ⟨h2,h2v,_⟩
    ·exact no2 x hx hxk
    ·exact h3 (by rw [h1,h1v,h2,h2v])
  ·rintro ⟨h1,h2,h3⟩;exfalso
   have ea:Gets (ZQ la) c.k e.v true:=.inl ⟨rfl,e,mem_entP.2 ⟨p,hp,he⟩,hek,rfl⟩;have eb:Gets (ZQ lb) c.k e.v true:=.inl ⟨rfl,e,mem_entP.2 ⟨p,hq,he⟩,hek,rfl⟩;obtain ⟨u1,u2⟩:=Z8 ra h1 ea;obtain ⟨u3,u4⟩:=Z8 rb h2 eb;exact h3 (by rw [u1,u2,u3,u4])
 ·have n1:∀ p ∈ la,kidOf p ∈ Zq lb->∀ e ∈ p.2,e.k≠c.k:=fun p hp hk e he q=>hc ⟨p,hp,hk,e,he,q⟩
  have n2:∀ p ∈ lb,kidOf p ∈ Zq la->∀ e ∈ p.2,e.k≠c.k:=fun p hp hk e he q=>by
   obtain ⟨r,hr,hrp⟩:=kid_mem hk;have hrq:r=p:=same_kid hrp (hs r hr p hp hrp);subst hrq;exact hc ⟨r,hr,List.mem_map_of_mem hp,e,he,q⟩
  unfold IsCh;rw [gets_off n1,gets_off n2]
theorem diff_off {la lb:List (Nat × List En)} {cs:List Ch} (ra:Zz (ZQ la)) (rb:Zz (ZQ lb)) (hs:SameT la lb) (h:DiffC (ZQ (offL la lb)) (ZQ (offL lb la)) cs):DiffC (ZQ la) (ZQ lb) cs :=
 ⟨h.1,fun c=>(h.2 c).trans (isCh_off ra rb hs c)⟩
structure LvsC (T:List (List Int)) (es:List En) (ls:List (Nat × List En)):Prop where
 rows:ls.map Prod.snd=Zj (fun e:En=>Zo 0 e.k) es
 tx:∀ p ∈ ls,T[p.1 - 1]?=some (ndB ⟨0,p.2,[]⟩)/\1<=p.1/\p.1<=T.length
 good:∀ p ∈ ls,GoodN ⟨0,p.2,[]⟩
theorem LvsC.ent {T:List (List Int)} {es:List En} {ls:List (Nat × List En)} (h:LvsC T es ls):ZQ ls=es:=split_entT h.rows
theorem LvsC.of {T:List (List Int)} {es:List En} {id:Nat} (hok:MapOk es) (hel:es.length<=100) (hT:T.length<=16000) (h:RootOf T es id):∃ ls,LvsT T id ls/\LvsC T es ls:=by
 obtain ⟨ls,q1,q2,q3⟩:=h.tree2 hok hel hT;obtain ⟨g1,_⟩:=hok.leaves (by omega) (hok.bytes (by omega))
 have hg:∀ p ∈ ls,GoodN ⟨0,p.2,[]⟩:=fun p hp=>g1 _ (by
  rw [<- q2];unfold lvns;rw [List.map_map];exact List.mem_map.2 ⟨p,hp,rfl⟩)
 have hc:LvsC T es ls:=⟨q2,q3,hg⟩;have hn:∀ p ∈ ls,TNod T p.1 ⟨0,p.2,[]⟩:=fun p hp=>(hg p hp).nod (q3 p hp).2.1 (q3 p hp).1 hT (fun k hk=>by simp at hk)
 have q5:∀ p ∈ ls,0 < p.2.length:=fun p hp=>List.length_pos_iff.2 (node_leaf (hn p hp).ok rfl).1
 have q6:ls.length<=100:=by
  have h3:=rows_lenT (rows:=ls.map Prod.snd) (fun r hr=>by obtain ⟨p,q,rfl⟩:=List.mem_map.1 hr;exact q5 p q);rw [q2] at h3;rw [Z3,<- q2,List.length_map] at h3;omega
 refine ⟨ls,⟨q1,fun p hp=>⟨(hn p hp).ld,(hn p hp).lt,q5 p hp⟩,fun f hf=>?_,by omega,by rw [hc.ent];omega⟩,hc⟩;obtain ⟨p,hp,rfl⟩:=List.mem_map.1 hf;refine ⟨?_,(hn p hp).lt⟩;show (ZC ⟨0,p.2,[]⟩).size<=maxLen
 rw [lastK_lf0]
 have hk:∀ e ∈ p.2,e.k.size<=maxLen:=fun e he=>by
  have:=hok.key e (by rw [<- hc.ent];exact mem_entP.2 ⟨p,hp,he⟩);unfold maxLen;omega
 unfold keyRow;cases hl:p.2.getLast? with
 | none=>simp [maxLen]
 | some e=>exact hk e (List.mem_of_getLast? hl)
section
variable {T:List (List Int)} {es fs:List En} {la lb:List (Nat × List En)}
theorem SameT.of {ra rb:Nat} (ha:LvsT T ra la) (hb:LvsT T rb lb):SameT la lb:=fun p hp q hq e=>by
 have h1:=(ha.ld p hp).1;have h2:=(hb.ld q hq).1;rw [e,h2] at h1;injection h1 with h1
 injection h1 with _ h1
 exact h1.symm
end
end
def SuP (es gs:List En) (W:World) (e:Ending) (W':World):Prop:=∃ (cs:List Ch) (va:Option Addr) (vc:Nat),e=.returned (.tuple #[.slice va cs.length vc,.int .i64 0])/\DiffC es gs cs/\RdG cCh 5 W' va cs/\cs.length<=9223372036854775807/\Below W.heap.size W W'
theorem wstatus_any {w W:World} {s m:Nat} {O:Nat->Prop} {T:List (List Int)} (h:TSw w W s O T m) (hT:T.length<=16000) (hx:TxOk T) {es gs:List En} {ra rb:Nat} (ha:RootOf T es ra) (hb:RootOf T gs rb) (ok1:MapOk es) (ok2:MapOk gs) (l1:es.length<=100) (l2:gs.length<=100) :
  Calls Tryz.prog 21 #[.pointer (some ⟨s,0,none⟩),.int .u64 ra,.int .u64 rb] W (SuP es gs W):=by
 obtain ⟨la,va,ca⟩:=LvsC.of ok1 l1 hT ha;obtain ⟨lb,vb,cb⟩:=LvsC.of ok2 l2 hT hb;have r1:Zz (ZQ la):=by rw [ca.ent];exact riseE_iff.2 ok1.rise
 have r2:Zz (ZQ lb):=by rw [cb.ent];exact riseE_iff.2 ok2.rise
 have HTR:=Za (trees_any h hT hx va vb)
 have HD:Hid (∀ cs,OfR (ZQ (offL la lb)) (ZQ (offL lb la)) cs->DiffC es gs cs):=Za (fun cs h=>by
  have:=diff_off r1 r2 (SameT.of va vb) (h.is (offL_rise r1) (offL_rise r2));rwa [ca.ent,cb.ent] at this)
 obtain ⟨N1,hN1⟩:∃ N,N=(offL la lb).length+(offL lb la).length:=⟨_,rfl⟩;unfold DTP at HTR;rw [<- hN1] at HTR;clear h hT hx ha hb ok1 ok2 l1 l2 va ca vb cb r1 r2 hN1;go_enter Tryz.func21,Tryz.ntmps21
 go_wp2_with fail
 refine HTR.out.mono ?_;rintro e w1 ⟨cs,v,c,rfl,hof,row,b1⟩;obtain ⟨_,_,hv,rd,hle,hmx,_⟩:=rd_gcells cCh_len row;injection hv with e1 e2 e3
 subst e1 e3;have HF:Hid (SuP es gs W (.returned (.tuple #[.slice v cs.length c,.int .i64 0])) w1):=Za ⟨cs,v,c,rfl,HD.out cs hof,rd,Nat.le_trans hle (Nat.le_trans hmx (by decide)),b1⟩;clear hof row rd hle hmx b1 e2 HTR HD;go_wp2;refine bodyPost_ret (by simp [results,Tryz.results21,go_sem];rfl) rfl ?_;exact HF.out
def ZW (lo hi:ByteArray) (es:List En) (m k:Nat):List En:=(rgL lo hi (es.take k)).take m
theorem wantK_zero (lo hi:ByteArray) (es:List En) (m:Nat):ZW lo hi es m 0=[]:=by simp [ZW,rgL]
theorem wantK_all (lo hi:ByteArray) (es:List En) (m:Nat):ZW lo hi es m es.length=(rgL lo hi es).take m:=by simp [ZW]
theorem wantK_out {lo hi:ByteArray} {es:List En} {m k:Nat} {e:En} (h:es[k]?=some e) (hi':inR lo hi e=false):ZW lo hi es m (k+1)=ZW lo hi es m k:=by
 obtain ⟨hk,he⟩:=List.getElem?_eq_some_iff.1 h
 unfold ZW rgL;rw [List.take_succ_eq_append_getElem hk,he,List.filter_append];simp [hi']
theorem wantK_in {lo hi:ByteArray} {es:List En} {m k:Nat} {e:En} (h:es[k]?=some e) (hi':inR lo hi e=true):(ZW lo hi es m k).length < m->ZW lo hi es m (k+1)=ZW lo hi es m k++[e]:=by
 obtain ⟨hk,he⟩:=List.getElem?_eq_some_iff.1 h
 unfold ZW rgL;rw [List.take_succ_eq_append_getElem hk,he,List.filter_append,List.filter_cons_of_pos hi',List.filter_nil];intro hl;rw [List.length_take] at hl;rw [List.take_of_length_le (l:=List.filter (inR lo hi) (es.take k)++[e]) (by rw [List.length_append,List.length_singleton];omega),List.take_of_length_le (l:=List.filter (inR lo hi) (es.take k)) (by omega)]
theorem wantK_full {lo hi:ByteArray} {es:List En} {m k:Nat} {e:En} (h:es[k]?=some e) (hl:¬ (ZW lo hi es m k).length < m):ZW lo hi es m (k+1)=ZW lo hi es m k:=by
 obtain ⟨hk,he⟩:=List.getElem?_eq_some_iff.1 h
 unfold ZW rgL at hl ⊢;rw [List.take_succ_eq_append_getElem hk,he,List.filter_append];rw [List.length_take] at hl;exact List.take_append_of_le_length (by omega)
theorem wantK_len (lo hi:ByteArray) (es:List En) (m k:Nat):(ZW lo hi es m k).length<=m/\(ZW lo hi es m k).length<=es.length:=by
 unfold ZW rgL;have h1:=List.length_filter_le (inR lo hi) (es.take k);rw [List.length_take] at h1 ⊢;constructor <;> omega
end Go.Proofs.YtdhebpnkfookcaaGreat
