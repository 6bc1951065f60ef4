import Derived.Test.YteopalkiebfioaaGreatQM49
import Derived.Test.YteopalkiebfioaaGreatQM50
import Derived.Test.YteopalkiebfioaaGreatQM51
set_option maxRecDepth 100000
set_option maxHeartbeats 16000000
namespace Go.Proofs.YteopalkiebfioaaGreat
open Go.RowKit Apo
theorem eds_len11 {l:List Ed} (h:editsB l=true):l.length<=20:=by
 unfold editsB at h;simp only [Bool.and_eq_true,decide_eq_true_eq] at h;exact h.2
theorem mapB_right {es:List En} (h:mapB es=true):Z8 es=0:=by
 unfold mapB at h;rw [Bool.and_eq_true,decide_eq_true_eq] at h;exact h.2
theorem room_first11 {es:List En} (ok:MapOk es) (hl:es.length<=60):(es.flatMap enB).length<=40000/\pgT (treeT [] es)<=1321:=by
 have hb:=ok.bytes (by omega)
 have:=tree_pages (T:=[]) ok (by omega) hb (by simp)
 have e:pgT []=1:=by simp [pgT]
 rw [e] at this;exact ⟨hb,by omega⟩
theorem room_next11 {T:List (List Int)} {es:List En} (hT:T.length+1<=pgT T) (hp:pgT T<=1321) (ok:MapOk es) (hl:es.length<=60):(es.flatMap enB).length<=40000/\pgT (treeT T es)<=2641:=by
 have hb:=ok.bytes (by omega)
 have:=tree_pages (T:=T) ok (by omega) hb (by omega)
 exact ⟨hb,by omega⟩
theorem room_edit11 {T:List (List Int)} {es fs:List En} {n id:Nat} (hn:T.Nodup) (hT:T.length+1<=pgT T) (hp:pgT T<=2641) (hr:RootOf T es id) (hch:ChN n es fs) (ok:MapOk fs) (h1:es.length<=60) (h2:n<=20):(fs.flatMap enB).length<=40000/\pgT (treeT T fs)<=4096:=by
 have hl:=hch.len;have hb:=ok.bytes (by omega)
 have:=near_pages hn hr hch ok (by omega) hb (by omega)
 exact ⟨hb,by omega⟩
theorem kids_nodup {T:List (List Int)} {id:Nat} {la:List (Nat × List En)} (va:LvsT T id la) (hr:Zo (ZE la)):(Zi la).Nodup:=by
 have hp:∀ p ∈ la,0 < p.2.length:=fun p hp=>(va.ld p hp).2.2
 have hs:SameT la la:=SameT.of va va;clear va;induction la with
 | nil=>simp [Zi]
 | cons p l ih =>
  have h':Zo (p.2++ZE l):=hr;unfold Zo at h';rw [List.pairwise_append] at h';obtain ⟨_,h2,h3⟩:=h';have hn:Zi (p :: l)=kidOf p :: Zi l:=rfl;rw [hn,List.nodup_cons];refine ⟨fun hk=>?_,ih h2 (fun q hq=>hp q (List.mem_cons_of_mem _ hq)) (fun q hq r hr=>hs q (List.mem_cons_of_mem _ hq) r (List.mem_cons_of_mem _ hr))⟩
  obtain ⟨q,hq,e⟩:=kid_mem hk;have e2:=hs p (by simp) q (List.mem_cons_of_mem _ hq) e.symm
  obtain ⟨x,hx⟩:∃ x,x ∈ p.2:=⟨p.2[0]'(hp p (by simp)),List.getElem_mem _⟩
  have:=h3 x hx x (List.mem_flatMap.2 ⟨q,hq,by rw [<- e2];exact hx⟩)
  rw [Zr] at this;cases this
open Classical in
theorem filter_two {K L:List Ki}:(K.filter (fun k=>decide (k ∉ L))).length+(K.filter (fun k=>decide (k ∈ L))).length=K.length:=by
 induction K with
 | nil=>rfl
 | cons k K ih =>
  rw [List.filter_cons,List.filter_cons];by_cases h:k ∈ L
  ·simp only [h,not_true,decide_false,decide_true,if_true,List.length_cons];simp only [Bool.false_eq_true,if_false];omega
  ·simp only [h,not_false_iff,decide_false,decide_true,if_true,List.length_cons];simp only [Bool.false_eq_true,if_false];omega
open Classical in
theorem shared_len {K L:List Ki} (hK:K.Nodup) (hL:L.Nodup):(K.filter (fun k=>decide (k ∈ L))).length=(L.filter (fun k=>decide (k ∈ K))).length:=by
 have le:∀ {A B:List Ki},A.Nodup->(A.filter (fun k=>decide (k ∈ B))).length<=(B.filter (fun k=>decide (k ∈ A))).length:=fun {A B} hA=>by
  refine List.Nodup.length_le_of_subset (hA.filter _) (fun x hx=>?_)
  rw [List.mem_filter,decide_eq_true_eq] at hx ⊢;exact ⟨hx.2,hx.1⟩
 exact Nat.le_antisymm (le hK) (le hL)
theorem off_less {la lb:List (Nat × List En)}:(ZS la lb).length=(lessK (Zi lb) (Zi la)).length:=by rw [kidsOf_off,Zt]
open Classical in
theorem off_two {la lb:List (Nat × List En)} (hK:(Zi la).Nodup) (hL:(Zi lb).Nodup):(ZS la lb).length+lb.length=(ZS lb la).length+la.length:=by
 have h1:=@filter_two (Zi la) (Zi lb);have h2:=@filter_two (Zi lb) (Zi la);have h3:=shared_len hK hL;rw [Zt] at h1 h2;rw [off_less,off_less];unfold lessK;omega
structure ThreeT (w W:World) (s:Nat) (T:List (List Int)) (es gs fs:List En) (x y z n:Nat):Prop where
 st:∃ O m,TSw w W s O T m
 few:T.length<=16000
 tx:TxOk T
 nd:T.Nodup
 rx:RootOf T es x
 ry:RootOf T gs y
 rz:RootOf T fs z
 ch:ChN n es fs
 ok:MapOk fs
 len:fs.length<=80
open Classical in
theorem difftrees11 (w:World) (x:EsA) (hx:OkEs w x) (y:EdA) (hy:OkEdA w y) (z:EsA) (hz:OkEs w z) :
  Calls Tryz.prog 3 #[.slice x.a x.l.length x.c,.slice y.a y.l.length y.c,.slice z.a z.l.length z.c] w fun e w'=>e=.returned (.bool true)/\Below w.heap.size w w':=by
 obtain ⟨a,c,es⟩:=x;obtain ⟨b,d,l⟩:=y;obtain ⟨a',c',gs⟩:=z;simp only;have hml:maxLen<=9223372036854775807:=by decide
 have hb1:=hx.big;have hl1:=hx.len;have hb2:=hy.big;have hl2:=hy.len;have hb3:=hz.big;have hl3:=hz.len;simp only at hb1 hl1 hb2 hl2 hb3 hl3;have HX:=Za hx;have HY:=Za hy;have HZ:=Za hz;have HC1:=Za (fun W (u:Below w.heap.size w W)=>map11 W ⟨a,c,es⟩ (hx.below u))
 have HC2:=Za (fun W (u:Below w.heap.size w W)=>map11 W ⟨a',c',gs⟩ (hz.below u))
 have HC3:=Za (fun W (u:Below w.heap.size w W)=>ledits_any W b d l (hy.rd.below u) (by omega) hy.sz)
 simp only at HC1 HC2;obtain ⟨n1,hn1⟩:∃ n,n=es.length:=⟨_,rfl⟩;obtain ⟨n2,hn2⟩:∃ n,n=l.length:=⟨_,rfl⟩;obtain ⟨n3,hn3⟩:∃ n,n=gs.length:=⟨_,rfl⟩;have HN1:=Za hn1;have HN2:=Za hn2;have HN3:=Za hn3;rw [<- hn1] at HC1 hl1;rw [<- hn2] at HC3 hl2;rw [<- hn3] at HC2 hl3;rw [<- hn1,<- hn2,<- hn3];obtain ⟨B1,hB1⟩:∃ B,B=mapB es:=⟨_,rfl⟩;obtain ⟨B2,hB2⟩:∃ B,B=mapB gs:=⟨_,rfl⟩;obtain ⟨B3,hB3⟩:∃ B,B=editsB l:=⟨_,rfl⟩;rw [<- hB1] at HC1;rw [<- hB2] at HC2;rw [<- hB3] at HC3;have HE1:=Za hB1;have HE2:=Za hB2;have HE3:=Za hB3;have HAW:=Za (awake11 w);clear hx hy hz hn1 hn2 hn3 hB1 hB2 hB3;go_enter Tryz.func3,Tryz.ntmps3
 go_wp2_with fail
 refine HAW.out.mono ?_;rintro e w0 ⟨rfl,b0⟩;have HB0:=Za b0;clear b0 HAW;have HG0:=Za (HC1.out _ HB0.out);go_wp2_with fail
 refine HG0.out.mono ?_;rintro e w1 ⟨rfl,b1⟩;have HB1:=Za (HB0.out.trans (b1.mono HB0.out.size));clear b1 HG0;cases B1 with
 | false =>
  go_wp2;go_ret
  exact ⟨rfl,HB1.out⟩
 | true =>
 have HG1:=Za (HC2.out _ HB1.out);go_wp2_with fail
 refine HG1.out.mono ?_;rintro e w2 ⟨rfl,b2⟩;have HB2:=Za (HB1.out.trans (b2.mono HB1.out.size));clear b2 HG1;cases B2 with
 | false =>
  go_wp2;go_ret
  exact ⟨rfl,HB2.out⟩
 | true =>
 have HG2:=Za (HC3.out _ HB2.out);go_wp2_with fail
 refine HG2.out.mono ?_;rintro e w3 ⟨rfl,b3⟩;have HB3:=Za (HB2.out.trans (b3.mono HB2.out.size));clear b3 HG2;cases B3 with
 | false =>
  go_wp2;go_ret
  exact ⟨rfl,HB3.out⟩
 | true =>
 have hq2:n2<=20:=by rw [HN2.out];exact eds_len11 HE3.out.symm
 obtain ⟨hqx,hok,hrx⟩:=mapB_ok HE1.out.symm;obtain ⟨hqy,hog,hry⟩:=mapB_ok HE2.out.symm;have hq1:n1<=60:=by rw [HN1.out];exact hqx
 have hq3:n3<=60:=by rw [HN3.out];exact hqy
 have HRX:=Za (And.intro (mapB_right HE1.out.symm) hrx);have HRY:=Za (And.intro (mapB_right HE2.out.symm) hry);have HOK:=Za hok;have HOG:=Za hog;have HCS:=Za (tstore_any w3);have hs3:=HB3.out.size;clear HC1 HC2 HC3 HB0 HB1 HB2 HE1 HE2 HE3 hqx hqy hok hog hrx hry;go_wp2_with fail
 refine HCS.out.mono ?_;rintro e w7 ⟨s,O7,rfl,t7⟩;have HB7:=Za (HB3.out.trans (t7.bel.mono HB3.out.size));have C8:=tBuild_any t7 a c es (HX.out.rd.below HB7.out) HX.out.nil (by have:=HN1.out;omega) HX.out.sz (fun ok=>by have:=room_first11 ok (by have:=HN1.out;omega);exact ⟨this.1,by omega⟩)
 rw [<- HN1.out] at C8;have HC8:=Za C8;have HLO7:=Za t7.lo;clear C8 t7 HCS HB3;go_wp2_with fail
 refine HC8.out.mono ?_;rintro e w8 hb8;obtain ⟨id,O8,T8,rfl,p1,p2,p2',p3,p4,p5,p6⟩:=hb8.good HRX.out.1;have B8:Below w.heap.size w w8:=Below.onl HB7.out p6 (fun i q=>by have:=HLO7.out i q;omega) (Nat.le_refl _)
 have hp8:pgT T8<=1321:=by rw [p3.1];exact (room_first11 HOK.out (by have:=HN1.out;omega)).2
 have tx8:TxOk T8:=p2' (fun t ht=>by simp at ht)
 have C9:=tBuild_any p4 a' c' gs (HZ.out.rd.below B8) HZ.out.nil (by have:=HN3.out;omega) HZ.out.sz (fun ok=>by have:=room_next11 p4.len hp8 ok (by have:=HN3.out;omega);exact ⟨this.1,by omega⟩)
 rw [<- HN3.out] at C9;have HC9:=Za C9;have HB8:=Za B8;have HLO8:=Za p4.lo;have HP8:=Za (And.intro p1 (And.intro p4.len (And.intro hp8 tx8)));clear C9 p1 p2 p2' p3 p4 p5 p6 B8 hp8 tx8 hb8 HC8 HLO7;go_wp2_with fail
 refine HC9.out.mono ?_;rintro e w9 hb9;obtain ⟨id9,O9,T9,rfl,p1,p2,p2',p3,p4,p5,p6⟩:=hb9.good HRY.out.1;have B9:Below w.heap.size w w9:=Below.onl HB8.out p6 (fun i q=>by have:=HLO8.out i q;omega) (Nat.le_refl _)
 have hp9:pgT T9<=2641:=by rw [p3.1];exact (room_next11 HP8.out.2.1 HP8.out.2.2.1 HOG.out (by have:=HN3.out;omega)).2
 have tx9:TxOk T9:=p2' HP8.out.2.2.2;have rx9:=HP8.out.1.sub p2;have HB9:=Za B9;have HLO9:=Za p4.lo;have HP9:=Za (And.intro p1 (And.intro p4.len (And.intro hp9 (And.intro tx9 (And.intro rx9 p4)))));clear p1 p2 p2' p3 p4 p5 p6 B9 hp9 tx9 hb9 HC9 HLO8 HP8 rx9 HB8;by_cases hed:∀ q ∈ l,edE q=0
 ·have HED:=Za hed
  have C10:Calls Tryz.prog 9 #[.pointer (some ⟨s,0,none⟩),.int .u64 id,.slice b n2 d] w9 fun e W'=>∃ (z:Nat) (fs:List En) (T:List (List Int)),e=.returned (.tuple #[.int .u64 z,.int .i64 0])/\ApR es l fs/\ThreeT w3 W' s T es gs fs id id9 z n2/\Below w.heap.size w W':=by
   obtain ⟨p1,p2,p3,p4,p5,p6⟩:=HP9.out
   have C:=tedit_map p6 (by omega) p4 p5 HOK.out (by have:=HN1.out;omega) b d l (HY.out.rd.below HB9.out) (by have:=HN2.out;omega) hed HY.out.sz (fun fs _ c1 c2 _=>by
    have:=room_edit11 p6.nodup p2 p3 p5 c1 c2 (by have:=HN1.out;omega) (by have:=HN2.out;omega)
    exact ⟨this.1,this.2⟩)
   rw [<- HN2.out] at C;refine C.mono ?_;rintro e W' ⟨fs,hap,c1,c2,c3,z,O',T',rfl,r1,r2,r2',r3,r4,r5,r6⟩;refine ⟨z,fs,T',rfl,hap,⟨⟨O',_,r4⟩,?_,r2' p4,r4.nodup,p5.sub r2,p1.sub r2,r1,c1,c2,by have:=HN1.out;omega⟩,Below.onl HB9.out r6 (fun i q=>by have:=HLO9.out i q;omega) (Nat.le_refl _)⟩
   have h1:=r4.len;have h2:=(room_edit11 p6.nodup p2 p3 p5 c1 c2 (by have:=HN1.out;omega) (by have:=HN2.out;omega)).2
   rw [r3.1] at h1 ⊢;omega
  have HC10:=Za C10;clear C10 HP9 hed;go_wp2_with fail
  refine HC10.out.mono ?_;rintro e w10 ⟨zid,fs,T,rfl,hap,ht,b10⟩;have HT:=Za ht;have HB:=Za b10;have HAP:=Za hap;clear hap ht b10 HC10 HB9 HLO9;go_wp2_with fail
--TAIL1
  obtain ⟨⟨O,m,st⟩,few,tx,nd,rx,ry,rz,ch,okz,lenz⟩:=HT.out;have HOZ:=Za okz;obtain ⟨la,va,ca⟩:=LvsC.of HOK.out (by have:=HN1.out;omega) few rx
  obtain ⟨lb,vb,cb⟩:=LvsC.of HOG.out (by have:=HN3.out;omega) few ry
  obtain ⟨lz,vz,cz⟩:=LvsC.of okz (by omega) few rz
  have r1:Zo (ZE la):=by rw [ca.ent];exact HRX.out.2
  have r2:Zo (ZE lb):=by rw [cb.ent];exact HRY.out.2
  have r3:Zo (ZE lz):=by rw [cz.ent];exact riseE_iff.2 okz.rise
  have HTR1:=Za (trees_any st few tx va vb);have HTR2:=Za (fun W (u:Below w10.heap.size w10 W)=>trees_any (st.below u) few tx va vz)
  have HTR3:=Za (fun W (u:Below w10.heap.size w10 W)=>trees_any (st.below u) few tx va va)
  have HLV1:=Za (fun W (u:Below w10.heap.size w10 W)=>tleaves_any (st.below u) few tx id la va.root va.len)
  have HLV2:=Za (fun W (u:Below w10.heap.size w10 W)=>tleaves_any (st.below u) few tx id9 lb vb.root vb.len)
  have HD1:Hid (∀ cs,OfR (ZE (ZS la lb)) (ZE (ZS lb la)) cs->DiffC es gs cs):=Za (fun cs h=>by
   have:=diff_off r1 r2 (SameT.of va vb) (h.is (offL_rise r1) (offL_rise r2));rwa [ca.ent,cb.ent] at this)
  have HD2:Hid (∀ cs,OfR (ZE (ZS la lz)) (ZE (ZS lz la)) cs->DiffC es fs cs):=Za (fun cs h=>by
   have:=diff_off r1 r3 (SameT.of va vz) (h.is (offL_rise r1) (offL_rise r3));rwa [ca.ent,cz.ent] at this)
  have hM:(ZS la lz).length+(ZS lz la).length<=4 * n2:=off_edits nd ca cz (SameT.of va vz) (SameT.of vz va) ch
  have hK:(ZS la la).length+(ZS la la).length=0:=by
   have:=off_edits nd ca ca (SameT.of va va) (SameT.of va va) (n:=0) rfl;omega
  have hS:=off_two (kids_nodup va r1) (kids_nodup vb r2);have hla:=va.len;have hlb:=vb.len;have HS:=Za hS;have HFL:Hid ((ZS la lb).length=freshK (Zi lb) (Zi la)):=Za off_less;have hM1:=offL_len la lb;have hM2:=offL_len lb la;obtain ⟨N1,hN1⟩:∃ N,N=(ZS la lb).length+(ZS lb la).length:=⟨_,rfl⟩;obtain ⟨N2,hN2⟩:∃ N,N=(ZS la lz).length+(ZS lz la).length:=⟨_,rfl⟩;have HN1':=Za hN1;have hNb:N1<=2000:=by omega
  unfold DTP at HTR1 HTR2 HTR3;rw [<- hN1] at HTR1;rw [<- hN2] at HTR2 hM;rw [hK] at HTR3;clear st few tx nd rx ry rz ch okz ca cb cz va vb vz r1 r2 r3 hS hK hN1 hN2 HT;refine HTR1.out.mono ?_;rintro e w11 ⟨cs,v1,c1,rfl,hof,row,b11⟩;obtain ⟨_,_,hv,rd,_⟩:=ZV cCh_len row;injection hv with e1 e2 e3
  subst e1 e3;have HDC1:=Za (HD1.out cs hof);have HRC1:=Za rd;have HBT:=Za b11;have HTR2b:=Za (HTR2.out w11 b11);obtain ⟨nc,hnc⟩:∃ n,n=cs.length:=⟨_,rfl⟩;have HNC:=Za hnc;rw [<- hnc];clear hof row b11 rd e2 HTR1 HD1 hnc HTR2;go_wp2_with fail
  refine HTR2b.out.mono ?_;rintro e w12 ⟨ds,v2,c2,rfl,hof,row,b12⟩;obtain ⟨_,_,hv,rd,_⟩:=ZV cCh_len row;injection hv with e1 e2 e3
  subst e1 e3;have HDC2:=Za (HD2.out ds hof);have HRC2:=Za rd;have HRC1:=Za (HRC1.out.below b12);have b12':=HBT.out.trans (b12.mono HBT.out.size);have HBT:=Za b12';have HTR3b:=Za (HTR3.out w12 b12');obtain ⟨nd,hnd⟩:∃ n,n=ds.length:=⟨_,rfl⟩;have HND:=Za hnd;rw [<- hnd];clear hof row b12 b12' rd e2 HTR2b HD2 hnd HTR3;go_wp2_with fail
  refine HTR3b.out.mono ?_;rintro e w13 ⟨xs,v3,c3,rfl,_,_,b13⟩;have HRC1:=Za (HRC1.out.below b13);have HRC2:=Za (HRC2.out.below b13);have b13':=HBT.out.trans (b13.mono HBT.out.size);have HBT:=Za b13';have HLVa:=Za (HLV1.out w13 b13');obtain ⟨nx,hnx⟩:∃ n,n=xs.length:=⟨_,rfl⟩;rw [<- hnx];clear b13 b13' HTR3b hnx HLV1;go_wp2_with fail
  refine HLVa.out.mono ?_;rintro e w14 ⟨v,rfl,row1,b14⟩;obtain ⟨ua,uc,hv,rdk,_⟩:=rd_kcells row1;subst hv;obtain ⟨nu,hnu⟩:∃ n,n=(Zi la).length:=⟨_,rfl⟩;rw [<- hnu];have HNU:=Za hnu;have HRU:=Za rdk;have HRC1:=Za (HRC1.out.below b14);have HRC2:=Za (HRC2.out.below b14);have b14':=HBT.out.trans (b14.mono HBT.out.size);have HBT:=Za b14';have HLVb:=Za (HLV2.out w14 b14');have hnu1:nu<=1000:=by rw [hnu,Zt];exact hla
  clear row1 rdk hnu b14 b14' HLVa HLV2;go_wp2_with fail
  refine HLVb.out.mono ?_;rintro e w15 ⟨v,rfl,row2,b15⟩;obtain ⟨va,vc,hv,rdk,_⟩:=rd_kcells row2;subst hv;obtain ⟨nv,hnv⟩:∃ n,n=(Zi lb).length:=⟨_,rfl⟩;rw [<- hnv];have HNV:=Za hnv;have HRV:=Za rdk;have HRU:=Za (HRU.out.below b15);have HRC1:=Za (HRC1.out.below b15);have HRC2:=Za (HRC2.out.below b15);have HBT:=Za (HB.out.trans ((HBT.out.trans (b15.mono HBT.out.size)).mono HB.out.size));have hnv1:nv<=1000:=by rw [hnv,Zt];exact hlb
  have HEQ:Hid ((ZS la lb).length+nv=(ZS lb la).length+nu):=Za (by rw [hnv,HNU.out,Zt,Zt];exact HS.out)
  obtain ⟨F1,hF1⟩:∃ F,F=(ZS la lb).length:=⟨_,rfl⟩;obtain ⟨F2,hF2⟩:∃ F,F=(ZS lb la).length:=⟨_,rfl⟩;rw [<- hF1] at HFL HEQ HN1';rw [<- hF2] at HEQ HN1';rw [<- hF1] at hM1;clear row2 rdk hnv b15 HLVb HS hF1 hF2 hM2;generalize Zi la=now at *;generalize Zi lb=old at *;go_wp2;go_loopw [27,115] (fun f i wr=>∃ k fr sh:Nat,k<=nu/\i=.int .i64 k/\f=.int .i64 ((fr:Int) - (sh:Int))/\Hid (fr=freshK old (now.take k))/\fr+sh=k/\Hid (Below w15.heap.size w15 wr)) (fun _ i _=>nu - (intOf i).toNat)
  case atStart=>exact ⟨0,0,0,Nat.zero_le _,rfl,rfl,Za (by simp [freshK]),rfl,Za (Below.refl _ _)⟩
  case round =>
   obtain ⟨k,fr,sh,hk,rfl,rfl,HFR,hfk,HBr⟩:=hrel;by_cases hkn:k < nu
   ·obtain ⟨⟨kk,ki⟩,hx⟩:∃ x,now[k]?=some x:=⟨now[k]'(by have:=HNU.out;omega),List.getElem?_eq_getElem _⟩
    obtain ⟨g,o,rfl,c0,c1⟩:=(HRU.out.below HBr.out) k _ hx;simp only at c0 c1;have HTK:Hid (freshK old (now.take (k+1))=freshK old (now.take k)+(if (⟨kk,ki⟩:Ki) ∈ old then 0 else 1)):=Za (by rw [List.take_add_one,hx];exact freshK_snoc old _ _)
    obtain ⟨A0,hA0⟩:∃ A0,A0=wr.alloc (.cells #[.string kk,.int .u64 (ki:Int)] 41):=⟨_,rfl⟩;have bA:Below wr.heap.size wr A0:=by rw [hA0];exact (Below.refl _ wr).alloc (Nat.le_refl _) _
    have kA:Ob A0 wr.heap.size 41 [.string kk,.int .u64 (ki:Int)]:=by rw [hA0];exact Ob.new wr [.string kk,.int .u64 (ki:Int)] 41
    have HKA:=Za kA;have HBA:=Za (HBr.out.trans (bA.mono HBr.out.size));clear hx bA kA;go_wp2;rw [<- hA0];clear hA0 c0 c1;go_loopw [30,121] (fun b i wq=>∃ (j:Nat) (bb:Bool),j<=nv/\i=.int .i64 j/\b=.bool bb/\Hid (bb=true↔(⟨kk,ki⟩:Ki) ∈ old.take j)/\Hid (Below A0.heap.size A0 wq)) (fun _ i _=>nv - (intOf i).toNat)
    case atStart=>exact ⟨0,false,Nat.zero_le _,rfl,rfl,Za (by simp),Za (Below.refl _ _)⟩
    case round =>
     obtain ⟨j,bb,hj,rfl,rfl,HI,HBq⟩:=hrel;by_cases hjn:j < nv
     ·obtain ⟨⟨jk,ji⟩,hy⟩:∃ x,old[j]?=some x:=⟨old[j]'(by have:=HNV.out;omega),List.getElem?_eq_getElem _⟩
      obtain ⟨g2,o2,rfl,c0,c1⟩:=((HRV.out.below HBA.out).below HBq.out) j _ hy;simp only at c0 c1;have htk:old.take (j+1)=old.take j++[⟨jk,ji⟩]:=by rw [List.take_add_one,hy];rfl
      obtain ⟨Q0,hQ0⟩:∃ Q0,Q0=wr.alloc (.cells #[.string jk,.int .u64 (ji:Int)] 41):=⟨_,rfl⟩;have bQ:Below wr.heap.size wr Q0:=by rw [hQ0];exact (Below.refl _ wr).alloc (Nat.le_refl _) _
      have kQ:=(HKA.out.old HBq.out).old bQ;rw [hQ0] at kQ;have z0:=kQ.cell 0;have z1:=kQ.cell 1;simp only [List.getElem?_cons_zero,List.getElem?_cons_succ] at z0 z1
      have HBF:Hid (Below A0.heap.size A0 (wr.alloc (.cells #[.string jk,.int .u64 (ji:Int)] 41))):=Za (HBq.out.alloc HBq.out.size _);have hgd:Tryz.prog.eqGuardType Tryz.prog.depth 41=false:=by kernel_rfl
      have hcmp:=eqlKi ⟨kk,ki⟩ ⟨jk,ji⟩;simp only at hcmp;cases bb with
      | true =>
       have HI2:Hid (true=true↔(⟨kk,ki⟩:Ki) ∈ old.take (j+1)):=Za (by rw [htk];simp [HI.out.1 rfl])
       clear hy htk HI bQ kQ hQ0 hcmp;go_wp2;go_roundw
       case rel=>exact ⟨j+1,true,by omega,by go_num,rfl,HI2,HBF⟩
       case measure=>simp [intOf];omega
      | false =>
       by_cases heq:(⟨kk,ki⟩:Ki)=⟨jk,ji⟩
       ·have HI2:Hid (true=true↔(⟨kk,ki⟩:Ki) ∈ old.take (j+1)):=Za (by rw [htk,heq];simp)
        rw [decide_eq_true heq] at hcmp;clear hy htk HI bQ kQ hQ0 heq;go_wp2;go_roundw
        case rel=>exact ⟨j+1,true,by omega,by go_num,rfl,HI2,HBF⟩
        case measure=>simp [intOf];omega
       ·have HI2:Hid (false=true↔(⟨kk,ki⟩:Ki) ∈ old.take (j+1)):=Za (by
         rw [htk,List.mem_append,List.mem_singleton];constructor
         ·intro q;cases q
         ·rintro (q | q)
          ·exact HI.out.2 q
          ·exact absurd q heq)
        rw [decide_eq_false heq] at hcmp;clear hy htk HI bQ kQ hQ0 heq;go_wp2;go_roundw
        case rel=>exact ⟨j+1,false,by omega,by go_num,rfl,HI2,HBF⟩
        case measure=>simp [intOf];omega
     ·have hI:=HI.out;rw [List.take_of_length_le (by have:=HNV.out;omega)] at hI
      have HBF:=Za (HBA.out.trans (HBq.out.mono HBA.out.size));cases bb with
      | true =>
       have HF2:Hid (fr=freshK old (now.take (k+1))):=Za (by rw [HTK.out,if_pos (hI.1 rfl)];exact HFR.out)
       have wz:IntKind.i64.wrap ((fr:Int) - (sh:Int) - 1)=(fr:Int) - ((sh+1:Nat):Int):=by rw [IntKind.wrap_i64];omega
       clear hI HI;go_wp2;go_roundw
       case rel=>exact ⟨k+1,fr,sh+1,by omega,by go_num,(by first | rfl | (rw [<- wz]) | (congr 1)),HF2,by omega,HBF⟩
       case measure=>simp [intOf];omega
      | false =>
       have HF2:Hid (fr+1=freshK old (now.take (k+1))):=Za (by rw [HTK.out,if_neg (fun q=>by have:=hI.2 q;cases this),HFR.out])
       have wz:IntKind.i64.wrap ((fr:Int) - (sh:Int)+1)=((fr+1:Nat):Int) - (sh:Int):=by rw [IntKind.wrap_i64];omega
       clear hI HI;go_wp2;go_roundw
       case rel=>exact ⟨k+1,fr+1,sh,by omega,by go_num,(by first | rfl | (rw [<- wz]) | (congr 1)),HF2,by omega,HBF⟩
       case measure=>simp [intOf];omega
   ·have hfr:fr=F1:=by
     have h1:=HFR.out;rw [List.take_of_length_le (by have:=HNU.out;omega)] at h1
     rw [h1,HFL.out]
    have B0:Below w.heap.size w wr:=HBT.out.trans (HBr.out.mono HBT.out.size);have HBE:=Za B0;have HRC1:=Za (HRC1.out.below HBr.out);have HRC2:=Za (HRC2.out.below HBr.out);have C:=rdiff_any wr a a' c c' es gs (HX.out.rd.below B0) (HZ.out.rd.below B0) (by have:=HN1.out;omega) (by have:=HN3.out;omega) HRX.out.2 HRY.out.2
    rw [<- HN1.out,<- HN3.out] at C;have HQ1:=Za C;have wz:IntKind.i64.wrap ((fr:Int) - (sh:Int)+(nv:Int))=(N1:Int):=by have:=HEQ.out;have:=HN1'.out;rw [IntKind.wrap_i64];omega
    have wm:IntKind.i64.wrap (6 * (n2:Int))=6 * (n2:Int):=by rw [IntKind.wrap_i64];omega
    have hmm:decide ((N2:Int)<=6 * (n2:Int))=true:=decide_eq_true (by omega)
    have hnn:((N1:Int) == (N1:Int))=true:=by simp
    clear B0 C HBr HFR hfr HBT;go_wp2_with fail
    refine HQ1.out.mono ?_;rintro e w16 ⟨cs',v4,c4,rfl,hd,row,b16⟩;have hcs:=DiffC.uniq HDC1.out hd;subst hcs;obtain ⟨_,_,hv,rd,hle,hmx,_⟩:=ZV cCh_len row;injection hv with e1 e2 e3
    subst e1 e3;have C:=sameCh_any v1 c1 cs v4 c4 cs w16 (HRC1.out.below b16) rd (by omega)
    rw [decide_eq_true rfl,<- HNC.out] at C;rw [<- HNC.out];have HQ2:=Za C;have HBE2:=Za (HBE.out.trans (b16.mono HBE.out.size));have HRC2:=Za (HRC2.out.below b16);clear C hd row rd hle hmx b16 HQ1 HRC1 HBE e2;go_wp2_with fail
    refine HQ2.out.mono ?_;rintro e w17 ⟨rfl,b17⟩;have HBE3:=Za (HBE2.out.trans (b17.mono HBE2.out.size));have HRC2:=Za (HRC2.out.below b17);have C:=rapply_any w17 a b c d es l (HX.out.rd.below HBE3.out) (HY.out.rd.below HBE3.out) (by have:=HN1.out;omega) (by have:=HN2.out;omega) HRX.out.2 HX.out.nil
    rw [<- HN1.out,<- HN2.out] at C;have HQ3:=Za C;clear C b17 HQ2 HBE2;go_wp2_with fail
    refine HQ3.out.mono ?_;rintro e w18 ⟨fs',v6,c6,rfl,hap',rd18,_,hfl,b18⟩;have hfs:=hap'.uniq HAP.out;subst hfs;have HBE4:=Za (HBE3.out.trans (b18.mono HBE3.out.size));have HRC2:=Za (HRC2.out.below b18);have C:=rdiff_any w18 a v6 c c6 es fs' (HX.out.rd.below HBE4.out) rd18 (by have:=HN1.out;omega) (by have:=HN1.out;omega) HRX.out.2 (riseE_iff.2 HOZ.out.rise)
    rw [<- HN1.out] at C;have HQ4:=Za C;clear C hap' rd18 hfl b18 HQ3 HBE3;go_wp2_with fail
    refine HQ4.out.mono ?_;rintro e w19 ⟨ds',v7,c7,rfl,hd,row,b19⟩;have hcs:=DiffC.uniq HDC2.out hd;subst hcs;obtain ⟨_,_,hv,rd,hle,hmx,_⟩:=ZV cCh_len row;injection hv with e1 e2 e3
    subst e1 e3;have C:=sameCh_any v2 c2 ds v7 c7 ds w19 (HRC2.out.below b19) rd (by omega)
    rw [decide_eq_true rfl,<- HND.out] at C;rw [<- HND.out];have HQ5:=Za C;have HBE5:=Za (HBE4.out.trans (b19.mono HBE4.out.size));clear C hd row rd hle hmx b19 HQ4 HRC2 HBE4 e2;go_wp2_with fail
    refine HQ5.out.mono ?_;rintro e w20 ⟨rfl,b20⟩;have HBE6:=Za (HBE5.out.trans (b20.mono HBE5.out.size));clear b20 HQ5 HBE5;go_wp2;go_ret
    exact ⟨by simp,HBE6.out⟩
--END1
 ·have C10:=tedit_bad w9 s id b d l (HY.out.rd.below HB9.out) (by have:=HN2.out;omega) (fun q hq=>by have:=HY.out.sz q hq;omega) hed
  rw [<- HN2.out] at C10;have HC10:=Za C10
  have HT9:Hid (ThreeT w3 w9 s T9 es gs es id id9 id 0):=by
   obtain ⟨p1,p2,p3,p4,p5,p6⟩:=HP9.out;exact Za ⟨⟨_,_,p6⟩,by have:=p6.len;omega,p4,p6.nodup,p5,p1,p5,rfl,HOK.out,by have:=HN1.out;omega⟩
  clear C10 HP9 hed;go_wp2_with fail
  refine HC10.out.mono ?_;rintro e w10 ⟨⟨er,her,rfl⟩,b10⟩;have dc:(er != 0)=true:=by simpa using her
  have HB:=Za (HB9.out.trans (b10.mono HB9.out.size))
  have HT:Hid (ThreeT w3 w10 s T9 es gs es id id9 id 0):=by
   obtain ⟨⟨O,m,st⟩,few,tx,nd,rx,ry,rz,ch,okz,lenz⟩:=HT9.out;exact Za ⟨⟨O,m,st.below b10⟩,few,tx,nd,rx,ry,rz,ch,okz,lenz⟩
  have HAP:Hid (ApR es [] es):=Za (ApR.nil HRX.out.2);clear her b10 HC10 HT9;go_wp2_with fail
--TAIL2
  obtain ⟨⟨O,m,st⟩,few,tx,nd,rx,ry,rz,ch,okz,lenz⟩:=HT.out;have HOZ:=Za okz;obtain ⟨la,va,ca⟩:=LvsC.of HOK.out (by have:=HN1.out;omega) few rx
  obtain ⟨lb,vb,cb⟩:=LvsC.of HOG.out (by have:=HN3.out;omega) few ry
  obtain ⟨lz,vz,cz⟩:=LvsC.of okz (by omega) few rz
  have r1:Zo (ZE la):=by rw [ca.ent];exact HRX.out.2
  have r2:Zo (ZE lb):=by rw [cb.ent];exact HRY.out.2
  have r3:Zo (ZE lz):=by rw [cz.ent];exact riseE_iff.2 okz.rise
  have HTR1:=Za (trees_any st few tx va vb);have HTR2:=Za (fun W (u:Below w10.heap.size w10 W)=>trees_any (st.below u) few tx va vz)
  have HTR3:=Za (fun W (u:Below w10.heap.size w10 W)=>trees_any (st.below u) few tx va va)
  have HLV1:=Za (fun W (u:Below w10.heap.size w10 W)=>tleaves_any (st.below u) few tx id la va.root va.len)
  have HLV2:=Za (fun W (u:Below w10.heap.size w10 W)=>tleaves_any (st.below u) few tx id9 lb vb.root vb.len)
  have HD1:Hid (∀ cs,OfR (ZE (ZS la lb)) (ZE (ZS lb la)) cs->DiffC es gs cs):=Za (fun cs h=>by
   have:=diff_off r1 r2 (SameT.of va vb) (h.is (offL_rise r1) (offL_rise r2));rwa [ca.ent,cb.ent] at this)
  have HD2:Hid (∀ cs,OfR (ZE (ZS la lz)) (ZE (ZS lz la)) cs->DiffC es es cs):=Za (fun cs h=>by
   have:=diff_off r1 r3 (SameT.of va vz) (h.is (offL_rise r1) (offL_rise r3));rwa [ca.ent,cz.ent] at this)
  have hM:(ZS la lz).length+(ZS lz la).length<=4 * 0:=off_edits nd ca cz (SameT.of va vz) (SameT.of vz va) ch
  have hK:(ZS la la).length+(ZS la la).length=0:=by
   have:=off_edits nd ca ca (SameT.of va va) (SameT.of va va) (n:=0) rfl;omega
  have hS:=off_two (kids_nodup va r1) (kids_nodup vb r2);have hla:=va.len;have hlb:=vb.len;have HS:=Za hS;have HFL:Hid ((ZS la lb).length=freshK (Zi lb) (Zi la)):=Za off_less;have hM1:=offL_len la lb;have hM2:=offL_len lb la;obtain ⟨N1,hN1⟩:∃ N,N=(ZS la lb).length+(ZS lb la).length:=⟨_,rfl⟩;obtain ⟨N2,hN2⟩:∃ N,N=(ZS la lz).length+(ZS lz la).length:=⟨_,rfl⟩;have HN1':=Za hN1;have hNb:N1<=2000:=by omega
  unfold DTP at HTR1 HTR2 HTR3;rw [<- hN1] at HTR1;rw [<- hN2] at HTR2 hM;rw [hK] at HTR3;clear st few tx nd rx ry rz ch okz ca cb cz va vb vz r1 r2 r3 hS hK hN1 hN2 HT;refine HTR1.out.mono ?_;rintro e w11 ⟨cs,v1,c1,rfl,hof,row,b11⟩;obtain ⟨_,_,hv,rd,_⟩:=ZV cCh_len row;injection hv with e1 e2 e3
  subst e1 e3;have HDC1:=Za (HD1.out cs hof);have HRC1:=Za rd;have HBT:=Za b11;have HTR2b:=Za (HTR2.out w11 b11);obtain ⟨nc,hnc⟩:∃ n,n=cs.length:=⟨_,rfl⟩;have HNC:=Za hnc;rw [<- hnc];clear hof row b11 rd e2 HTR1 HD1 hnc HTR2;go_wp2_with fail
  refine HTR2b.out.mono ?_;rintro e w12 ⟨ds,v2,c2,rfl,hof,row,b12⟩;obtain ⟨_,_,hv,rd,_⟩:=ZV cCh_len row;injection hv with e1 e2 e3
  subst e1 e3;have HDC2:=Za (HD2.out ds hof);have HRC2:=Za rd;have HRC1:=Za (HRC1.out.below b12);have b12':=HBT.out.trans (b12.mono HBT.out.size);have HBT:=Za b12';have HTR3b:=Za (HTR3.out w12 b12');obtain ⟨nd,hnd⟩:∃ n,n=ds.length:=⟨_,rfl⟩;have HND:=Za hnd;rw [<- hnd];clear hof row b12 b12' rd e2 HTR2b HD2 hnd HTR3;go_wp2_with fail
  refine HTR3b.out.mono ?_;rintro e w13 ⟨xs,v3,c3,rfl,_,_,b13⟩;have HRC1:=Za (HRC1.out.below b13);have HRC2:=Za (HRC2.out.below b13);have b13':=HBT.out.trans (b13.mono HBT.out.size);have HBT:=Za b13';have HLVa:=Za (HLV1.out w13 b13');obtain ⟨nx,hnx⟩:∃ n,n=xs.length:=⟨_,rfl⟩;rw [<- hnx];clear b13 b13' HTR3b hnx HLV1;go_wp2_with fail
  refine HLVa.out.mono ?_;rintro e w14 ⟨v,rfl,row1,b14⟩;obtain ⟨ua,uc,hv,rdk,_⟩:=rd_kcells row1;subst hv;obtain ⟨nu,hnu⟩:∃ n,n=(Zi la).length:=⟨_,rfl⟩;rw [<- hnu];have HNU:=Za hnu;have HRU:=Za rdk;have HRC1:=Za (HRC1.out.below b14);have HRC2:=Za (HRC2.out.below b14);have b14':=HBT.out.trans (b14.mono HBT.out.size);have HBT:=Za b14';have HLVb:=Za (HLV2.out w14 b14');have hnu1:nu<=1000:=by rw [hnu,Zt];exact hla
  clear row1 rdk hnu b14 b14' HLVa HLV2;go_wp2_with fail
  refine HLVb.out.mono ?_;rintro e w15 ⟨v,rfl,row2,b15⟩;obtain ⟨va,vc,hv,rdk,_⟩:=rd_kcells row2;subst hv;obtain ⟨nv,hnv⟩:∃ n,n=(Zi lb).length:=⟨_,rfl⟩;rw [<- hnv];have HNV:=Za hnv;have HRV:=Za rdk;have HRU:=Za (HRU.out.below b15);have HRC1:=Za (HRC1.out.below b15);have HRC2:=Za (HRC2.out.below b15);have HBT:=Za (HB.out.trans ((HBT.out.trans (b15.mono HBT.out.size)).mono HB.out.size));have hnv1:nv<=1000:=by rw [hnv,Zt];exact hlb
  have HEQ:Hid ((ZS la lb).length+nv=(ZS lb la).length+nu):=Za (by rw [hnv,HNU.out,Zt,Zt];exact HS.out)
  obtain ⟨F1,hF1⟩:∃ F,F=(ZS la lb).length:=⟨_,rfl⟩;obtain ⟨F2,hF2⟩:∃ F,F=(ZS lb la).length:=⟨_,rfl⟩;rw [<- hF1] at HFL HEQ HN1';rw [<- hF2] at HEQ HN1';rw [<- hF1] at hM1;clear row2 rdk hnv b15 HLVb HS hF1 hF2 hM2;generalize Zi la=now at *;generalize Zi lb=old at *;go_wp2;go_loopw [27,115] (fun f i wr=>∃ k fr sh:Nat,k<=nu/\i=.int .i64 k/\f=.int .i64 ((fr:Int) - (sh:Int))/\Hid (fr=freshK old (now.take k))/\fr+sh=k/\Hid (Below w15.heap.size w15 wr)) (fun _ i _=>nu - (intOf i).toNat)
  case atStart=>exact ⟨0,0,0,Nat.zero_le _,rfl,rfl,Za (by simp [freshK]),rfl,Za (Below.refl _ _)⟩
  case round =>
   obtain ⟨k,fr,sh,hk,rfl,rfl,HFR,hfk,HBr⟩:=hrel;by_cases hkn:k < nu
   ·obtain ⟨⟨kk,ki⟩,hx⟩:∃ x,now[k]?=some x:=⟨now[k]'(by have:=HNU.out;omega),List.getElem?_eq_getElem _⟩
    obtain ⟨g,o,rfl,c0,c1⟩:=(HRU.out.below HBr.out) k _ hx;simp only at c0 c1;have HTK:Hid (freshK old (now.take (k+1))=freshK old (now.take k)+(if (⟨kk,ki⟩:Ki) ∈ old then 0 else 1)):=Za (by rw [List.take_add_one,hx];exact freshK_snoc old _ _)
    obtain ⟨A0,hA0⟩:∃ A0,A0=wr.alloc (.cells #[.string kk,.int .u64 (ki:Int)] 41):=⟨_,rfl⟩;have bA:Below wr.heap.size wr A0:=by rw [hA0];exact (Below.refl _ wr).alloc (Nat.le_refl _) _
    have kA:Ob A0 wr.heap.size 41 [.string kk,.int .u64 (ki:Int)]:=by rw [hA0];exact Ob.new wr [.string kk,.int .u64 (ki:Int)] 41
    have HKA:=Za kA;have HBA:=Za (HBr.out.trans (bA.mono HBr.out.size));clear hx bA kA;go_wp2;rw [<- hA0];clear hA0 c0 c1;go_loopw [30,121] (fun b i wq=>∃ (j:Nat) (bb:Bool),j<=nv/\i=.int .i64 j/\b=.bool bb/\Hid (bb=true↔(⟨kk,ki⟩:Ki) ∈ old.take j)/\Hid (Below A0.heap.size A0 wq)) (fun _ i _=>nv - (intOf i).toNat)
    case atStart=>exact ⟨0,false,Nat.zero_le _,rfl,rfl,Za (by simp),Za (Below.refl _ _)⟩
    case round =>
     obtain ⟨j,bb,hj,rfl,rfl,HI,HBq⟩:=hrel;by_cases hjn:j < nv
     ·obtain ⟨⟨jk,ji⟩,hy⟩:∃ x,old[j]?=some x:=⟨old[j]'(by have:=HNV.out;omega),List.getElem?_eq_getElem _⟩
      obtain ⟨g2,o2,rfl,c0,c1⟩:=((HRV.out.below HBA.out).below HBq.out) j _ hy;simp only at c0 c1;have htk:old.take (j+1)=old.take j++[⟨jk,ji⟩]:=by rw [List.take_add_one,hy];rfl
      obtain ⟨Q0,hQ0⟩:∃ Q0,Q0=wr.alloc (.cells #[.string jk,.int .u64 (ji:Int)] 41):=⟨_,rfl⟩;have bQ:Below wr.heap.size wr Q0:=by rw [hQ0];exact (Below.refl _ wr).alloc (Nat.le_refl _) _
      have kQ:=(HKA.out.old HBq.out).old bQ;rw [hQ0] at kQ;have z0:=kQ.cell 0;have z1:=kQ.cell 1;simp only [List.getElem?_cons_zero,List.getElem?_cons_succ] at z0 z1
      have HBF:Hid (Below A0.heap.size A0 (wr.alloc (.cells #[.string jk,.int .u64 (ji:Int)] 41))):=Za (HBq.out.alloc HBq.out.size _);have hgd:Tryz.prog.eqGuardType Tryz.prog.depth 41=false:=by kernel_rfl
      have hcmp:=eqlKi ⟨kk,ki⟩ ⟨jk,ji⟩;simp only at hcmp;cases bb with
      | true =>
       have HI2:Hid (true=true↔(⟨kk,ki⟩:Ki) ∈ old.take (j+1)):=Za (by rw [htk];simp [HI.out.1 rfl])
       clear hy htk HI bQ kQ hQ0 hcmp;go_wp2;go_roundw
       case rel=>exact ⟨j+1,true,by omega,by go_num,rfl,HI2,HBF⟩
       case measure=>simp [intOf];omega
      | false =>
       by_cases heq:(⟨kk,ki⟩:Ki)=⟨jk,ji⟩
       ·have HI2:Hid (true=true↔(⟨kk,ki⟩:Ki) ∈ old.take (j+1)):=Za (by rw [htk,heq];simp)
        rw [decide_eq_true heq] at hcmp;clear hy htk HI bQ kQ hQ0 heq;go_wp2;go_roundw
        case rel=>exact ⟨j+1,true,by omega,by go_num,rfl,HI2,HBF⟩
        case measure=>simp [intOf];omega
       ·have HI2:Hid (false=true↔(⟨kk,ki⟩:Ki) ∈ old.take (j+1)):=Za (by
         rw [htk,List.mem_append,List.mem_singleton];constructor
         ·intro q;cases q
         ·rintro (q | q)
          ·exact HI.out.2 q
          ·exact absurd q heq)
        rw [decide_eq_false heq] at hcmp;clear hy htk HI bQ kQ hQ0 heq;go_wp2;go_roundw
        case rel=>exact ⟨j+1,false,by omega,by go_num,rfl,HI2,HBF⟩
        case measure=>simp [intOf];omega
     ·have hI:=HI.out;rw [List.take_of_length_le (by have:=HNV.out;omega)] at hI
      have HBF:=Za (HBA.out.trans (HBq.out.mono HBA.out.size));cases bb with
      | true =>
       have HF2:Hid (fr=freshK old (now.take (k+1))):=Za (by rw [HTK.out,if_pos (hI.1 rfl)];exact HFR.out)
       have wz:IntKind.i64.wrap ((fr:Int) - (sh:Int) - 1)=(fr:Int) - ((sh+1:Nat):Int):=by rw [IntKind.wrap_i64];omega
       clear hI HI;go_wp2;go_roundw
       case rel=>exact ⟨k+1,fr,sh+1,by omega,by go_num,(by first | rfl | (rw [<- wz]) | (congr 1)),HF2,by omega,HBF⟩
       case measure=>simp [intOf];omega
      | false =>
       have HF2:Hid (fr+1=freshK old (now.take (k+1))):=Za (by rw [HTK.out,if_neg (fun q=>by have:=hI.2 q;cases this),HFR.out])
       have wz:IntKind.i64.wrap ((fr:Int) - (sh:Int)+1)=((fr+1:Nat):Int) - (sh:Int):=by rw [IntKind.wrap_i64];omega
       clear hI HI;go_wp2;go_roundw
       case rel=>exact ⟨k+1,fr+1,sh,by omega,by go_num,(by first | rfl | (rw [<- wz]) | (congr 1)),HF2,by omega,HBF⟩
       case measure=>simp [intOf];omega
   ·have hfr:fr=F1:=by
     have h1:=HFR.out;rw [List.take_of_length_le (by have:=HNU.out;omega)] at h1
     rw [h1,HFL.out]
    have B0:Below w.heap.size w wr:=HBT.out.trans (HBr.out.mono HBT.out.size);have HBE:=Za B0;have HRC1:=Za (HRC1.out.below HBr.out);have HRC2:=Za (HRC2.out.below HBr.out);have C:=rdiff_any wr a a' c c' es gs (HX.out.rd.below B0) (HZ.out.rd.below B0) (by have:=HN1.out;omega) (by have:=HN3.out;omega) HRX.out.2 HRY.out.2
    rw [<- HN1.out,<- HN3.out] at C;have HQ1:=Za C;have wz:IntKind.i64.wrap ((fr:Int) - (sh:Int)+(nv:Int))=(N1:Int):=by have:=HEQ.out;have:=HN1'.out;rw [IntKind.wrap_i64];omega
    have wm:IntKind.i64.wrap (6 * (0:Int))=6 * (0:Int):=by rw [IntKind.wrap_i64];omega
    have hmm:decide ((N2:Int)<=6 * (0:Int))=true:=decide_eq_true (by omega)
    have hnn:((N1:Int) == (N1:Int))=true:=by simp
    clear B0 C HBr HFR hfr HBT;go_wp2_with fail
    refine HQ1.out.mono ?_;rintro e w16 ⟨cs',v4,c4,rfl,hd,row,b16⟩;have hcs:=DiffC.uniq HDC1.out hd;subst hcs;obtain ⟨_,_,hv,rd,hle,hmx,_⟩:=ZV cCh_len row;injection hv with e1 e2 e3
    subst e1 e3;have C:=sameCh_any v1 c1 cs v4 c4 cs w16 (HRC1.out.below b16) rd (by omega)
    rw [decide_eq_true rfl,<- HNC.out] at C;rw [<- HNC.out];have HQ2:=Za C;have HBE2:=Za (HBE.out.trans (b16.mono HBE.out.size));have HRC2:=Za (HRC2.out.below b16);clear C hd row rd hle hmx b16 HQ1 HRC1 HBE e2;go_wp2_with fail
    refine HQ2.out.mono ?_;rintro e w17 ⟨rfl,b17⟩;have HBE3:=Za (HBE2.out.trans (b17.mono HBE2.out.size));have HRC2:=Za (HRC2.out.below b17);have C:=rapply_any w17 a none c 0 es ([]:List Ed) (HX.out.rd.below HBE3.out) (fun i x hi=>by simp at hi) (by have:=HN1.out;omega) (by simp) HRX.out.2 HX.out.nil
    rw [<- HN1.out] at C;simp only [List.length_nil] at C;have HQ3:=Za C;clear C b17 HQ2 HBE2;go_wp2_with fail
    refine HQ3.out.mono ?_;rintro e w18 ⟨fs',v6,c6,rfl,hap',rd18,_,hfl,b18⟩;have hfs:=hap'.uniq HAP.out;rw [hfs] at rd18;rw [hfs,<- HN1.out];have HBE4:=Za (HBE3.out.trans (b18.mono HBE3.out.size));have HRC2:=Za (HRC2.out.below b18);have C:=rdiff_any w18 a v6 c c6 es es (HX.out.rd.below HBE4.out) rd18 (by have:=HN1.out;omega) (by have:=HN1.out;omega) HRX.out.2 (riseE_iff.2 HOZ.out.rise)
    rw [<- HN1.out] at C;have HQ4:=Za C;clear C hap' rd18 hfl hfs b18 HQ3 HBE3;go_wp2_with fail
    refine HQ4.out.mono ?_;rintro e w19 ⟨ds',v7,c7,rfl,hd,row,b19⟩;have hcs:=DiffC.uniq HDC2.out hd;subst hcs;obtain ⟨_,_,hv,rd,hle,hmx,_⟩:=ZV cCh_len row;injection hv with e1 e2 e3
    subst e1 e3;have C:=sameCh_any v2 c2 ds v7 c7 ds w19 (HRC2.out.below b19) rd (by omega)
    rw [decide_eq_true rfl,<- HND.out] at C;rw [<- HND.out];have HQ5:=Za C;have HBE5:=Za (HBE4.out.trans (b19.mono HBE4.out.size));clear C hd row rd hle hmx b19 HQ4 HRC2 HBE4 e2;go_wp2_with fail
    refine HQ5.out.mono ?_;rintro e w20 ⟨rfl,b20⟩;have HBE6:=Za (HBE5.out.trans (b20.mono HBE5.out.size));clear b20 HQ5 HBE5;go_wp2;go_ret
    exact ⟨by have hz:N2=0:=(by omega);simp [hz],HBE6.out⟩
end Go.Proofs.YteopalkiebfioaaGreat
