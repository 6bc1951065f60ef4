import Derived.Test.YtdhebpnkfookcaaGreatQM48
set_option maxRecDepth 100000
set_option maxHeartbeats 16000000
namespace Go.Proofs.YtdhebpnkfookcaaGreat
open Go.RowKit Apo
theorem pg_none:pgT []=1:=by simp [pgT]
theorem room_put {T:List (List Int)} {n:Nat} (hT:T.length+1<=pgT T) (hn:n<=100) (hp:pgT T+22 * (n+1)<=4096):∀ fs,MapOk fs->fs.length<=n+1->(fs.flatMap enB).length<=40000/\pgT (treeT T fs)<=4096:=fun fs ok hl=>by
 have hb:=ok.bytes (by omega)
 have:=tree_pages (T:=T) ok (by omega) hb (by omega)
 exact ⟨hb,by omega⟩
theorem pages_put {T:List (List Int)} {fs:List En} {n:Nat} (hT:T.length+1<=pgT T) (hn:n<=100) (hp:pgT T<=4096) (ok:MapOk fs) (hl:fs.length<=n+1):pgT (treeT T fs)<=pgT T+22 * (n+1):=by
 have hb:=ok.bytes (by omega)
 have:=tree_pages (T:=T) ok (by omega) hb (by omega)
 omega
theorem one_put {fs:List En} {k v:ByteArray} (h:ApR [] [⟨k,v,false⟩] fs):fs=[⟨k,v⟩]:=by
 have:=h.uniq (apr_set (es:=[]) (riseE_iff.2 (rightE_map rightE_nil).rise) true k v);rw [this];simp [setE,lowE,higE,midE]
theorem awake18 (w:World):Calls Tryz.prog 7 #[] w fun e w'=>e=.returned (.bool true)/\Below w.heap.size w w':=by
 go_enter Tryz.func7,Tryz.ntmps7
 go_wp2_with fail
 refine (tstore_any w).mono ?_;rintro e w1 ⟨s,O,rfl,t1⟩;have C2:=wput_any t1 (by rw [pg_none];omega) (fun t ht=>by simp at ht) root_none (rightE_map rightE_nil) (by simp) ⟨#[97]⟩ ⟨#[49]⟩ ⟨by decide,by decide⟩ (room_put (by rw [pg_none];simp) (by simp) (by rw [pg_none];simp))
 have HC2:=Za C2;have HB1:=Za t1.bel;have HLO:=Za t1.lo;clear C2 t1;go_wp2_with fail
 refine HC2.out.mono ?_;rintro e w2 hh
 obtain ⟨fs,id,O',T',rfl,hap,hok,hfl,r1,r2,r2',r3,r4,r5,r6⟩:OneP w w1 s O [] 1 [] ⟨⟨#[97]⟩,⟨#[49]⟩,false⟩ e w2:=by
  rcases hh with ⟨q,_⟩ | ⟨_,q⟩
  ·exact absurd (by decide) q
  ·exact q
 have hfs:=one_put hap
 have hpg:pgT T'<=23:=by
  have:=pages_put (T:=[]) (n:=0) (by rw [pg_none];simp) (by omega) (by rw [pg_none];omega) hok hfl
  rw [r3.1];rw [pg_none] at this;omega
 have htx:TxOk T':=r2' (fun t ht=>by simp at ht)
 subst hfs;have hlen:=r4.len;have C3:=wdel_any r4 (by omega) htx r1 hok (by simp) ⟨#[98]⟩ (by decide) (room_put hlen (by simp) (by simp;omega))
 have HC3:=Za C3;have HR:=Za (And.intro r1 (And.intro r4 (And.intro htx (And.intro hok hpg))));have HB2:=Za (Below.onl HB1.out r6 (fun i q=>HLO.out i q) (Nat.le_refl _))
 clear C3 r1 r2 r2' r3 r4 r5 r6 hpg htx hok hlen hap hfl hh HC2;go_wp2_with fail
 refine HC3.out.mono ?_;rintro e w3 hh
 obtain ⟨rfl,b3⟩:BadP 3 w2 e w3:=by
  rcases hh with ⟨q,_⟩ | ⟨_,_,q⟩ | ⟨_,⟨x,hx,hk⟩,_⟩
  ·exact absurd (by decide) q
  ·exact q
  ·rw [List.mem_singleton.1 hx] at hk;exact absurd hk (by decide)
 obtain ⟨r1,r4,htx,hok,hpg⟩:=HR.out;have hlen:=r4.len;have hT:T'.length<=16000:=by omega
 obtain ⟨ls,q1,q2,q3,q4⟩:=r1.tree hok (by simp) hT
 have C4:=tgettree_any (r4.below b3) hT htx id ls q1 (by rw [q2];exact riseE_iff.2 hok.rise) ⟨#[97]⟩
 rw [q2] at C4;have HC4:=Za C4;have HB3:=Za (HB2.out.trans (b3.mono HB2.out.size));have HRI:Hid (ZY [(⟨⟨#[97]⟩,⟨#[49]⟩⟩:En)]):=Za (riseE_iff.2 hok.rise);clear C4 b3 r1 r4 htx hok hpg hlen hT q1 q2 q3 q4 HR hh HC3;go_wp2_with fail
 refine HC4.out.mono ?_;rintro e w4 ⟨v,b,rfl,hg,b4⟩;obtain ⟨rfl,rfl⟩:v=⟨#[49]⟩/\b=true:=gets_uniq HRI.out hg (.inl ⟨rfl,_,List.mem_singleton.2 rfl,rfl,rfl⟩);have HF:=Za (HB3.out.trans (b4.mono HB3.out.size));clear hg b4;go_wp2;go_ret
 exact ⟨rfl,HF.out⟩
structure Lies (w W:World) (s:Nat) (T:List (List Int)):Prop where
 st:∃ O m,TSw w W s O T m
 tx:TxOk T
 pg:pgT T<=4096
theorem Lies.len {w W:World} {s:Nat} {T:List (List Int)} (h:Lies w W s T):T.length<=16000:=by
 obtain ⟨O,m,t⟩:=h.st;have:=t.len;have:=h.pg;omega
theorem Lies.nodup {w W:World} {s:Nat} {T:List (List Int)} (h:Lies w W s T):T.Nodup:=by
 obtain ⟨O,m,t⟩:=h.st;exact t.nodup
theorem Lies.below {w W W':World} {s:Nat} {T:List (List Int)} (h:Lies w W s T) (b:Below W.heap.size W W'):Lies w W' s T:=by
 obtain ⟨O,m,t⟩:=h.st;exact ⟨⟨O,m,t.below b⟩,h.tx,h.pg⟩
def Came (T:List (List Int)) (es:List En) (x:Ed) (id:Nat):Prop:=∃ fs,ApR es [x] fs/\MapOk fs/\fs.length<=es.length+1/\RootOf T fs id
theorem Came.sub {T T':List (List Int)} {es:List En} {x:Ed} {id:Nat} (h:Came T es x id) (s:Sub T T'):Came T' es x id:=by
 obtain ⟨fs,h1,h2,h3,h4⟩:=h;exact ⟨fs,h1,h2,h3,h4.sub s⟩
def WkP (w:World) (s:Nat) (T:List (List Int)) (es:List En) (x:Ed) (E:Int) (e:Ending) (W':World):Prop :=
 ∃ (a:Nat) (T':List (List Int)),e=.returned (.tuple #[.int .u64 a,.int .i64 E])/\Lies w W' s T'/\Sub T T'/\pgT T'<=pgT T+22 * (es.length+1)/\(E≠0->a=0)/\(E=0->Came T' es x a)/\Below w.heap.size w W'
theorem OneP.law {w W W':World} {s m:Nat} {O:Nat->Prop} {T:List (List Int)} {es:List En} {x:Ed} {e:Ending} (t:TSw w W s O T m) (hx:TxOk T) (hle:es.length<=100) (hroom:pgT T+22 * (es.length+1)<=4096) (h:OneP w W s O T m es x e W'):WkP w s T es x 0 e W':=by
 obtain ⟨fs,id,O',T',rfl,hap,hok,hfl,r1,r2,r2',r3,r4,r5,r6⟩:=h;have hpg:=pages_put t.len hle (by omega) hok hfl
 rw [<- r3.1] at hpg;exact ⟨id,T',rfl,⟨⟨O',m,r4⟩,r2' hx,by omega⟩,r2,hpg,fun q=>absurd rfl q,fun _=>⟨fs,hap,hok,hfl,r1⟩,Below.onl t.bel r6 (fun i q=>t.lo i q) (Nat.le_refl _)⟩
theorem BadP.law {w W W':World} {s m:Nat} {O:Nat->Prop} {T:List (List Int)} {es:List En} {x:Ed} {e:Ending} {E:Int} (hE:E≠0) (t:TSw w W s O T m) (hx:TxOk T) (hroom:pgT T+22 * (es.length+1)<=4096) (h:BadP E W e W'):WkP w s T es x E e W':=by
 obtain ⟨rfl,b⟩:=h;exact ⟨0,T,rfl,⟨⟨O,m,t.below b⟩,hx,by omega⟩,fun _ _ h=>h,by omega,fun _=>rfl,fun q=>absurd q hE,t.bel.trans (b.mono t.bel.size)⟩
theorem put18 {w W:World} {s:Nat} {T:List (List Int)} (h:Lies w W s T) {es:List En} {id:Nat} (hr:RootOf T es id) (hok:MapOk es) (hle:es.length<=100) (hroom:pgT T+22 * (es.length+1)<=4096) (key val:ByteArray) (hz:key.size<=maxLen/\val.size<=maxLen) :
  Calls Tryz.prog 11 #[.pointer (some ⟨s,0,none⟩),.int .u64 id,.string key,.string val] W (WkP w s T es ⟨key,val,false⟩ (edE ⟨key,val,false⟩)):=by
 obtain ⟨⟨O,m,t⟩,hx,hp⟩:=h;refine (wput_any t hp hx hr hok hle key val hz (room_put t.len hle hroom)).mono ?_;rintro e W' (⟨hE,q⟩ | ⟨hE,q⟩)
 ·exact BadP.law hE t hx hroom q
 ·rw [hE];exact OneP.law t hx hle hroom q
open Classical in
noncomputable def delE (es:List En) (key:ByteArray):Int:=if ZT key≠0 then ZT key else if ∃ x ∈ es,x.k=key then 0 else 3
theorem del18 {w W:World} {s:Nat} {T:List (List Int)} (h:Lies w W s T) {es:List En} {id:Nat} (hr:RootOf T es id) (hok:MapOk es) (hle:es.length<=100) (hroom:pgT T+22 * (es.length+1)<=4096) (key:ByteArray) (hz:key.size<=maxLen) :
  Calls Tryz.prog 12 #[.pointer (some ⟨s,0,none⟩),.int .u64 id,.string key] W (WkP w s T es ⟨key,⟨#[]⟩,true⟩ (delE es key)):=by
 obtain ⟨⟨O,m,t⟩,hx,hp⟩:=h;refine (wdel_any t hp hx hr hok hle key hz (room_put t.len hle hroom)).mono ?_;rintro e W' (⟨hE,q⟩ | ⟨hE,hno,q⟩ | ⟨hE,hyes,q⟩)
 ·have:delE es key=ZT key:=by unfold delE;rw [if_pos hE]
  rw [this];exact BadP.law hE t hx hroom q
 ·have:delE es key=3:=by
   unfold delE;rw [if_neg (by simp [hE]),if_neg (fun ⟨x,h1,h2⟩=>hno x h1 h2)]
  rw [this];exact BadP.law (by decide) t hx hroom q
 ·have:delE es key=0:=by
   unfold delE;rw [if_neg (by simp [hE]),if_pos hyes]
  rw [this];exact OneP.law t hx hle hroom q
theorem Came.tells {w W:World} {s:Nat} {T:List (List Int)} {es gs:List En} {x:Ed} {id:Nat} (h:Lies w W s T) (hc:Came T es x id) (hle:es.length<=90) (hg:ApR es [x] gs) (a:Option Addr) (c:Nat) (hrd:RdEn W a gs) :
  Calls Tryz.prog 16 #[.pointer (some ⟨s,0,none⟩),.int .u64 id,.slice a gs.length c] W fun e W'=>e=.returned (.bool true)/\Below W.heap.size W W':=by
 obtain ⟨fs,h1,h2,h3,h4⟩:=hc;obtain ⟨O,m,t⟩:=h.st;have e:fs=gs:=h1.uniq hg;subst e;refine (tells18 t h.len h.tx h4 h2 (by omega) a c fs hrd).mono ?_
 rintro e W' ⟨rfl,b⟩;exact ⟨by simp,b⟩
open Classical in
noncomputable def mapB (l:List En):Bool:=lightB l && decide (ZX l=0)
theorem mapB_ok {l:List En} (h:mapB l=true):l.length<=60/\MapOk l/\ZY l:=by
 unfold mapB at h;rw [Bool.and_eq_true,decide_eq_true_eq] at h;have h2:=rightE_map h.2;have h1:=h.1;unfold lightB at h1;rw [Bool.and_eq_true,decide_eq_true_eq] at h1;exact ⟨h1.2,h2,riseE_iff.2 h2.rise⟩
theorem map11 (w:World) (x:EsA) (hx:OkEs w x):Calls Tryz.prog 8 #[.slice x.a x.l.length x.c] w fun e w'=>e=.returned (.bool (mapB x.l))/\Below w.heap.size w w':=by
 obtain ⟨a,c,es⟩:=x;simp only;have hml:maxLen<=9223372036854775807:=by decide
 have hbig:=hx.big;have hlen:=hx.len;simp only at hbig hlen;have C1:=light_any w a c es hx.rd (by omega) hx.sz
 have HC1:=Za C1;have HX:=Za hx;obtain ⟨n,hn⟩:∃ n,n=es.length:=⟨_,rfl⟩;have HN:=Za hn;rw [<- hn] at HC1 ⊢;clear hbig hlen hn hx C1;cases hl:lightB es with
 | false =>
  have hm:mapB es=false:=by unfold mapB;rw [hl];rfl
  rw [hl] at HC1;rw [hm];clear hl hm;go_enter Tryz.func8,Tryz.ntmps8
  go_wp2_with fail
  refine HC1.out.mono ?_;rintro e' w1 ⟨rfl,b1⟩;go_wp2;go_ret
  exact ⟨rfl,b1⟩
 | true =>
  have hn60:es.length<=60:=by
   have h1:=hl;unfold lightB at h1;rw [Bool.and_eq_true,decide_eq_true_eq] at h1;exact h1.2
  have C2:∀ W,Below w.heap.size w W->Calls Tryz.prog 27 #[.slice a n c] W (RrP es W):=fun W b=>by
   have:=rright_any W a c es (HX.out.rd.below b) (by omega) HX.out.sz
   rwa [<- HN.out] at this
  have HC2:=Za C2;have hm:mapB es=decide (ZX es=0):=by unfold mapB;rw [hl];rfl
  rw [hl] at HC1;rw [hm];clear C2 hl hm;obtain ⟨r,hr⟩:∃ r,r=ZX es:=⟨_,rfl⟩;unfold RrP at HC2;rw [<- hr] at HC2 ⊢;clear hr;go_enter Tryz.func8,Tryz.ntmps8
  go_wp2_with fail
  refine HC1.out.mono ?_;rintro e' w1 ⟨rfl,b1⟩;have HC2':=Za (HC2.out w1 b1);go_wp2_with fail
  refine HC2'.out.mono ?_;rintro e' w2 ⟨rfl,b2⟩;have HB:=Za (b1.trans (b2.mono b1.size));clear b1 b2;go_wp2;go_ret
  refine ⟨?_,HB.out⟩;by_cases q:r=0
  ·simp [q]
  ·simp [q]
theorem edE_put {k v:ByteArray}:edE ⟨k,v,false⟩=if ZT k≠0 then ZT k else valE v:=by
 unfold edE;split
 ·rfl
 ·simp
theorem cEn_len:∀ x,(cEn x).length=2:=fun _=>rfl
theorem room_first18 {es:List En} (ok:MapOk es) (hl:es.length<=60):(es.flatMap enB).length<=40000/\pgT (treeT [] es)<=1321:=by
 have hb:=ok.bytes (by omega)
 have:=tree_pages (T:=[]) ok (by omega) hb (by simp)
 rw [pg_none] at this;exact ⟨hb,by omega⟩
theorem mapB_right18 {es:List En} (h:mapB es=true):ZX es=0:=by
 unfold mapB at h;rw [Bool.and_eq_true,decide_eq_true_eq] at h;exact h.2
theorem back_root {T:List (List Int)} {es fs gs:List En} {k v u:ByteArray} {id a b:Nat} (hT:T.length<=16000) (hn:T.Nodup) (ok:MapOk es) (okf:MapOk fs) (l1:es.length<=100) (l2:fs.length<=100) (hno:∀ e ∈ es,e.k≠k) (h1:ApR es [⟨k,v,false⟩] fs) (h2:ApR fs [⟨k,u,true⟩] gs) (r0:RootOf T es id) (r1:RootOf T fs a) (r2:RootOf T gs b):b=id/\a≠id:=by
 have hr:=riseE_iff.2 ok.rise;have e:=put_gone hr hno h1 h2;subst e;refine ⟨?_,fun q=>?_⟩
 ·rw [<- (tree_there hn r2).2,<- (tree_there hn r0).2]
 ·subst q;have e2:=RootOf.inj hT ok okf (by omega) (by omega) r0 r1
  obtain ⟨x,hx,hk⟩:=put_there hr h1;rw [<- e2] at hx;exact hno x hx hk
theorem fldS (b:Bool) (v:ByteArray) (W:World):(Instr.field 35 (.agg #[.bool b,.string v]) 0).run Tryz.prog W=.ok (.bool b) W:=by
 have u:=Tryz.underlying35;have h3:(Tryz.prog.info? 4).map (·.size)=some 1:=by kernel_rfl
 cases hq:Tryz.prog.info? 4 with
 | none=>simp [hq] at h3
 | some i =>
  have hi:i.size=1:=by simpa [hq] using h3
  simp [Instr.field,run_underlying u,asAgg,part,Go.sizeOf,typeInfo,hq,hi,go_sem]
theorem puts18 (w:World) (x:EsA) (hx:OkEs w x) (key val:ByteArray) (hzk:key.size<=maxLen) (hzv:val.size<=maxLen) :
  Calls Tryz.prog 3 #[.slice x.a x.l.length x.c,.string key,.string val] w fun e w'=>e=.returned (.bool true)/\Below w.heap.size w w':=by
 obtain ⟨a,c,es⟩:=x;simp only;have hml:maxLen<=9223372036854775807:=by decide
 have hb1:=hx.big;have hl1:=hx.len;simp only at hb1 hl1;have HX:=Za hx;have HC1:=Za (fun W (u:Below w.heap.size w W)=>map11 W ⟨a,c,es⟩ (hx.below u))
 simp only at HC1;obtain ⟨n1,hn1⟩:∃ n,n=es.length:=⟨_,rfl⟩;have HN1:=Za hn1;rw [<- hn1] at HC1 hl1 ⊢;obtain ⟨B1,hB1⟩:∃ B,B=mapB es:=⟨_,rfl⟩;rw [<- hB1] at HC1;have HE1:=Za hB1;have HAW:=Za (awake18 w);clear hx hn1 hB1;go_enter Tryz.func3,Tryz.ntmps3
 go_wp2_with fail
 refine HAW.out.mono ?_;rintro e w0 ⟨rfl,b0⟩;have HB0:=Za b0;clear b0 HAW;have HG0:=Za (HC1.out _ HB0.out);go_wp2_with fail
 refine HG0.out.mono ?_;rintro e w1 ⟨rfl,b1⟩;have HB1:=Za (HB0.out.trans (b1.mono HB0.out.size));clear b1 HG0;cases B1 with
 | false =>
  go_wp2;go_ret
  exact ⟨rfl,HB1.out⟩
 | true =>
 by_cases hk60:key.size<=60
 rotate_left
 ·have hd:decide ((key.size:Int) > 60)=true:=decide_eq_true (by omega)
  have hd':decide ((60:Int) < (key.size:Int))=true:=decide_eq_true (by omega)
  go_wp2;go_ret
  exact ⟨rfl,HB1.out⟩
 have hd1:decide ((key.size:Int) > 60)=false:=decide_eq_false (by omega)
 have hd1':decide ((60:Int) < (key.size:Int))=false:=decide_eq_false (by omega)
 by_cases hv250:val.size<=250
 rotate_left
 ·have hd:decide ((val.size:Int) > 250)=true:=decide_eq_true (by omega)
  have hd':decide ((250:Int) < (val.size:Int))=true:=decide_eq_true (by omega)
  go_wp2;go_ret
  exact ⟨rfl,HB1.out⟩
 have hd2:decide ((val.size:Int) > 250)=false:=decide_eq_false (by omega)
 have hd2':decide ((250:Int) < (val.size:Int))=false:=decide_eq_false (by omega)
 obtain ⟨hqx,hok,hrx⟩:=mapB_ok HE1.out.symm;have hq1:n1<=60:=by rw [HN1.out];exact hqx
 have HRX:=Za (And.intro (mapB_right18 HE1.out.symm) hrx);have HOK:=Za hok;have HCS:=Za (tstore_any w1);clear HC1 HB0 HE1 hqx hok hrx;go_wp2_with fail
 refine HCS.out.mono ?_;rintro e w7 ⟨s,O7,rfl,t7⟩;have HB7:=Za (HB1.out.trans (t7.bel.mono HB1.out.size));have C8:=tBuild_any t7 a c es (HX.out.rd.below HB7.out) HX.out.nil (by have:=HN1.out;omega) HX.out.sz (fun ok=>by have:=room_first18 ok (by have:=HN1.out;omega);exact ⟨this.1,by omega⟩)
 rw [<- HN1.out] at C8;have HC8:=Za C8;have HLO7:=Za t7.lo;have HBL7:=Za t7.bel;clear C8 t7 HCS;clear hd1 hd1' hd2 hd2';go_wp2_with fail
 refine HC8.out.mono ?_;rintro e w8 hb8;obtain ⟨id,O8,T8,rfl,p1,p2,p2',p3,p4,p5,p6⟩:=hb8.good HRX.out.1;have hp8:pgT T8<=1321:=by rw [p3.1];exact (room_first18 HOK.out (by have:=HN1.out;omega)).2
 have L8:Lies w1 w8 s T8:=⟨⟨O8,_,p4⟩,p2' (fun t ht=>by simp at ht),by omega⟩
 have C9:=put18 L8 p1 HOK.out (by have:=HN1.out;omega) (by have:=HN1.out;omega) key val ⟨hzk,hzv⟩
 obtain ⟨E,hE⟩:∃ E,E=edE ⟨key,val,false⟩:=⟨_,rfl⟩;have HEE:=Za hE;rw [<- hE] at C9;have HC9:=Za C9;have HP8:=Za (And.intro p1 hp8);clear C9 p1 p2 p2' p3 p4 p5 p6 hp8 L8 hb8 HC8 HLO7 hE;go_wp2_with fail
 refine HC9.out.mono ?_;rintro e w9 ⟨aid,T9,rfl,L9,s9,g9,z9,c9,b9⟩;have C10:=del18 L9 (HP8.out.1.sub s9) HOK.out (by have:=HN1.out;omega) (by have:=HN1.out;have:=HP8.out.2;omega) key hzk
 obtain ⟨F,hF⟩:∃ F,F=delE es key:=⟨_,rfl⟩;have HFE:=Za hF;rw [<- hF] at C10;have HC10:=Za C10;have HC9':=Za c9;clear C10 L9 s9 g9 z9 c9 b9 HC9 HP8 hF;go_wp2_with fail
 refine HC10.out.mono ?_;rintro e w10 ⟨bid,T10,rfl,L10,s10,g10,z10,d10,b10⟩;have HL10:=Za L10;have HCA:Hid (E=0->Came T10 es ⟨key,val,!true⟩ aid):=Za (fun q=>(HC9'.out q).sub s10)
 have HCB:Hid (F=0->Came T10 es ⟨key,⟨#[]⟩,!false⟩ bid):=Za d10;have HBW:=Za (HB1.out.trans (b10.mono HB1.out.size));have HBT:Hid (Below w10.heap.size w10 w10):=Za (Below.refl _ _);have HGET:=Za (fun W (u:Below w.heap.size w W)=>rget_any W a c es key (HX.out.rd.below u) (by have:=HN1.out;omega))
 rw [<- HN1.out] at HGET;have HK:=Za (fun W=>rkey_any key W (by omega))
 have HV:=Za (fun W=>rval_any val W (by omega))
 obtain ⟨K,hK⟩:∃ K,K=ZT key:=⟨_,rfl⟩;obtain ⟨V,hV⟩:∃ V,V=valE val:=⟨_,rfl⟩;rw [<- hK] at HK;rw [<- hV] at HV;have HKE:=Za hK;have HVE:=Za hV;clear L10 s10 g10 z10 d10 b10 HC10 HC9' hK hV HB7 HBL7;go_wp2_with fail
 refine (HK.out _).mono ?_;rintro e w11 ⟨rfl,rfl⟩;by_cases hK0:K=0
 rotate_left
 ·have hdk:(K == 0)=false:=by simpa using hK0
  have hdk2:(K != 0)=true:=by simpa using hK0
  have hdk3:(K != K)=false:=by simp
  obtain rfl:E=K:=by rw [HEE.out,edE_put,<- HKE.out,if_pos hK0]
  obtain rfl:F=E:=by rw [HFE.out];unfold delE;rw [<- HKE.out,if_pos hK0]
  have HG:=Za (HGET.out _ HBW.out);go_wp2_with fail
  refine HG.out.mono ?_;rintro e w12 ⟨v,b,rfl,hg,b12⟩;have HBT:=Za (HBT.out.trans (b12.mono HBT.out.size));have HBW:=Za (HBW.out.trans (b12.mono HBW.out.size));have HGT:=Za hg;clear hg b12 HG;cases b with
  | false =>
   have bB:Below w12.heap.size w12 (w12.alloc (.cells #[.bool false,.string v] 35)):=(Below.refl _ _).alloc (Nat.le_refl _) _;have kB:Ob (w12.alloc (.cells #[.bool false,.string v] 35)) w12.heap.size 35 [.bool false,.string v]:=Ob.new w12 [.bool false,.string v] 35;have yB:=kB.cell 0;simp only [List.getElem?_cons_zero] at yB
   obtain ⟨W13,hW13⟩:∃ W13,W13=w12.alloc (.cells #[.bool false,.string v] 35):=⟨_,rfl⟩;have HBT:=Za (HBT.out.trans (bB.mono HBT.out.size));have HBW:=Za (HBW.out.trans (bB.mono HBW.out.size));rw [<- hW13] at HBT HBW;clear bB kB;go_wp2;rw [<- hW13];go_ret
   exact ⟨rfl,HBW.out⟩
  | true =>
   have bB:Below w12.heap.size w12 (w12.alloc (.cells #[.bool true,.string v] 35)):=(Below.refl _ _).alloc (Nat.le_refl _) _;have kB:Ob (w12.alloc (.cells #[.bool true,.string v] 35)) w12.heap.size 35 [.bool true,.string v]:=Ob.new w12 [.bool true,.string v] 35;have yB:=kB.cell 0;simp only [List.getElem?_cons_zero] at yB
   obtain ⟨W13,hW13⟩:∃ W13,W13=w12.alloc (.cells #[.bool true,.string v] 35):=⟨_,rfl⟩;have HBT:=Za (HBT.out.trans (bB.mono HBT.out.size));have HBW:=Za (HBW.out.trans (bB.mono HBW.out.size));rw [<- hW13] at HBT HBW;clear bB kB;go_wp2;rw [<- hW13];go_ret
   exact ⟨rfl,HBW.out⟩
 subst hK0;go_wp2_with fail
 refine (HV.out _).mono ?_;rintro e w11 ⟨rfl,rfl⟩;have hEV:E=V:=by rw [HEE.out,edE_put,<- HKE.out,if_neg (by simp),HVE.out]
 subst hEV;have HG:=Za (HGET.out _ HBW.out);go_wp2_with fail
 refine HG.out.mono ?_;rintro e w12 ⟨v,b,rfl,hg,b12⟩;have HBT:=Za (HBT.out.trans (b12.mono HBT.out.size));have HBW:=Za (HBW.out.trans (b12.mono HBW.out.size));have HGT:=Za hg;clear hg b12 HG
 have HFB:Hid (F=if b=true then 0 else 3):=Za (by
  rw [HFE.out];unfold delE;rw [<- HKE.out,if_neg (by simp)]
  rcases HGT.out with ⟨rfl,x,h1,h2,_⟩ | ⟨rfl,_,h1⟩
  ·rw [if_pos ⟨x,h1,h2⟩,if_pos rfl]
  ·rw [if_neg (fun ⟨x,h2,h3⟩=>h1 x h2 h3),if_neg (by simp)])
 by_cases hE0:E=0
 ·subst hE0;have HPC:=Za (HCA.out rfl);cases b with
  | false =>
   obtain rfl:F=3:=by rw [HFB.out,if_neg (by simp)]
   have bB:Below w12.heap.size w12 (w12.alloc (.cells #[.bool false,.string v] 35)):=(Below.refl _ _).alloc (Nat.le_refl _) _;have kB:Ob (w12.alloc (.cells #[.bool false,.string v] 35)) w12.heap.size 35 [.bool false,.string v]:=Ob.new w12 [.bool false,.string v] 35;have yB:=kB.cell 0;simp only [List.getElem?_cons_zero] at yB
   obtain ⟨W13,hW13⟩:∃ W13,W13=w12.alloc (.cells #[.bool false,.string v] 35):=⟨_,rfl⟩;have HBT:=Za (HBT.out.trans (bB.mono HBT.out.size));have HBW:=Za (HBW.out.trans (bB.mono HBW.out.size));rw [<- hW13] at HBT HBW;clear bB kB;go_wp2_with fail
   rw [<- hW13];have HS1:=Za (rset_any W13 a c es key val true (HX.out.rd.below HBW.out) (by have:=HN1.out;omega) HRX.out.2)
   rw [<- HN1.out] at HS1;refine HS1.out.mono ?_;rintro e v1 ⟨gs1,va1,vc1,rfl,hgs1,row1,bv1⟩;obtain ⟨_,_,hv1,rd1,_⟩:=rd_gcells cEn_len row1;injection hv1 with e11 e21 e31
   subst e11 e31;have HBT:=Za (HBT.out.trans (bv1.mono HBT.out.size));have HBW:=Za (HBW.out.trans (bv1.mono HBW.out.size));have CT1:=HPC.out.tells (HL10.out.below HBT.out) (by have:=HN1.out;omega) (by rw [hgs1];exact apr_set HRX.out.2 true key val) va1 vc1 (RdG.en.1 rd1)
   obtain ⟨ng1,hng1⟩:∃ n,n=gs1.length:=⟨_,rfl⟩;rw [<- hng1] at CT1 ⊢;have HCT1:=Za CT1;clear CT1 hng1 hgs1 row1 rd1 bv1 e21 HS1;go_wp2_with fail
   refine HCT1.out.mono ?_;rintro e u1 ⟨rfl,bu1⟩;have HBT:=Za (HBT.out.trans (bu1.mono HBT.out.size));have HBW:=Za (HBW.out.trans (bu1.mono HBW.out.size));clear bu1 HCT1;go_wp2;go_ret
   exact ⟨rfl,HBW.out⟩
  | true =>
   obtain rfl:F=0:=by rw [HFB.out,if_pos rfl]
   have HDC:=Za (HCB.out rfl);have bB:Below w12.heap.size w12 (w12.alloc (.cells #[.bool true,.string v] 35)):=(Below.refl _ _).alloc (Nat.le_refl _) _;have kB:Ob (w12.alloc (.cells #[.bool true,.string v] 35)) w12.heap.size 35 [.bool true,.string v]:=Ob.new w12 [.bool true,.string v] 35;have yB:=kB.cell 0;simp only [List.getElem?_cons_zero] at yB
   obtain ⟨W13,hW13⟩:∃ W13,W13=w12.alloc (.cells #[.bool true,.string v] 35):=⟨_,rfl⟩;have HBT:=Za (HBT.out.trans (bB.mono HBT.out.size));have HBW:=Za (HBW.out.trans (bB.mono HBW.out.size));rw [<- hW13] at HBT HBW;clear bB kB;go_wp2_with fail
   rw [<- hW13];have HS1:=Za (rset_any W13 a c es key val true (HX.out.rd.below HBW.out) (by have:=HN1.out;omega) HRX.out.2)
   rw [<- HN1.out] at HS1;refine HS1.out.mono ?_;rintro e v1 ⟨gs1,va1,vc1,rfl,hgs1,row1,bv1⟩;obtain ⟨_,_,hv1,rd1,_⟩:=rd_gcells cEn_len row1;injection hv1 with e11 e21 e31
   subst e11 e31;have HBT:=Za (HBT.out.trans (bv1.mono HBT.out.size));have HBW:=Za (HBW.out.trans (bv1.mono HBW.out.size));have CT1:=HPC.out.tells (HL10.out.below HBT.out) (by have:=HN1.out;omega) (by rw [hgs1];exact apr_set HRX.out.2 true key val) va1 vc1 (RdG.en.1 rd1)
   obtain ⟨ng1,hng1⟩:∃ n,n=gs1.length:=⟨_,rfl⟩;rw [<- hng1] at CT1 ⊢;have HCT1:=Za CT1;clear CT1 hng1 hgs1 row1 rd1 bv1 e21 HS1;go_wp2_with fail
   refine HCT1.out.mono ?_;rintro e u1 ⟨rfl,bu1⟩;have HBT:=Za (HBT.out.trans (bu1.mono HBT.out.size));have HBW:=Za (HBW.out.trans (bu1.mono HBW.out.size));clear bu1 HCT1;have HS2:=Za (rset_any u1 a c es key ⟨#[]⟩ false (HX.out.rd.below HBW.out) (by have:=HN1.out;omega) HRX.out.2)
   rw [<- HN1.out] at HS2;go_wp2_with fail
   refine HS2.out.mono ?_;rintro e v2 ⟨gs2,va2,vc2,rfl,hgs2,row2,bv2⟩;obtain ⟨_,_,hv2,rd2,_⟩:=rd_gcells cEn_len row2;injection hv2 with e12 e22 e32
   subst e12 e32;have HBT:=Za (HBT.out.trans (bv2.mono HBT.out.size));have HBW:=Za (HBW.out.trans (bv2.mono HBW.out.size));have CT2:=HDC.out.tells (HL10.out.below HBT.out) (by have:=HN1.out;omega) (by rw [hgs2];exact apr_set HRX.out.2 false key ⟨#[]⟩) va2 vc2 (RdG.en.1 rd2)
   obtain ⟨ng2,hng2⟩:∃ n,n=gs2.length:=⟨_,rfl⟩;rw [<- hng2] at CT2 ⊢;have HCT2:=Za CT2;clear CT2 hng2 hgs2 row2 rd2 bv2 e22 HS2;go_wp2_with fail
   refine HCT2.out.mono ?_;rintro e u2 ⟨rfl,bu2⟩;have HBT:=Za (HBT.out.trans (bu2.mono HBT.out.size));have HBW:=Za (HBW.out.trans (bu2.mono HBW.out.size));clear bu2 HCT2;go_wp2;go_ret
   exact ⟨rfl,HBW.out⟩
 ·have hde:(E == 0)=false:=by simpa using hE0
  have hde2:(E != 0)=true:=by simpa using hE0
  have hde3:(E != E)=false:=by simp
  cases b with
  | false =>
   obtain rfl:F=3:=by rw [HFB.out,if_neg (by simp)]
   have bB:Below w12.heap.size w12 (w12.alloc (.cells #[.bool false,.string v] 35)):=(Below.refl _ _).alloc (Nat.le_refl _) _;have kB:Ob (w12.alloc (.cells #[.bool false,.string v] 35)) w12.heap.size 35 [.bool false,.string v]:=Ob.new w12 [.bool false,.string v] 35;have yB:=kB.cell 0;simp only [List.getElem?_cons_zero] at yB
   obtain ⟨W13,hW13⟩:∃ W13,W13=w12.alloc (.cells #[.bool false,.string v] 35):=⟨_,rfl⟩;have HBT:=Za (HBT.out.trans (bB.mono HBT.out.size));have HBW:=Za (HBW.out.trans (bB.mono HBW.out.size));rw [<- hW13] at HBT HBW;clear bB kB;go_wp2;rw [<- hW13];go_ret
   exact ⟨rfl,HBW.out⟩
  | true =>
   obtain rfl:F=0:=by rw [HFB.out,if_pos rfl]
   have HDC:=Za (HCB.out rfl);have bB:Below w12.heap.size w12 (w12.alloc (.cells #[.bool true,.string v] 35)):=(Below.refl _ _).alloc (Nat.le_refl _) _;have kB:Ob (w12.alloc (.cells #[.bool true,.string v] 35)) w12.heap.size 35 [.bool true,.string v]:=Ob.new w12 [.bool true,.string v] 35;have yB:=kB.cell 0;simp only [List.getElem?_cons_zero] at yB
   obtain ⟨W13,hW13⟩:∃ W13,W13=w12.alloc (.cells #[.bool true,.string v] 35):=⟨_,rfl⟩;have HBT:=Za (HBT.out.trans (bB.mono HBT.out.size));have HBW:=Za (HBW.out.trans (bB.mono HBW.out.size));rw [<- hW13] at HBT HBW;clear bB kB;go_wp2_with fail
   rw [<- hW13];have HS2:=Za (rset_any W13 a c es key ⟨#[]⟩ false (HX.out.rd.below HBW.out) (by have:=HN1.out;omega) HRX.out.2)
   rw [<- HN1.out] at HS2;refine HS2.out.mono ?_;rintro e v2 ⟨gs2,va2,vc2,rfl,hgs2,row2,bv2⟩;obtain ⟨_,_,hv2,rd2,_⟩:=rd_gcells cEn_len row2;injection hv2 with e12 e22 e32
   subst e12 e32;have HBT:=Za (HBT.out.trans (bv2.mono HBT.out.size));have HBW:=Za (HBW.out.trans (bv2.mono HBW.out.size));have CT2:=HDC.out.tells (HL10.out.below HBT.out) (by have:=HN1.out;omega) (by rw [hgs2];exact apr_set HRX.out.2 false key ⟨#[]⟩) va2 vc2 (RdG.en.1 rd2)
   obtain ⟨ng2,hng2⟩:∃ n,n=gs2.length:=⟨_,rfl⟩;rw [<- hng2] at CT2 ⊢;have HCT2:=Za CT2;clear CT2 hng2 hgs2 row2 rd2 bv2 e22 HS2;go_wp2_with fail
   refine HCT2.out.mono ?_;rintro e u2 ⟨rfl,bu2⟩;have HBT:=Za (HBT.out.trans (bu2.mono HBT.out.size));have HBW:=Za (HBW.out.trans (bu2.mono HBW.out.size));clear bu2 HCT2;go_wp2;go_ret
   exact ⟨rfl,HBW.out⟩
section
attribute [local go_sem] fldS
theorem backs18 (w:World) (x:EsA) (hx:OkEs w x) (key val:ByteArray) (hzk:key.size<=maxLen) (hzv:val.size<=maxLen) :
  Calls Tryz.prog 6 #[.slice x.a x.l.length x.c,.string key,.string val] w fun e w'=>e=.returned (.bool true)/\Below w.heap.size w w':=by
 obtain ⟨a,c,es⟩:=x;simp only;have hml:maxLen<=9223372036854775807:=by decide
 have hb1:=hx.big;have hl1:=hx.len;simp only at hb1 hl1;have HX:=Za hx;have HC1:=Za (fun W (u:Below w.heap.size w W)=>map11 W ⟨a,c,es⟩ (hx.below u))
 simp only at HC1;obtain ⟨n1,hn1⟩:∃ n,n=es.length:=⟨_,rfl⟩;have HN1:=Za hn1;rw [<- hn1] at HC1 hl1 ⊢;obtain ⟨B1,hB1⟩:∃ B,B=mapB es:=⟨_,rfl⟩;rw [<- hB1] at HC1;have HE1:=Za hB1;have HAW:=Za (awake18 w);clear hx hn1 hB1;go_enter Tryz.func6,Tryz.ntmps6
 go_wp2_with fail
 refine HAW.out.mono ?_;rintro e w0 ⟨rfl,b0⟩;have HB0:=Za b0;clear b0 HAW;have HG0:=Za (HC1.out _ HB0.out);go_wp2_with fail
 refine HG0.out.mono ?_;rintro e w1 ⟨rfl,b1⟩;have HB1:=Za (HB0.out.trans (b1.mono HB0.out.size));clear b1 HG0;cases B1 with
 | false =>
  go_wp2;go_ret
  exact ⟨rfl,HB1.out⟩
 | true =>
 by_cases hk60:key.size<=60
 rotate_left
 ·have hd:decide ((key.size:Int) > 60)=true:=decide_eq_true (by omega)
  have hd':decide ((60:Int) < (key.size:Int))=true:=decide_eq_true (by omega)
  go_wp2;go_ret
  exact ⟨rfl,HB1.out⟩
 have hd1:decide ((key.size:Int) > 60)=false:=decide_eq_false (by omega)
 have hd1':decide ((60:Int) < (key.size:Int))=false:=decide_eq_false (by omega)
 by_cases hv250:val.size<=250
 rotate_left
 ·have hd:decide ((val.size:Int) > 250)=true:=decide_eq_true (by omega)
  have hd':decide ((250:Int) < (val.size:Int))=true:=decide_eq_true (by omega)
  go_wp2;go_ret
  exact ⟨rfl,HB1.out⟩
 have hd2:decide ((val.size:Int) > 250)=false:=decide_eq_false (by omega)
 have hd2':decide ((250:Int) < (val.size:Int))=false:=decide_eq_false (by omega)
 obtain ⟨hqx,hok,hrx⟩:=mapB_ok HE1.out.symm;have hq1:n1<=60:=by rw [HN1.out];exact hqx
 have HRX:=Za (And.intro (mapB_right18 HE1.out.symm) hrx);have HOK:=Za hok;have HGET:=Za (rget_any w1 a c es key (HX.out.rd.below HB1.out) (by have:=HN1.out;omega))
 rw [<- HN1.out] at HGET;go_wp2_with fail
 refine HGET.out.mono ?_;rintro e w2 ⟨v,b,rfl,hg,b2⟩;have HB2:=Za (HB1.out.trans (b2.mono HB1.out.size));have HGT:=Za hg;clear hg b2 HGET;cases b with
 | true =>
  go_wp2;go_ret
  exact ⟨rfl,HB2.out⟩
 | false =>
 have HNO:Hid (∀ e ∈ es,e.k≠key):=Za (by
  rcases HGT.out with ⟨q,_⟩ | ⟨_,_,q⟩
  ·cases q
  ·exact q)
 have HCS:=Za (tstore_any w2);clear HC1 HB0 HE1 hqx hok hrx HGT;go_wp2_with fail
 refine HCS.out.mono ?_;rintro e w7 ⟨s,O7,rfl,t7⟩;have HB7:=Za (HB2.out.trans (t7.bel.mono HB2.out.size));have C8:=tBuild_any t7 a c es (HX.out.rd.below HB7.out) HX.out.nil (by have:=HN1.out;omega) HX.out.sz (fun ok=>by have:=room_first18 ok (by have:=HN1.out;omega);exact ⟨this.1,by omega⟩)
 rw [<- HN1.out] at C8;have HC8:=Za C8;clear C8 t7 HCS;clear hd1 hd1' hd2 hd2';go_wp2_with fail
 refine HC8.out.mono ?_;rintro e w8 hb8;obtain ⟨id,O8,T8,rfl,p1,p2,p2',p3,p4,p5,p6⟩:=hb8.good HRX.out.1;have hp8:pgT T8<=1321:=by rw [p3.1];exact (room_first18 HOK.out (by have:=HN1.out;omega)).2
 have L8:Lies w2 w8 s T8:=⟨⟨O8,_,p4⟩,p2' (fun t ht=>by simp at ht),by omega⟩
 have C9:=put18 L8 p1 HOK.out (by have:=HN1.out;omega) (by have:=HN1.out;omega) key val ⟨hzk,hzv⟩
 obtain ⟨E,hE⟩:∃ E,E=edE ⟨key,val,false⟩:=⟨_,rfl⟩;have HEE:=Za hE;rw [<- hE] at C9;have HC9:=Za C9;have HP8:=Za (And.intro p1 hp8);clear C9 p1 p2 p2' p3 p4 p5 p6 hp8 L8 hb8 HC8 hE;go_wp2_with fail
 refine HC9.out.mono ?_;rintro e w9 ⟨aid,T9,rfl,L9,s9,g9,z9,c9,b9⟩;have HB9:=Za (HB2.out.trans (b9.mono HB2.out.size));by_cases hE0:E=0
 rotate_left
 ·have hde:(E != 0)=true:=by simpa using hE0
  have ha:=z9 hE0;subst ha;clear L9 s9 g9 z9 c9 b9;go_wp2;go_ret
  exact ⟨rfl,HB9.out⟩
 subst hE0;obtain ⟨fs,hap,okf,hfl,r9⟩:=c9 rfl;have C10:=del18 L9 r9 okf (by have:=HN1.out;omega) (by have:=HN1.out;have:=HP8.out.2;omega) key hzk
 have hF:delE fs key=0:=by
  have hk0:ZT key=0:=by
   have h0:=HEE.out;rw [edE_put] at h0;by_cases q:ZT key=0
   ·exact q
   ·rw [if_pos q] at h0;exact absurd h0.symm q
  unfold delE;rw [if_neg (by simp [hk0]),if_pos (put_there HRX.out.2 hap)]
 rw [hF] at C10;have HC10:=Za C10;have HR9:=Za (And.intro hap (And.intro okf (And.intro hfl (And.intro r9 (HP8.out.1.sub s9)))));clear C10 L9 s9 g9 z9 c9 b9 HC9 HP8 hF hap okf hfl r9;go_wp2_with fail
 refine HC10.out.mono ?_;rintro e w10 ⟨bid,T10,rfl,L10,s10,g10,z10,d10,b10⟩;obtain ⟨hap,okf,hfl,r9,r0⟩:=HR9.out;obtain ⟨gs,hgp,_,_,r10⟩:=d10 rfl;obtain ⟨e1,e2⟩:=back_root L10.len L10.nodup HOK.out okf (by have:=HN1.out;omega) (by have:=HN1.out;omega) HNO.out hap hgp (r0.sub s10) (r9.sub s10) r10
 subst e1;have hne:((aid:Int) != (bid:Int))=true:=by simp;omega
 have hne2:¬ (aid:Int)=(bid:Int):=by omega
 have HF:=Za (HB2.out.trans (b10.mono HB2.out.size));clear hap okf hfl r9 r0 hgp r10 L10 s10 g10 z10 d10 b10 e2 HR9 HC10;go_wp2;go_ret
 exact ⟨rfl,HF.out⟩
end
end Go.Proofs.YtdhebpnkfookcaaGreat
