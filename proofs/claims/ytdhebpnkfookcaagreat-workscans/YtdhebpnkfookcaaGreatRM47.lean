import Derived.Test.YtdhebpnkfookcaaGreatRM46
set_option maxRecDepth 100000
set_option maxHeartbeats 4000000
namespace Go.Proofs.YtdhebpnkfookcaaGreat
section
open Go.RowKit Go.Shelf Apo
theorem firstW {α:Type} {f:α->Int}:∀ {l:List α},ZK f l=0->∀ x ∈ l,f x=0
 | [],_,x,hx=>by simp at hx
 | y :: l,h,x,hx=>by
  unfold ZK at h;by_cases q:f y=0
  ·rw [if_neg (by simp [q])] at h;rcases List.mem_cons.1 hx with rfl | z
   ·exact q
   ·exact firstW h x z
  ·rw [if_pos q] at h;exact absurd h q
def DoP (w W:World) (s:Nat) (O:Nat->Prop) (T:List (List Int)) (m:Nat) (es:List En) (l:List Ed) (e:Ending) (W':World):Prop :=
 ∃ (fs:List En) (id:Nat) (O':Nat->Prop) (T':List (List Int)),ApR es l fs/\ChN l.length es fs/\MapOk fs/\fs.length<=es.length+l.length/\e=.returned (.tuple #[.int .u64 (if fs.length<=400 then (id:Int) else 0),.int .i64 (if fs.length<=400 then 0 else 4)])/\RootOf T' fs id/\Sub T T'/\(TxOk T->TxOk T')/\(T'=treeT T fs/\id=rootT T fs)/\TSw w W' s O' T' m/\(∀ i,O' i->O i\/W.heap.size<=i)/\Onl O W W'
theorem wdo_walk {w W:World} {s m id:Nat} {O:Nat->Prop} {T:List (List Int)} {es:List En} {ea:Option Addr} {ec:Nat} {l:List Ed}
  (HE:Calls Tryz.prog 36 #[.pointer (some ⟨s,0,none⟩),.int .u64 id,.slice ea l.length ec] W fun e W'=>∃ fs,ApR es l fs/\ChN l.length es fs/\MapOk fs/\fs.length<=es.length+l.length/\TRoot w W s O T m fs e W')
  (HK:∀ fs W' O' T',ApR es l fs->T'=treeT T fs->TSw w W' s O' T' m->Sub T T'->(TxOk T->TxOk T')->Onl O W W'->Calls Tryz.prog 37 #[.pointer (some ⟨s,0,none⟩),.int .u64 id,.slice ea l.length ec] W' (KyP es l W')) :
  Calls Tryz.prog 19 #[.pointer (some ⟨s,0,none⟩),.int .u64 id,.slice ea l.length ec] W (DoP w W s O T m es l):=by
 unfold DoP;obtain ⟨nl,hnl⟩:∃ n,n=l.length:=⟨_,rfl⟩;rw [<- hnl] at HE HK ⊢;have HE':=Za HE;have HK':=Za HK;clear HE HK hnl;go_enter Tryz.func19,Tryz.ntmps19
 go_wp2_with fail
 refine HE'.out.mono ?_;rintro e w1 ⟨fs,hap,c1,c2,c3,id',O',T',rfl,r1,r2,r2',r3,r4,r5,r6⟩;have HC:=Za (HK'.out fs w1 O' T' hap r3.1 r4 r2 r2' r6);have HAP:=Za hap;have HR:=Za (And.intro c1 (And.intro c2 (And.intro c3 (And.intro r1 (And.intro r2 (And.intro r2' (And.intro r3 (And.intro r4 (And.intro r5 r6)))))))));clear hap c1 c2 c3 r1 r2 r2' r3 r4 r5 r6 HK' HE';go_wp2_with fail
 refine HC.out.mono ?_;rintro e w2 ⟨gs,hg,rfl,b2⟩;have hgs:gs=fs:=hg.uniq HAP.out;subst hgs;have hsz:gs.length < 1000000\/True:=.inr trivial
 have HF:Hid (ApR es l gs/\ChN nl es gs/\MapOk gs/\gs.length<=es.length+nl/\RootOf T' gs id'/\Sub T T'/\(TxOk T->TxOk T')/\(T'=treeT T gs/\id'=rootT T gs)/\TSw w w2 s O' T' m/\(∀ i,O' i->O i\/W.heap.size<=i)/\Onl O W w2):=by
  obtain ⟨c1,c2,c3,r1,r2,r2',r3,r4,r5,r6⟩:=HR.out;exact Za ⟨HAP.out,c1,c2,c3,r1,r2,r2',r3,r4.below b2,r5,r6.trans (Onl.ofBelow b2)⟩
 clear hg b2 HC HR HAP hsz;by_cases hn:gs.length<=400
 ·have hd:decide ((gs.length:Int) > 400)=false:=decide_eq_false (by omega);have hd2:decide ((400:Int) < (gs.length:Int))=false:=decide_eq_false (by omega);go_wp2;refine bodyPost_ret (by simp [results,Tryz.results19,go_sem];rfl) rfl ?_;obtain ⟨f1,f2,f3,f4,f5,f6,f7,f8,f9,f10,f11⟩:=HF.out;exact ⟨gs,id',O',T',f1,f2,f3,f4,by rw [if_pos hn,if_pos hn],f5,f6,f7,f8,f9,f10,f11⟩
 ·have hd:decide ((gs.length:Int) > 400)=true:=decide_eq_true (by omega);have hd2:decide ((400:Int) < (gs.length:Int))=true:=decide_eq_true (by omega);go_wp2;refine bodyPost_ret (by simp [results,Tryz.results19,go_sem];rfl) rfl ?_;obtain ⟨f1,f2,f3,f4,f5,f6,f7,f8,f9,f10,f11⟩:=HF.out;exact ⟨gs,id',O',T',f1,f2,f3,f4,by rw [if_neg hn,if_neg hn],f5,f6,f7,f8,f9,f10,f11⟩
theorem wdo_err (W:World) (s root:Nat) (ea:Option Addr) (ec:Nat) (l:List Ed) (hl:RdG cEd 3 W ea l) (hll:l.length<=1000) (hz:∀ x ∈ l,x.k.size<=9223372036854775807/\x.v.size<=9223372036854775807) (hbad:¬ ∀ x ∈ l,edE x=0) :
  Calls Tryz.prog 19 #[.pointer (some ⟨s,0,none⟩),.int .u64 root,.slice ea l.length ec] W fun e W'=>e=.returned (.tuple #[.int .u64 0,.int .i64 (edsE l)])/\Below W.heap.size W W':=by
 have HE:=Za (tedit_err W s root ea ec l hl hll hz hbad);have hne:edsE l≠0:=fun q=>hbad (firstW q)
 have hd:(edsE l != 0)=true:=by simpa using hne
 obtain ⟨E,hE⟩:∃ E,E=edsE l:=⟨_,rfl⟩;obtain ⟨nl,hnl⟩:∃ n,n=l.length:=⟨_,rfl⟩;rw [<- hE] at hd HE hne ⊢;rw [<- hnl] at HE ⊢;clear hl hz hbad hE hnl;go_enter Tryz.func19,Tryz.ntmps19
 go_wp2_with fail
 refine HE.out.mono ?_;rintro e w1 ⟨rfl,b1⟩;have HB:=Za b1;clear b1;go_wp2;refine bodyPost_ret (by simp [results,Tryz.results19,go_sem];rfl) rfl ?_;exact ⟨rfl,HB.out⟩
end
section
open Go.RowKit Apo
attribute [local go_sem ↓] app_exec
def lowE (key:ByteArray) (l:List En):List En:=l.filter (fun e=>Z2 e.k key)
def higE (key:ByteArray) (l:List En):List En:=l.filter (fun e=>Z2 key e.k)
def midE (has:Bool) (kv:En):List En:=if has=true then [kv] else []
def setE (has:Bool) (kv:En) (l:List En):List En:=lowE kv.k l++(midE has kv++higE kv.k l)
theorem setE_ok {has:Bool} {kv:En} {es:List En} (hr:Zz es):SetC es ⟨kv.k,kv.v,!has⟩ (setE has kv es):=by
 have m1:∀ e,e ∈ lowE kv.k es↔e ∈ es/\Z2 e.k kv.k=true:=fun e=>by unfold lowE;rw [List.mem_filter]
 have m2:∀ e,e ∈ higE kv.k es↔e ∈ es/\Z2 kv.k e.k=true:=fun e=>by unfold higE;rw [List.mem_filter]
 have hmid:∀ e ∈ midE has kv,e=kv:=fun e he=>by unfold midE at he;split at he <;> simp_all
 refine ⟨?_,fun key v b hne hg=>?_,fun hh=>?_,fun hh=>?_⟩
 ·unfold Zz at hr ⊢;unfold setE;rw [List.pairwise_append,List.pairwise_append];refine ⟨hr.filter _,⟨?_,hr.filter _,fun e he f hf=>?_⟩,fun e he f hf=>?_⟩
  ·unfold midE;split <;> simp
  ·rw [hmid e he];exact ((m2 f).1 hf).2
  ·rcases List.mem_append.1 hf with q | q
   ·rw [hmid f q];exact ((m1 e).1 he).2
   ·exact ZV ((m1 e).1 he).2 ((m2 f).1 q).2
 ·simp only at hne;rcases hg with ⟨rfl,e,he,hk,hv⟩ | ⟨rfl,rfl,hno⟩
  ·refine .inl ⟨rfl,e,?_,hk,hv⟩;unfold setE;rw [List.mem_append,List.mem_append,m1,m2];cases q:Z2 e.k kv.k with
   | true=>exact .inl ⟨he,rfl⟩
   | false =>
    cases z:Z2 kv.k e.k with
    | true=>exact .inr (.inr ⟨he,rfl⟩)
    | false=>exact absurd ((sLt_conn q z).symm.trans hk) (Ne.symm hne)
  ·refine .inr ⟨rfl,rfl,fun e he hk=>?_⟩;unfold setE at he;rw [List.mem_append,List.mem_append,m1,m2] at he;rcases he with q | q | q
   ·exact hno e q.1 hk
   ·rw [hmid e q] at hk;exact hne hk.symm
   ·exact hno e q.1 hk
 ·simp only at hh ⊢;have:has=true:=by cases has <;> simp_all
  refine .inl ⟨rfl,kv,?_,rfl,rfl⟩;unfold setE midE;rw [if_pos this];simp
 ·simp only at hh ⊢;have hf:has=false:=by cases has <;> simp_all
  refine .inr ⟨rfl,rfl,fun e he hk=>?_⟩;unfold setE midE at he;rw [hf] at he;simp only [Bool.false_eq_true,if_false,List.nil_append,List.mem_append,m1,m2] at he;rcases he with q | q
  ·have:=q.2;rw [hk,ZM] at this;cases this
  ·have:=q.2;rw [hk,ZM] at this;cases this
end
section
open Go.RowKit Apo
theorem root_none:RootOf [] [] 0:=⟨0,[],⟨rfl,fun i n k _ h=>by simp at h⟩,by omega,by simp,rfl⟩
theorem apr_set {es:List En} (hr:Zz es) (has:Bool) (k v:ByteArray):ApR es [⟨k,v,!has⟩] (setE has ⟨k,v⟩ es):=by
 have:=(ApR.nil hr).snoc (setE_ok (has:=has) (kv:=⟨k,v⟩) hr);simpa using this
end
section
open Go.RowKit Go.Shelf Apo
theorem edsE_one (x:Ed):edsE [x]=edE x:=by
 unfold edsE ZK ZK;by_cases h:edE x=0
 ·rw [if_neg (by simp [h]),h]
 ·rw [if_pos h]
def OneP (w W:World) (s:Nat) (O:Nat->Prop) (T:List (List Int)) (m:Nat) (es:List En) (x:Ed) (e:Ending) (W':World):Prop :=
 ∃ (fs:List En) (id:Nat) (O':Nat->Prop) (T':List (List Int)),e=.returned (.tuple #[.int .u64 id,.int .i64 0])/\ApR es [x] fs/\MapOk fs/\fs.length<=es.length+1/\RootOf T' fs id/\Sub T T'/\(TxOk T->TxOk T')/\(T'=treeT T fs/\id=rootT T fs)/\TSw w W' s O' T' m/\(∀ i,O' i->O i\/W.heap.size<=i)/\Onl O W W'
def BadP (E:Int) (W:World) (e:Ending) (W':World):Prop:=e=.returned (.tuple #[.int .u64 0,.int .i64 E])/\Below W.heap.size W W'
def PtP (w W:World) (s:Nat) (O:Nat->Prop) (T:List (List Int)) (m:Nat) (es:List En) (x:Ed) (e:Ending) (W':World):Prop :=
 (edE x≠0/\BadP (edE x) W e W')\/(edE x=0/\OneP w W s O T m es x e W')
theorem DoP.one {w W W0 W':World} {s m:Nat} {O:Nat->Prop} {T:List (List Int)} {es:List En} {x:Ed} {e:Ending} (b:Below W.heap.size W W0) (h:DoP w W0 s O T m es [x] e W') (hl:es.length<=100):OneP w W s O T m es x e W':=by
 obtain ⟨fs,id,O',T',h1,h2,h3,h4,rfl,h5,h6,h7,h8,h9,h10,h11⟩:=h;have h4':fs.length<=es.length+1:=h4;rw [if_pos (by omega),if_pos (by omega)];have hb:=b.size;exact ⟨fs,id,O',T',rfl,h1,h3,h4',h5,h6,h7,h8,h9,fun i q=>(h10 i q).imp (fun z=>z) (fun z=>by omega),(Onl.ofBelow b).trans h11⟩
theorem PtP.shape {w W W':World} {s m:Nat} {O:Nat->Prop} {T:List (List Int)} {es:List En} {x:Ed} {e:Ending} (h:PtP w W s O T m es x e W'):∃ (a:Nat) (E:Int),e=.returned (.tuple #[.int .u64 a,.int .i64 E]):=by
 rcases h with ⟨_,h,_⟩ | ⟨_,fs,id,O',T',h,_⟩
 ·exact ⟨0,_,h⟩
 ·exact ⟨id,_,h⟩
theorem OneP.shape {w W W':World} {s m:Nat} {O:Nat->Prop} {T:List (List Int)} {es:List En} {x:Ed} {e:Ending} (h:OneP w W s O T m es x e W'):∃ (a:Nat) (E:Int),e=.returned (.tuple #[.int .u64 a,.int .i64 E]):=by
 obtain ⟨fs,id,O',T',h,_⟩:=h;exact ⟨id,_,h⟩
def DlP (w W:World) (s:Nat) (O:Nat->Prop) (T:List (List Int)) (m:Nat) (es:List En) (key:ByteArray) (e:Ending) (W':World):Prop :=
 (Z7 key≠0/\BadP (Z7 key) W e W')\/(Z7 key=0/\(∀ x ∈ es,x.k≠key)/\BadP 3 W e W')\/(Z7 key=0/\(∃ x ∈ es,x.k=key)/\OneP w W s O T m es ⟨key,⟨#[]⟩,true⟩ e W')
theorem edE_gone {key v:ByteArray} (h:Z7 key=0):edE ⟨key,v,true⟩=0:=by
 unfold edE;rw [if_neg (by simp [h]),if_pos rfl]
end
section
open Go.RowKit Apo
theorem pg_none:pgT []=1:=by simp [pgT]
theorem room_put {T:List (List Int)} {n:Nat} (hT:T.length+1<=pgT T) (hn:n<=100) (hp:pgT T+22 * (n+1)<=4096):∀ fs,MapOk fs->fs.length<=n+1->(fs.flatMap enB).length<=40000/\pgT (treeT T fs)<=4096:=fun fs ok hl=>by
 have hb:=ok.bytes (by omega);have:=tree_pages (T:=T) ok (by omega) hb (by omega);exact ⟨hb,by omega⟩
theorem pages_put {T:List (List Int)} {fs:List En} {n:Nat} (hT:T.length+1<=pgT T) (hn:n<=100) (hp:pgT T<=4096) (ok:MapOk fs) (hl:fs.length<=n+1):pgT (treeT T fs)<=pgT T+22 * (n+1):=by
 have hb:=ok.bytes (by omega);have:=tree_pages (T:=T) ok (by omega) hb (by omega);omega
theorem one_put {fs:List En} {k v:ByteArray} (h:ApR [] [⟨k,v,false⟩] fs):fs=[⟨k,v⟩]:=by
 have:=h.uniq (apr_set (es:=[]) (riseE_iff.2 (rightE_map rightE_nil).rise) true k v);rw [this];simp [setE,lowE,higE,midE]
open Classical in
noncomputable def mapB (l:List En):Bool:=lightB l && decide (Z1 l=0)
theorem mapB_ok {l:List En} (h:mapB l=true):l.length<=60/\MapOk l/\Zz l:=by
 unfold mapB at h;rw [Bool.and_eq_true,decide_eq_true_eq] at h;have h2:=rightE_map h.2;have h1:=h.1;unfold lightB at h1;rw [Bool.and_eq_true,decide_eq_true_eq] at h1;exact ⟨h1.2,h2,riseE_iff.2 h2.rise⟩
theorem map11 (w:World) (x:EsA) (hx:OkEs w x):Calls Tryz.prog 8 #[.slice x.a x.l.length x.c] w fun e w'=>e=.returned (.bool (mapB x.l))/\Below w.heap.size w w':=by
 obtain ⟨a,c,es⟩:=x;simp only;have hml:maxLen<=9223372036854775807:=by decide
 have hbig:=hx.big;have hlen:=hx.len;simp only at hbig hlen;have C1:=light_any w a c es hx.rd (by omega) hx.sz;have HC1:=Za C1;have HX:=Za hx;obtain ⟨n,hn⟩:∃ n,n=es.length:=⟨_,rfl⟩;have HN:=Za hn;rw [<- hn] at HC1 ⊢;clear hbig hlen hn hx C1;cases hl:lightB es with
 | false =>
  have hm:mapB es=false:=by unfold mapB;rw [hl];rfl
  rw [hl] at HC1;rw [hm];clear hl hm;go_enter Tryz.func8,Tryz.ntmps8
  go_wp2_with fail
  refine HC1.out.mono ?_;rintro e' w1 ⟨rfl,b1⟩;go_wp2;go_ret
  exact ⟨rfl,b1⟩
 | true =>
  have hn60:es.length<=60:=by
   have h1:=hl;unfold lightB at h1;rw [Bool.and_eq_true,decide_eq_true_eq] at h1;exact h1.2
  have C2:∀ W,Below w.heap.size w W->Calls Tryz.prog 27 #[.slice a n c] W (RrP es W):=fun W b=>by
   have:=rright_any W a c es (HX.out.rd.below b) (by omega) HX.out.sz;rwa [<- HN.out] at this
  have HC2:=Za C2;have hm:mapB es=decide (Z1 es=0):=by unfold mapB;rw [hl];rfl
  rw [hl] at HC1;rw [hm];clear C2 hl hm;obtain ⟨r,hr⟩:∃ r,r=Z1 es:=⟨_,rfl⟩;unfold RrP at HC2;rw [<- hr] at HC2 ⊢;clear hr;go_enter Tryz.func8,Tryz.ntmps8
  go_wp2_with fail
  refine HC1.out.mono ?_;rintro e' w1 ⟨rfl,b1⟩;have HC2':=Za (HC2.out w1 b1);go_wp2_with fail
  refine HC2'.out.mono ?_;rintro e' w2 ⟨rfl,b2⟩;have HB:=Za (b1.trans (b2.mono b1.size));clear b1 b2;go_wp2;go_ret
  refine ⟨?_,HB.out⟩;by_cases q:r=0
  ·simp [q]
  ·simp [q]
theorem cEn_len:∀ x,(cEn x).length=2:=fun _=>rfl
theorem room_first18 {es:List En} (ok:MapOk es) (hl:es.length<=60):(es.flatMap enB).length<=40000/\pgT (treeT [] es)<=1321:=by
 have hb:=ok.bytes (by omega);have:=tree_pages (T:=[]) ok (by omega) hb (by simp);rw [pg_none] at this;exact ⟨hb,by omega⟩
theorem mapB_right18 {es:List En} (h:mapB es=true):Z1 es=0:=by
 unfold mapB at h;rw [Bool.and_eq_true,decide_eq_true_eq] at h;exact h.2
end
end Go.Proofs.YtdhebpnkfookcaaGreat
