import Derived.Test.YtdhebpnkfookcaaGreatSM47
set_option maxRecDepth 100000
set_option maxHeartbeats 8000000
namespace Go.Proofs.YtdhebpnkfookcaaGreat
open Go.RowKit Go.Shelf Apo
section
attribute [local go_sem] Oper.semAt_some
attribute [local go_sem ↓] app_sem
theorem tedit_err (W:World) (s root:Nat) (ea:Option Addr) (ec:Nat) (l:List Ed) (hl:RdG cEd 3 W ea l) (hll:l.length<=1000) (hz:∀ x ∈ l,x.k.size<=9223372036854775807/\x.v.size<=9223372036854775807) (hbad:¬ ∀ x ∈ l,edE x=0) :
  Calls Tryz.prog 36 #[.pointer (some ⟨s,0,none⟩),.int .u64 root,.slice ea l.length ec] W fun e W'=>e=.returned (.tuple #[.int .u64 0,.int .i64 (edsE l)])/\Below W.heap.size W W':=by
 refine (callsIn_wide (n:=1)).1 ?_;obtain ⟨W2,hW2⟩:∃ W2,W2=(W.alloc (.cells #[.int .u64 0] 27)).alloc (.cells #[.int .i64 0] 28):=⟨_,rfl⟩;have s2:W2.heap.size=W.heap.size+2:=by rw [hW2];simp
 have b2:Below W.heap.size W W2:=by rw [hW2];exact ((Below.refl _ W).alloc (Nat.le_refl _) _).alloc (by simp) _
 have k0:Ob W2 W.heap.size 27 [.int .u64 0]:=by rw [hW2];exact (Ob.new W [.int .u64 0] 27).alloc _
 have k1:Ob W2 (W.heap.size+1) 28 [.int .i64 0]:=by
  have:=Ob.new (W.alloc (.cells #[.int .u64 0] 27)) [.int .i64 0] 28;rw [World.size_alloc] at this;rw [hW2];exact this
 have HL:=Za hl;have HZ:=Za hz;have HBAD:=Za hbad;have HB2:=Za b2;have HK0:=Za k0;have HK1:=Za k1;have HS2:=Za s2;obtain ⟨nl,hnl⟩:∃ n,n=l.length:=⟨_,rfl⟩;have HNL:=Za hnl;rw [<- hnl] at hll ⊢;clear hl hz hbad b2 k0 k1 hnl s2;refine callsIn_of_wp_marks Tryz.func36 rfl trivial ?_ rfl;simp only [Tryz.ntmps36,List.size_toArray,List.length_cons,List.length_nil,Nat.reduceAdd,Nat.reduceSub,Array.replicate_succ,Array.replicate_zero,List.push_toArray,List.append_toArray,List.nil_append,List.cons_append];gi_wp2
 rw [<- hW2];clear hW2;gi_loopw [18] (fun i wr=>∃ j:Nat,j<=nl/\i=.int .i64 j/\Hid (Below W2.heap.size W2 wr)/\Hid (∀ x ∈ l.take j,edE x=0)) (fun i _=>nl - (intOf i).toNat)
 case atStart=>exact ⟨0,Nat.zero_le _,rfl,Za (Below.refl _ _),Za (by simp)⟩
 case round =>
 obtain ⟨j,hj,rfl,HBr,HZR⟩:=hrel;by_cases hjn:j < nl
 ·obtain ⟨⟨xk,xv,xg⟩,hxj⟩:∃ x,l[j]?=some x:=⟨l[j]'(by have:=HNL.out;omega),List.getElem?_eq_getElem _⟩;obtain ⟨g,o,rfl,c0,c1,c2⟩:=((HL.out.below HB2.out).below HBr.out).ed hxj;simp only at c0 c1 c2;obtain ⟨q3,q4⟩:=HZ.out _ (List.mem_of_getElem? hxj);simp only at q3 q4;have CK:=fun W=>key_any xk W q3
  have CV:=fun W=>val_any xv W q4
  have HNX:Hid (edE ⟨xk,xv,xg⟩=0->∀ x ∈ l.take (j+1),edE x=0):=Za (fun h0 x hx=>by
   rw [List.take_add_one,hxj] at hx;rcases List.mem_append.1 hx with q | q
   ·exact HZR.out x q
   ·have:x=⟨xk,xv,xg⟩:=by simpa using q
    rw [this];exact h0)
  have HERR:Hid (edE ⟨xk,xv,xg⟩≠0->edsE l=edE ⟨xk,xv,xg⟩):=Za (fun q=>firstE_at hxj HZR.out q);obtain ⟨K,hK⟩:∃ K,K=Z2 xk:=⟨_,rfl⟩;obtain ⟨V,hV⟩:∃ V,V=valE xv:=⟨_,rfl⟩;rw [<- hK] at CK;rw [<- hV] at CV;have HCK:=Za CK;have HCV:=Za CV;have HKE:=Za hK;have HVE:=Za hV;have b1:Below W2.heap.size W2 (wr.alloc (.cells #[.string xk,.string xv,.bool xg] 46)):=HBr.out.alloc HBr.out.size _;have HBF:=Za b1;have d0:=HK0.out.old b1;have d1:=HK1.out.old b1;obtain ⟨W3,hW3⟩:∃ W3,W3=wr.alloc (.cells #[.string xk,.string xv,.bool xg] 46):=⟨_,rfl⟩
  have HFIN:Hid (∀ er:Int,er≠0->Below W.heap.size W ((W3.setCell ⟨W.heap.size,0,none⟩ (.int .u64 0)).setCell ⟨W.heap.size+1,0,none⟩ (.int .i64 er))/\Ob ((W3.setCell ⟨W.heap.size,0,none⟩ (.int .u64 0)).setCell ⟨W.heap.size+1,0,none⟩ (.int .i64 er)) W.heap.size 27 [.int .u64 0]/\Ob ((W3.setCell ⟨W.heap.size,0,none⟩ (.int .u64 0)).setCell ⟨W.heap.size+1,0,none⟩ (.int .i64 er)) (W.heap.size+1) 28 [.int .i64 er]):=Za (fun er _=>by
   rw [<- hW3] at d0 d1 b1;have o4:Onl (fun i=>i=W.heap.size\/i=W.heap.size+1) W3 ((W3.setCell ⟨W.heap.size,0,none⟩ (.int .u64 0)).setCell ⟨W.heap.size+1,0,none⟩ (.int .i64 er)):=((Onl.refl (fun i=>i=W.heap.size\/i=W.heap.size+1) W3).set (p:=W.heap.size) (.inl (.inl rfl)) _).set (p:=W.heap.size+1) (.inl (.inr rfl)) _;exact ⟨Below.onl (HB2.out.trans (b1.mono HB2.out.size)) o4 (fun i q=>by omega) (Nat.le_refl _),(d0.set 0 _).set_other (by omega) _,(d1.set_other (by omega) _).set 0 _⟩)
  have y0:=d0.cell 0;have y1:=d1.cell 0;have f0:=d0.frozen 0;have f1:=d1.frozen 0;have e1:=(d1.set_other (i:=0) (show W.heap.size+1≠W.heap.size by omega) (.int .u64 0)).cell 0;have e2:=(d1.set_other (i:=0) (show W.heap.size+1≠W.heap.size by omega) (.int .u64 0)).frozen 0;simp only [List.getElem?_cons_zero] at y0 y1 e1;rw [hW3] at HFIN;clear CK CV q3 q4 hxj b1 d0 d1 hW3 hK hV;gi_wp2_with fail
  refine ⟨trivial,(callsIn_wide.2 (HCK.out _)).mono ?_⟩;rintro e w1 ⟨rfl,rfl⟩;by_cases hK0:K=0
  rotate_left
  ·have dc:(K != 0)=true:=by simpa using hK0
   have HF:=Za (HFIN.out K hK0);have hE1:edE ⟨xk,xv,xg⟩=K:=by unfold edE;rw [if_pos (by rw [<- HKE.out];exact hK0)];exact HKE.out.symm
   have HE:=Za ((HERR.out (by rw [hE1];exact hK0)).trans hE1);clear HFIN HERR hE1;gi_wp2
   obtain ⟨z1,z2,z3⟩:=HF.out;exact ⟨_,fin_edit z2 z3 rfl rfl,by rw [HE.out],z1⟩
  subst hK0;gi_wp2_with fail
  refine ⟨trivial,(callsIn_wide.2 (HCV.out _)).mono ?_⟩;rintro e w1 ⟨rfl,rfl⟩;cases xg with
  | true =>
   have HN:=Za (HNX.out (by unfold edE;rw [if_neg (by simp [<- HKE.out]),if_pos rfl]));clear HFIN HNX HERR;gi_wp2
   go_roundw
   case rel=>exact ⟨j+1,by omega,by go_num,HBF,HN⟩
   case measure=>simp [intOf];omega
  | false =>
   by_cases hV0:V=0
   ·subst hV0;have HN:=Za (HNX.out (by unfold edE;rw [if_neg (by simp [<- HKE.out]),if_neg (by simp)];exact HVE.out.symm));clear HFIN HNX HERR;gi_wp2
    go_roundw
    case rel=>exact ⟨j+1,by omega,by go_num,HBF,HN⟩
    case measure=>simp [intOf];omega
   ·have dc:(V != 0)=true:=by simpa using hV0
    have HF:=Za (HFIN.out V hV0);have hE1:edE ⟨xk,xv,false⟩=V:=by unfold edE;rw [if_neg (by simp [<- HKE.out]),if_neg (by simp)];exact HVE.out.symm
    have HE:=Za ((HERR.out (by rw [hE1];exact hV0)).trans hE1);clear HFIN HNX HERR hE1;gi_wp2
    obtain ⟨z1,z2,z3⟩:=HF.out;exact ⟨_,fin_edit z2 z3 rfl rfl,by rw [HE.out],z1⟩
 ·exfalso
  have:=HZR.out;rw [List.take_of_length_le (by have:=HNL.out;omega)] at this;exact HBAD.out this
end
theorem firstW {α:Type} {f:α->Int}:∀ {l:List α},ZE f l=0->∀ x ∈ l,f x=0
 | [],_,x,hx=>by simp at hx
 | y :: l,h,x,hx=>by
  unfold ZE at h;by_cases q:f y=0
  ·rw [if_neg (by simp [q])] at h;rcases List.mem_cons.1 hx with rfl | z
   ·exact q
   ·exact firstW h x z
  ·rw [if_pos q] at h;exact absurd h q
def DoP (w W:World) (s:Nat) (O:Nat->Prop) (T:List (List Int)) (m:Nat) (es:List En) (l:List Ed) (e:Ending) (W':World):Prop :=
 ∃ (fs:List En) (id:Nat) (O':Nat->Prop) (T':List (List Int)),ApR es l fs/\ChN l.length es fs/\MapOk fs/\fs.length<=es.length+l.length/\e=.returned (.tuple #[.int .u64 (if fs.length<=400 then (id:Int) else 0),.int .i64 (if fs.length<=400 then 0 else 4)])/\RootOf T' fs id/\Sub T T'/\(TxOk T->TxOk T')/\(T'=treeT T fs/\id=rootT T fs)/\TSw w W' s O' T' m/\(∀ i,O' i->O i\/W.heap.size<=i)/\Onl O W W'
theorem wdo_walk {w W:World} {s m id:Nat} {O:Nat->Prop} {T:List (List Int)} {es:List En} {ea:Option Addr} {ec:Nat} {l:List Ed}
  (HE:Calls Tryz.prog 36 #[.pointer (some ⟨s,0,none⟩),.int .u64 id,.slice ea l.length ec] W fun e W'=>∃ fs,ApR es l fs/\ChN l.length es fs/\MapOk fs/\fs.length<=es.length+l.length/\TRoot w W s O T m fs e W')
  (HK:∀ fs W' O' T',ApR es l fs->T'=treeT T fs->TSw w W' s O' T' m->Sub T T'->(TxOk T->TxOk T')->Onl O W W'->Calls Tryz.prog 37 #[.pointer (some ⟨s,0,none⟩),.int .u64 id,.slice ea l.length ec] W' (KyP es l W')) :
  Calls Tryz.prog 19 #[.pointer (some ⟨s,0,none⟩),.int .u64 id,.slice ea l.length ec] W (DoP w W s O T m es l):=by
 unfold DoP;obtain ⟨nl,hnl⟩:∃ n,n=l.length:=⟨_,rfl⟩;rw [<- hnl] at HE HK ⊢;have HE':=Za HE;have HK':=Za HK;clear HE HK hnl;go_enter Tryz.func19,Tryz.ntmps19
 go_wp2_with fail
 refine HE'.out.mono ?_;rintro e w1 ⟨fs,hap,c1,c2,c3,id',O',T',rfl,r1,r2,r2',r3,r4,r5,r6⟩;have HC:=Za (HK'.out fs w1 O' T' hap r3.1 r4 r2 r2' r6);have HAP:=Za hap;have HR:=Za (And.intro c1 (And.intro c2 (And.intro c3 (And.intro r1 (And.intro r2 (And.intro r2' (And.intro r3 (And.intro r4 (And.intro r5 r6)))))))));clear hap c1 c2 c3 r1 r2 r2' r3 r4 r5 r6 HK' HE';go_wp2_with fail
 refine HC.out.mono ?_;rintro e w2 ⟨gs,hg,rfl,b2⟩;have hgs:gs=fs:=hg.uniq HAP.out;subst hgs;have hsz:gs.length < 1000000\/True:=.inr trivial
 have HF:Hid (ApR es l gs/\ChN nl es gs/\MapOk gs/\gs.length<=es.length+nl/\RootOf T' gs id'/\Sub T T'/\(TxOk T->TxOk T')/\(T'=treeT T gs/\id'=rootT T gs)/\TSw w w2 s O' T' m/\(∀ i,O' i->O i\/W.heap.size<=i)/\Onl O W w2):=by
  obtain ⟨c1,c2,c3,r1,r2,r2',r3,r4,r5,r6⟩:=HR.out;exact Za ⟨HAP.out,c1,c2,c3,r1,r2,r2',r3,r4.below b2,r5,r6.trans (Onl.ofBelow b2)⟩
 clear hg b2 HC HR HAP hsz;by_cases hn:gs.length<=400
 ·have hd:decide ((gs.length:Int) > 400)=false:=decide_eq_false (by omega);have hd2:decide ((400:Int) < (gs.length:Int))=false:=decide_eq_false (by omega);go_wp2;refine bodyPost_ret (by simp [results,Tryz.results19,go_sem];rfl) rfl ?_;obtain ⟨f1,f2,f3,f4,f5,f6,f7,f8,f9,f10,f11⟩:=HF.out;exact ⟨gs,id',O',T',f1,f2,f3,f4,by rw [if_pos hn,if_pos hn],f5,f6,f7,f8,f9,f10,f11⟩
 ·have hd:decide ((gs.length:Int) > 400)=true:=decide_eq_true (by omega);have hd2:decide ((400:Int) < (gs.length:Int))=true:=decide_eq_true (by omega);go_wp2;refine bodyPost_ret (by simp [results,Tryz.results19,go_sem];rfl) rfl ?_;obtain ⟨f1,f2,f3,f4,f5,f6,f7,f8,f9,f10,f11⟩:=HF.out;exact ⟨gs,id',O',T',f1,f2,f3,f4,by rw [if_neg hn,if_neg hn],f5,f6,f7,f8,f9,f10,f11⟩
theorem wdo_err (W:World) (s root:Nat) (ea:Option Addr) (ec:Nat) (l:List Ed) (hl:RdG cEd 3 W ea l) (hll:l.length<=1000) (hz:∀ x ∈ l,x.k.size<=9223372036854775807/\x.v.size<=9223372036854775807) (hbad:¬ ∀ x ∈ l,edE x=0) :
  Calls Tryz.prog 19 #[.pointer (some ⟨s,0,none⟩),.int .u64 root,.slice ea l.length ec] W fun e W'=>e=.returned (.tuple #[.int .u64 0,.int .i64 (edsE l)])/\Below W.heap.size W W':=by
 have HE:=Za (tedit_err W s root ea ec l hl hll hz hbad);have hne:edsE l≠0:=fun q=>hbad (firstW q)
 have hd:(edsE l != 0)=true:=by simpa using hne
 obtain ⟨E,hE⟩:∃ E,E=edsE l:=⟨_,rfl⟩;obtain ⟨nl,hnl⟩:∃ n,n=l.length:=⟨_,rfl⟩;rw [<- hE] at hd HE hne ⊢;rw [<- hnl] at HE ⊢;clear hl hz hbad hE hnl;go_enter Tryz.func19,Tryz.ntmps19
 go_wp2_with fail
 refine HE.out.mono ?_;rintro e w1 ⟨rfl,b1⟩;have HB:=Za b1;clear b1;go_wp2;refine bodyPost_ret (by simp [results,Tryz.results19,go_sem];rfl) rfl ?_;exact ⟨rfl,HB.out⟩
theorem wdo_any {w W:World} {s m:Nat} {O:Nat->Prop} {T:List (List Int)} (h:TSw w W s O T m) (hp:pgT T<=4096) (hx:TxOk T) {es:List En} {id:Nat} (hr:RootOf T es id) (hok:MapOk es) (hle:es.length<=100) (ea:Option Addr) (ec:Nat) (l:List Ed) (hl:RdG cEd 3 W ea l) (hlb:∀ x,ea=some x->x.block < W.heap.size/\¬ O x.block) (hll:l.length<=400) (hE:∀ x ∈ l,edE x=0) (hz:∀ x ∈ l,x.k.size<=maxLen/\x.v.size<=maxLen)
  (hroom:∀ fs,ApR es l fs->ChN l.length es fs->MapOk fs->fs.length<=es.length+l.length->(fs.flatMap enB).length<=40000/\pgT (treeT T fs)<=4096) :
  Calls Tryz.prog 19 #[.pointer (some ⟨s,0,none⟩),.int .u64 id,.slice ea l.length ec] W (DoP w W s O T m es l):=by
 refine wdo_walk (tedit_map h hp hx hr hok hle ea ec l hl hll hE hz hroom) (fun fs W' O' T' hap ht t4 hs htx ho=>?_);obtain ⟨c1,c2,c3⟩:=hap.chain hok hE;have hpg:=(hroom fs hap c1 c2 c3).2
 have hT':T'.length<=16000:=by
  have:=t4.len;rw [ht] at this ⊢;omega
 obtain ⟨ls,q1,q2,q3,_⟩:=(hr.sub hs).tree hok (by omega) hT';have q2':ls.flatMap (fun p=>p.2)=es:=q2;have C:=wkeys_any t4 hT' (htx hx) id ls q1 q3 (by rw [q2'];omega) ea ec l (hl.onl ho (fun x hx=>(hlb x hx).2)) (fun x hx=>Nat.lt_of_lt_of_le (hlb x hx).1 ho.size) (by omega);rwa [q2'] at C
end Go.Proofs.YtdhebpnkfookcaaGreat
