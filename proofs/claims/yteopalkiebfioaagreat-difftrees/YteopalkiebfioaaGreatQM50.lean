import Derived.Test.YteopalkiebfioaaGreatQM48
set_option maxRecDepth 100000
set_option maxHeartbeats 8000000
namespace Go.Proofs.YteopalkiebfioaaGreat
open Go.RowKit Go.Shelf Apo
attribute [local go_sem] Oper.semAt_some
attribute [local go_sem ↓] app_sem
theorem tedit_bad (W:World) (s root:Nat) (ea:Option Addr) (ec:Nat) (l:List Ed) (hl:RdG cEd 3 W ea l) (hll:l.length<=1000) (hz:∀ x ∈ l,x.k.size<=9223372036854775807/\x.v.size<=9223372036854775807) (hbad:¬ ∀ x ∈ l,edE x=0) :
  Calls Tryz.prog 9 #[.pointer (some ⟨s,0,none⟩),.int .u64 root,.slice ea l.length ec] W fun e W'=>(∃ er:Int,er≠0/\e=.returned (.tuple #[.int .u64 0,.int .i64 er]))/\Below W.heap.size W W':=by
 refine (callsIn_wide (n:=1)).1 ?_;obtain ⟨W2,hW2⟩:∃ W2,W2=(W.alloc (.cells #[.int .u64 0] 29)).alloc (.cells #[.int .i64 0] 30):=⟨_,rfl⟩;have s2:W2.heap.size=W.heap.size+2:=by rw [hW2];simp
 have b2:Below W.heap.size W W2:=by rw [hW2];exact ((Below.refl _ W).alloc (Nat.le_refl _) _).alloc (by simp) _
 have k0:Ob W2 W.heap.size 29 [.int .u64 0]:=by rw [hW2];exact (Ob.new W [.int .u64 0] 29).alloc _
 have k1:Ob W2 (W.heap.size+1) 30 [.int .i64 0]:=by
  have:=Ob.new (W.alloc (.cells #[.int .u64 0] 29)) [.int .i64 0] 30;rw [World.size_alloc] at this;rw [hW2];exact this
 have HL:=Za hl;have HZ:=Za hz;have HBAD:=Za hbad;have HB2:=Za b2;have HK0:=Za k0;have HK1:=Za k1;have HS2:=Za s2;obtain ⟨nl,hnl⟩:∃ n,n=l.length:=⟨_,rfl⟩;have HNL:=Za hnl;rw [<- hnl] at hll ⊢;clear hl hz hbad b2 k0 k1 hnl s2;refine callsIn_of_wp_marks Tryz.func9 rfl trivial ?_ rfl;simp only [Tryz.ntmps9,List.size_toArray,List.length_cons,List.length_nil,Nat.reduceAdd,Nat.reduceSub,Array.replicate_succ,Array.replicate_zero,List.push_toArray,List.append_toArray,List.nil_append,List.cons_append];gi_wp2
 rw [<- hW2];clear hW2;gi_loopw [18] (fun i wr=>∃ j:Nat,j<=nl/\i=.int .i64 j/\Hid (Below W2.heap.size W2 wr)/\Hid (∀ x ∈ l.take j,edE x=0)) (fun i _=>nl - (intOf i).toNat)
 case atStart=>exact ⟨0,Nat.zero_le _,rfl,Za (Below.refl _ _),Za (by simp)⟩
 case round =>
 obtain ⟨j,hj,rfl,HBr,HZR⟩:=hrel;by_cases hjn:j < nl
 ·obtain ⟨⟨xk,xv,xg⟩,hxj⟩:∃ x,l[j]?=some x:=⟨l[j]'(by have:=HNL.out;omega),List.getElem?_eq_getElem _⟩
  obtain ⟨g,o,rfl,c0,c1,c2⟩:=((HL.out.below HB2.out).below HBr.out).ed hxj;simp only at c0 c1 c2;obtain ⟨q3,q4⟩:=HZ.out _ (List.mem_of_getElem? hxj);simp only at q3 q4;have CK:=fun W=>key_any xk W q3
  have CV:=fun W=>val_any xv W q4
  have HNX:Hid (edE ⟨xk,xv,xg⟩=0->∀ x ∈ l.take (j+1),edE x=0):=Za (fun h0 x hx=>by
   rw [List.take_add_one,hxj] at hx;rcases List.mem_append.1 hx with q | q
   ·exact HZR.out x q
   ·have:x=⟨xk,xv,xg⟩:=by simpa using q
    rw [this];exact h0)
  obtain ⟨K,hK⟩:∃ K,K=keyE xk:=⟨_,rfl⟩;obtain ⟨V,hV⟩:∃ V,V=valE xv:=⟨_,rfl⟩;rw [<- hK] at CK;rw [<- hV] at CV;have HCK:=Za CK;have HCV:=Za CV;have HKE:=Za hK;have HVE:=Za hV;have b1:Below W2.heap.size W2 (wr.alloc (.cells #[.string xk,.string xv,.bool xg] 52)):=HBr.out.alloc HBr.out.size _;have HBF:=Za b1;have d0:=HK0.out.old b1;have d1:=HK1.out.old b1;obtain ⟨W3,hW3⟩:∃ W3,W3=wr.alloc (.cells #[.string xk,.string xv,.bool xg] 52):=⟨_,rfl⟩
  have HFIN:Hid (∀ er:Int,er≠0->Below W.heap.size W ((W3.setCell ⟨W.heap.size,0,none⟩ (.int .u64 0)).setCell ⟨W.heap.size+1,0,none⟩ (.int .i64 er))/\Ob ((W3.setCell ⟨W.heap.size,0,none⟩ (.int .u64 0)).setCell ⟨W.heap.size+1,0,none⟩ (.int .i64 er)) W.heap.size 29 [.int .u64 0]/\Ob ((W3.setCell ⟨W.heap.size,0,none⟩ (.int .u64 0)).setCell ⟨W.heap.size+1,0,none⟩ (.int .i64 er)) (W.heap.size+1) 30 [.int .i64 er]):=Za (fun er _=>by
   rw [<- hW3] at d0 d1 b1;have o4:Onl (fun i=>i=W.heap.size\/i=W.heap.size+1) W3 ((W3.setCell ⟨W.heap.size,0,none⟩ (.int .u64 0)).setCell ⟨W.heap.size+1,0,none⟩ (.int .i64 er)):=((Onl.refl (fun i=>i=W.heap.size\/i=W.heap.size+1) W3).set (p:=W.heap.size) (.inl (.inl rfl)) _).set (p:=W.heap.size+1) (.inl (.inr rfl)) _
   exact ⟨Below.onl (HB2.out.trans (b1.mono HB2.out.size)) o4 (fun i q=>by omega) (Nat.le_refl _),(d0.set 0 _).set_other (by omega) _,(d1.set_other (by omega) _).set 0 _⟩)
  have y0:=d0.cell 0;have y1:=d1.cell 0;have f0:=d0.frozen 0;have f1:=d1.frozen 0;have e1:=(d1.set_other (i:=0) (show W.heap.size+1≠W.heap.size by omega) (.int .u64 0)).cell 0
  have e2:=(d1.set_other (i:=0) (show W.heap.size+1≠W.heap.size by omega) (.int .u64 0)).frozen 0
  simp only [List.getElem?_cons_zero] at y0 y1 e1
  rw [hW3] at HFIN;clear CK CV q3 q4 hxj b1 d0 d1 hW3 hK hV;gi_wp2_with fail
  refine ⟨trivial,(callsIn_wide.2 (HCK.out _)).mono ?_⟩;rintro e w1 ⟨rfl,rfl⟩;by_cases hK0:K=0
  rotate_left
  ·have dc:(K != 0)=true:=by simpa using hK0
   have HF:=Za (HFIN.out K hK0);clear HFIN;gi_wp2
   obtain ⟨z1,z2,z3⟩:=HF.out;exact ⟨_,fin_edit z2 z3 rfl rfl,⟨K,hK0,rfl⟩,z1⟩
  subst hK0;gi_wp2_with fail
  refine ⟨trivial,(callsIn_wide.2 (HCV.out _)).mono ?_⟩;rintro e w1 ⟨rfl,rfl⟩;cases xg with
  | true =>
   have HN:=Za (HNX.out (by unfold edE;rw [if_neg (by simp [<- HKE.out]),if_pos rfl]))
   clear HFIN HNX;gi_wp2
   go_roundw
   case rel=>exact ⟨j+1,by omega,by go_num,HBF,HN⟩
   case measure=>simp [intOf];omega
  | false =>
   by_cases hV0:V=0
   ·subst hV0;have HN:=Za (HNX.out (by unfold edE;rw [if_neg (by simp [<- HKE.out]),if_neg (by simp)];exact HVE.out.symm))
    clear HFIN HNX;gi_wp2
    go_roundw
    case rel=>exact ⟨j+1,by omega,by go_num,HBF,HN⟩
    case measure=>simp [intOf];omega
   ·have dc:(V != 0)=true:=by simpa using hV0
    have HF:=Za (HFIN.out V hV0);clear HFIN HNX;gi_wp2
    obtain ⟨z1,z2,z3⟩:=HF.out;exact ⟨_,fin_edit z2 z3 rfl rfl,⟨V,hV0,rfl⟩,z1⟩
 ·exfalso
  have:=HZR.out;rw [List.take_of_length_le (by have:=HNL.out;omega)] at this
  exact HBAD.out this
end Go.Proofs.YteopalkiebfioaaGreat
