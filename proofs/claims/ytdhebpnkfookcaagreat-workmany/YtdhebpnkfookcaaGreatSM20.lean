import Derived.Lib.SlBytesConst
import Derived.Test.YtdhebpnkfookcaaGreatSM19
set_option maxRecDepth 100000
set_option maxHeartbeats 8000000
namespace Apo
open Go Go.RowKit
def SameR (S:Cs) (b:List Int) (id:Nat) (er:Int):Prop:=∃ l:List Nat,(∀ i,i ∈ l↔∃ c,S.ch i=some c/\c.sum=sumN b)/\SameL S b l id er
def PutR (S:Cs) (b:List Int) (id:Nat) (er:Int) (S':Cs):Prop :=
 if S.ended=true then id=0/\er=40/\S'=S
 else if 131072 < b.length then id=0/\er=2/\S'=S
 else ∃ id0 er0,SameR S b id0 er0 /\
  if id0≠0\/er0≠0 then id=id0/\er=er0/\S'=S
  else if S.next=18446744073709551615 then id=0/\er=70/\S'=S
  else if (S.c.put S.st b).1.2≠0 then id=0/\er=(S.c.put S.st b).1.2/\S'={ S with c:=(S.c.put S.st b).2.1,st:=(S.c.put S.st b).2.2,ended:=endsE (S.c.put S.st b).1.2 }
  else id=S.next/\er=0/\S'={ S with c:=(S.c.put S.st b).2.1,st:=(S.c.put S.st b).2.2,ended:=false,ch:=upd S.ch S.next (some ⟨(S.c.put S.st b).1.1,b.length,sumN b⟩),next:=S.next+1 }
end Apo
namespace Go.Proofs.YtdhebpnkfookcaaGreat
open Go.RowKit Apo
def PutP (O:Nat->Prop) (w:World) (s d:Nat) (S:Cs) (b:List Int) (e:Ending) (w':World):Prop:=∃ (id:Nat) (er:Int) (S':Cs),e=.returned (.tuple #[.int .u64 id,.int .i64 er])/\PutR S b id er S'/\CSx (Gro O w w') w' s d S'/\Onl O w w'
theorem hput_any {O:Nat->Prop} {w:World} {s d:Nat} {S:Cs} (h:CSx O w s d S) (hf:Few S.ch 16383) (hn:S.ch S.next=none) (hnl:S.next < 18446744073709551616) (hcc:S.st.C.length<=536870912)
  (ba:Option Addr) (bcap:Nat) (b:List Int) (hr:Rd .u8 w ba b) (hrn:ba=none->bcap=0) (hrl:b.length<=bcap) (hl:b.length<=1099511627776) (hby:∀ z ∈ b,0<=z/\z<=255) (hbo:∀ x,ba=some x->0 < b.length->¬ O x.block) :
  Calls Tryz.prog 33 #[.pointer (some ⟨s,0,none⟩),.slice ba b.length bcap] w (PutP O w s d S b):=by
 obtain ⟨L,pg,bc,bs,bg,sa,sc,sm,h,so,hO⟩:=h;have CA:=halive_ob h.ob (pg:=pg) (b:=S.ended) rfl rfl;have HO:=Za hO;have HS:=Za so;have HH:=Za h;have HX:=Za (show CSx (Gro O w w) w s d S from ⟨L,pg,bc,bs,bg,sa,sc,sm,h,so,fun i q=>.inl (hO i q)⟩);have HCA:=Za CA;have HR:=Za hr;have HBY:=Za hby;obtain ⟨nb,hnb⟩:∃ nb,nb=b.length:=⟨_,rfl⟩;have HNB:=Za hnb;rw [<- hnb] at hl hrl ⊢;clear hnb;cases hen:S.ended
 ·rw [hen] at HCA;have HEN:=Za hen;clear CA hen;by_cases hlong:131072 < nb
  ·clear h so hO;go_enter Tryz.func33,Tryz.ntmps33
   go_wp2_with fail
   refine HCA.out.mono ?_;rintro e wx ⟨rfl,rfl⟩;go_wp2;refine bodyPost_ret (by simp [results,Tryz.results33,go_sem];rfl) rfl ?_;exact ⟨0,2,S,rfl,by unfold PutR;rw [if_neg (by rw [HEN.out];simp),if_pos (by rw [<- HNB.out];exact hlong)];exact ⟨rfl,rfl,rfl⟩,HX.out,Onl.refl _ _⟩
  ·have CSm:=hsame_any h (fun k i hi=>by obtain ⟨c,hc,_⟩:=(so.is k i).1 hi;rw [hc];simp) (by omega) ba bcap b hr (by rw [<- HNB.out];omega) hby (Nat.le_trans (so.len hf _) (by omega));rw [<- HNB.out] at CSm;have HSM:=Za CSm;clear h so hO CSm;go_enter Tryz.func33,Tryz.ntmps33
   go_wp2_with fail
   refine HCA.out.mono ?_;rintro e wx ⟨rfl,rfl⟩;go_wp2_with fail
   refine HSM.out.mono ?_;rintro e w1 ⟨id0,er0,rfl,hsl,b1⟩;have hsr:SameR S b id0 er0:=⟨sm (sumN b),fun i=>HS.out.is _ i,hsl⟩;have HSR:=Za hsr;have HB1:=Za b1
   have HPU:Hid (∀ id er S',(if id0≠0\/er0≠0 then id=id0/\er=er0/\S'=S
     else if S.next=18446744073709551615 then id=0/\er=70/\S'=S
     else if (S.c.put S.st b).1.2≠0 then id=0/\er=(S.c.put S.st b).1.2/\S'={ S with c:=(S.c.put S.st b).2.1,st:=(S.c.put S.st b).2.2,ended:=endsE (S.c.put S.st b).1.2 }
     else id=S.next/\er=0/\S'={ S with c:=(S.c.put S.st b).2.1,st:=(S.c.put S.st b).2.2,ended:=false,ch:=upd S.ch S.next (some ⟨(S.c.put S.st b).1.1,b.length,sumN b⟩),next:=S.next+1 })->PutR S b id er S'):=by
    refine Za (fun id er S' q=>?_);unfold PutR;rw [if_neg (by rw [HEN.out];simp),if_neg (by rw [<- HNB.out];exact hlong)];exact ⟨id0,er0,hsr,q⟩
   clear hsl hsr b1 hlong;by_cases hsome:id0≠0\/er0≠0
   ·have HF:Hid (PutP O w s d S b (.returned (.tuple #[.int .u64 id0,.int .i64 er0])) w1):=by
     refine Za ⟨id0,er0,S,rfl,HPU.out _ _ _ (by rw [if_pos hsome];exact ⟨rfl,rfl,rfl⟩),?_,Onl.ofBelow HB1.out⟩;exact ⟨L,pg,bc,bs,bg,sa,sc,sm,HH.out.below HB1.out,HS.out,fun i q=>.inl (HO.out i q)⟩
    cases hi0:((id0:Int) != 0)
    ·have he0:(er0 != 0)=true:=by simp at hi0 ⊢;rcases hsome with z | z <;> omega
     clear hsome;go_wp2;refine bodyPost_ret (by simp [results,Tryz.results33,go_sem];rfl) rfl ?_;exact HF.out
    ·clear hsome;go_wp2;refine bodyPost_ret (by simp [results,Tryz.results33,go_sem];rfl) rfl ?_;exact HF.out
   ·have hz:id0=0/\er0=0:=by omega
    obtain ⟨rfl,rfl⟩:=hz;have HT1:=Za (HH.out.below HB1.out);have n3:=HT1.out.ob.cell 3;have n0:=HT1.out.ob.cell 0;simp only [stC,List.getElem?_cons_zero,List.getElem?_cons_succ] at n0 n3;obtain ⟨N,hN⟩:∃ N,N=S.next:=⟨_,rfl⟩;rw [<- hN] at n3;have HN:=Za hN;clear hsome hN;by_cases hmax:N=18446744073709551615
    ·subst hmax
     have HF:Hid (PutP O w s d S b (.returned (.tuple #[.int .u64 0,.int .i64 70])) w1):=by
      refine Za ⟨0,70,S,rfl,HPU.out _ _ _ (by rw [if_neg (by simp),if_pos HN.out.symm];exact ⟨rfl,rfl,rfl⟩),?_,Onl.ofBelow HB1.out⟩;exact ⟨L,pg,bc,bs,bg,sa,sc,sm,HT1.out,HS.out,fun i q=>.inl (HO.out i q)⟩
     go_wp2;refine bodyPost_ret (by simp [results,Tryz.results33,go_sem];rfl) rfl ?_;exact HF.out
    ·have hmx:((N:Int) == 18446744073709551615)=false:=by simp;omega
     have hNm:N < 18446744073709551615:=by have:=HN.out;omega
     have CP:=cput_any HT1.out.px hcc ba bcap b (HR.out.below HB1.out) hrn (by rw [<- HNB.out];exact hrl) (fun x hx hl q=>hbo x hx hl (HO.out _ (by omega))) HBY.out;rw [<- HNB.out] at CP;obtain ⟨⟨⟨⟨pa,pk⟩,er⟩,c',st'⟩,hPR⟩:∃ PR,PR=S.c.put S.st b:=⟨_,rfl⟩;rw [<- hPR] at CP;simp only at CP;have HCP:=Za CP;have HPR:=Za hPR;clear CP hPR hmax;go_wp2_with fail
     refine HCP.out.mono ?_;rintro en w2 ⟨rfl,p2,o2⟩;have T2:=HT1.out.pager p2 o2;have kx:Ob (w2.alloc (.cells #[.int .i64 pa,.int .i64 pk] 108)) w2.heap.size 108 [.int .i64 pa,.int .i64 pk]:=Ob.new w2 [.int .i64 pa,.int .i64 pk] 108;have b3:Below w2.heap.size w2 (w2.alloc (.cells #[.int .i64 pa,.int .i64 pk] 108)):=(Below.refl _ w2).alloc (Nat.le_refl _) _;have T3:=T2.below b3;have CE:=hends_ob T3.ob (by simp [stC]) er;have k4:=T3.ob.set 7 (.bool (endsE er));simp only [stC,List.set_cons_succ,List.set_cons_zero] at k4;have o4:Onl (fun i=>i=s) (w2.alloc (.cells #[.int .i64 pa,.int .i64 pk] 108)) ((w2.alloc (.cells #[.int .i64 pa,.int .i64 pk] 108)).setCell ⟨s,7,none⟩ (.bool (endsE er))):=(Onl.refl (fun i=>i=s) _).set (p:=s) (.inl rfl) _;have T4:=T3.cells (nx:=S.next) (fi:=S.first) (en:=endsE er) k4 o4;have hs2:w1.heap.size<=w2.heap.size:=o2.size;have hs1:w.heap.size<=w1.heap.size:=HB1.out.size;have hOs:O s:=HO.out s (by rw [HH.out.ls];omega);have O4:Onl O w ((w2.alloc (.cells #[.int .i64 pa,.int .i64 pk] 108)).setCell ⟨s,7,none⟩ (.bool (endsE er))):=(((Onl.ofBelow HB1.out).more o2 (fun i q=>.inl (HO.out i (by omega)))).trans (Onl.ofBelow b3)).more o4 (fun i q=>.inl (by rw [q];exact hOs));have kx4:=kx.onl o4 (fun e=>by have:=T2.ob.lt;omega)
     have HL2:Hid (∀ i,tagd L w1 w2 2 i≠0->O i\/(w1.heap.size<=i/\i < w2.heap.size)):=by
      refine Za (fun i q=>?_);unfold tagd at q;split at q
      ·next z=>exact .inr z
      ·exact .inl (HO.out i q)
     have HL20:tagd L w1 w2 2 w2.heap.size=0:=by
      unfold tagd;rw [if_neg (by omega)];by_cases q:L w2.heap.size=0
      ·exact q
      ·have:=HH.out.lt _ q;omega
     have HCE:=Za CE;have HT4:=Za T4;have HO4:=Za O4;have hx0:=kx4.cell 0;have hx1:=kx4.cell 1;have hy1:=T4.ob.cell 1;have hy2:=T4.ob.cell 2;have hy3:=T4.ob.cell 3;simp only [stC,List.getElem?_cons_zero,List.getElem?_cons_succ] at hx0 hx1 hy1 hy2 hy3;rw [<- HN.out] at hy3;have hs4:((w2.alloc (.cells #[.int .i64 pa,.int .i64 pk] 108)).setCell ⟨s,7,none⟩ (.bool (endsE er))).heap.size=w2.heap.size+1:=by simp [World.setCell]
     have HKX:=Za kx4;clear T2 T3 T4 CE k4 o4 O4 kx kx4 b3 p2 o2;generalize hW4:(w2.alloc (.cells #[.int .i64 pa,.int .i64 pk] 108)).setCell ⟨s,7,none⟩ (.bool (endsE er))=W4 at *;have HW4:=Za hW4;clear hW4;go_wp2_with fail
     refine HCE.out.mono ?_;rintro en wx ⟨rfl,hwx⟩;rw [hwx];clear hwx;by_cases her:er=0
     ·subst her;have hee:endsE 0=false:=rfl;have T5:=HT4.out.below ((Below.refl _ W4).drew);have CS2:=hsum_any (w:=W4.drew) ba bcap b (hr.onl (HO4.out.drew) (fun x hx hl q=>hbo x hx hl q)) (by rw [<- HNB.out];exact hl) HBY.out;rw [<- HNB.out] at CS2;obtain ⟨K2,hk1,hk2⟩:=HS.out.cover hf;have hk5:=HS.out.len hf (sumN b);obtain ⟨K1,hk3,hk4⟩:Few S.ch 16383:=hf;have hnl2:N < 18446744073709551616:=by rw [HN.out];exact hnl
      have CAd:=cadd_any T5.sh T5.lt hnl2 ⟨⟨pa,pk⟩,nb,sumN b⟩ (sumN_lt b) (K1:=K1) (K2:=K2) hk3 (by unfold maxLen;omega) hk1 (by unfold maxLen;omega) (Nat.le_trans hk5 (by omega));have ev:Ck.val ⟨⟨pa,pk⟩,nb,sumN b⟩=.agg #[.int .i64 pa,.int .i64 pk,.int .i64 nb,.int .u64 (sumN b:Nat)]:=rfl;rw [ev] at CAd;obtain ⟨sb,hsb⟩:∃ sb,sb=sumN b:=⟨_,rfl⟩;rw [<- hsb] at CAd CS2;have HSB:=Za hsb;have HCS2:=Za CS2;have HCAd:=Za CAd;have HT5:=Za T5;clear T5 CS2 CAd ev hsb hk1 hk2 hk3 hk4 hk5;go_wp2
      go_region_held3 (fun W'=>W'.cell? ⟨s,1,none⟩=some (.map (some bc))/\W'.cell? ⟨s,2,none⟩=some (.map (some bs))/\W'.cell? ⟨w2.heap.size,0,none⟩=some (.int .i64 pa)/\W'.cell? ⟨w2.heap.size,1,none⟩=some (.int .i64 pk)) (go_keep) (first
       | (go_at_call 59;refine HCS2.out.mono ?_;rintro en w5 ⟨rfl,rfl⟩)
       | (go_at_call 58;refine HCAd.out.mono ?_;rintro en w5 ⟨rfl,L5,l5,k5,pm5,e5,o5⟩;have T6:=HT5.out.shelf k5 e5 o5;have z1:=T6.ob.cell 1;have z2:=T6.ob.cell 2;have z3:=T6.ob.cell 3;have hox:=HKX.out.onl ((Onl.refl (fun i=>10<=tagd L w1 w2 2 i) W4).drew.trans o5) (by show ¬ (10<=tagd L w1 w2 2 w2.heap.size);rw [HL20];omega);have z4:=hox.cell 0;have z5:=hox.cell 1;simp only [stC,List.getElem?_cons_zero,List.getElem?_cons_succ] at z1 z2 z3 z4 z5;have HT6:=Za T6;have HP5:=Za pm5;have HE5:=Za e5;have HO5:=Za o5;clear T6 k5 pm5 e5 o5 hox))
      rw [<- HN.out] at z3;have kf:=HT6.out.ob.frozen 3;have k7:=HT6.out.ob.set 3 (.int .u64 ((N+1:Nat):Int));simp only [stC,List.set_cons_succ,List.set_cons_zero] at k7;have o7:Onl (fun i=>i=s) w5 (w5.setCell ⟨s,3,none⟩ (.int .u64 ((N+1:Nat):Int))):=(Onl.refl (fun i=>i=s) _).set (p:=s) (.inl rfl) _;have T7:=HT6.out.cells (nx:=N+1) (fi:=S.first) (en:=endsE 0) k7 o7;have hs5:W4.heap.size<=w5.heap.size:=HO5.out.size;have hs7:(w5.setCell ⟨s,3,none⟩ (.int .u64 ((N+1:Nat):Int))).heap.size=w5.heap.size:=by simp [World.setCell]
      have O7:Onl O w (w5.setCell ⟨s,3,none⟩ (.int .u64 ((N+1:Nat):Int))):=(HO4.out.drew.more HO5.out (fun i q=>(HL2.out i (by have q':10<=tagd L w1 w2 2 i:=q;omega)).elim .inl (fun z=>.inr (by omega)))).more o7 (fun i q=>.inl (by rw [q];exact hOs))
      have HF:Hid (PutP O w s d S b (.returned (.tuple #[.int .u64 N,.int .i64 0])) (w5.setCell ⟨s,3,none⟩ (.int .u64 ((N+1:Nat):Int)))):=by
       have hpr:=HPR.out;have hso:SumOk (upd S.ch N (some ⟨⟨pa,pk⟩,nb,sb⟩)) (upd sm sb l5):=HS.out.add (c:=⟨⟨pa,pk⟩,nb,sb⟩) (by rw [HN.out];exact hn) HP5.out;refine Za ⟨N,0,_,rfl,HPU.out _ _ _ (by rw [if_neg (by simp),if_neg (by rw [<- HN.out];omega),if_neg (by rw [<- hpr];simp),<- hpr];exact ⟨HN.out,rfl,rfl⟩),?_,O7⟩;rw [<- HN.out,<- HNB.out,<- HSB.out];refine ⟨L5,pg,bc,bs,bg,sa,sc,_,T7,hso,fun i q=>?_⟩;have hi5:i < w5.heap.size:=HE5.out.lt i q;by_cases hi:i < W4.heap.size
       ·rw [HE5.out.old i hi] at q;rcases HL2.out i q with z | z
        ·exact .inl z
        ·exact .inr (by rw [hs7];omega)
       ·exact .inr (by rw [hs7];omega)
      have hw1:IntKind.u64.wrap ((N:Int)+1)=((N+1:Nat):Int):=by rw [IntKind.wrap_u64];omega
      have hNN:(((N+1:Nat):Int))=(N:Int)+1:=by omega
      rw [hNN] at HF;clear k7 o7 T7 O7 hw1 hNN;go_wp2;refine bodyPost_ret (by simp [results,Tryz.results33,go_sem];rfl) rfl ?_;exact HF.out
     ·have hern:(er != 0)=true:=by simpa using her
      have HF:Hid (PutP O w s d S b (.returned (.tuple #[.int .u64 0,.int .i64 er])) W4):=by
       have hpr:=HPR.out;refine Za ⟨0,er,_,rfl,HPU.out _ _ _ (by rw [if_neg (by simp),if_neg (by rw [<- HN.out];omega),if_pos (by rw [<- hpr];exact her),<- hpr];exact ⟨rfl,rfl,rfl⟩),⟨_,pg,bc,bs,bg,sa,sc,sm,HT4.out,HS.out,fun i q=>?_⟩,HO4.out⟩;rcases HL2.out i q with z | z
       ·exact .inl z
       ·exact .inr (by omega)
      clear her;go_wp2;refine bodyPost_ret (by simp [results,Tryz.results33,go_sem];rfl) rfl ?_;exact HF.out
 ·rw [hen] at HCA;have HEN:=Za hen;clear h CA hen so hO;go_enter Tryz.func33,Tryz.ntmps33
  go_wp2_with fail
  refine HCA.out.mono ?_;rintro e wx ⟨rfl,rfl⟩;go_wp2;refine bodyPost_ret (by simp [results,Tryz.results33,go_sem];rfl) rfl ?_;exact ⟨0,40,S,rfl,by unfold PutR;rw [if_pos HEN.out];exact ⟨rfl,rfl,rfl⟩,HX.out,Onl.refl _ _⟩
end Go.Proofs.YtdhebpnkfookcaaGreat
namespace Apo
open Go Go.RowKit
section
/-! what is read,sectors first,is what is read page by page,where that goes well -/
theorem told_at {s i j:Nat} (h:(s+i) * 4+j<=131072):((s:Int) * 4+((4 * i+j:Nat):Int))=sAt s i j:=by
 rw [sAt_nat (by omega)];omega
theorem gat_page {st:Sd} {s i:Nat} (hb:(s+i) * 4+4<=131072) (h0:(gat st ((s:Int) * 4) (4 * i)).2=0):∀ j,j<=4->(ZV st s i j).2=0->gat st ((s:Int) * 4) (4 * i+j)=((gat st ((s:Int) * 4) (4 * i)).1++(ZV st s i j).1,0)
 | 0,_,_=>by
  show gat st _ (4 * i)=_
  simp [ZV]
  exact Prod.ext rfl h0
 | j+1,hj,h=>by
  simp only [ZV] at h;by_cases h1:(ZV st s i j).2=0
  ·rw [if_pos h1] at h;by_cases h2:(st.told (sAt s i j)).2=0
   ·have ih:=gat_page hb h0 j (by omega) h1;show gat st _ (4 * i+j+1)=_
    simp only [gat,ZV];rw [ih,told_at (by omega),if_pos rfl,if_pos h2,if_pos h1,if_pos h2];simp
   ·rw [if_neg h2] at h;exact absurd h h2
  ·rw [if_neg h1] at h;exact absurd h h1
theorem pgOf_app {raw P:List Int} {n k:Nat} (h:raw.length=128 * n) (hk:k < n):pgOf (raw++P) k=pgOf raw k:=by
 unfold pgOf;rw [List.drop_append_of_le_length (by omega),List.take_append_of_le_length (by rw [List.length_drop];omega)]
theorem pgOf_last {raw P:List Int} {n:Nat} (h:raw.length=128 * n) (hp:P.length=128):pgOf (raw++P) n=P:=by
 unfold pgOf;rw [List.drop_left' h,List.take_of_length_le (by omega)]
theorem sm_page {P:List Int} (h:P.length=128) (hp:Z4 (P.drop 4)=P):P.take 4=sum4 (P.drop 4):=by
 have hl:(P.drop 4).length=124:=by rw [List.length_drop,h]
 have e:Z4 (P.drop 4)=sum4 (ZJ (P.drop 4))++ZJ (P.drop 4):=rfl;have ep:ZJ (P.drop 4)=P.drop 4:=by unfold ZJ;rw [hl];simp
 rw [ep] at e;rw [<- hp,e,List.take_left' (sum4_len _),List.drop_left' (sum4_len _)]
theorem flat_same {α β:Type} {f g:α->List β}:∀ {l:List α},(∀ x ∈ l,f x=g x)->l.flatMap f=l.flatMap g
 | [],_=>rfl
 | x :: l,h=>by
  rw [List.flatMap_cons,List.flatMap_cons,h x (by simp),flat_same (fun y hy=>h y (by simp [hy]))]
theorem rd_both {st:Sd} (ok:OkS st) {s:Nat}:∀ i,(s+i) * 4<=131072->(rdTo st s i).2=0 ->
  (gat st ((s:Int) * 4) (4 * i)).2=0/\(∀ k,k < i->smOf (gat st ((s:Int) * 4) (4 * i)).1 k=true)/\(List.range i).flatMap (txOf (gat st ((s:Int) * 4) (4 * i)).1)=(rdTo st s i).1
 | 0,_,_=>⟨rfl,fun k hk=>by omega,rfl⟩
 | i+1,hb,h=>by
  simp only [rdTo] at h;by_cases h1:(rdTo st s i).2=0
  ·rw [if_pos h1] at h;by_cases h2:(ZV st s i 4).2=0
   ·rw [if_pos h2] at h;by_cases h3:Z4 ((ZV st s i 4).1.drop 4)=(ZV st s i 4).1
    ·obtain ⟨g1,g2,g3⟩:=rd_both ok i (by omega) h1;have hg:=gat_page (by omega) g1 4 (Nat.le_refl _) h2;have hl:=gat_len ok ((s:Int) * 4) (4 * i) g1;have hl':(gat st ((s:Int) * 4) (4 * i)).1.length=128 * i:=by rw [hl];omega
     have hP:=rdPage_len ok (s:Int) i 4 h2;have hP':(ZV st s i 4).1.length=128:=by rw [hP]
     rw [show 4 * (i+1)=4 * i+4 by omega,hg];refine ⟨rfl,fun k hk=>?_,?_⟩
     ·by_cases hki:k < i
      ·have:=g2 k hki;unfold smOf txOf at this ⊢;simp only [pgOf_app hl' hki];exact this
      ·have:k=i:=by omega
       subst this;unfold smOf txOf;simp only [pgOf_last hl' hP'];exact decide_eq_true (sm_page hP' h3)
     ·rw [List.range_succ,List.flatMap_append];simp only [rdTo];rw [if_pos h1,if_pos h2,if_pos h3]
      have e1:(List.range i).flatMap (txOf ((gat st ((s:Int) * 4) (4 * i)).1++(ZV st s i 4).1))=(List.range i).flatMap (txOf (gat st ((s:Int) * 4) (4 * i)).1):=flat_same (fun k hk=>by
       unfold txOf;rw [pgOf_app hl' (List.mem_range.1 hk)])
      rw [e1,g3];simp only [List.flatMap_cons,List.flatMap_nil,List.append_nil];unfold txOf;rw [pgOf_last hl' hP']
    ·rw [if_neg h3] at h;simp at h
   ·rw [if_neg h2] at h;exact absurd h h2
  ·rw [if_neg h1] at h;exact absurd h h1
theorem firstP_nat {s:Nat} (h:s < 16384):Zw (s:Int)=(s:Int) * 4:=by unfold Zw;rw [if_neg (by omega)]
theorem rdText2_of {st:Sd} (ok:OkS st) {s n:Nat} {size:Nat} (hs:s < 16384) (hn:n=Zc size) (h0:n≠0) (h:(rdTo st s n).2=0):st.rdText2 (Zw s) size=((rdTo st s n).1.take size,0):=by
 have hl:=needP_le (size:Int);obtain ⟨g1,g2,g3⟩:=rd_both ok n (by omega) h;unfold Sd.rdText2;rw [firstP_nat hs,<- hn,if_neg h0,if_pos g1,if_pos (by rw [List.all_eq_true];exact fun k hk=>g2 k (List.mem_range.1 hk)),g3];simp
/-! rows of pages that are taken in turn -/
structure Suf (f:Fr) (m N:Nat):Prop where
 lo:f.lo=1
 len:f.L.length=N
 at':∀ i,f.L[i]?=some true↔(m<=i/\i < N)
 m1:1<=m
theorem freeOf_suf (st:Sd) (hs:st.S.length<=65536):Suf (Zu st) 1 (st.S.length / 4):=by
 refine ⟨rfl,freeOf_len st hs,fun i=>⟨fun q=>?_,fun q=>freeOf_at st hs q.1 q.2⟩,Nat.le_refl _⟩;have hlt:=(List.getElem?_eq_some_iff.1 q).1;rw [freeOf_len st hs] at hlt;refine ⟨?_,hlt⟩;rcases Nat.eq_zero_or_pos i with e | e
 ·subst e;have:=(newFr_ok 1 ((st.S.length / 4:Nat):Int)).low 0 (by simp [newFr]);rw [List.getD_eq_getElem?_getD,show (newFr 1 ((st.S.length / 4:Nat):Int)).L[0]?=some true from q] at this;cases this
 ·exact e
/-! a device that is not armed -/
def Alive (st:Sd):Prop:=st.dead=false/\st.left=-1
theorem alive_wrote {st:Sd} (h:Alive st) {a:Nat} (ha:a < st.S.length) {b:List Int} (hb:b.length=32):(st.wrote (a:Int) b).1=0/\Alive (st.wrote (a:Int) b).2/\(st.wrote (a:Int) b).2.S=st.S:=by
 rw [live_wrote h.1 h.2 ha hb];exact ⟨rfl,⟨h.1,h.2⟩,rfl⟩
theorem alive_page {st:Sd} (h:Alive st) {a i:Nat} {p:List Int} (hp:p.length=128) (hb:(a+i) * 4+4<=st.S.length) (hs:st.S.length<=65536):∀ k,k<=4->(wrPage st a i p k).1=0/\Alive (wrPage st a i p k).2/\(wrPage st a i p k).2.S=st.S
 | 0,_=>⟨rfl,h,rfl⟩
 | k+1,hk=>by
  obtain ⟨h1,h2,h3⟩:=alive_page h hp hb hs k (by omega);have h4:=alive_wrote h2 (a:=(a+i) * 4+k) (by rw [h3];omega) (b:=cutS p k) (cutS_len hp (by omega));simp only [wrPage];rw [if_pos h1,sAt_nat (by omega)];exact ⟨h4.1,h4.2.1,h4.2.2.trans h3⟩
theorem alive_text {st:Sd} (h:Alive st) {a:Nat} {b:List Int} (hs:st.S.length<=65536):∀ n,(a+n) * 4<=st.S.length->(wrTo st a b n).1=0/\Alive (wrTo st a b n).2/\(wrTo st a b n).2.S=st.S
 | 0,_=>⟨rfl,h,rfl⟩
 | n+1,hn=>by
  obtain ⟨h1,h2,h3⟩:=alive_text h (a:=a) (b:=b) hs n (by omega);have h4:=alive_page h2 (a:=a) (i:=n) (p:=Z4 (ZB b n)) (pageB_len (chunkB_len b n)) (by rw [h3];omega) (by rw [h3];exact hs) 4 (Nat.le_refl _);simp only [wrTo];rw [if_pos h1];exact ⟨h4.1,h4.2.1,h4.2.2.trans h3⟩
theorem alive_save {st:Sd} (h:Alive st) (hs:2<=st.S.length) (s:Sup):(st.save s).1=0/\Alive (st.save s).2:=by
 have f1:=live_flushed h.1 h.2;have hm:(s.e:Int) % 2=((s.e % 2:Nat):Int):=by omega
 have w1:=live_wrote (st:={ st with S:=Zt st.C st.S,C:=[] }) h.1 h.2 (a:=s.e % 2) (b:=Zh s) (by show _ < (Zt st.C st.S).length;rw [Z8];omega) (ZT _);unfold Sd.save;rw [f1];simp only [if_true];rw [hm,w1];simp only [if_true];have f2:=live_flushed (st:=⟨Zt st.C st.S,[]++[(s.e % 2,Zh s)],st.bad,st.left,st.dead⟩) h.1 h.2;rw [f2];exact ⟨rfl,h.1,h.2⟩
section
variable {st:Sd} {s:Sup} {c:Cg} {m N:Nat} {xs:List (Spn × List Int)} {b:List Int}
end
end
section
def Fr.is (f:Fr) (i:Nat):Prop:=f.L[i]?=some true
structure Cnf (P:Nat->Prop) (S0:List (List Int)) (st:Sd):Prop where
 len:st.S.length=S0.length
 S:∀ x,4<=x->¬ P x->st.S[x]?=S0[x]?
 C:∀ y ∈ st.C,4<=y.1->P y.1
section
variable {P:Nat->Prop} {S0:List (List Int)} {st:Sd}
theorem Cnf.new (h:st.C=[]):Cnf P st.S st:=⟨rfl,fun _ _ _=>rfl,by rw [h];simp⟩
theorem Cnf.wrote (h:Cnf P S0 st) {a:Int} (ha:4<=a.toNat->P a.toNat) (b:List Int):Cnf P S0 (st.wrote a b).2:=by
 unfold Sd.wrote;split
 ·exact h
 ·split
  ·split
   ·refine ⟨by simp only [acted_S];exact h.len,by simp only [acted_S];exact h.S,fun y hy=>?_⟩;rcases List.mem_append.1 hy with hy | hy
    ·exact h.C y hy
    ·rw [List.mem_singleton] at hy;subst hy;exact ha
   ·exact ⟨by rw [acted_S];exact h.len,by rw [acted_S];exact h.S,by rw [acted_C];exact h.C⟩
  ·exact h
theorem Cnf.wrPage (h:Cnf P S0 st) {a i:Nat} (p:List Int) (hb:(a+i) * 4+4<=65536) (hs:∀ k,k < 4->P ((a+i) * 4+k)):∀ k,k<=4->Cnf P S0 (Apo.wrPage st a i p k).2
 | 0,_=>h
 | k+1,hk=>by
  have ih:=h.wrPage p hb hs k (by omega);simp only [Apo.wrPage];split
  ·exact ih.wrote (fun _=>by rw [sAt_nat (by omega),Int.toNat_natCast];exact hs k (by omega)) _
  ·exact ih
theorem Cnf.wrTo (h:Cnf P S0 st) {a:Nat} (b:List Int):∀ n,(a+n) * 4<=65536->(∀ i k,i < n->k < 4->P ((a+i) * 4+k))->Cnf P S0 (Apo.wrTo st a b n).2
 | 0,_,_=>h
 | i+1,hl,hs=>by
  have ih:=h.wrTo b i (by omega) (fun j k hj hk=>hs j k (by omega) hk);simp only [Apo.wrTo];split
  ·exact ih.wrPage _ (by omega) (fun k hk=>hs i k (by omega) hk) 4 (Nat.le_refl _)
  ·exact ih
end
def Lie (S:List (List Int)) (y:Spn × List Int):Prop:=∃ A n:Nat,y.1=⟨A,n⟩/\n=Zc y.2.length/\n≠0/\1<=A/\A+n<=S.length / 4/\(rdTo (plainS S) A n).2=0/\(rdTo (plainS S) A n).1.take y.2.length=y.2
theorem Lie.kept {S S':List (List Int)} {y:Spn × List Int} (h:Lie S y) (hl:S'.length=S.length) (hs:S.length<=65536) (hk:∀ x,4<=x->inSpn y.1 (x / 4)->S'[x]?=S[x]?):Lie S' y:=by
 obtain ⟨A,n,h1,h2,h3,h4,h5,h6,h7⟩:=h;have e:=rdTo_kept (S:=S) (S':=S') (a:=A) (n:=n) hl hs h5 (fun x q1 q2=>hk x (by omega) (by rw [h1];exact ⟨by simp only [Int.toNat_natCast];omega,by simp only [Int.toNat_natCast];omega⟩));exact ⟨A,n,h1,h2,h3,h4,by rw [hl];exact h5,by rw [e];exact h6,by rw [e];exact h7⟩
structure Tg (S0:List (List Int)) (st:Sd) (s:Sup) (c:Cg) (T0 T:List (Spn × List Int)):Prop where
 du:Du st s
 cn:Cnf (fun x=>c.w.is (x / 4)) S0 st
 e:c.e=s.e
 en:c.ended=false
 lf:c.f.lo=1
 lw:c.w.lo=1
 ln:c.n.lo=1
 Lf:c.f.L.length=st.S.length / 4
 Lw:c.w.L.length=st.S.length / 4
 Ln:c.n.L.length=st.S.length / 4
 fw:∀ i,c.f.is i->c.w.is i
 fn:∀ i,c.f.is i->c.n.is i
 r:c.r=⟨s.st,s.pg⟩
 rw:∀ i,inRoot s i->¬ c.w.is i
 t0:∀ y ∈ T0,Lie S0 y/\∀ i,inSpn y.1 i->¬ c.w.is i/\¬ inRoot s i
 t:∀ y ∈ T,Lie (Zt st.C st.S) y/\∀ i,inSpn y.1 i->¬ c.n.is i
section
variable {S0:List (List Int)} {st:Sd} {s:Sup} {c:Cg} {T0 T:List (Spn × List Int)} {b:List Int}
theorem claim_is {f:Fr} {A n:Nat} (h:f.all ⟨A,n⟩ true=true):f.claim ⟨A,n⟩=(true,f.put ⟨A,n⟩ false):=by unfold Fr.claim;rw [if_pos h]
theorem is_put_false {f:Fr} {A n i:Nat}:(f.put ⟨A,n⟩ false).is i↔f.is i/\¬ (A<=i/\i < A+n):=by
 unfold Fr.is;rw [put_at];simp only [Int.toNat_natCast];by_cases q:A<=i/\i < A+n/\i < f.L.length
 ·rw [if_pos q];exact ⟨fun z=>(by cases z),fun z=>absurd ⟨q.1,q.2.1⟩ z.2⟩
 ·rw [if_neg q];refine ⟨fun z=>⟨z,fun z2=>q ⟨z2.1,z2.2,(List.getElem?_eq_some_iff.1 z).1⟩⟩,fun z=>z.1⟩
theorem Tg.sub (h:Tg S0 st s c T0 T) {A n:Nat} (ha:c.f.all ⟨A,n⟩ true=true):c.w.all ⟨A,n⟩ true=true/\c.n.all ⟨A,n⟩ true=true:=by
 obtain ⟨h1,h2,h3,h4⟩:=all_iff.1 ha;rw [h.lf] at h2;rw [h.Lf] at h3;exact ⟨all_iff.2 ⟨h1,by rw [h.lw];exact h2,by rw [h.Lw];exact h3,fun i q1 q2=>h.fw i (h4 i q1 q2)⟩,all_iff.2 ⟨h1,by rw [h.ln];exact h2,by rw [h.Ln];exact h3,fun i q1 q2=>h.fn i (h4 i q1 q2)⟩⟩
theorem Tg.put_none (h:Tg S0 st s c T0 T) (hn:Zc b.length≠0) (hf:c.f.first (Zc b.length)=none):c.put st b=((⟨0,0⟩,70),c,st):=by
 unfold Cg.put;rw [if_neg (by rw [h.en];simp),if_neg hn];unfold Fr.take;rw [hf];rfl
theorem Tg.put_is (h:Tg S0 st s c T0 T) (hn:Zc b.length≠0) {A:Nat} (hf:c.f.first (Zc b.length)=some A) :
  c.put st b=if (wrTo st A b (Zc b.length)).1=0 then ((⟨A,Zc b.length⟩,0),{ c with f:=c.f.put ⟨A,Zc b.length⟩ false,n:=c.n.put ⟨A,Zc b.length⟩ false,ended:=false },(wrTo st A b (Zc b.length)).2)
   else ((⟨0,0⟩,(wrTo st A b (Zc b.length)).1),{ c with f:=c.f.put ⟨A,Zc b.length⟩ false,n:=c.n.put ⟨A,Zc b.length⟩ false,ended:=true },(wrTo st A b (Zc b.length)).2):=by
 have hz:=h.du.ok.size;have hi:=(first_some hf).1;rw [h.Lf] at hi;have hA:A < 16384:=by omega
 have ha:=(h.sub (first_some hf).2.1).2;unfold Cg.put;rw [if_neg (by rw [h.en];simp),if_neg hn];unfold Fr.take;rw [hf];simp only [Bool.true_eq_false,if_false];rw [claim_is ha,firstP_nat hA,wrText2_eq hA];unfold Sd.wrText;rw [if_neg hn]
theorem Tg.row (h:Tg S0 st s c T0 T) {A n:Nat} (hf:c.f.first n=some A):1<=A/\1<=n/\A+n<=st.S.length / 4/\∀ i,A<=i->i < A+n->c.f.is i:=by
 obtain ⟨h1,h2,h3,h4⟩:=all_iff.1 (first_some hf).2.1;rw [h.lf] at h2;rw [h.Lf] at h3;simp only [Int.toNat_natCast] at h1 h2 h3 h4;exact ⟨by omega,by omega,by omega,h4⟩
theorem Tg.safe (h:Tg S0 st s c T0 T) {A n:Nat} (hf:c.f.first n=some A):∀ i k,i < n->k < 4->Safe s ((A+i) * 4+k):=fun i k hi hk=>by
 obtain ⟨h1,_,_,h4⟩:=h.row hf;refine ⟨by omega,fun q=>?_⟩;have hw:=h.fw _ (h4 (A+i) (by omega) (by omega));rcases Nat.lt_or_ge (A+i) (s.st+s.pg) with z | z
 ·exact absurd hw (h.rw _ ⟨by omega,z⟩)
 ·omega
theorem Tg.put (h:Tg S0 st s c T0 T) (hb:∀ z ∈ b,0<=z/\z<=255) (hn:Zc b.length≠0) {A:Nat} (hf:c.f.first (Zc b.length)=some A) :
  ((c.put st b).1=(⟨A,Zc b.length⟩,0)/\(wrTo st A b (Zc b.length)).1=0/\Tg S0 (c.put st b).2.2 s (c.put st b).2.1 T0 (T++[(⟨A,Zc b.length⟩,b)])/\(c.put st b).2.2.S=st.S/\(c.put st b).2.1={ c with f:=c.f.put ⟨A,Zc b.length⟩ false,n:=c.n.put ⟨A,Zc b.length⟩ false,ended:=false }) \/
  ((c.put st b).1.2≠0/\(c.put st b).2.1.ended=true/\Du (c.put st b).2.2 s/\Cnf (fun x=>c.w.is (x / 4)) S0 (c.put st b).2.2/\(c.put st b).2.2.S=st.S):=by
 have hsz:=h.du.ok.size;obtain ⟨r1,r2,r3,r4⟩:=h.row hf;have hd2:=h.du.wrTo (a:=A) hb (Zc b.length) (by omega) (h.safe hf)
 have hc2:=h.cn.wrTo (a:=A) b (Zc b.length) (by omega) (fun i k hi hk=>by
  have:=h.fw _ (r4 (A+i) (by omega) (by omega));show c.w.is (((A+i) * 4+k) / 4)
  rw [show ((A+i) * 4+k) / 4=A+i by omega];exact this)
 have hS:=wrTo_S st A b (Zc b.length);rw [h.put_is hn hf];by_cases hw:(wrTo st A b (Zc b.length)).1=0
 ·rw [if_pos hw];left
  have G:=wrTo_ok (st:=st) (a:=A) (b:=b) (Zc b.length) (by omega) hw;have eC:Zt (wrTo st A b (Zc b.length)).2.C (wrTo st A b (Zc b.length)).2.S=Zt (wl A b (Zc b.length)) (Zt st.C st.S):=by rw [G.C,G.S,put_app]
  refine ⟨rfl,hw,⟨hd2,hc2,h.e,rfl,h.lf,h.lw,h.ln,by simp only [Fr.put_len,hS];exact h.Lf,by simp only [hS];exact h.Lw,by simp only [Fr.put_len,hS];exact h.Ln,fun i q=>h.fw i (is_put_false.1 q).1,fun i q=>is_put_false.2 ⟨h.fn i (is_put_false.1 q).1,(is_put_false.1 q).2⟩,h.r,h.rw,h.t0,?_⟩,hS,rfl⟩;intro y hy;rcases List.mem_append.1 hy with hy | hy
  ·refine ⟨(h.t y hy).1.kept (by rw [Z8,Z8,hS]) (by rw [Z8];exact hsz) (fun x _ hx=>?_),fun i q1 q2=>(h.t y hy).2 i q1 (is_put_false.1 q2).1⟩;simp only;rw [eC];refine Apo.put_none (fun z hz e=>?_);have hl:=wl_len_lt _ z hz;exact (h.t y hy).2 _ hx (h.fn _ (r4 (x / 4) (by omega) (by omega)))
  ·rw [List.mem_singleton] at hy;subst hy;have ht:=text_there h.du.ok (a:=A) (b:=b) rfl hn (by omega) hw;refine ⟨⟨A,Zc b.length,rfl,rfl,hn,r1,by rw [Z8,hS];exact r3,ht.1,ht.2⟩,fun i q1 q2=>(is_put_false.1 q2).2 ?_⟩;simpa [inSpn] using q1
 ·rw [if_neg hw];exact .inr ⟨hw,rfl,hd2,hc2,hS⟩
theorem Tg.put_alive (h:Tg S0 st s c T0 T) (ha:Alive st) (hn:Zc b.length≠0) {A:Nat} (hf:c.f.first (Zc b.length)=some A):(c.put st b).1.2=0/\Alive (c.put st b).2.2:=by
 obtain ⟨r1,r2,r3,r4⟩:=h.row hf;obtain ⟨h1,h2,_⟩:=alive_text ha (a:=A) (b:=b) h.du.ok.size (Zc b.length) (by omega);rw [h.put_is hn hf,if_pos h1];exact ⟨rfl,h2⟩
end
end
theorem give_zero (f:Fr):(f.give ⟨0,0⟩).2=f:=by
 unfold Fr.give;rw [if_neg (by intro q;have:=(all_iff.1 q).1;simp at this)]
theorem open_is {st:Sd} {s:Sup} (h:Du st s) (hr:Rest st) (h1:s.st≠0):st.load=(s,0)/\st.rdText2 (Zw s.st) s.sz=(rootText st.S s,0)/\s.pg=Zc (rootText st.S s).length/\((Zu st).claim ⟨s.st,s.pg⟩).1=true/\(rootText st.S s).length=s.sz:=by
 have hsz:=h.ok.size;rcases h.root with ⟨r1,_⟩ | ⟨r1,r2,r3,r4,r5⟩
 ·exact absurd r1 h1
 ·have hne:¬ (s.st=0/\s.pg=0/\s.sz=0):=by omega
  have h0:s.pg≠0:=by
   rw [r2];unfold Zc;split
   ·omega
   ·split <;> omega
  have hroom:=needP_room (size:=(s.sz:Int)) (by rw [<- r2];exact h0);have hro:=rdTo_rest hr r4 hsz;have hlen:=rdTo_len h.ok (s.st:Int) s.pg (by rw [hro];exact r5);rw [hro] at hlen;have eT:rootText st.S s=(rdTo (plainS st.S) s.st s.pg).1.take s.sz:=by unfold rootText;rw [if_neg hne]
  have eL:(rootText st.S s).length=s.sz:=by rw [eT,List.length_take,hlen];rw [<- r2] at hroom;omega
  refine ⟨h.load hr,?_,by rw [eL];exact r2,?_,eL⟩
  ·rw [rdText2_of h.ok (by omega) r2 h0 (by rw [hro];exact r5),hro,eT]
  ·unfold Fr.claim;have hs:=freeOf_suf st hsz;rw [if_pos (all_iff.2 ⟨by simp only;omega,by simp only [hs.lo];omega,by simp only [hs.len];omega,fun i q1 q2=>(hs.at' i).2 (by simp only [Int.toNat_natCast] at q1 q2;omega)⟩)]
theorem alive_format {n:Int} (h8:8<=lenOf n):Alive (Zl n).format.2:=by
 have hlen:(Zl n).S.length=lenOf n:=by simp [Zl]
 have a0:Alive (Zl n):=⟨rfl,rfl⟩;have w0:=alive_wrote a0 (a:=0) (b:=zeros) (by omega) (by simp [zeros]);have w1:=alive_wrote w0.2.1 (a:=1) (b:=zeros) (by rw [w0.2.2];omega) (by simp [zeros]);have w0a:((Zl n).wrote 0 zeros).1=0:=w0.1;have w1a:(((Zl n).wrote 0 zeros).2.wrote 1 zeros).1=0:=w1.1;unfold Sd.format;rw [if_neg (by rw [hlen];omega),if_pos w0a,if_pos w1a];exact (alive_save w1.2.1 (by rw [w1.2.2,w0.2.2];omega) _).2
end Apo
namespace Go.Proofs.YtdhebpnkfookcaaGreat
open Go.RowKit Apo
structure LwD (w W:World) (d:Nat) (st:Sd) (O:Nat->Prop):Prop where
 c:CDev O W d st
 lo:∀ i,O i->w.heap.size<=i
 hi:∀ i,O i->i < W.heap.size
 bel:Below w.heap.size w W
section
variable {w W W':World} {p d:Nat} {c c':Cg} {st st':Sd} {O U:Nat->Prop}
end
end Go.Proofs.YtdhebpnkfookcaaGreat
namespace Apo
open Go Go.RowKit
/-! reading through the cache -/
theorem last_put:∀ (C:List (Nat × List Int)) (S:List (List Int)) {i:Nat},i < S.length->(Zt C S)[i]?=some (lastOf C i (S.getD i []))
 | [],S,i,hi=>by
  show S[i]?=some (S.getD i [])
  rw [List.getD_eq_getElem?_getD,List.getElem?_eq_getElem hi];rfl
 | x :: C,S,i,hi=>by
  have ih:=last_put C (S.set x.1 x.2) (i:=i) (by simpa using hi);show (Zt C (S.set x.1 x.2))[i]?=some (lastOf C i (if x.1=i then x.2 else S.getD i []))
  rw [ih,List.getD_eq_getElem?_getD,List.getElem?_set];by_cases q:x.1=i
  ·rw [if_pos q,if_pos q,if_pos (by omega)];rfl
  ·rw [if_neg q,if_neg q,<- List.getD_eq_getElem?_getD]
theorem told_cache {st:Sd} (hd:st.dead=false) (hb:∀ j,st.bad.getD j false=false) {i:Nat} (hi:i < st.S.length):st.told (i:Int)=(plainS (Zt st.C st.S)).told (i:Int):=by
 have hh:st.has (i:Int)=true:=has_iff.2 ⟨by omega,by omega⟩;have hl:i < (Zt st.C st.S).length:=by rw [Z8];exact hi
 rw [rest_told (rest_plain _) (show i < (plainS (Zt st.C st.S)).S.length from hl)];have:=last_put st.C st.S hi;rw [List.getElem?_eq_getElem hl] at this;have e:(Zt st.C st.S)[i]=lastOf st.C i (st.S.getD i []):=Option.some.inj this;unfold Sd.told;rw [hd,hh];simp only [Int.toNat_natCast];rw [hb i];simp only [Bool.false_eq_true,if_false,if_true];show _=((Zt st.C st.S)[i],(0:Int))
 rw [e]
theorem rd_cache {st:Sd} (hd:st.dead=false) (hb:∀ j,st.bad.getD j false=false) {a n:Nat} (hl:a+n<=st.S.length / 4) (hs:st.S.length<=65536):rdTo st a n=rdTo (plainS (Zt st.C st.S)) a n:=by
 refine rdTo_congr n (fun i k hi hk=>?_);rw [sAt_nat (by omega),told_cache hd hb (by omega)]
theorem lie_read {st:Sd} (ok:OkS st) (hd:st.dead=false) (hb:∀ j,st.bad.getD j false=false) {y:Spn × List Int} (h:Lie (Zt st.C st.S) y):st.rdText2 (Zw y.1.a) y.2.length=(y.2,0):=by
 obtain ⟨A,n,h1,h2,h3,h4,h5,h6,h7⟩:=h;have hs:=ok.size;rw [Z8] at h5;have e:=rd_cache hd hb h5 hs;rw [h1];simp only;rw [rdText2_of ok (by omega) h2 h3 (by rw [e];exact h6),e,h7]
section
variable {S0:List (List Int)} {st:Sd} {s:Sup} {c:Cg} {T0 T:List (Spn × List Int)} {b:List Int}
theorem Tg.get (h:Tg S0 st s c T0 T) (hd:st.dead=false) {y:Spn × List Int} (hy:y ∈ T):c.get st y.1 y.2.length=(y.2,0):=by
 have hk:y.1.k=Zc y.2.length:=by
  obtain ⟨⟨A,n,h1,h2,_⟩,_⟩:=h.t y hy;rw [h1,h2]
 unfold Cg.get;rw [if_neg (by rw [h.en];simp),if_pos hk];exact lie_read h.du.ok hd h.du.bad (h.t y hy).1
/-! Commit -/
theorem give_is {f:Fr} {x:Spn} {i:Nat} (h:f.is i):(f.give x).2.is i:=by
 unfold Fr.give;split
 ·show (f.put x true).L[i]?=some true
  rw [put_at];split
  ·rfl
  ·exact h
 ·exact h
end
end Apo
