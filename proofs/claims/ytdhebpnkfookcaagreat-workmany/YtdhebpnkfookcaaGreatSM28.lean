import Derived.Test.YtdhebpnkfookcaaGreatSM27
set_option maxRecDepth 100000
set_option maxHeartbeats 8000000
namespace Go.Proofs.YtdhebpnkfookcaaGreat
open Go.RowKit Apo
section
theorem put_node (w:World) (x:NdA) (hx:OkN w x) (he:x.n.es.length<=1000000) (hk:x.n.ks.length<=1000000) :
  Calls Tryz.prog 155 #[.agg x.cells.toArray] w (PnP w x.n):=by
 have hxx:=hx;obtain ⟨⟨lv,es,ks⟩,ea,ec,ka,kc⟩:=x;simp only [NdA.cells] at hx he hk ⊢;obtain ⟨ne,hne⟩:∃ ne,ne=es.length:=⟨_,rfl⟩;obtain ⟨nk,hnk⟩:∃ nk,nk=ks.length:=⟨_,rfl⟩;obtain ⟨W0,hW0⟩:∃ W0,W0=w.alloc (.cells #[.int .i64 lv,.slice ea ne ec,.slice ka nk kc] 90):=⟨_,rfl⟩;have kb:Ob W0 w.heap.size 90 [.int .i64 lv,.slice ea ne ec,.slice ka nk kc]:=by rw [hW0];exact Ob.new w [.int .i64 lv,.slice ea ne ec,.slice ka nk kc] 90
 have b0:Below w.heap.size w W0:=by rw [hW0];exact (Below.refl _ w).alloc (Nat.le_refl _) _
 have s0:W0.heap.size=w.heap.size+1:=by rw [hW0];simp
 have x0:=hx.below b0;have CN:=right_any W0 _ (hxx.below b0) he hk;simp only [NdA.cells] at CN;rw [<- hne] at CN he ⊢;rw [<- hnk] at CN hk ⊢;have HE:=Za x0.es;have HK:=Za x0.ks;have HKZ:=Za x0.kz;have hlv:=x0.lv;simp only at hlv HE HK HKZ;have HNE:=Za hne;have HNK:=Za hnk;have HB0:=Za b0;have HCN:=Za CN;have HBX:=Za (fun (W:World) (b:Below W0.heap.size W0 W)=>kb.old b);obtain ⟨NE,hNE⟩:∃ NE,NE=nodeE ⟨lv,es,ks⟩:=⟨_,rfl⟩;rw [<- hNE] at HCN;have HNEE:=Za hNE;rw [hW0] at HCN;clear hx hxx x0 hne hnk kb b0 CN hNE;by_cases hz:NE=0
 ·obtain ⟨g1,g2,g3,g4,g5,g6⟩:=nodeE_ok (n:=⟨lv,es,ks⟩) (by rw [<- HNEE.out];exact hz);simp only at g1 g2 g3 g4;have HG1:=Za g1;have HG2:=Za g2;subst hz;clear g1 g2 g5 g6;have hwl:IntKind.u64.wrap lv=lv:=by rw [IntKind.wrap_u64];omega
  have hws:IntKind.i64.wrap ((ne:Int)+(nk:Int))=(ne:Int)+(nk:Int):=by rw [IntKind.wrap_i64];omega
  have hwt:IntKind.u64.wrap ((ne:Int)+(nk:Int))=(ne:Int)+(nk:Int):=by rw [IntKind.wrap_u64];omega
  go_enter Tryz.func155,Tryz.ntmps155
  go_wp2_with fail
  refine HCN.out.mono ?_;rintro e w1 ⟨rfl,b1⟩;rw [<- hW0] at b1;have HB1:=Za b1;have s1:=b1.size;have bw:Below w1.heap.size w1 (w1.alloc (.cells #[.slice none 0 0] 283)):=(Below.refl _ _).alloc (Nat.le_refl _) _;have kx:=HBX.out _ (b1.trans (bw.mono s1));have y0:=kx.cell 0;have y1:=kx.cell 1;have y2:=kx.cell 2;simp only [List.getElem?_cons_zero,List.getElem?_cons_succ] at y0 y1 y2;have HC2:=Za (wnum_two_o w1.heap.size [] lv ((ne:Int)+(nk:Int)) _ (w1.heap.size+1) (by simp) (Wro.new w1) (by omega) (by omega) (by omega) (by omega) (by simp));clear b1 kx HCN;go_wp2_with fail
  refine HC2.out.mono ?_;rintro e w3 ⟨rfl,o3,f3⟩;have hel:=enc_len lv.toNat;have hel2:=enc_len (ne+nk);have etn:((ne:Int)+(nk:Int)).toNat=ne+nk:=by omega
  rw [etn,List.nil_append] at o3;obtain ⟨P0,hP0⟩:∃ P0,P0=enc lv.toNat++enc (ne+nk):=⟨_,rfl⟩;rw [<- hP0] at o3;have hP0l:P0.length<=40:=by rw [hP0,List.length_append];omega
  have B3:Below W0.heap.size W0 w3:=Below.onl (HB1.out.trans (bw.mono s1)) f3 (fun i q=>by omega) (Nat.le_refl _);have HB3:=Za B3;have z3:=f3.size;simp only [World.size_alloc] at z3;have kx:=HBX.out w3 B3;have t1:=kx.cell 1;have t2:=kx.cell 2;simp only [List.getElem?_cons_zero,List.getElem?_cons_succ] at t1 t2;obtain ⟨p,hp⟩:∃ p,p=w1.heap.size:=⟨_,rfl⟩;rw [<- hp] at o3
  have HO3:=Za (o3.mono (O':=fun i=>W0.heap.size<=i/\i < w3.heap.size) (fun i q=>by
   rcases q with q | q
   ·exact ⟨by omega,by omega⟩
   ·have q1:=q.1;have q2:=q.2;simp only [World.size_alloc] at q1;exact ⟨by omega,by omega⟩))
  have HP0:=Za hP0;rw [<- hp];clear o3 f3 kx hP0 hel hel2 bw B3 HC2 y0 y1 y2 hp;go_wp2;go_loopw [35] (fun i wr=>∃ k:Nat,k<=ne/\i=.int .i64 k/\Hid (Wro (fun i=>W0.heap.size<=i/\i < wr.heap.size) wr p (P0++(es.take k).flatMap enB))/\Hid (Below W0.heap.size W0 wr)) (fun i _=>ne - (intOf i).toNat)
  case atStart=>exact ⟨0,Nat.zero_le _,rfl,Za (by simpa using HO3.out),HB3⟩
  case round =>
   obtain ⟨k,hk1,rfl,HO,HB⟩:=hrel;have hs1:=HB.out.size
   have hnl:(P0++(es.take k).flatMap enB).length<=400000000:=by
    have h1:((es.take k).flatMap enB).length<=300 * (es.take k).length:=flat_lenN (fun e he=>enB_len (HG1.out e (List.mem_of_mem_take he)).1.2 (HG1.out e (List.mem_of_mem_take he)).2);have h2:(es.take k).length<=ne:=by rw [List.length_take,HNE.out];omega
    rw [List.length_append];have h4:300 * (es.take k).length<=300 * ne:=Nat.mul_le_mul_left _ h2;omega
   by_cases hkn:k < ne
   ·obtain ⟨e,hek⟩:∃ e,es[k]?=some e:=⟨es[k]'(by have:=HNE.out;omega),List.getElem?_eq_getElem _⟩;obtain ⟨g,o,rfl,q1,q2⟩:=HE.out k e hek;have q1':=(HB.out.cell (p:=⟨g,o+k * 2,none⟩) (World.block_lt_of_cell? _ _ q1)).trans q1;have q2':=(HB.out.cell (p:=⟨g,o+k * 2+1,none⟩) (World.block_lt_of_cell? _ _ q2)).trans q2;have hsz:=HG1.out e (List.mem_of_getElem? hek);obtain ⟨ek,ev⟩:=e;simp only at q1' q2' hsz;have hte:(es.take (k+1)).flatMap enB=(es.take k).flatMap enB++enB ⟨ek,ev⟩:=by rw [List.take_add_one,hek];simp
    obtain ⟨W1,hW1⟩:∃ W1,W1=wr.alloc (.cells #[.string ek,.string ev] 43):=⟨_,rfl⟩;have b1:Below W0.heap.size W0 W1:=by rw [hW1];exact HB.out.alloc hs1 _
    have bb1:Below wr.heap.size wr W1:=by rw [hW1];exact (Below.refl _ wr).alloc (Nat.le_refl _) _
    have sz1:W1.heap.size=wr.heap.size+1:=by rw [hW1];simp
    have kb1:Ob W1 wr.heap.size 43 [.string ek,.string ev]:=by rw [hW1];exact Ob.new wr [.string ek,.string ev] 43
    have yy0:=kb1.cell 0;simp only [List.getElem?_cons_zero] at yy0;obtain ⟨cu,hcu⟩:∃ cu,cu=P0++(es.take k).flatMap enB:=⟨_,rfl⟩;rw [<- hcu] at HO hnl;have HC5:=Za (wtext_o p cu ek W1 (HO.out.old bb1) (by omega));have HTE:Hid (P0++(es.take (k+1)).flatMap enB=cu++(enc ek.size++nums ek)++(enc ev.size++nums ev)):=Za (by rw [hte,hcu];simp [enB]);have HBW1:=Za b1;have HKB:=Za kb1;have HSZ1:=Za sz1;have HW1:=Za hW1;rw [hW1] at HC5 yy0;clear hte hcu q1 q2 hek b1 bb1 kb1 HO;go_wp2_with fail
    refine HC5.out.mono ?_;rintro en w2 ⟨rfl,o2,f2⟩;rw [<- hW1] at o2 f2;have kb2:=HKB.out.onl f2 (fun q=>by omega);have yy1:=kb2.cell 1;simp only [List.getElem?_cons_zero,List.getElem?_cons_succ] at yy1;have z2:=f2.size
    have hT:(cu++(enc ek.size++nums ek)).length<=400010000:=by
     have:=enc_len ek.size;simp only [List.length_append,ZU];omega
    have HC6:=Za (wtext_o p (cu++(enc ek.size++nums ek)) ev w2 o2 (by omega));have HB2:=Za (Below.onl HBW1.out f2 (fun i q=>by omega) (Nat.le_refl _));clear HC5 o2 f2 kb2;go_wp2_with fail
    refine HC6.out.mono ?_;rintro en w4 ⟨rfl,o4,f4⟩;have z4:=f4.size
    have HB4:=Za (Below.onl HB2.out f4 (fun i q=>by
     rcases q with q | q
     ·omega
     ·have:=HBW1.out.size;omega) (Nat.le_refl _))
    have HO4:Hid (Wro (fun i=>W0.heap.size<=i/\i < w4.heap.size) w4 p (P0++(es.take (k+1)).flatMap enB)):=by
     refine Za ?_;rw [HTE.out];refine o4.mono (fun i q=>?_);have:=HBW1.out.size;rcases q with (q | q) | q
     ·exact ⟨by omega,by omega⟩
     ·exact ⟨by omega,by omega⟩
     ·exact ⟨by omega,by omega⟩
    clear HC6 o4 f4 HB2 HBW1 HKB HTE hW1 HW1 HSZ1;go_wp2;go_roundw
    case rel=>exact ⟨k+1,by omega,by simp,HO4,HB4⟩
    case measure=>simp [intOf];omega
   ·obtain rfl:k=ne:=by omega
    have HO1:Hid (Wro (fun i=>W0.heap.size<=i/\i < wr.heap.size) wr p (P0++es.flatMap enB++(ks.take 0).flatMap kiB)):=by
     refine Za ?_;have q:=HO.out;rw [HNE.out,List.take_length] at q;simpa using q
    obtain ⟨P1,hP1⟩:∃ P1,P1=P0++es.flatMap enB:=⟨_,rfl⟩
    have hP1l:P1.length<=400000000:=by
     have q:=hnl;rw [HNE.out,List.take_length,<- hP1] at q;exact q
    rw [<- hP1] at HO1;have HP1:=Za hP1;have HBW:=HB;have kx:=HBX.out wr HB.out;have e2:=kx.cell 2;simp only [List.getElem?_cons_zero,List.getElem?_cons_succ] at e2;clear kx HO hP1 hnl;go_wp2;go_loopw [51] (fun i wr=>∃ j:Nat,j<=nk/\i=.int .i64 j/\Hid (Wro (fun i=>W0.heap.size<=i/\i < wr.heap.size) wr p (P1++(ks.take j).flatMap kiB))/\Hid (Below W0.heap.size W0 wr)) (fun i _=>nk - (intOf i).toNat)
    case atStart=>exact ⟨0,Nat.zero_le _,rfl,HO1,HBW⟩
    case round =>
     clear HB HBW HO1;obtain ⟨j,hj1,rfl,HO,HB⟩:=hrel;have hs2:=HB.out.size
     have hnl:(P1++(ks.take j).flatMap kiB).length<=800000000:=by
      have h1:((ks.take j).flatMap kiB).length<=300 * (ks.take j).length:=flat_lenN (fun e he=>kiB_len (HG2.out e (List.mem_of_mem_take he)).1.2);have h2:(ks.take j).length<=nk:=by rw [List.length_take,HNK.out];omega
      rw [List.length_append];have h4:300 * (ks.take j).length<=300 * nk:=Nat.mul_le_mul_left _ h2;omega
     by_cases hjn:j < nk
     ·obtain ⟨e,hek⟩:∃ e,ks[j]?=some e:=⟨ks[j]'(by have:=HNK.out;omega),List.getElem?_eq_getElem _⟩;obtain ⟨g,o,rfl,q1,q2⟩:=HK.out j e hek;have q1':=(HB.out.cell (p:=⟨g,o+j * 2,none⟩) (World.block_lt_of_cell? _ _ q1)).trans q1;have q2':=(HB.out.cell (p:=⟨g,o+j * 2+1,none⟩) (World.block_lt_of_cell? _ _ q2)).trans q2;have hsz:=HG2.out e (List.mem_of_getElem? hek);have hid:=HKZ.out e (List.mem_of_getElem? hek);obtain ⟨ek,ei⟩:=e;simp only at q1' q2' hsz hid;have hte:(ks.take (j+1)).flatMap kiB=(ks.take j).flatMap kiB++kiB ⟨ek,ei⟩:=by rw [List.take_add_one,hek];simp
      obtain ⟨W1,hW1⟩:∃ W1,W1=wr.alloc (.cells #[.string ek,.int .u64 ei] 128):=⟨_,rfl⟩;have b1:Below W0.heap.size W0 W1:=by rw [hW1];exact HB.out.alloc hs2 _
      have bb1:Below wr.heap.size wr W1:=by rw [hW1];exact (Below.refl _ wr).alloc (Nat.le_refl _) _
      have sz1:W1.heap.size=wr.heap.size+1:=by rw [hW1];simp
      have kb1:Ob W1 wr.heap.size 128 [.string ek,.int .u64 ei]:=by rw [hW1];exact Ob.new wr [.string ek,.int .u64 ei] 128
      have yy0:=kb1.cell 0;simp only [List.getElem?_cons_zero] at yy0;obtain ⟨cu,hcu⟩:∃ cu,cu=P1++(ks.take j).flatMap kiB:=⟨_,rfl⟩;rw [<- hcu] at HO hnl;have HC5:=Za (wtext_o p cu ek W1 (HO.out.old bb1) (by omega));have HTE:Hid (P1++(ks.take (j+1)).flatMap kiB=cu++(enc ek.size++nums ek)++enc ei):=Za (by rw [hte,hcu];simp [kiB]);have HBW1:=Za b1;have HKB:=Za kb1;have HSZ1:=Za sz1;rw [hW1] at HC5 yy0;clear hte hcu q1 q2 hek b1 bb1 kb1 HO;go_wp2_with fail
      refine HC5.out.mono ?_;rintro en w2 ⟨rfl,o2,f2⟩;rw [<- hW1] at o2 f2;have kb2:=HKB.out.onl f2 (fun q=>by omega);have yy1:=kb2.cell 1;simp only [List.getElem?_cons_zero,List.getElem?_cons_succ] at yy1;have z2:=f2.size
      have hT:(cu++(enc ek.size++nums ek)).length<=900010000:=by
       have:=enc_len ek.size;simp only [List.length_append,ZU];omega
      have HC6:=Za (wnum_one_o p (cu++(enc ek.size++nums ek)) (ei:Int) w2 _ rfl o2 (by omega) (by omega) (by omega));have HB2:=Za (Below.onl HBW1.out f2 (fun i q=>by omega) (Nat.le_refl _));clear HC5 o2 f2 kb2;go_wp2_with fail
      refine HC6.out.mono ?_;rintro en w4 ⟨rfl,o4,f4⟩;have z4:=f4.size
      have HB4:=Za (Below.onl HB2.out f4 (fun i q=>by
       rcases q with q | q
       ·omega
       ·have:=HBW1.out.size;omega) (Nat.le_refl _))
      have HO4:Hid (Wro (fun i=>W0.heap.size<=i/\i < w4.heap.size) w4 p (P1++(ks.take (j+1)).flatMap kiB)):=by
       refine Za ?_;rw [HTE.out];simp only [Int.toNat_natCast] at o4;refine o4.mono (fun i q=>?_);have:=HBW1.out.size;rcases q with (q | q) | q
       ·exact ⟨by omega,by omega⟩
       ·exact ⟨by omega,by omega⟩
       ·exact ⟨by omega,by omega⟩
      clear HC6 o4 f4 HB2 HBW1 HKB HTE hW1 HSZ1;go_wp2;go_roundw
      case rel=>exact ⟨j+1,by omega,by simp,HO4,HB4⟩
      case measure=>simp [intOf];omega
     ·obtain rfl:j=nk:=by omega
      have HND:Hid (P1++(ks.take j).flatMap kiB=ZW ⟨lv,es,ks⟩):=by
       refine Za ?_;rw [HNK.out,List.take_length,HP1.out,HP0.out];unfold ZW;simp only;rw [HNE.out,HNK.out]
      obtain ⟨BB,hBB⟩:∃ BB,BB=ZW ⟨lv,es,ks⟩:=⟨_,rfl⟩;rw [HND.out,<- hBB] at HO hnl;obtain ⟨_,v,hob,hrow⟩:=HO.out;have HC7:=Za (wbytes_o p v BB wr hob hrow.1 (by omega));have HBB:=Za hBB;have HB00:=HB0;clear hob hrow HO hBB HND;go_wp2_with fail
      refine HC7.out.mono ?_;rintro en w5 ⟨v5,rfl,o5,b5⟩;obtain ⟨a5,c5,hv5,_,_⟩:=own_form o5;subst hv5;have HO5:=Za (own_lower o5 (show w.heap.size<=wr.heap.size by omega));have HB5:=Za (HB00.out.trans ((HB.out.trans (b5.mono hs2)).mono (show w.heap.size<=W0.heap.size by omega)));obtain ⟨nb,hnb⟩:∃ nb,nb=BB.length:=⟨_,rfl⟩;rw [<- hnb] at HO5 hnl ⊢;have HNB:=Za hnb;clear HC7 o5 b5 hnb;by_cases hlong:131072 < nb
      ·have d1:decide ((131072:Int) < (nb:Int))=true:=by simp;omega
       have d2:decide (131072 < nb)=true:=by simp;omega
       have HX:Hid (putE ⟨lv,es,ks⟩=([],2)):=Za (by
        unfold putE;rw [if_neg (by rw [<- HNEE.out];simp),if_pos (by rw [<- HBB.out,<- HNB.out];exact hlong)])
       clear hlong
       have HF:Hid (PnP w ⟨lv,es,ks⟩ (.returned (.tuple #[.slice none 0 0,.int .i64 2])) w5):=by
        refine Za ?_;unfold PnP;rw [HX.out];exact ⟨.slice none 0 0,rfl,World.ownsRow_nil _ _ _ _,HB5.out⟩
       go_wp2;refine bodyPost_ret (by simp [results,Tryz.results155,go_sem];rfl) rfl ?_;exact HF.out
      ·have d1:decide ((131072:Int) < (nb:Int))=false:=by simp;omega
       have d2:decide (131072 < nb)=false:=by simp;omega
       have HX:Hid (putE ⟨lv,es,ks⟩=(BB,0)):=Za (by
        unfold putE;rw [if_neg (by rw [<- HNEE.out];simp),if_neg (by rw [<- HBB.out,<- HNB.out];exact hlong),<- HBB.out])
       clear hlong
       have HF:Hid (PnP w ⟨lv,es,ks⟩ (.returned (.tuple #[.slice a5 nb c5,.int .i64 0])) w5):=by
        refine Za ?_;unfold PnP;rw [HX.out];exact ⟨.slice a5 nb c5,rfl,by simp only;rw [<- HNB.out];exact HO5.out,HB5.out⟩
       go_wp2;refine bodyPost_ret (by simp [results,Tryz.results155,go_sem];rfl) rfl ?_;exact HF.out
 ·have hz2:(NE != 0)=true:=by simpa using hz
  have HX:Hid (putE ⟨lv,es,ks⟩=([],NE)):=Za (by
   unfold putE;rw [if_pos (by rw [<- HNEE.out];exact hz),<- HNEE.out])
  clear hz;go_enter Tryz.func155,Tryz.ntmps155
  go_wp2_with fail
  refine HCN.out.mono ?_;rintro e w1 ⟨rfl,b1⟩;rw [<- hW0] at b1;have HB1:=Za (HB0.out.trans (b1.mono (show w.heap.size<=W0.heap.size by omega)));clear b1
  have HF:Hid (PnP w ⟨lv,es,ks⟩ (.returned (.tuple #[.slice none 0 0,.int .i64 NE])) w1):=by
   refine Za ?_;unfold PnP;rw [HX.out];exact ⟨.slice none 0 0,rfl,World.ownsRow_nil _ _ _ _,HB1.out⟩
  go_wp2;refine bodyPost_ret (by simp [results,Tryz.results155,go_sem];rfl) rfl ?_;exact HF.out
noncomputable def ofStep (lv:Int) (s:St × List En × List Ki):St × List En × List Ki :=
 if lv=0 then ((ZF (ZF s.1 40).2 200).2,s.2.1++[⟨strOfNums (ZF s.1 40).1,strOfNums (ZF (ZF s.1 40).2 200).1⟩],s.2.2)
 else ((Zr (ZF s.1 40).2 18446744073709551615).2,s.2.1,s.2.2++[⟨strOfNums (ZF s.1 40).1,(Zr (ZF s.1 40).2 18446744073709551615).1.toNat⟩])
open Classical in
noncomputable def ofK (lv:Int) (st:St):Nat->St × List En × List Ki
 | 0=>(st,[],[])
 | k+1=>if (ofK lv st k).1=none then ofK lv st k else ofStep lv (ofK lv st k)
open Classical in
theorem ofK_succ (lv:Int) (st:St) (k:Nat):ofK lv st (k+1)=if (ofK lv st k).1=none then ofK lv st k else ofStep lv (ofK lv st k):=rfl
theorem ofK_stuck {lv:Int} {st:St} {k:Nat} (h:(ofK lv st k).1=none):∀ m,ofK lv st (k+m)=ofK lv st k
 | 0=>rfl
 | m+1=>by
  rw [<- Nat.add_assoc,ofK_succ,ofK_stuck h m,if_pos h]
noncomputable def ofRaw (b:List Int):St × Nd :=
 ((ofK (Zr (some b) 20).1 (Zr (Zr (some b) 20).2 16384).2 (Zr (Zr (some b) 20).2 16384).1.toNat).1,⟨(Zr (some b) 20).1,(ofK (Zr (some b) 20).1 (Zr (Zr (some b) 20).2 16384).2 (Zr (Zr (some b) 20).2 16384).1.toNat).2.1,(ofK (Zr (some b) 20).1 (Zr (Zr (some b) 20).2 16384).2 (Zr (Zr (some b) 20).2 16384).1.toNat).2.2⟩)
open Classical in
noncomputable def nodeOf (b:List Int):Nd × Int:=if (ofRaw b).1=some []/\b.length<=131072/\nodeE (ofRaw b).2=0 then ((ofRaw b).2,0) else (⟨0,[],[]⟩,90)
theorem rnum_bd (st:St) {most:Int} (h:0<=most):0<=(Zr st most).1/\(Zr st most).1<=most:=by
 unfold Zr;cases st with
 | none=>exact ⟨by simp,h⟩
 | some l =>
  simp only;cases num1 l with
  | none=>exact ⟨by simp,h⟩
  | some x =>
   simp only;split
   ·next q=>exact ⟨by simp,q⟩
   ·exact ⟨by simp,h⟩
theorem rtext_len (st:St) {most:Int} (h:0<=most):((ZF st most).1.length:Int)<=most:=by
 unfold ZF;rw [if_neg (by omega)];have hb:=rnum_bd st h;generalize Zr st most=q at hb;obtain ⟨n,r⟩:=q;cases r with
 | none=>simpa using h
 | some r =>
  simp only at hb ⊢;split
  ·simp only [List.length_take];omega
  ·simpa using h
theorem size_node:(Tryz.prog.info? 90).map (·.size)=some 3:=by kernel_rfl
theorem Rr.onl {F:Nat->Prop} {w w':World} {p g:Nat} {t:TypeId} {st:St} (h:Rr w p t g st) (o:Onl F w w') (hp:¬ F p) (hg:¬ F g):Rr w' p t g st:=by
 cases st with
 | none=>exact Ob.onl h o hp
 | some l =>
  obtain ⟨a,cap,h1,h2,h3,h4,h5,h6,h7⟩:=h;exact ⟨a,cap,h1.onl o hp,h2.onl o (fun x hx h0=>by rw [(h5 x hx h0).1];exact hg),h3,h4,fun x hx h0=>⟨(h5 x hx h0).1,(h5 x hx h0).2.1,Nat.lt_of_lt_of_le (h5 x hx h0).2.2 o.size⟩,h6,h7⟩
attribute [local go_sem ↓] Apo.app_exec Go.wp_at_zero Go.wp_at_succ
def NewN (lo:Nat) (x:NdA):Prop:=(∀ y,x.ea=some y->lo<=y.block)/\(∀ y,x.ka=some y->lo<=y.block)
def NoP (w:World) (n:Nd) (er:Int) (e:Ending) (w':World):Prop:=∃ x:NdA,x.n=n/\OkN w' x/\NewN w.heap.size x/\e=.returned (.tuple #[.agg x.cells.toArray,.int .i64 er])/\Below w.heap.size w w'
end
section
attribute [local go_sem ↓] Apo.app_exec
noncomputable def ZO {α:Type} (f:St->α × St) (st:St):Nat->List α × St
 | 0=>([],st)
 | k+1=>((ZO f st k).1++[(f (ZO f st k).2).1],(f (ZO f st k).2).2)
theorem eachK_len {α:Type} (f:St->α × St) (st:St):∀ k,(ZO f st k).1.length=k
 | 0=>rfl
 | k+1=>by simp [ZO,eachK_len f st k]
noncomputable def enS (st:St):En × St:=(⟨strOfNums (ZF st 40).1,strOfNums (ZF (ZF st 40).2 200).1⟩,(ZF (ZF st 40).2 200).2)
noncomputable def kiS (st:St):Ki × St:=(⟨strOfNums (ZF st 40).1,(Zr (ZF st 40).2 18446744073709551615).1.toNat⟩,(Zr (ZF st 40).2 18446744073709551615).2)
def enV (e:En):Value:=.agg #[.string e.k,.string e.v]
def kiV (k:Ki):Value:=.agg #[.string k.k,.int .u64 (k.i:Int)]
noncomputable def mostOf (st:St):Int:=(((st.getD []).length / 3:Nat):Int)
theorem grew_onl {a b c:World} {row:Option Nat} {F:Nat->Prop} (h:a.grownBy b row) (o:Onl F b c) (hF:∀ i,F i->a.heap.size<=i):a.grownBy c row :=
 ⟨o.os.trans h.os,o.tape.trans h.tape,o.output.trans h.output,Nat.le_trans h.size o.size,fun i hi hr=>(o.block i (Nat.lt_of_lt_of_le hi h.size) (fun q=>absurd (hF i q) (Nat.not_le.2 hi))).trans (h.block i hi hr)⟩
noncomputable def Zx {α:Type} (f:St->α × St) (st:St):List α × St:=ZO f (Zr st (mostOf st)).2 (Zr st (mostOf st)).1.toNat
theorem size_En:(Tryz.prog.info? 43).map (·.size)=some 2:=by kernel_rfl
theorem fin_En {W:World} {g:Nat} {c0 c1:Value} {tmps:Array Value} {Q:Ending->World->Prop} (k:Ob W g 43 [c0,c1]) (h4:tmps.getD 2 undef=.pointer (some ⟨g,0,none⟩)) (hq:Q (.returned (.agg #[c0,c1])) W) :
  bodyPost Tryz.prog Tryz.f163 Q Exit.ret { tmps:=tmps,defers:=[] } W:=by
 have hl:=run_loadVar_row (P:=Tryz.prog) W g 43 43 #[c0,c1] (0,0) _ k Tryz.underlying43 rfl (by rw [size_En];rfl);have h4':tmps[2]?.getD undef=.pointer (some ⟨g,0,none⟩):=by simpa using h4
 refine bodyPost_ret (v:=.agg #[c0,c1]) ?_ rfl hq;simp [results,Tryz.results163,asAddr,h4',hl]
theorem part_En (p g:Nat) (st:St) (w:World) (h:Rr w p 224 g st) (hg:g < w.heap.size) :
  Calls Tryz.prog 163 #[.agg #[.pointer (some ⟨p,0,none⟩)]] w fun e w'=>e=.returned (enV (enS st).1)/\Rr w' p 224 g (enS st).2/\w.grownBy w' (some p):=by
 have hp:=h.lt;have kr:=Ob.new (w.alloc (.cells #[.pointer (some ⟨p,0,none⟩)] 201)) [.string ByteArray.empty,.string ByteArray.empty] 43;have kb1:=(Ob.new w [.pointer (some ⟨p,0,none⟩)] 201).alloc (.cells #[.string ByteArray.empty,.string ByteArray.empty] 43);have bb:Below w.heap.size w ((w.alloc (.cells #[.pointer (some ⟨p,0,none⟩)] 201)).alloc (.cells #[.string ByteArray.empty,.string ByteArray.empty] 43)):=((Below.refl _ w).alloc (Nat.le_refl _) _).alloc (by simp) _;simp only [World.size_alloc] at kr;have HC1:=Za (rdtext_any p g st 40 _ (h.old bb) (by omega));have HBB:=Za bb;have HKB:=Za kb1;have HKR:=Za kr;clear h kb1 kr bb;go_enter Tryz.func163,Tryz.ntmps163
 go_wp2_with fail
 refine HC1.out.mono ?_;rintro e w1 ⟨rfl,r1,g1⟩;have kb2:=HKB.out.kept g1 (by intro e;have e2:=Option.some.inj e;omega);have kr2:=HKR.out.kept g1 (by intro e;have e2:=Option.some.inj e;omega);have d0:=kb2.cell 0;simp only [List.getElem?_cons_zero] at d0;have HC2:=Za (rdtext_any p g (ZF st 40).2 200 w1 r1 (by omega));have HG1:=Za (Ze (Zm (some p) HBB.out) g1);have HKR2:=Za kr2;obtain ⟨key,hkey⟩:∃ key,key=strOfNums (ZF st 40).1:=⟨_,rfl⟩;obtain ⟨q1,hq1⟩:∃ q1,q1=w.heap.size+1:=⟨_,rfl⟩;rw [<- hkey,<- hq1];rw [<- hq1] at HKR2;have HKEY:=Za hkey;have hq2:q1≠p:=by omega
 have hq3:q1≠g:=by omega
 have hq4:w.heap.size<=q1:=by omega
 clear HC1 kb2 kr2 r1 g1 hkey hq1 HKR HKB;go_wp2_with fail
 refine HC2.out.mono ?_;rintro e w2 ⟨rfl,r2,g2⟩;have kr3:=HKR2.out.kept g2 (by intro e;have e2:=Option.some.inj e;omega);have f0:=kr3.frozen 0;have f1:=kr3.frozen 1;have x0:=kr3.cell 0;have x1:=kr3.cell 1;simp only [List.getElem?_cons_zero,List.getElem?_cons_succ] at x0 x1;obtain ⟨val,hval⟩:∃ val,val=strOfNums (ZF (ZF st 40).2 200).1:=⟨_,rfl⟩;rw [<- hval];have HVAL:=Za hval;have o8:Onl (fun i=>i=q1) w2 ((w2.setCell ⟨q1,0,none⟩ (.string key)).setCell ⟨q1,1,none⟩ (.string val)):=((Onl.refl (fun i=>i=q1) w2).set (p:=q1) (.inl rfl) _).set (p:=q1) (.inl rfl) _;have HR2:=Za (Rr.onl r2 o8 (fun e=>hq2 e.symm) (fun e=>hq3 e.symm));have HK3:=Za ((kr3.set 0 (.string key)).set 1 (.string val));have HG2:Hid (w.grownBy ((w2.setCell ⟨q1,0,none⟩ (.string key)).setCell ⟨q1,1,none⟩ (.string val)) (some p)):=Za (grew_new (grew_new (Ze HG1.out g2) (Zv w2 q1 0 (.string key)) hq4) (Zv _ q1 1 (.string val)) hq4);clear HC2 r2 g2 kr3 o8 hval HKR2 HG1;go_wp2;refine fin_En HK3.out rfl ?_;refine ⟨?_,HR2.out,HG2.out⟩;unfold enV enS;simp only;rw [<- HKEY.out,<- HVAL.out]
theorem size_Ki:(Tryz.prog.info? 128).map (·.size)=some 2:=by kernel_rfl
theorem fin_Ki {W:World} {g:Nat} {c0 c1:Value} {tmps:Array Value} {Q:Ending->World->Prop} (k:Ob W g 128 [c0,c1]) (h4:tmps.getD 2 undef=.pointer (some ⟨g,0,none⟩)) (hq:Q (.returned (.agg #[c0,c1])) W) :
  bodyPost Tryz.prog Tryz.f165 Q Exit.ret { tmps:=tmps,defers:=[] } W:=by
 have hl:=run_loadVar_row (P:=Tryz.prog) W g 128 128 #[c0,c1] (0,0) _ k Tryz.underlying128 rfl (by rw [size_Ki];rfl);have h4':tmps[2]?.getD undef=.pointer (some ⟨g,0,none⟩):=by simpa using h4
 refine bodyPost_ret (v:=.agg #[c0,c1]) ?_ rfl hq;simp [results,Tryz.results165,asAddr,h4',hl]
theorem part_Ki (p g:Nat) (st:St) (w:World) (h:Rr w p 224 g st) (hg:g < w.heap.size) :
  Calls Tryz.prog 165 #[.agg #[.pointer (some ⟨p,0,none⟩)]] w fun e w'=>e=.returned (kiV (kiS st).1)/\Rr w' p 224 g (kiS st).2/\w.grownBy w' (some p):=by
 have hp:=h.lt;have kr:=Ob.new (w.alloc (.cells #[.pointer (some ⟨p,0,none⟩)] 201)) [.string ByteArray.empty,.int .u64 0] 128;have kb1:=(Ob.new w [.pointer (some ⟨p,0,none⟩)] 201).alloc (.cells #[.string ByteArray.empty,.int .u64 0] 128);have bb:Below w.heap.size w ((w.alloc (.cells #[.pointer (some ⟨p,0,none⟩)] 201)).alloc (.cells #[.string ByteArray.empty,.int .u64 0] 128)):=((Below.refl _ w).alloc (Nat.le_refl _) _).alloc (by simp) _;simp only [World.size_alloc] at kr;have HC1:=Za (rdtext_any p g st 40 _ (h.old bb) (by omega));have HBB:=Za bb;have HKB:=Za kb1;have HKR:=Za kr;clear h kb1 kr bb;go_enter Tryz.func165,Tryz.ntmps165
 go_wp2_with fail
 refine HC1.out.mono ?_;rintro e w1 ⟨rfl,r1,g1⟩;have kb2:=HKB.out.kept g1 (by intro e;have e2:=Option.some.inj e;omega);have kr2:=HKR.out.kept g1 (by intro e;have e2:=Option.some.inj e;omega);have d0:=kb2.cell 0;simp only [List.getElem?_cons_zero] at d0;have HC2:=Za (rdnum_any p g (ZF st 40).2 18446744073709551615 w1 r1);have HG1:=Za (Ze (Zm (some p) HBB.out) g1);have HKR2:=Za kr2;obtain ⟨key,hkey⟩:∃ key,key=strOfNums (ZF st 40).1:=⟨_,rfl⟩;obtain ⟨q1,hq1⟩:∃ q1,q1=w.heap.size+1:=⟨_,rfl⟩;rw [<- hkey,<- hq1];rw [<- hq1] at HKR2;have HKEY:=Za hkey;have hq2:q1≠p:=by omega
 have hq3:q1≠g:=by omega
 have hq4:w.heap.size<=q1:=by omega
 clear HC1 kb2 kr2 r1 g1 hkey hq1 HKR HKB;go_wp2_with fail
 refine HC2.out.mono ?_;rintro e w2 ⟨rfl,r2,g2⟩;have kr3:=HKR2.out.kept g2 (by intro e;have e2:=Option.some.inj e;omega);have f0:=kr3.frozen 0;have f1:=kr3.frozen 1;have x0:=kr3.cell 0;have x1:=kr3.cell 1;simp only [List.getElem?_cons_zero,List.getElem?_cons_succ] at x0 x1;obtain ⟨val,hval⟩:∃ val,val=(Zr (ZF st 40).2 18446744073709551615).1:=⟨_,rfl⟩;rw [<- hval];have HVAL:=Za hval;have o8:Onl (fun i=>i=q1) w2 ((w2.setCell ⟨q1,0,none⟩ (.string key)).setCell ⟨q1,1,none⟩ (.int .u64 val)):=((Onl.refl (fun i=>i=q1) w2).set (p:=q1) (.inl rfl) _).set (p:=q1) (.inl rfl) _;have HR2:=Za (Rr.onl r2 o8 (fun e=>hq2 e.symm) (fun e=>hq3 e.symm));have HK3:=Za ((kr3.set 0 (.string key)).set 1 (.int .u64 val));have HG2:Hid (w.grownBy ((w2.setCell ⟨q1,0,none⟩ (.string key)).setCell ⟨q1,1,none⟩ (.int .u64 val)) (some p)):=Za (grew_new (grew_new (Ze HG1.out g2) (Zv w2 q1 0 (.string key)) hq4) (Zv _ q1 1 (.int .u64 val)) hq4);clear HC2 r2 g2 kr3 o8 hval HKR2 HG1;go_wp2;refine fin_Ki HK3.out rfl ?_;refine ⟨?_,HR2.out,HG2.out⟩;unfold kiV kiS;simp only;rw [<- HKEY.out,<- HVAL.out,Int.toNat_of_nonneg (by rw [HVAL.out];exact (rnum_bd _ (by omega)).1)]
end
end Go.Proofs.YtdhebpnkfookcaaGreat
