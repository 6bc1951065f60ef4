import Derived.Test.YtdhebpnkfookcaaGreatRM53
set_option maxRecDepth 100000
set_option maxHeartbeats 16000000
namespace Go.Proofs.YtdhebpnkfookcaaGreat
open Go.RowKit Go.Shelf Apo
attribute [local go_sem ↓] app_exec
theorem rg_len (lo hi:ByteArray) (l:List En):(rgL lo hi l).length<=l.length:=List.length_filter_le _ _
def mostN (n:Nat) (most:Int):Nat:=if most=0 then n else most.toNat
theorem most_want (lo hi:ByteArray) (es:List En) (most:Int):ZW lo hi es (mostN es.length most) es.length=mostL (rgL lo hi es) most:=by
 rw [wantK_all];unfold mostN mostL;by_cases h:most=0
 ·rw [if_pos h,if_pos h];exact List.take_of_length_le (rg_len lo hi es)
 ·rw [if_neg h,if_neg h]
theorem most_few {lo hi:ByteArray} {es:List En} {k:Nat} (hk:k < es.length):(ZW lo hi es (mostN es.length 0) k).length < mostN es.length 0:=by
 have h1:(ZW lo hi es (mostN es.length 0) k).length<=(rgL lo hi (es.take k)).length:=by unfold ZW;rw [List.length_take];omega
 have h2:=rg_len lo hi (es.take k);rw [List.length_take] at h2;have:mostN es.length 0=es.length:=by simp [mostN]
 omega
open Classical in
theorem scans18 (w:World) (x:EsA) (hx:OkEs w x) (y:EsA) (hy:OkEs w y) (lo hi:ByteArray) (most:Int) (hmm:most<=9223372036854775807) (hmn:-9223372036854775808<=most) :
  Calls Tryz.prog 5 #[.slice x.a x.l.length x.c,.slice y.a y.l.length y.c,.string lo,.string hi,.int .i64 most] w fun e w'=>e=.returned (.bool true)/\Below w.heap.size w w':=by
 obtain ⟨a,c,es⟩:=x;obtain ⟨a',c',gs⟩:=y;simp only;have hml:maxLen<=9223372036854775807:=by decide
 have hb1:=hx.big;have hl1:=hx.len;have hb3:=hy.big;have hl3:=hy.len;simp only at hb1 hl1 hb3 hl3;have HX:=Za hx;have HZ:=Za hy;have HC1:=Za (fun W (u:Below w.heap.size w W)=>map11 W ⟨a,c,es⟩ (hx.below u));have HC2:=Za (fun W (u:Below w.heap.size w W)=>map11 W ⟨a',c',gs⟩ (hy.below u));simp only at HC1 HC2;obtain ⟨n1,hn1⟩:∃ n,n=es.length:=⟨_,rfl⟩;obtain ⟨n3,hn3⟩:∃ n,n=gs.length:=⟨_,rfl⟩;have HN1:=Za hn1;have HN3:=Za hn3;rw [<- hn1] at HC1 hl1;rw [<- hn3] at HC2 hl3;rw [<- hn1,<- hn3];obtain ⟨B1,hB1⟩:∃ B,B=mapB es:=⟨_,rfl⟩;obtain ⟨B2,hB2⟩:∃ B,B=mapB gs:=⟨_,rfl⟩;rw [<- hB1] at HC1;rw [<- hB2] at HC2;have HE1:=Za hB1;have HE2:=Za hB2;have HAW:=Za (awake18f w);clear hx hy hn1 hn3 hB1 hB2;go_enter Tryz.func5,Tryz.ntmps5
 go_wp2_with fail
 refine HAW.out.mono ?_;rintro e w0 ⟨rfl,b0⟩;have HB0:=Za b0;clear b0 HAW;have HG0:=Za (HC1.out _ HB0.out);go_wp2_with fail
 refine HG0.out.mono ?_;rintro e w1 ⟨rfl,b1⟩;have HB1:=Za (HB0.out.trans (b1.mono HB0.out.size));clear b1 HG0;cases B1 with
 | false =>
  go_wp2;go_ret
  exact ⟨rfl,HB1.out⟩
 | true =>
 have HG1:=Za (HC2.out _ HB1.out);go_wp2_with fail
 refine HG1.out.mono ?_;rintro e w2 ⟨rfl,b2⟩;have HB2:=Za (HB1.out.trans (b2.mono HB1.out.size));clear b2 HG1;cases B2 with
 | false =>
  go_wp2;go_ret
  exact ⟨rfl,HB2.out⟩
 | true =>
 by_cases hlo60:lo.size<=60
 rotate_left
 ·have hd:decide ((lo.size:Int) > 60)=true:=decide_eq_true (by omega);have hd':decide ((60:Int) < (lo.size:Int))=true:=decide_eq_true (by omega);go_wp2;go_ret
  exact ⟨rfl,HB2.out⟩
 have hd1:decide ((lo.size:Int) > 60)=false:=decide_eq_false (by omega);have hd1':decide ((60:Int) < (lo.size:Int))=false:=decide_eq_false (by omega);by_cases hhi60:hi.size<=60
 rotate_left
 ·have hd:decide ((hi.size:Int) > 60)=true:=decide_eq_true (by omega);have hd':decide ((60:Int) < (hi.size:Int))=true:=decide_eq_true (by omega);go_wp2;go_ret
  exact ⟨rfl,HB2.out⟩
 have hd2:decide ((hi.size:Int) > 60)=false:=decide_eq_false (by omega);have hd2':decide ((60:Int) < (hi.size:Int))=false:=decide_eq_false (by omega);obtain ⟨hqx,hok,hrx⟩:=mapB_ok HE1.out.symm;obtain ⟨hqy,hog,hry⟩:=mapB_ok HE2.out.symm;have hq1:n1<=60:=by rw [HN1.out];exact hqx
 have hq3:n3<=60:=by rw [HN3.out];exact hqy
 have HRX:=Za (And.intro (mapB_right18 HE1.out.symm) hrx);have HRY:=Za (And.intro (mapB_right18 HE2.out.symm) hry);have HOK:=Za hok;have HOG:=Za hog;have HCS:=Za (tstore_any w2);clear HC1 HC2 HB0 HB1 HE1 HE2 hqx hqy hok hog hrx hry;go_wp2_with fail
 refine HCS.out.mono ?_;rintro e w7 ⟨s,O7,rfl,t7⟩;have HB7:=Za (HB2.out.trans (t7.bel.mono HB2.out.size));have C8:=tBuild_any t7 a c es (HX.out.rd.below HB7.out) HX.out.nil (by have:=HN1.out;omega) HX.out.sz (fun ok=>by have:=room_first18 ok (by have:=HN1.out;omega);exact ⟨this.1,by omega⟩);rw [<- HN1.out] at C8;have HC8:=Za C8;have HLO7:=Za t7.lo;clear C8 t7 HCS hd1 hd1' hd2 hd2';go_wp2_with fail
 refine HC8.out.mono ?_;rintro e w8 hb8;obtain ⟨id,O8,T8,rfl,p1,p2,p2',p3,p4,p5,p6⟩:=hb8.good HRX.out.1;have B8:Below w.heap.size w w8:=Below.onl HB7.out p6 (fun i q=>by have:=HLO7.out i q;have:=HB2.out.size;omega) (Nat.le_refl _);have hp8:pgT T8<=1321:=by rw [p3.1];exact (room_first18 HOK.out (by have:=HN1.out;omega)).2
 have tx8:TxOk T8:=p2' (fun t ht=>by simp at ht)
 have HRM:Hid (∀ ok:MapOk gs,(gs.flatMap enB).length<=40000/\pgT (treeT T8 gs)<=2641):=Za (fun ok=>by
  have hb:=ok.bytes (by have:=HN3.out;omega);have h1:=p4.len;have h2:=tree_pages (T:=T8) ok (by have:=HN3.out;omega) hb (by omega);exact ⟨hb,by have:=HN3.out;omega⟩)
 have C9:=tBuild_any p4 a' c' gs (HZ.out.rd.below B8) HZ.out.nil (by have:=HN3.out;omega) HZ.out.sz (fun ok=>by have:=HRM.out ok;exact ⟨this.1,by omega⟩);rw [<- HN3.out] at C9;have HC9:=Za C9;have HB8:=Za B8;have HLO8:=Za p4.lo;have HP8:=Za (And.intro p1 tx8);clear C9 p1 p2 p2' p3 p4 p5 p6 B8 hp8 tx8 hb8 HC8 HLO7;go_wp2_with fail
 refine HC9.out.mono ?_;rintro e w9 hb9;obtain ⟨id9,O9,T9,rfl,p1,p2,p2',p3,p4,p5,p6⟩:=hb9.good HRY.out.1;have B9:Below w.heap.size w w9:=Below.onl HB8.out p6 (fun i q=>by have:=HLO8.out i q;have:=HB2.out.size;omega) (Nat.le_refl _);have hp9:pgT T9<=2641:=by rw [p3.1];exact (HRM.out HOG.out).2
 have tx9:TxOk T9:=p2' HP8.out.2;have rx9:=HP8.out.1.sub p2;have hT9:T9.length<=16000:=by have:=p4.len;omega
 obtain ⟨ls,q1,q2,q3,_⟩:=rx9.tree HOK.out (by have:=HN1.out;omega) hT9;have q2':ls.flatMap (fun p=>p.2)=es:=q2;have C10:=wscan_any p4 hT9 tx9 id ls q1 q3 (by rw [q2'];have:=HN1.out;omega) lo hi most hmm hmn;rw [q2'] at C10;have HC10:=Za C10;have HB9:=Za B9;have HST:=Za (fun W (u:Below w9.heap.size w9 W)=>wstatus_any (p4.below u) hT9 tx9 rx9 p1 HOK.out HOG.out (by have:=HN1.out;omega) (by have:=HN3.out;omega));clear C10 p1 p2 p2' p3 p4 p5 p6 B9 hp9 tx9 hb9 HC9 HLO8 HP8 rx9 HB8 hT9 q1 q2 q3 q2' HRM;go_wp2_with fail
 refine HC10.out.mono ?_;rintro e w10 hsc;rcases hsc with hsc | hsc
 ·obtain ⟨hneg,rfl,bs⟩:=hsc;have hdn:decide (most < 0)=true:=decide_eq_true hneg;have HBS:=Za bs;clear bs;have HST10:=Za (HST.out w10 HBS.out);go_wp2_with fail
  refine HST10.out.mono ?_;rintro e w11 ⟨cs,v1,c1,rfl,hdc,rdc,hcl,b11⟩;have HBE:=Za ((HB9.out.trans (HBS.out.mono HB9.out.size)).trans (b11.mono (HB9.out.trans (HBS.out.mono HB9.out.size)).size));have HDC:=Za hdc;have HRC:=Za rdc;obtain ⟨nc,hnc⟩:∃ n,n=cs.length:=⟨_,rfl⟩;have HNC:=Za hnc;rw [<- hnc] at hcl ⊢;have C:=rdiff_any w11 a a' c c' es gs (HX.out.rd.below HBE.out) (HZ.out.rd.below HBE.out) (by have:=HN1.out;omega) (by have:=HN3.out;omega) HRX.out.2 HRY.out.2;rw [<- HN1.out,<- HN3.out] at C;have HQ1:=Za C;clear C hdc rdc hnc b11 HST10 HST;go_wp2_with fail
  refine HQ1.out.mono ?_;rintro e w16 ⟨cs',v4,c4,rfl,hd,row,b16⟩;have hcs:=DiffC.uniq HDC.out hd;subst hcs;obtain ⟨_,_,hv,rd,hle,hmx,_⟩:=rd_gcells cCh_len row;injection hv with e1 e2 e3
  subst e1 e3;have C:=sameCh_any v1 c1 cs v4 c4 cs w16 (HRC.out.below b16) rd (by have:=HNC.out;omega);rw [decide_eq_true rfl,<- HNC.out] at C;rw [<- HNC.out];have HQ2:=Za C;have HBE2:=Za (HBE.out.trans (b16.mono HBE.out.size));clear C hd row rd hle hmx b16 HQ1 HRC HBE e2;go_wp2_with fail
  refine HQ2.out.mono ?_;rintro e w17 ⟨rfl,b17⟩;have HBE3:=Za (HBE2.out.trans (b17.mono HBE2.out.size));clear b17 HQ2 HBE2;go_wp2;go_ret
  exact ⟨rfl,HBE3.out⟩
 ·obtain ⟨hpos,v,rfl,rows,bs⟩:=hsc;have hdn:decide (most < 0)=false:=decide_eq_false (by omega);have HBS:=Za bs;have HRS:=Za rows;obtain ⟨sa,sc,hsv,rds,_⟩:=rd_ecells rows;subst hsv;have HRD:=Za rds;obtain ⟨ns,hns⟩:∃ n,n=(mostL (rgL lo hi es) most).length:=⟨_,rfl⟩;have HNS:=Za hns;rw [<- hns];clear bs rows rds hns;have HST10:=Za (HST.out w10 HBS.out);go_wp2_with fail
  refine HST10.out.mono ?_;rintro e w11 ⟨cs,v1,c1,rfl,hdc,rdc,hcl,b11⟩;have HBE:=Za ((HB9.out.trans (HBS.out.mono HB9.out.size)).trans (b11.mono (HB9.out.trans (HBS.out.mono HB9.out.size)).size));have HDC:=Za hdc;have HRC:=Za rdc;obtain ⟨nc,hnc⟩:∃ n,n=cs.length:=⟨_,rfl⟩;have HNC:=Za hnc;rw [<- hnc] at hcl ⊢;have HRD:=Za (HRD.out.below b11);have C:=rdiff_any w11 a a' c c' es gs (HX.out.rd.below HBE.out) (HZ.out.rd.below HBE.out) (by have:=HN1.out;omega) (by have:=HN3.out;omega) HRX.out.2 HRY.out.2;rw [<- HN1.out,<- HN3.out] at C;have HQ1:=Za C;clear C hdc rdc hnc b11 HST10 HST;go_wp2_with fail
  refine HQ1.out.mono ?_;rintro e w16 ⟨cs',v4,c4,rfl,hd,row,b16⟩;have hcs:=DiffC.uniq HDC.out hd;subst hcs;obtain ⟨_,_,hv,rd,hle,hmx,_⟩:=rd_gcells cCh_len row;injection hv with e1 e2 e3
  subst e1 e3;have C:=sameCh_any v1 c1 cs v4 c4 cs w16 (HRC.out.below b16) rd (by have:=HNC.out;omega);rw [decide_eq_true rfl,<- HNC.out] at C;rw [<- HNC.out];have HQ2:=Za C;have HBE2:=Za (HBE.out.trans (b16.mono HBE.out.size));have HRD:=Za (HRD.out.below b16);clear C hd row rd hle hmx b16 HQ1 HRC HBE e2;go_wp2_with fail
  refine HQ2.out.mono ?_;rintro e w17 ⟨rfl,b17⟩;have HBE3:=Za (HBE2.out.trans (b17.mono HBE2.out.size));have HRD:=Za (HRD.out.below b17);clear b17 HQ2 HBE2;obtain ⟨M,hM⟩:∃ M,M=mostN es.length most:=⟨_,rfl⟩;have HM:=Za hM;clear hM;go_wp2;go_loopw [20,88] (fun v i wr=>∃ (k:Nat) (va:Option Addr) (vc nk:Nat),k<=n1/\i=.int .i64 k/\v=.slice va nk vc/\Hid (nk=(ZW lo hi es M k).length)/\Hid (Row (fun g=>w17.heap.size<=g) wr 43 2 (.slice va nk vc) (ZW lo hi es M k).length (Zm (ZW lo hi es M k)))/\Hid (Below w17.heap.size w17 wr)) (fun _ i _=>n1 - (intOf i).toNat)
  case atStart=>exact ⟨0,none,0,0,Nat.zero_le _,rfl,rfl,Za (by rw [wantK_zero];rfl),Za (by rw [wantK_zero];exact Row.nil _ _ _ _),Za (Below.refl _ _)⟩
  case round =>
   obtain ⟨k,va,vc,nk,hk,rfl,rfl,HNK,HRr,HBr⟩:=hrel;by_cases hkn:k < n1
   ·obtain ⟨x,hx⟩:∃ x,es[k]?=some x:=⟨es[k]'(by have:=HN1.out;omega),List.getElem?_eq_getElem _⟩;obtain ⟨g,of,rfl,q1,q2⟩:=((HX.out.rd.below HBE3.out).below HBr.out) k _ hx;have HX1:=Za hx;have HW1:=Za trivial;have HBX:Hid (Below wr.heap.size wr (wr.alloc (.cells #[.string x.k,.string x.v] 43))):=Za ((Below.refl _ wr).alloc (Nat.le_refl _) _);have hgw:g < wr.heap.size:=World.block_lt_of_cell? _ _ q1;clear hx;cases hb1:Z2 x.k lo
    ·have hbl:Op.bytesLess x.k.toList lo.toList=false:=hb1;by_cases he:hi=ByteArray.empty
     ·have hin:inR lo hi x=true:=by simp [inR,hb1,he]
      have hee:hi=⟨#[]⟩:=he;clear he hb1;by_cases hm0:most=0
      ·have hd4:(most == 0)=true:=by simp [hm0]
       have HW2:=Za (wantK_in (m:=M) HX1.out hin (by rw [HM.out,hm0];exact most_few (by have:=HN1.out;omega)));have r1:=HRr.out.onl (F:=fun _=>False) (Onl.ofBelow HBX.out) (fun _ _ q=>q);have bL:Below (wr.alloc (.cells #[.string x.k,.string x.v] 43)).heap.size (wr.alloc (.cells #[.string x.k,.string x.v] 43)) ((wr.alloc (.cells #[.string x.k,.string x.v] 43)).alloc (.cells #[.string x.k,.string x.v] 43)):=(Below.refl _ _).alloc (Nat.le_refl _) _;have r2:=r1.onl (F:=fun _=>False) (Onl.ofBelow bL) (fun _ _ q=>q);obtain ⟨v8,w8,RR,r8,o8,ow8⟩:=app_Es (es:=[x]) (c:=1) (y:=⟨(wr.alloc (.cells #[.string x.k,.string x.v] 43)).heap.size,0,none⟩) r2 (by have:=(wantK_len lo hi es M k).2;have:=HN1.out;simp;omega) (rd_litW _ x);rw [<- HW2.out] at r8;obtain ⟨va8,vc8,hva8,_⟩:=r8.form;obtain ⟨n8,hn8⟩:∃ n8,n8=(ZW lo hi es M (k+1)).length:=⟨_,rfl⟩;rw [<- hn8] at hva8;rw [hva8] at r8 RR ow8;rw [show [x].length=1 from rfl,World.size_alloc] at RR;have B8:Below w17.heap.size w17 w8:=Below.onl ((HBr.out.trans (HBX.out.mono HBr.out.size)).trans (bL.mono (by have:=HBr.out.size;simp;omega))) o8 (fun i q=>HRr.out.2 i q) (Nat.le_refl _);have HFIN:=Za (And.intro hn8 (And.intro (show Row (fun g=>w17.heap.size<=g) w8 43 2 (.slice va8 n8 vc8) (ZW lo hi es M (k+1)).length (Zm (ZW lo hi es M (k+1))) from ⟨r8.1,fun g hg=>(r8.2 g hg).elim (fun z=>z) (fun z=>by have:=HBr.out.size;simp at z;omega)⟩) B8));obtain ⟨x1,x2,x3⟩:=Ze RR;clear HW1 r1 bL r2 r8 o8 ow8 hva8 hn8 B8 RR;go_wp2;go_roundw
       case rel=>exact ⟨k+1,va8,vc8,n8,by omega,by simp,rfl,Za HFIN.out.1,Za HFIN.out.2.1,Za HFIN.out.2.2⟩
       case measure=>simp [intOf];omega
      have hd4:(most == 0)=false:=by simpa using hm0
      have hMm:(M:Int)=most:=by rw [HM.out];unfold mostN;rw [if_neg hm0];omega
      by_cases hf:nk < M
      ·have hd5:decide ((nk:Int) < most)=true:=decide_eq_true (by omega);have HW2:=Za (wantK_in (m:=M) HX1.out hin (by rw [<- HNK.out];exact hf));clear hMm;have r1:=HRr.out.onl (F:=fun _=>False) (Onl.ofBelow HBX.out) (fun _ _ q=>q);have bL:Below (wr.alloc (.cells #[.string x.k,.string x.v] 43)).heap.size (wr.alloc (.cells #[.string x.k,.string x.v] 43)) ((wr.alloc (.cells #[.string x.k,.string x.v] 43)).alloc (.cells #[.string x.k,.string x.v] 43)):=(Below.refl _ _).alloc (Nat.le_refl _) _;have r2:=r1.onl (F:=fun _=>False) (Onl.ofBelow bL) (fun _ _ q=>q);obtain ⟨v8,w8,RR,r8,o8,ow8⟩:=app_Es (es:=[x]) (c:=1) (y:=⟨(wr.alloc (.cells #[.string x.k,.string x.v] 43)).heap.size,0,none⟩) r2 (by have:=(wantK_len lo hi es M k).2;have:=HN1.out;simp;omega) (rd_litW _ x);rw [<- HW2.out] at r8;obtain ⟨va8,vc8,hva8,_⟩:=r8.form;obtain ⟨n8,hn8⟩:∃ n8,n8=(ZW lo hi es M (k+1)).length:=⟨_,rfl⟩;rw [<- hn8] at hva8;rw [hva8] at r8 RR ow8;rw [show [x].length=1 from rfl,World.size_alloc] at RR;have B8:Below w17.heap.size w17 w8:=Below.onl ((HBr.out.trans (HBX.out.mono HBr.out.size)).trans (bL.mono (by have:=HBr.out.size;simp;omega))) o8 (fun i q=>HRr.out.2 i q) (Nat.le_refl _);have HFIN:=Za (And.intro hn8 (And.intro (show Row (fun g=>w17.heap.size<=g) w8 43 2 (.slice va8 n8 vc8) (ZW lo hi es M (k+1)).length (Zm (ZW lo hi es M (k+1))) from ⟨r8.1,fun g hg=>(r8.2 g hg).elim (fun z=>z) (fun z=>by have:=HBr.out.size;simp at z;omega)⟩) B8));obtain ⟨x1,x2,x3⟩:=Ze RR;clear HW1 r1 bL r2 r8 o8 ow8 hva8 hn8 B8 RR;go_wp2;go_roundw
       case rel=>exact ⟨k+1,va8,vc8,n8,by omega,by simp,rfl,Za HFIN.out.1,Za HFIN.out.2.1,Za HFIN.out.2.2⟩
       case measure=>simp [intOf];omega
      ·have hd5:decide ((nk:Int) < most)=false:=decide_eq_false (by omega);have HW2:=Za (wantK_full HX1.out (by rw [<- HNK.out];exact hf));clear hMm;clear HW1;go_wp2;go_roundw
       case rel=>exact ⟨k+1,va,vc,nk,by omega,by simp,rfl,Za (by rw [HW2.out];exact HNK.out),Za (by rw [HW2.out];exact HRr.out.onl (F:=fun _=>False) (Onl.ofBelow HBX.out) (fun _ _ q=>q)),Za (HBr.out.trans (HBX.out.mono HBr.out.size))⟩
       case measure=>simp [intOf];omega
     ·have hee:¬ (hi.toList=[]):=fun q=>he (ZA (by rw [q];exact (by simp:([]:List UInt8)=(⟨#[]⟩:ByteArray).toList)))
      have hef:hi.toList.isEmpty=false:=by rw [List.isEmpty_eq_false_iff];exact hee
      cases hb3:Z2 x.k hi
      ·have hbh:Op.bytesLess x.k.toList hi.toList=false:=hb3;have hin:inR lo hi x=false:=by simp [inR,hb1,he,hb3]
       clear he hb3 hb1;have HW2:=Za (wantK_out HX1.out hin (m:=M));clear HW1;go_wp2;go_roundw
       case rel=>exact ⟨k+1,va,vc,nk,by omega,by simp,rfl,Za (by rw [HW2.out];exact HNK.out),Za (by rw [HW2.out];exact HRr.out.onl (F:=fun _=>False) (Onl.ofBelow HBX.out) (fun _ _ q=>q)),Za (HBr.out.trans (HBX.out.mono HBr.out.size))⟩
       case measure=>simp [intOf];omega
      ·have hbh:Op.bytesLess x.k.toList hi.toList=true:=hb3;have hin:inR lo hi x=true:=by simp [inR,hb1,hb3]
       clear he hb3 hb1;by_cases hm0:most=0
       ·have hd4:(most == 0)=true:=by simp [hm0]
        have HW2:=Za (wantK_in (m:=M) HX1.out hin (by rw [HM.out,hm0];exact most_few (by have:=HN1.out;omega)));have r1:=HRr.out.onl (F:=fun _=>False) (Onl.ofBelow HBX.out) (fun _ _ q=>q);have bL:Below (wr.alloc (.cells #[.string x.k,.string x.v] 43)).heap.size (wr.alloc (.cells #[.string x.k,.string x.v] 43)) ((wr.alloc (.cells #[.string x.k,.string x.v] 43)).alloc (.cells #[.string x.k,.string x.v] 43)):=(Below.refl _ _).alloc (Nat.le_refl _) _;have r2:=r1.onl (F:=fun _=>False) (Onl.ofBelow bL) (fun _ _ q=>q);obtain ⟨v8,w8,RR,r8,o8,ow8⟩:=app_Es (es:=[x]) (c:=1) (y:=⟨(wr.alloc (.cells #[.string x.k,.string x.v] 43)).heap.size,0,none⟩) r2 (by have:=(wantK_len lo hi es M k).2;have:=HN1.out;simp;omega) (rd_litW _ x);rw [<- HW2.out] at r8;obtain ⟨va8,vc8,hva8,_⟩:=r8.form;obtain ⟨n8,hn8⟩:∃ n8,n8=(ZW lo hi es M (k+1)).length:=⟨_,rfl⟩;rw [<- hn8] at hva8;rw [hva8] at r8 RR ow8;rw [show [x].length=1 from rfl,World.size_alloc] at RR;have B8:Below w17.heap.size w17 w8:=Below.onl ((HBr.out.trans (HBX.out.mono HBr.out.size)).trans (bL.mono (by have:=HBr.out.size;simp;omega))) o8 (fun i q=>HRr.out.2 i q) (Nat.le_refl _);have HFIN:=Za (And.intro hn8 (And.intro (show Row (fun g=>w17.heap.size<=g) w8 43 2 (.slice va8 n8 vc8) (ZW lo hi es M (k+1)).length (Zm (ZW lo hi es M (k+1))) from ⟨r8.1,fun g hg=>(r8.2 g hg).elim (fun z=>z) (fun z=>by have:=HBr.out.size;simp at z;omega)⟩) B8));obtain ⟨x1,x2,x3⟩:=Ze RR;clear HW1 r1 bL r2 r8 o8 ow8 hva8 hn8 B8 RR;go_wp2;go_roundw
        case rel=>exact ⟨k+1,va8,vc8,n8,by omega,by simp,rfl,Za HFIN.out.1,Za HFIN.out.2.1,Za HFIN.out.2.2⟩
        case measure=>simp [intOf];omega
       have hd4:(most == 0)=false:=by simpa using hm0
       have hMm:(M:Int)=most:=by rw [HM.out];unfold mostN;rw [if_neg hm0];omega
       by_cases hf:nk < M
       ·have hd5:decide ((nk:Int) < most)=true:=decide_eq_true (by omega);have HW2:=Za (wantK_in (m:=M) HX1.out hin (by rw [<- HNK.out];exact hf));clear hMm;have r1:=HRr.out.onl (F:=fun _=>False) (Onl.ofBelow HBX.out) (fun _ _ q=>q);have bL:Below (wr.alloc (.cells #[.string x.k,.string x.v] 43)).heap.size (wr.alloc (.cells #[.string x.k,.string x.v] 43)) ((wr.alloc (.cells #[.string x.k,.string x.v] 43)).alloc (.cells #[.string x.k,.string x.v] 43)):=(Below.refl _ _).alloc (Nat.le_refl _) _;have r2:=r1.onl (F:=fun _=>False) (Onl.ofBelow bL) (fun _ _ q=>q);obtain ⟨v8,w8,RR,r8,o8,ow8⟩:=app_Es (es:=[x]) (c:=1) (y:=⟨(wr.alloc (.cells #[.string x.k,.string x.v] 43)).heap.size,0,none⟩) r2 (by have:=(wantK_len lo hi es M k).2;have:=HN1.out;simp;omega) (rd_litW _ x);rw [<- HW2.out] at r8;obtain ⟨va8,vc8,hva8,_⟩:=r8.form;obtain ⟨n8,hn8⟩:∃ n8,n8=(ZW lo hi es M (k+1)).length:=⟨_,rfl⟩;rw [<- hn8] at hva8;rw [hva8] at r8 RR ow8;rw [show [x].length=1 from rfl,World.size_alloc] at RR;have B8:Below w17.heap.size w17 w8:=Below.onl ((HBr.out.trans (HBX.out.mono HBr.out.size)).trans (bL.mono (by have:=HBr.out.size;simp;omega))) o8 (fun i q=>HRr.out.2 i q) (Nat.le_refl _);have HFIN:=Za (And.intro hn8 (And.intro (show Row (fun g=>w17.heap.size<=g) w8 43 2 (.slice va8 n8 vc8) (ZW lo hi es M (k+1)).length (Zm (ZW lo hi es M (k+1))) from ⟨r8.1,fun g hg=>(r8.2 g hg).elim (fun z=>z) (fun z=>by have:=HBr.out.size;simp at z;omega)⟩) B8));obtain ⟨x1,x2,x3⟩:=Ze RR;clear HW1 r1 bL r2 r8 o8 ow8 hva8 hn8 B8 RR;go_wp2;go_roundw
        case rel=>exact ⟨k+1,va8,vc8,n8,by omega,by simp,rfl,Za HFIN.out.1,Za HFIN.out.2.1,Za HFIN.out.2.2⟩
        case measure=>simp [intOf];omega
       ·have hd5:decide ((nk:Int) < most)=false:=decide_eq_false (by omega);have HW2:=Za (wantK_full HX1.out (by rw [<- HNK.out];exact hf));clear hMm;clear HW1;go_wp2;go_roundw
        case rel=>exact ⟨k+1,va,vc,nk,by omega,by simp,rfl,Za (by rw [HW2.out];exact HNK.out),Za (by rw [HW2.out];exact HRr.out.onl (F:=fun _=>False) (Onl.ofBelow HBX.out) (fun _ _ q=>q)),Za (HBr.out.trans (HBX.out.mono HBr.out.size))⟩
        case measure=>simp [intOf];omega
    ·have hbl:Op.bytesLess x.k.toList lo.toList=true:=hb1;have hin:inR lo hi x=false:=by simp [inR,hb1]
     clear hb1;have HW2:=Za (wantK_out HX1.out hin (m:=M));clear HW1;go_wp2;go_roundw
     case rel=>exact ⟨k+1,va,vc,nk,by omega,by simp,rfl,Za (by rw [HW2.out];exact HNK.out),Za (by rw [HW2.out];exact HRr.out.onl (F:=fun _=>False) (Onl.ofBelow HBX.out) (fun _ _ q=>q)),Za (HBr.out.trans (HBX.out.mono HBr.out.size))⟩
     case measure=>simp [intOf];omega
   ·have hwa:ZW lo hi es M k=mostL (rgL lo hi es) most:=by
     have e:k=es.length:=by have:=HN1.out;omega
     rw [e,HM.out];exact most_want lo hi es most
    rw [hwa] at HNK HRr;obtain ⟨wa,wc,hwv,rdw,_⟩:=rd_ecells HRr.out;rw [<- HNK.out] at hwv;injection hwv with e1 e2 e3
    subst e1 e3
    have CS:=sameEn_any sa sc (mostL (rgL lo hi es) most) va vc (mostL (rgL lo hi es) most) wr (HRD.out.below HBr.out) rdw (by
     have h1:(mostL (rgL lo hi es) most).length<=(rgL lo hi es).length:=by unfold mostL;split;exact Nat.le_refl _;rw [List.length_take];omega
     have h2:=rg_len lo hi es;have:=HN1.out;omega)
    rw [decide_eq_true rfl] at CS;have hnn:nk=ns:=by rw [HNK.out,HNS.out]
    subst hnn;rw [<- HNK.out] at CS;have HCS:=Za CS;have HBZ:=Za (HBE3.out.trans (HBr.out.mono HBE3.out.size));clear hwa rdw CS HRr;go_wp2_with fail
    refine HCS.out.mono ?_;rintro e w30 ⟨rfl,b30⟩;have HF:=Za (HBZ.out.trans (b30.mono HBZ.out.size));clear b30;go_wp2;go_ret
    exact ⟨rfl,HF.out⟩
end Go.Proofs.YtdhebpnkfookcaaGreat
