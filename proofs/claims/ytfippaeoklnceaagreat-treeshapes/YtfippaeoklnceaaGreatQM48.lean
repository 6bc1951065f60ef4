import Derived.Test.YtfippaeoklnceaaGreatQM46
import Derived.Test.YtfippaeoklnceaaGreatQM47
namespace Go.Proofs.YtfippaeoklnceaaGreat
set_option maxRecDepth 100000
set_option maxHeartbeats 16000000
open Go.RowKit Apo
theorem mapOk_right {es:List En} (h:MapOk es):rightE es=0:=by
 have h1:firstE enE es=0:=firstE_none (fun e he=>by
  have hk:=h.key e he
  have hv:=h.val e he
  rw [enE_val (keyE_zero hk)]
  exact valE_zero hv)
 unfold rightE
 rw [if_neg (by rw [h1]; simp),if_pos h.rise]
theorem MapOk.sizes {es:List En} (h:MapOk es):∀ e ∈ es,e.k.size≤maxLen∧e.v.size≤maxLen:=fun e he=>by
 have:=h.key e he
 have:=h.val e he
 unfold maxLen
 omega
theorem light_len {es:List En} (h:lightB es=true):es.length≤60:=by
 unfold lightB at h
 simp only [Bool.and_eq_true,decide_eq_true_eq] at h
 exact h.2
theorem eds_len {l:List Ed} (h:editsB l=true):l.length≤20:=by
 unfold editsB at h
 simp only [Bool.and_eq_true,decide_eq_true_eq] at h
 exact h.2
theorem room_first {es:List En} (ok:MapOk es) (hl:es.length≤60):(es.flatMap enB).length≤40000∧pgT (treeT [] es)≤1321:=by
 have hb:=ok.bytes (by omega)
 have:=tree_pages (T:=[]) ok (by omega) hb (by simp)
 have e:pgT []=1:=by simp [pgT]
 rw [e] at this
 exact ⟨hb,by omega⟩
theorem room_next {T:List (List Int)} {es:List En} (hT:T.length+1≤pgT T) (hp:pgT T≤2770) (ok:MapOk es) (hl:es.length≤60):(es.flatMap enB).length≤40000∧pgT (treeT T es)≤pgT T+1320:=by
 have hb:=ok.bytes (by omega)
 have:=tree_pages (T:=T) ok (by omega) hb (by omega)
 exact ⟨hb,by omega⟩
theorem room_edit {T:List (List Int)} {es fs:List En} {n id:Nat} (hn:T.Nodup) (hT:T.length+1≤pgT T) (hp:pgT T≤1321) (hr:RootOf T es id) (hch:ChN n es fs) (ok:MapOk fs) (h1:es.length≤60) (h2:n≤20):(fs.flatMap enB).length≤40000∧pgT (treeT T fs)≤pgT T+1370:=by
 have hl:=hch.len
 have hb:=ok.bytes (by omega)
 have:=near_pages hn hr hch ok (by omega) hb (by omega)
 exact ⟨hb,by omega⟩
open Classical in
theorem shapes10 (w:World) (x:EsA) (hx:OkEs w x) (y:EdA) (hy:OkEdA w y) (z:EsA) (hz:OkEs w z) :
  Calls Tryz.prog 3 #[.slice x.a x.l.length x.c,.slice y.a y.l.length y.c,.slice z.a z.l.length z.c] w fun e w'=>e=.returned (.bool true)∧Below w.heap.size w w':=by
 obtain ⟨a,c,es⟩:=x
 obtain ⟨b,d,l⟩:=y
 obtain ⟨a',c',gs⟩:=z
 simp only
 have hml:maxLen≤9223372036854775807:=by decide
 have hb1:=hx.big
 have hl1:=hx.len
 have hb2:=hy.big
 have hl2:=hy.len
 have hb3:=hz.big
 have hl3:=hz.len
 simp only at hb1 hl1 hb2 hl2 hb3 hl3
 have HX:=hide hx
 have HY:=hide hy
 have HZ:=hide hz
 have HC1:=hide (fun W (u:Below w.heap.size w W)=>light_any W a c es (hx.rd.below u) (by omega) hx.sz)
 have HC2:=hide (fun W (u:Below w.heap.size w W)=>ledits_any W b d l (hy.rd.below u) (by omega) hy.sz)
 have HC3:=hide (fun W (u:Below w.heap.size w W)=>light_any W a' c' gs (hz.rd.below u) (by omega) hz.sz)
 have HC4:Hid (∀ W,Below w.heap.size w W→es.length≤60→Calls Tryz.prog 7 #[.slice a es.length c] W fun e w'=>e=.returned (.int .i64 (rightE es))∧Below W.heap.size W w'):=hide (fun W u q=>rright_any W a c es (hx.rd.below u) (by omega) hx.sz)
 have HC5:=hide (fun W (u:Below w.heap.size w W) (_:l.length≤20)=>edits_any W b d l (hy.rd.below u) (by omega) hy.sz)
 have HC6:Hid (∀ W,Below w.heap.size w W→gs.length≤60→Calls Tryz.prog 7 #[.slice a' gs.length c'] W fun e w'=>e=.returned (.int .i64 (rightE gs))∧Below W.heap.size W w'):=hide (fun W u q=>rright_any W a' c' gs (hz.rd.below u) (by omega) hz.sz)
 obtain ⟨n1,hn1⟩:∃ n,n=es.length:=⟨_,rfl⟩
 obtain ⟨n2,hn2⟩:∃ n,n=l.length:=⟨_,rfl⟩
 obtain ⟨n3,hn3⟩:∃ n,n=gs.length:=⟨_,rfl⟩
 have HN1:=hide hn1
 have HN2:=hide hn2
 have HN3:=hide hn3
 rw [← hn1] at HC1 HC4 hl1
 rw [← hn2] at HC2 HC5 hl2
 rw [← hn3] at HC3 HC6 hl3
 rw [← hn1,← hn2,← hn3]
 obtain ⟨B1,hB1⟩:∃ B,B=lightB es:=⟨_,rfl⟩
 obtain ⟨B2,hB2⟩:∃ B,B=editsB l:=⟨_,rfl⟩
 obtain ⟨B3,hB3⟩:∃ B,B=lightB gs:=⟨_,rfl⟩
 obtain ⟨R1,hR1⟩:∃ B,B=rightE es:=⟨_,rfl⟩
 obtain ⟨R2,hR2⟩:∃ B,B=edsE l:=⟨_,rfl⟩
 obtain ⟨R3,hR3⟩:∃ B,B=rightE gs:=⟨_,rfl⟩
 rw [← hB1] at HC1
 rw [← hB2] at HC2
 rw [← hB3] at HC3
 rw [← hR1] at HC4
 rw [← hR2] at HC5
 rw [← hR3] at HC6
 have HE1:=hide hB1
 have HE2:=hide hB2
 have HE3:=hide hB3
 have HE4:=hide hR1
 have HE5:=hide hR2
 have HE6:=hide hR3
 have HAW:=hide (tawake_any w)
 clear hx hy hz hn1 hn2 hn3 hB1 hB2 hB3 hR1 hR2 hR3
 go_enter Tryz.func3,Tryz.ntmps3
 go_wp2_with fail
 refine HAW.out.mono ?_
 rintro e w0 ⟨rfl,b0⟩
 have HB0:=hide b0
 clear b0 HAW
 have HG0:=hide (HC1.out _ HB0.out)
 go_wp2_with fail
 refine HG0.out.mono ?_
 rintro e w1 ⟨rfl,b1⟩
 have HB1:=hide (HB0.out.trans (b1.mono HB0.out.size))
 clear b1 HG0
 cases B1 with
 | false =>
  go_wp2
  go_ret
  exact ⟨rfl,HB1.out⟩
 | true =>
 have hq1:n1≤60:=by rw [HN1.out]; exact light_len HE1.out.symm
 have HG1:=hide (HC2.out _ HB1.out)
 go_wp2_with fail
 refine HG1.out.mono ?_
 rintro e w2 ⟨rfl,b2⟩
 have HB2:=hide (HB1.out.trans (b2.mono HB1.out.size))
 clear b2 HG1
 cases B2 with
 | false =>
  go_wp2
  go_ret
  exact ⟨rfl,HB2.out⟩
 | true =>
 have hq2:n2≤20:=by rw [HN2.out]; exact eds_len HE2.out.symm
 have HG2:=hide (HC3.out _ HB2.out)
 go_wp2_with fail
 refine HG2.out.mono ?_
 rintro e w3 ⟨rfl,b3⟩
 have HB3:=hide (HB2.out.trans (b3.mono HB2.out.size))
 clear b3 HG2
 cases B3 with
 | false =>
  go_wp2
  go_ret
  exact ⟨rfl,HB3.out⟩
 | true =>
 have hq3:n3≤60:=by rw [HN3.out]; exact light_len HE3.out.symm
 have HG3:=hide (HC4.out _ HB3.out hq1)
 go_wp2_with fail
 refine HG3.out.mono ?_
 rintro e w4 ⟨rfl,b4⟩
 have HB4:=hide (HB3.out.trans (b4.mono HB3.out.size))
 clear b4 HG3
 by_cases hc3:R1=0
 rotate_left
 ·have dc:(R1 != 0)=true:=by simpa using hc3
  clear hc3
  go_wp2
  go_ret
  exact ⟨rfl,HB4.out⟩
 subst hc3
 have HG4:=hide (HC5.out _ HB4.out hq2)
 go_wp2_with fail
 refine HG4.out.mono ?_
 rintro e w5 ⟨rfl,b5⟩
 have HB5:=hide (HB4.out.trans (b5.mono HB4.out.size))
 clear b5 HG4
 by_cases hc4:R2=0
 rotate_left
 ·have dc:(R2 != 0)=true:=by simpa using hc4
  clear hc4
  go_wp2
  go_ret
  exact ⟨rfl,HB5.out⟩
 subst hc4
 have HG5:=hide (HC6.out _ HB5.out hq3)
 go_wp2_with fail
 refine HG5.out.mono ?_
 rintro e w6 ⟨rfl,b6⟩
 have HB6:=hide (HB5.out.trans (b6.mono HB5.out.size))
 clear b6 HG5
 by_cases hc5:R3=0
 rotate_left
 ·have dc:(R3 != 0)=true:=by simpa using hc5
  clear hc5
  go_wp2
  go_ret
  exact ⟨rfl,HB6.out⟩
 subst hc5
 clear HC1 HC2 HC3 HC4 HC5 HC6 HB0 HB1 HB2 HB3 HB4 HB5
 have hok:=rightE_map HE4.out.symm
 have hog:=rightE_map HE6.out.symm
 have hed:∀ q ∈ l,edE q=0:=firstE_zero HE5.out.symm
 have HOK:=hide hok
 have HOG:=hide hog
 have HED:=hide hed
 have HCS:=hide (tstore_any w6)
 clear hok hog hed
 go_wp2_with fail
 refine HCS.out.mono ?_
 rintro e w7 ⟨s,O7,rfl,t7⟩
 have HB7:=hide (HB6.out.trans (t7.bel.mono HB6.out.size))
 have C8:=tBuild_any t7 a c es (HX.out.rd.below HB7.out) HX.out.nil (by have:=HN1.out; omega) HX.out.sz (fun ok=>by have:=room_first ok (by have:=HN1.out; omega); exact ⟨this.1,by omega⟩)
 rw [← HN1.out] at C8
 have HC8:=hide C8
 have HLO7:=hide t7.lo
 have hs6:=HB6.out.size
 clear C8 t7 HCS
 go_wp2_with fail
 refine HC8.out.mono ?_
 rintro e w8 hb8
 obtain ⟨id,O8,T8,rfl,p1,p2,p2',p3,p4,p5,p6⟩:=hb8.good HE4.out.symm
 have B8:Below w.heap.size w w8:=Below.onl HB7.out p6 (fun i q=>by have:=HLO7.out i q; omega) (Nat.le_refl _)
 have hp8:pgT T8≤1321:=by rw [p3.1]; exact (room_first HOK.out (by have:=HN1.out; omega)).2
 have tx8:TxOk T8:=p2' (fun t ht=>by simp at ht)
 have C9:=tedit_map p4 (by omega) tx8 p1 HOK.out (by have:=HN1.out; omega) b d l (HY.out.rd.below B8) (by have:=HN2.out; omega) HED.out HY.out.sz (fun fs _ c1 c2 _=>by
  have:=room_edit p4.nodup p4.len hp8 p1 c1 c2 (by have:=HN1.out; omega) (by have:=HN2.out; omega)
  exact ⟨this.1,by omega⟩)
 rw [← HN2.out] at C9
 have HC9:=hide C9
 have HB8:=hide B8
 have HLO8:=hide p4.lo
 have HP8:=hide (And.intro p1 (And.intro p4.len (And.intro hp8 p4.nodup)))
 have HTX8:=hide tx8
 clear C9 p1 p2 p2' p3 p4 p5 p6 B8 hp8 tx8 hb8 HC8
 go_wp2_with fail
 refine HC9.out.mono ?_
 rintro e w9 ⟨fs,hap,c1,c2,c3,id9,O9,T9,rfl,p1,p2,p2',p3,p4,p5,p6⟩
 have B9:Below w.heap.size w w9:=Below.onl HB8.out p6 (fun i q=>by have:=HLO8.out i q; omega) (Nat.le_refl _)
 have hfl:fs.length≤80:=by have:=HN1.out; have:=HN2.out; omega
 have hp9:pgT T9≤2691:=by
  obtain ⟨a1,a2,a3,a4⟩:=HP8.out
  have:=room_edit a4 a2 a3 a1 c1 c2 (by have:=HN1.out; omega) (by have:=HN2.out; omega)
  rw [p3.1]
  omega
 have HR9:=hide (HP8.out.1.sub p2)
 have HAP:=hide hap
 have HC2:=hide c2
 have C10:=rapply_any w9 a b c d es l (HX.out.rd.below B9) (HY.out.rd.below B9) (by have:=HN1.out; omega) (by have:=HN2.out; omega) (riseE_iff.2 HOK.out.rise) HX.out.nil
 rw [← HN1.out,← HN2.out] at C10
 have HC10:=hide C10
 have HB9:=hide B9
 have HLO9:=hide p4.lo
 have HP9:=hide (And.intro p1 (And.intro p4.len (And.intro hp9 p4.nodup)))
 have HT9:=hide p4
 have HTX9:=hide (p2' HTX8.out)
 have hs8:=HB8.out.size
 clear C10 p1 p2 p2' p3 p4 p5 p6 B9 hp9 HC9 hap c1 c2 c3
 go_wp2_with fail
 refine HC10.out.mono ?_
 rintro e w10 ⟨fs',va,vc,rfl,hap',rd10,nil10,_,b10⟩
 have hfs:=hap'.uniq HAP.out
 subst hfs
 have HB10:=hide (HB9.out.trans (b10.mono HB9.out.size))
 obtain ⟨hth1,hth2⟩:=tree_there HP9.out.2.2.2 HP9.out.1
 have C11:=tBuild_any (HT9.out.below b10) va vc fs' rd10 nil10 (by omega) HC2.out.sizes (fun ok=>⟨ok.bytes (by omega),by rw [hth1]; have:=HP9.out.2.2.1; omega⟩)
 obtain ⟨nf,hnf⟩:∃ n,n=fs'.length:=⟨_,rfl⟩
 rw [← hnf] at C11 ⊢
 have HNF:=hide hnf
 have HTH:=hide (And.intro hth1 hth2)
 have HC11:=hide C11
 have hs9:=HB9.out.size
 have hs10:=b10.size
 clear C11 hap' rd10 nil10 b10 hnf hth1 hth2 HC10 HB9 HT9
 go_wp2_with fail
 refine HC11.out.mono ?_
 rintro e w11 hb11
 obtain ⟨id11,O11,T11,rfl,p1,p2,p2',p3,p4,p5,p6⟩:=hb11.good (mapOk_right HC2.out)
 have B11:Below w.heap.size w w11:=Below.onl HB10.out p6 (fun i q=>by have:=HLO9.out i q; omega) (Nat.le_refl _)
 have hT11:T11=T9:=p3.1.trans HTH.out.1
 have hid11:id11=id9:=p3.2.trans HTH.out.2
 subst hid11
 subst hT11
 have C12:=tBuild_any p4 a' c' gs (HZ.out.rd.below B11) HZ.out.nil (by have:=HN3.out; omega) HZ.out.sz (fun ok=>by have:=room_next p4.len (by have:=HP9.out.2.2.1; omega) ok (by have:=HN3.out; omega); exact ⟨this.1,by have:=HP9.out.2.2.1; omega⟩)
 rw [← HN3.out] at C12
 have HC12:=hide C12
 have HB11:=hide B11
 have HLO11:=hide p4.lo
 have hs11:=B11.size
 clear C12 p1 p2 p2' p3 p4 p5 p6 B11 hb11 HC11 HB10 HTH
 go_wp2_with fail
 refine HC12.out.mono ?_
 rintro e w12 hb12
 obtain ⟨id12,O12,T12,rfl,p1,p2,p2',p3,p4,p5,p6⟩:=hb12.good HE6.out.symm
 have B12:Below w.heap.size w w12:=Below.onl HB11.out p6 (fun i q=>by have:=HLO11.out i q; omega) (Nat.le_refl _)
 have hT12:T12.length≤16000:=by
  have h1:=p4.len
  have h2:=room_next HP9.out.2.1 (by have:=HP9.out.2.2.1; omega) HOG.out (by have:=HN3.out; omega)
  rw [p3.1] at h1 ⊢
  have:=HP9.out.2.2.1
  omega
 have hq1:(id12=id11)↔gs=fs':=by
  constructor
  ·intro q
   subst q
   exact RootOf.inj hT12 HOG.out HC2.out (by have:=HN3.out; omega) (by omega) p1 (HP9.out.1.sub p2)
  ·intro q
   subst q
   exact RootOf.one p4.nodup p1 (HP9.out.1.sub p2)
 have hq2:(id12=id)↔es=gs:=by
  constructor
  ·intro q
   subst q
   exact RootOf.inj hT12 HOK.out HOG.out (by have:=HN1.out; omega) (by have:=HN3.out; omega) (HR9.out.sub p2) p1
  ·intro q
   subst q
   exact RootOf.one p4.nodup p1 (HR9.out.sub p2)
 have hi1:((id12:Int) == (id11:Int))=decide (gs=fs'):=by
  rw [Bool.eq_iff_iff]
  simp only [beq_iff_eq,decide_eq_true_eq]
  rw [← hq1]
  omega
 have hi2:((id12:Int) == (id:Int))=decide (es=gs):=by
  rw [Bool.eq_iff_iff]
  simp only [beq_iff_eq,decide_eq_true_eq]
  rw [← hq2]
  omega
 have C13:=rapply_any w12 a b c d es l (HX.out.rd.below B12) (HY.out.rd.below B12) (by have:=HN1.out; omega) (by have:=HN2.out; omega) (riseE_iff.2 HOK.out.rise) HX.out.nil
 rw [← HN1.out,← HN2.out] at C13
 have HC13:=hide C13
 have HB12:=hide B12
 have hs12:=B12.size
 clear C13 p1 p2 p2' p3 p4 p5 p6 B12 hb12 HC12 HB11 hq1 hq2 hT12
 go_wp2_with fail
 refine HC13.out.mono ?_
 rintro e w13 ⟨fs2,va2,vc2,rfl,hap',rd13,nil13,_,b13⟩
 have hfs:=hap'.uniq HAP.out
 subst hfs
 have B13:Below w.heap.size w w13:=HB12.out.trans (b13.mono hs12)
 have C14:=sameEn_any a' c' gs va2 vc2 fs2 w13 (HZ.out.rd.below B13) rd13 (by have:=HN3.out; omega)
 rw [← HN3.out,← HNF.out] at C14
 rw [← HNF.out]
 have HC14:=hide C14
 have HB13:=hide B13
 clear C14 hap' rd13 nil13 b13 HC13 HB12 B13
 go_wp2_with fail
 refine HC14.out.mono ?_
 rintro e w14 ⟨rfl,b14⟩
 have B14:Below w.heap.size w w14:=HB13.out.trans (b14.mono HB13.out.size)
 have C15:=sameEn_any a c es a' c' gs w14 (HX.out.rd.below B14) (HZ.out.rd.below B14) (by have:=HN1.out; omega)
 rw [← HN1.out,← HN3.out] at C15
 have HC15:=hide C15
 have HB14:=hide B14
 clear C15 b14 HC14 HB13 B14
 generalize decide (gs=fs2)=D1 at *
 generalize decide (es=gs)=D2 at *
 go_wp2_with fail
 refine HC15.out.mono ?_
 rintro e w15 ⟨rfl,b15⟩
 have HB15:=hide (HB14.out.trans (b15.mono HB14.out.size))
 clear b15 HC15
 go_wp2
 go_ret
 exact ⟨by simp,HB15.out⟩
end Go.Proofs.YtfippaeoklnceaaGreat
