import Derived.Test.YtdhebpnkfookcaaGreatSM50
set_option maxRecDepth 100000
set_option maxHeartbeats 16000000
namespace Go.Proofs.YtdhebpnkfookcaaGreat
open Go.RowKit Go.Shelf Apo
attribute [local go_sem ↓] app_exec
theorem conv_twos (x y:Int) (w:World):(convert 41 9 (Value.slice (some ⟨w.heap.size,0,none⟩) 2 2)).run Tryz.prog (w.alloc (Obj.cells #[Value.int IntKind.u8 x,Value.int IntKind.u8 y] 5))=.ok (.string (strOfNums [x,y])) (w.alloc (Obj.cells #[Value.int IntKind.u8 x,Value.int IntKind.u8 y] 5)) :=
 (rd_lit2 .u8 w 5 x y).conv 41 5 9 Tryz.underlying41 Tryz.underlying5 Tryz.underlying9 2
def kyEd (k:ByteArray):Ed:=⟨k,⟨#[118]⟩,false⟩
theorem many18 (w:World) (n:Int) (hn0:-9223372036854775808<=n) (hn1:n<=9223372036854775807) (x:StA) (hx:OkSt w x) :
  Calls Tryz.prog 4 #[.int .i64 n,.slice x.a x.l.length x.c] w fun e w'=>e=.returned (.bool true)/\Below w.heap.size w w':=by
 obtain ⟨a,c,ks⟩:=x;simp only;have hml:maxLen<=9223372036854775807:=by decide
 have hb1:=hx.big;have hl1:=hx.len;simp only at hb1 hl1;have HX:=Za hx;obtain ⟨nk,hnk⟩:∃ n,n=ks.length:=⟨_,rfl⟩;have HNK:=Za hnk;rw [<- hnk] at hl1 ⊢;have HAW:=Za (awake18 w);clear hx hnk;go_enter Tryz.func4,Tryz.ntmps4
 go_wp2_with fail
 refine HAW.out.mono ?_;rintro e w0 ⟨rfl,b0⟩;have HB0:=Za b0;clear b0 HAW;by_cases hlo:n < 390
 ·have hd:decide (n < 390)=true:=decide_eq_true hlo;go_wp2;go_ret
  exact ⟨rfl,HB0.out⟩
 have hd1:decide (n < 390)=false:=decide_eq_false hlo;by_cases hhi:400 < n
 ·have hd:decide (n > 400)=true:=decide_eq_true hhi;have hd':decide (400 < n)=true:=decide_eq_true hhi;go_wp2;go_ret
  exact ⟨rfl,HB0.out⟩
 have hd2:decide (n > 400)=false:=decide_eq_false hhi;have hd2':decide (400 < n)=false:=decide_eq_false hhi;by_cases hk30:30 < nk
 ·have hd:decide ((nk:Int) > 30)=true:=decide_eq_true (by omega);have hd':decide ((30:Int) < (nk:Int))=true:=decide_eq_true (by omega);go_wp2;go_ret
  exact ⟨rfl,HB0.out⟩
 have hd3:decide ((nk:Int) > 30)=false:=decide_eq_false (by omega);have hd3':decide ((30:Int) < (nk:Int))=false:=decide_eq_false (by omega);obtain ⟨N,rfl⟩:∃ N:Nat,n=(N:Int):=⟨n.toNat,by omega⟩;go_wp2;clear hd1 hd2 hd2' hd3 hd3';go_loopw [5,6] (fun v i wr=>∃ (k:Nat) (va:Option Addr) (vc:Nat),k<=N/\i=.int .i64 k/\v=.slice va k vc/\Hid (Row (fun g=>w0.heap.size<=g) wr 43 2 (.slice va k vc) (mE k).length (Zo (mE k)))/\Hid (Below w0.heap.size w0 wr)) (fun _ i _=>N - (intOf i).toNat)
 case atStart=>exact ⟨0,none,0,Nat.zero_le _,rfl,rfl,Za (Row.nil _ _ _ _),Za (Below.refl _ _)⟩
 case round =>
  obtain ⟨k,va,vc,hk,rfl,rfl,HRr,HBr⟩:=hrel;by_cases hkn:k < N
  ·have hd:decide ((k:Int) < (N:Int))=true:=decide_eq_true (by omega);have cv:=conv_twos (97+(k:Int) / 26) (97+(k:Int) % 26) wr;obtain ⟨W1,hW1⟩:∃ W1,W1=wr.alloc (Obj.cells #[Value.int IntKind.u8 (97+(k:Int) / 26),Value.int IntKind.u8 (97+(k:Int) % 26)] 5):=⟨_,rfl⟩;have b1:Below wr.heap.size wr W1:=by rw [hW1];exact (Below.refl _ wr).alloc (Nat.le_refl _) _
   have hk2:(mkE k).k=strOfNums [97+(k:Int) / 26,97+(k:Int) % 26]:=rfl;have hv2:(mkE k).v=⟨#[]⟩:=rfl;obtain ⟨K,hK⟩:∃ K,K=strOfNums [97+(k:Int) / 26,97+(k:Int) % 26]:=⟨_,rfl⟩;rw [<- hK] at cv hk2;have bL:Below W1.heap.size W1 (W1.alloc (.cells #[.string (mkE k).k,.string (mkE k).v] 43)):=(Below.refl _ _).alloc (Nat.le_refl _) _;have r1:=(HRr.out.onl (F:=fun _=>False) (Onl.ofBelow b1) (fun _ _ q=>q)).onl (F:=fun _=>False) (Onl.ofBelow bL) (fun _ _ q=>q);obtain ⟨v8,w8,RR,r8,o8,ow8⟩:=app_Es (es:=[mkE k]) (c:=1) (y:=⟨W1.heap.size,0,none⟩) r1 (by rw [mE_len];simp;omega) (rd_litW _ (mkE k));rw [<- mE_succ] at r8;obtain ⟨va8,vc8,hva8,_⟩:=r8.form;rw [mE_len] at hva8;rw [hva8] at r8 RR ow8;rw [show [mkE k].length=1 from rfl,hk2,hv2] at RR;have B8:Below w0.heap.size w0 w8:=Below.onl ((HBr.out.trans (b1.mono HBr.out.size)).trans (bL.mono (by have:=HBr.out.size;have:=b1.size;omega))) o8 (fun i q=>HRr.out.2 i q) (Nat.le_refl _);have HFIN:=Za (And.intro (show Row (fun g=>w0.heap.size<=g) w8 43 2 (.slice va8 (k+1) vc8) (mE (k+1)).length (Zo (mE (k+1))) from ⟨r8.1,fun g hg=>(r8.2 g hg).elim (fun z=>z) (fun z=>by have:=HBr.out.size;have:=b1.size;simp at z;omega)⟩) B8);rw [hW1,World.size_alloc] at RR;obtain ⟨x1,x2,x3⟩:=Zi RR;clear b1 bL r1 r8 o8 ow8 hva8 B8 RR hk2 hv2 hK hW1;go_wp2;go_roundw
   case rel=>exact ⟨k+1,va8,vc8,by omega,by simp,rfl,Za HFIN.out.1,Za HFIN.out.2⟩
   case measure=>simp [intOf];omega
  ·have hd:decide ((k:Int) < (N:Int))=false:=decide_eq_false (by omega);obtain rfl:k=N:=by omega
   have HB1:=Za (HB0.out.trans (HBr.out.mono HB0.out.size));obtain ⟨la,lc,hlv,rdl,hlc,_,hln⟩:=rd_ecells HRr.out;rw [mE_len] at hlv;injection hlv with e1 e2 e3
   subst e1 e3;have HRD:=Za rdl;have hlt0:=HRr.out.lt
   have HLA:Hid (∀ x,va=some x->x.block < wr.heap.size):=Za (fun x hx=>by
    obtain ⟨g,of,sp⟩:=x;subst hx;exact hlt0 g rfl)
   have HCS:=Za (tstore_any wr);clear rdl e2 hlc hd hlt0;have HLN:=Za hln;clear hln;go_wp2_with fail
   refine HCS.out.mono ?_;rintro e w7 ⟨s,O7,rfl,t7⟩;have HB7:=Za (HB1.out.trans (t7.bel.mono HB1.out.size));have C8:=tBuild_any t7 va vc (mE k) (HRD.out.below t7.bel) HLN.out (by rw [mE_len];omega) (fun e he=>by have:=mE_key he;unfold maxLen;omega) (fun _=>⟨mE_flat (by omega),Nat.le_trans (many_first (by omega)) (by decide)⟩);rw [mE_len] at C8;have HC8:=Za C8;have HLO7:=Za t7.lo;have HT7:=Za t7.bel;clear C8 t7 HCS;go_wp2_with fail
   refine HC8.out.mono ?_;rintro e w8 hb8;obtain ⟨id,O8,T8,rfl,p1,p2,p2',p3,p4,p5,p6⟩:=hb8.good (mapOk_right18 (mE_ok (by omega)));have B8:Below w.heap.size w w8:=Below.onl HB7.out p6 (fun i q=>by have:=HLO7.out i q;have:=HB1.out.size;omega) (Nat.le_refl _);have BR8:Below wr.heap.size wr w8:=Below.onl HT7.out p6 (fun i q=>HLO7.out i q) (Nat.le_refl _);have hp8:pgT T8<=1320:=by rw [p3.1];exact many_first (by omega)
   have tx8:TxOk T8:=p2' (fun t ht=>by simp at ht);have HP8:=Za (And.intro p1 (And.intro hp8 (And.intro tx8 p4)));have HLO8:Hid (∀ i,O8 i->wr.heap.size<=i):=Za p4.lo;have HHI8:Hid (∀ i,O8 i->i < w8.heap.size):=Za p4.hi;have HB8:=Za B8;have HRD8:=Za (HRD.out.below BR8);clear p1 p2 p2' p3 p4 p5 p6 hp8 tx8 B8 BR8 hb8 HC8 HLO7 HT7 HB7 HRD;go_wp2;go_loopw [10,57] (fun v i wq=>∃ (j:Nat) (ea:Option Addr) (ec:Nat),j<=nk/\i=.int .i64 j/\v=.slice ea j ec/\Hid (Row (fun g=>w8.heap.size<=g) wq 46 3 (.slice ea j ec) ((ks.take j).map kyEd).length (Zk cEd ((ks.take j).map kyEd)))/\Hid (∀ q ∈ ks.take j,Z2 q=0)/\Hid (Below w8.heap.size w8 wq)) (fun _ i _=>nk - (intOf i).toNat)
   case atStart=>exact ⟨0,none,0,Nat.zero_le _,rfl,rfl,Za (Row.nil _ _ _ _),Za (fun q hq=>by simp at hq),Za (Below.refl _ _)⟩
   case round =>
    obtain ⟨j,ea,ec,hj,rfl,rfl,HRq,HKq,HBq⟩:=hrel;have BW:=Za (HB8.out.trans (HBq.out.mono HB8.out.size));by_cases hjn:j < nk
    ·obtain ⟨q,hq⟩:∃ q,ks[j]?=some q:=⟨ks[j]'(by have:=HNK.out;omega),List.getElem?_eq_getElem _⟩;obtain ⟨g,o,rfl,c0⟩:=(HX.out.rd.below BW.out).tx hq;have hqz:=HX.out.sz q (List.mem_of_getElem? hq);have HQ:=Za hq;clear hq;by_cases hq60:q.size<=60
     rotate_left
     ·have hd:decide ((q.size:Int) > 60)=true:=decide_eq_true (by omega);have hd':decide ((60:Int) < (q.size:Int))=true:=decide_eq_true (by omega);go_wp2;go_ret
      exact ⟨rfl,BW.out⟩
     have hd:decide ((q.size:Int) > 60)=false:=decide_eq_false (by omega);have hd':decide ((60:Int) < (q.size:Int))=false:=decide_eq_false (by omega);have HK:=Za (fun W=>rkey_any q W (by omega));obtain ⟨K,hK⟩:∃ K,K=Z2 q:=⟨_,rfl⟩;rw [<- hK] at HK;have HKE:=Za hK;clear hK;go_wp2_with fail
     refine (HK.out _).mono ?_;rintro e w11 ⟨rfl,rfl⟩;by_cases hK0:K=0
     rotate_left
     ·have hk2:(K != 0)=true:=by simpa using hK0
      go_wp2;go_ret
      exact ⟨rfl,BW.out⟩
     subst hK0;have bL:Below wr.heap.size wr (wr.alloc (.cells #[.string q,.string ⟨#[118]⟩,.bool false] 46)):=(Below.refl _ _).alloc (Nat.le_refl _) _;have r1:=HRq.out.onl (F:=fun _=>False) (Onl.ofBelow bL) (fun _ _ q=>q);have rl:RdG cEd 3 (wr.alloc (.cells #[.string q,.string ⟨#[118]⟩,.bool false] 46)) (some ⟨wr.heap.size,0,none⟩) [kyEd q]:=rd_lit 46 wr (kyEd q);have hlj:((ks.take j).map kyEd).length=j:=by rw [List.length_map,List.length_take];have:=HNK.out;omega
     obtain ⟨v8,x8,RR,r8,o8,ow8⟩:=app_ed (cp:=1) r1 (by rw [hlj];simp;omega) rl;have htk:(ks.take (j+1)).map kyEd=(ks.take j).map kyEd++[kyEd q]:=by rw [List.take_add_one,HQ.out];simp
     rw [<- htk] at r8;have hlj1:((ks.take (j+1)).map kyEd).length=j+1:=by rw [List.length_map,List.length_take];have:=HNK.out;omega
     obtain ⟨ea8,ec8,hv8,_⟩:=r8.form;rw [hlj1] at hv8;rw [hv8] at r8 RR ow8;rw [show [kyEd q].length=1 from rfl] at RR;have B9:Below w8.heap.size w8 x8:=Below.onl (HBq.out.trans (bL.mono HBq.out.size)) o8 (fun i q=>HRq.out.2 i q) (Nat.le_refl _);have HFIN:=Za (And.intro (show Row (fun g=>w8.heap.size<=g) x8 46 3 (.slice ea8 (j+1) ec8) ((ks.take (j+1)).map kyEd).length (Zk cEd ((ks.take (j+1)).map kyEd)) from ⟨r8.1,fun g hg=>(r8.2 g hg).elim (fun z=>z) (fun z=>by have:=HBq.out.size;simp at z;omega)⟩) B9)
     have HKN:Hid (∀ z ∈ ks.take (j+1),Z2 z=0):=Za (fun z hz=>by
      rw [List.take_add_one,HQ.out] at hz;rcases List.mem_append.1 hz with y | y
      ·exact HKq.out z y
      ·have:z=q:=by simpa using y
       rw [this];exact HKE.out.symm)
     obtain ⟨x1,x2,x3⟩:=Zi RR;clear bL r1 rl hlj r8 o8 ow8 htk hlj1 hv8 B9 RR;go_wp2;go_roundw
     case rel=>exact ⟨j+1,ea8,ec8,by omega,by go_num,rfl,Za HFIN.out.1,HKN,Za HFIN.out.2⟩
     case measure=>simp [intOf];omega
    ·obtain rfl:j=nk:=by omega
     have htk:ks.take j=ks:=List.take_of_length_le (by have:=HNK.out;omega);rw [htk] at HRq HKq;have hll:(ks.map kyEd).length=j:=by rw [List.length_map];exact HNK.out.symm
     have hown:=HRq.out.2;have hlt:=HRq.out.lt;obtain ⟨_,_,hv,rde,_⟩:=rd_gcells cEd_len HRq.out;rw [hll] at hv;injection hv with e1 e2 e3
     subst e1 e3
     have HLB:Hid (∀ x,ea=some x->x.block < wr.heap.size/\w8.heap.size<=x.block):=Za (fun x hx=>by
      obtain ⟨g,of,sp⟩:=x;subst hx;exact ⟨hlt g rfl,hown g rfl⟩)
     have HDE:=Za rde;have C:=rapply_lie wr va ea vc ec (mE k) (ks.map kyEd) (HRD8.out.below HBq.out) rde (by rw [mE_len];omega) (by rw [hll];omega) (riseE_iff.2 (mE_ok (by omega)).rise) HLN.out (fun g=>¬ O8 g) (fun x hx q=>by have h1:=HLA.out x hx;have h2:=HLO8.out _ q;omega) (fun g hg q=>by have h1:=HHI8.out _ q;have h2:=HBq.out.size;omega);rw [mE_len,hll] at C;have HC:=Za C;have HLL:=Za hll
     have HEE:Hid (∀ x ∈ ks.map kyEd,edE x=0):=Za (fun x hx=>by
      obtain ⟨q,hq,rfl⟩:=List.mem_map.1 hx;rw [show kyEd q=⟨q,⟨#[118]⟩,false⟩ from rfl,edE_put,if_neg (by simp [HKq.out q hq])];decide)
     have HZZ:Hid (∀ x ∈ ks.map kyEd,x.k.size<=maxLen/\x.v.size<=maxLen):=Za (fun x hx=>by
      obtain ⟨q,hq,rfl⟩:=List.mem_map.1 hx;exact ⟨HX.out.sz q hq,by show (1:Nat)<=maxLen;decide⟩)
     clear C htk hown hlt rde hll e2 HRq HKq;go_wp2_with fail
     refine HC.out.mono ?_;rintro e w20 ⟨fs,wa,wc,rfl,hapw,rdw,_,hwo,hwl,b20⟩;obtain ⟨p1,hp8,tx8,p4⟩:=HP8.out;have hlen8:=p4.len;have hO:=p4.hi;have b820:Below w8.heap.size w8 w20:=HBq.out.trans (b20.mono HBq.out.size);have hs20:=b20.size
     have CD:=wdo_anyB (p4.below b820) (by omega) tx8 p1 (mE_ok (by omega)) (mE_flat (by omega)) ea ec (ks.map kyEd) (HDE.out.below b20) (fun x hx=>by
      have h1:=HLB.out x hx;exact ⟨by omega,fun q=>by have:=hO _ q;omega⟩) (by rw [mE_len,HLL.out];omega) HEE.out HZZ.out (fun gs _ h2 h3 _=>by
      rw [HLL.out] at h2;have:=many_room (n:=k) (m:=j) (by omega) (by omega) h2 h3;exact ⟨this.1,this.2 T8 (by omega) hp8⟩)
     rw [HLL.out] at CD;have HCD:=Za CD;have HW:=Za (And.intro hapw (And.intro rdw hwo));have HB20:=Za (BW.out.trans (b20.mono BW.out.size));have HB8':=Za b820;obtain ⟨nf,hnf⟩:∃ n,n=fs.length:=⟨_,rfl⟩;have HNF:=Za hnf;rw [<- hnf];have hnf9:nf<=600:=by rw [hnf];have:=mE_len k;have:=HLL.out;omega
     clear CD hapw rdw hwo hwl b20 p1 tx8 p4 hlen8 hO b820 hs20 hnf HC hp8;go_wp2_with fail
     refine HCD.out.mono ?_;rintro e w21 ⟨gs,xid,O',T',hap,hch,okf,hfl,rfl,r1,r2,r2',r3,r4,r5,r6⟩;have hgs:gs=fs:=hap.uniq HW.out.1;subst hgs;obtain ⟨p1,hp8,tx8,p4⟩:=HP8.out;have hlen8:=p4.len;have B21:=Za (Below.onl HB20.out r6 (fun i q=>by have h1:=HLO8.out i q;have h2:=HB1.out.size;omega) (Nat.le_refl _));rw [HLL.out] at hch;have hroom:=many_room (n:=k) (m:=j) (by omega) (by omega) hch okf
     have hT':T'.length<=16000:=by
      have h1:=r4.len;have h2:=hroom.2 T8 (by omega) hp8;rw [r3.1] at h1 ⊢;omega
     have CT:=tells18B r4 hT' (r2' tx8) r1 okf (by have:=HNF.out;omega) hroom.1 wa wc gs (RdEn.off HW.out.2.1 r6 (fun y hy _=>HW.out.2.2 y hy));rw [<- HNF.out] at CT ⊢;have HCT:=Za CT;clear CT r1 r2 r2' r3 r4 r5 r6 hap hch okf hfl p1 tx8 p4 hlen8 hroom hT' hp8 HCD;by_cases hn:nf<=400
     ·have hd:decide ((nf:Int) > 400)=false:=decide_eq_false (by omega);have hd':decide ((400:Int) < (nf:Int))=false:=decide_eq_false (by omega);rw [if_pos hn,if_pos hn];go_wp2_with fail
      refine HCT.out.mono ?_;rintro e w22 ⟨rfl,b22⟩;have HF:=Za (B21.out.trans (b22.mono B21.out.size));clear b22;go_wp2;go_ret
      exact ⟨by simp,HF.out⟩
     ·have hd:decide ((nf:Int) > 400)=true:=decide_eq_true (by omega);have hd':decide ((400:Int) < (nf:Int))=true:=decide_eq_true (by omega);rw [if_neg hn,if_neg hn];go_wp2;go_ret
      exact ⟨rfl,B21.out⟩
end Go.Proofs.YtdhebpnkfookcaaGreat
