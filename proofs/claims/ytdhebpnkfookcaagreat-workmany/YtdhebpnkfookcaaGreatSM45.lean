import Derived.Test.YtdhebpnkfookcaaGreatSM44
set_option maxRecDepth 100000
set_option maxHeartbeats 16000000
namespace Go.Proofs.YtdhebpnkfookcaaGreat
section
open Go.RowKit Go.Shelf Apo
attribute [local go_sem] Oper.semAt_some
attribute [local go_sem ↓] app_sem
def KyP (es:List En) (l:List Ed) (W:World) (e:Ending) (W':World):Prop:=∃ fs,ApR es l fs/\e=.returned (.int .i64 (fs.length:Int))/\Below W.heap.size W W'
theorem fin_keys {X:World} {tmps:Array Value} {D:Nat} {n:Int} {Q:Ending->World->Prop} (h1:X.heap[D]?=some (.deferred (some []))) (hr:tmps.getD 6 undef=.int .i64 n) (hQ:Q (.returned (.int .i64 n)) (X.putObj D (.deferred none))) :
  bodyPostM Fence.wide 1 Tryz.prog Tryz.f37 Q Exit.ret { tmps:=tmps,defers:=[{ target:=.collected D,args:=#[] }] } X:=by
 refine ⟨by simp,.inl ⟨_,_,rfl,run_takeDeferred h1,?_⟩⟩;exact ⟨_,results_tmp rfl _ _ _,by rw [hr];exact hQ⟩
theorem wkeys_any {w W:World} {s m:Nat} {O:Nat->Prop} {T:List (List Int)} (h:TSw w W s O T m) (hT:T.length<=16000) (hx:TxOk T) (root:Nat) (ls:List (Nat × List En)) (ht:RootT T root ls) (hpos:∀ p ∈ ls,0 < p.2.length) (hsz:(ls.flatMap (fun p=>p.2)).length<=1000) (ea:Option Addr) (ec:Nat) (l:List Ed) (hl:RdG cEd 3 W ea l) (hlb:∀ x,ea=some x->x.block < W.heap.size) (hll:l.length<=1000) :
  Calls Tryz.prog 37 #[.pointer (some ⟨s,0,none⟩),.int .u64 root,.slice ea l.length ec] W (KyP (ls.flatMap (fun p=>p.2)) l W):=by
 refine (callsIn_wide (n:=1)).1 ?_;obtain ⟨W0,hW0⟩:∃ W0,W0=W.alloc (.cells #[.slice none 0 0] 22):=⟨_,rfl⟩;have b0:Below W.heap.size W W0:=by rw [hW0];exact (Below.refl _ W).alloc (Nat.le_refl _) _
 have k0:Ob W0 W.heap.size 22 [.slice none 0 0]:=by rw [hW0];exact Ob.new W [.slice none 0 0] 22
 have C:=tall_any (h.below b0) hT hx root ls ht hpos hsz;obtain ⟨es,hes⟩:∃ es,es=ls.flatMap (fun p=>p.2):=⟨_,rfl⟩;rw [<- hes] at C hsz ⊢;obtain ⟨nl,hnl⟩:∃ n,n=l.length:=⟨_,rfl⟩;have HNL:=Za hnl;have HC:=Za C;have HL:=Za (hl.below b0);have HB0:=Za b0;have HK0:=Za k0;have HSZ:=Za hsz;have HLB:=Za hlb;rw [<- hnl] at hll ⊢;clear C h hT hx ht hpos hes hl hnl b0 k0 hsz hlb;refine callsIn_of_wp_marks Tryz.func37 rfl trivial ?_ rfl;simp only [Tryz.ntmps37,List.size_toArray,List.length_cons,List.length_nil,Nat.reduceAdd,Nat.reduceSub,Array.replicate_succ,Array.replicate_zero,List.push_toArray,List.append_toArray,List.nil_append,List.cons_append];gi_wp2_with fail
 rw [<- hW0];clear hW0;refine ⟨trivial,(callsIn_wide.2 HC.out).mono ?_⟩;rintro e w1 ⟨Bs,v,hBs,rfl,kB,rowA,bA⟩;obtain ⟨bx,hbx⟩:∃ bx,bx=W.heap.size:=⟨_,rfl⟩;have k1:=HK0.out.old bA;rw [<- hbx] at k1 ⊢;have HBX:=Za hbx;have hsz0:=HB0.out.size;have hs1:=bA.size;have hlt0:=HK0.out.lt;clear hbx;gi_wp2
 refine range_two (gf:=108) (lb:=#[.pointer (some ⟨Bs,0,none⟩)]) rfl enter_all1 (fun W2=>(∃ r2,W2.heap[w1.heap.size+1]?=some (.loop r2))/\∃ v2,Ob W2 bx 22 [v2]/\Row (fun g=>w1.heap.size+2<=g) W2 43 2 v2 es.length (Zo es)/\Onl (fun i=>i=bx) w1 W2) (fun _ _=>False) ?call ?done ?stop
 case call =>
  intro fn r rd W1 hr' hrd lp1 b1 s1;have ha:=congrArg Loop.assign hr';have hb:=congrArg Loop.body hr';have hpa:=congrArg Loop.params hr';have htm:=congrArg Loop.tmps hr'
  have H2:TellsE es.length (fun k=>es.getD k ⟨ByteArray.empty,ByteArray.empty⟩) (w1.heap.size+1) (w1.heap.size+2) (fun _=>False) (BxJ w1.heap.size r bx [] es) (fun _ _ _=>False):=by
   refine ⟨fun k U A B hj hb=>hj.below hb,fun k U A hj=>hj.lt,fun k U A l o o' hj hl hA hc=>hj.put hl hA hc,fun k U A l o o' hj hl hA hc=>hj.elim,fun k U A hj hk nn=>?_⟩;obtain ⟨x,hx⟩:∃ x,es[k]?=some x:=⟨es[k],List.getElem?_eq_getElem hk⟩;have hgd:es.getD k ⟨ByteArray.empty,ByteArray.empty⟩=x:=by simp [List.getD_eq_getElem?_getD,hx]
   simp only [hgd];obtain ⟨rb,hrb⟩:∃ rb,rb={ r with state:=.busy }:=⟨_,rfl⟩;obtain ⟨A2,hA2⟩:∃ A2,A2=A.putObj (w1.heap.size+1) (.loop rb):=⟨_,rfl⟩;obtain ⟨va,vc,va8,vc8,w8,a1,_,RR,a4,a5,_,a7,a8⟩:=bx_app hj hx (by simp) (by have:=HSZ.out;omega) rb A2 hA2;show YieldAt Fence.wide nn Tryz.prog (w1.heap.size+1) _ A (fun e A'=>(e=.returned (.bool true)/\∃ U':Nat->Prop,BxJ w1.heap.size r bx [] es (k+1) U' A'/\Onl U A A'/\∀ i,U' i->U i\/A.heap.size<=i)\/(e=.returned (.bool false)/\∃ U':Nat->Prop,False/\Onl (fun i=>U i\/False) A A'/\∀ i,U' i->U i\/A.heap.size<=i))
   refine yield_two hrb hrd (by rw [hr'];rfl) (by rw [hr'];rfl) ha hb hpa htm hj.lp rfl ?_;simp only [recL]
   have HF:Hid (∀ a3:Act,TwoP w1.heap.size r rb rd (fun A'=>∃ U',BxJ w1.heap.size r bx [] es (k+1) U' A'/\Onl U A A'/\∀ i,U' i->U i\/A.heap.size<=i) (fun A'=>∃ U':Nat->Prop,False/\Onl (fun i=>U i\/False) A A'/\∀ i,U' i->U i\/A.heap.size<=i) .normal a3 (w8.setCell ⟨bx,0,none⟩ (.slice va8 (k+1:Nat) vc8))):=Za (fun a3=>by
    obtain ⟨U',u1,_,u3,u4⟩:=a8 r;exact .inl ⟨rfl,a7,U',u1,u3 rfl,u4⟩)
   have z1:=a1.cell 0;have z1f:=a1.frozen 0;have y8:=a4.cell 0;have y8f:=a4.frozen 0;simp only [List.getElem?_cons_zero] at z1 y8;obtain ⟨x1,x2,x3⟩:=Zi RR;have HLPA:=Za hj.lp;clear hj hx hgd ha hb hpa htm hr' hrd hrb a1 RR a4 a5 a7 a8;gi_wp2
   rw [<- hA2];refine ⟨HLPA.out,?_⟩;clear hA2;gi_wp2
   exact HF.out _
  have hj1:BxJ w1.heap.size r bx [] es 0 (fun i=>i=bx) W1:=⟨lp1,Nat.zero_le _,⟨.slice none 0 0,k1.old b1,by rw [List.take_zero];exact Row.nil _ _ _ _,fun i=>by simp [Value.ownBlock]⟩,by simp⟩
  have HX1:∀ i,v.ownBlock=some i->¬ (i=bx):=fun i hi q=>by
   have:=(rowA.apartOb k1 (by decide));rw [hi,q] at this;exact this rfl
  have C:=all1_in es (by have:=HSZ.out;omega) H2 (fun i e h=>by simp [List.getD_eq_getElem?_getD,h]) (1 - 1) W1 Bs v (fun i=>i=bx) hj1 (kB.old b1) ((rowA.mono (fun _ _=>trivial)).onl (F:=fun _=>False) (Onl.ofBelow b1) (fun _ _ q=>q)) HX1;refine C.mono ?_;rintro e W2 ⟨hv,⟨U',j2,o2,u2⟩ | ⟨k2,U',hk2,j2,o2,u2⟩⟩
  ·obtain ⟨v2,q1,q2,q3⟩:=j2.got;rw [List.take_length] at q2;exact ⟨hv,.inl ⟨j2.lp,⟨_,j2.lp.1⟩,v2,q1,q2,(Onl.ofBelow b1).trans o2⟩⟩
  ·exact j2.elim
 case stop =>
  rintro c W2 o q;exact q.elim
 case done =>
  rintro W2 o ⟨⟨r2,l2⟩,v2,kx2,rowG,oG⟩ dd dl;have hsz2:=oG.size;have oa:Onl (fun i=>i=w1.heap.size+1) W2 (W2.putObj (w1.heap.size+1) o):=put_onl _;obtain ⟨W8,hW8⟩:∃ W8,W8=W2.putObj (w1.heap.size+1) o:=⟨_,rfl⟩;rw [<- hW8] at oa ⊢;have ed:W8.heap[w1.heap.size]?=some (.deferred (some [])):=(oa.block _ (by omega) (by omega)).trans dd;have kx8:=kx2.onl oa (fun q=>ob_loopW kx2 l2 rfl q);have row8:=rowG.onl oa (fun g hg z=>Row.noLoop rowG l2 rfl (by rw [<- z];exact hg));have B1:=HB0.out.trans (bA.mono HB0.out.size);have B2:=Below.onl B1 oG (fun i q=>by have:=HBX.out;omega) (Nat.le_refl _);have B8:Below W.heap.size W W8:=Below.onl B2 oa (fun i q=>by omega) (Nat.le_refl _);obtain ⟨ga,gc,hgv,rdG,_⟩:=rd_ecells row8;subst hgv;have hbxl:=k1.lt;have rdl:RdG cEd 3 W8 ea l:=((HL.out.below bA).onl oG (fun x hx q=>by have:=HLB.out x hx;have:=HBX.out;omega)).onl oa (fun x hx q=>by have:=HLB.out x hx;omega);have CA:=daapply W8 ga ea gc ec es l rdG rdl (by have:=HSZ.out;omega) (by have:=HNL.out;omega);obtain ⟨n,hn⟩:∃ n,n=es.length:=⟨_,rfl⟩;have x0:=kx8.cell 0;simp only [List.getElem?_cons_zero] at x0;rw [<- hn] at x0;rw [<- hn,<- HNL.out] at CA;have HCA:=Za CA;have HED:=Za ed;have HB8:=Za B8;have hdw:W.heap.size<=w1.heap.size:=by omega
  clear hsz2 oa hW8 ed kx8 row8 B1 B2 B8 rdG rdl CA hn kx2 rowG oG dd dl l2 kB rowA bA k1 HK0 HC HL;gi_wp2_with fail
  refine ⟨trivial,(callsIn_wide.2 HCA.out).mono ?_⟩;rintro e w9 ⟨fs,fa,fc,rfl,hap,_,b9⟩;have ed9:w9.heap[w1.heap.size]?=some (.deferred (some [])):=(b9.block _ (Array.getElem?_eq_some_iff.1 HED.out).1).trans HED.out;have B9:=HB8.out.trans (b9.mono HB8.out.size);have o5:Onl (fun i=>i=w1.heap.size) w9 (w9.putObj w1.heap.size (.deferred none)):=put_onl _;have HF:Hid (KyP es l W (.returned (.int .i64 (fs.length:Int))) (w9.putObj w1.heap.size (.deferred none))):=Za ⟨fs,hap,rfl,Below.onl B9 o5 (fun i q=>by omega) (Nat.le_refl _)⟩;have HED:=Za ed9;obtain ⟨nf,hnf⟩:∃ n,n=fs.length:=⟨_,rfl⟩;rw [<- hnf] at HF ⊢;clear ed9 B9 o5 hap b9 hnf;gi_wp2
  refine fin_keys HED.out ?_ HF.out;rfl
end
section
open Go.RowKit Go.Shelf Apo
def HdL (U:Nat->Prop) (A:World) (M:ByteArray->Option Value) (T:List (List Int)):Prop :=
 ∀ key v,M key=some v->∃ (xid:Nat) (xa:Option Addr) (xc:Nat) (xs:List En),v=.agg #[.int .u64 (xid:Int),.slice xa xs.length xc]/\OkN A (lfN xa xc xs)/\OffN U (lfN xa xc xs)/\xs.length<=1000000/\T[xid - 1]?=some (ZW ⟨0,xs,[]⟩)/\1<=xid/\xid<=T.length
section
variable {U U' O:Nat->Prop} {A A':World} {M:ByteArray->Option Value} {T:List (List Int)}
theorem HdL.none (U:Nat->Prop) (A:World) (T:List (List Int)):HdL U A (fun _=>none) T:=fun _ _ h=>by cases h
theorem HdL.step (h:HdL U A M T) (o:Onl U A A') (hU:∀ i,U' i->U i\/A.heap.size<=i):HdL U' A' M T:=by
 intro key v hv;obtain ⟨xid,xa,xc,xs,e1,e2,e3,e4,e5,e6,e7⟩:=h key v hv;refine ⟨xid,xa,xc,xs,e1,OkN.off e2 o e3,⟨fun y hy hp q=>?_,fun y hy=>by cases hy⟩,e4,e5,e6,e7⟩;rcases hU _ q with z | z
 ·exact e3.1 y hy hp z
 ·obtain ⟨x0,hx0⟩:∃ x0,xs[0]?=some x0:=⟨xs[0]'hp,List.getElem?_eq_getElem hp⟩;obtain ⟨g,of,f1,f2,_⟩:=e2.es 0 x0 hx0;have hgl:=World.block_lt_of_cell? _ _ f2;have hy':xa=some y:=hy;rw [hy'] at f1;cases f1
  simp only at z hgl;omega
theorem HdL.below (h:HdL U A M T) (b:Below A.heap.size A A'):HdL U A' M T:=h.step (Onl.ofBelow b) (fun _ q=>.inl q)
theorem HdL.put {xid:Nat} {xa:Option Addr} {xc:Nat} {xs:List En} (h:HdL U A M T) (key:ByteArray) (h1:OkN A (lfN xa xc xs)) (h2:OffN U (lfN xa xc xs)) (h3:xs.length<=1000000) (h4:T[xid - 1]?=some (ZW ⟨0,xs,[]⟩)) (h5:1<=xid) (h6:xid<=T.length):HdL U A (updS M key (some (.agg #[.int .u64 (xid:Int),.slice xa xs.length xc]))) T:=by
 intro k v hv;by_cases q:k=key
 ·subst q;rw [updS_same] at hv;cases hv
  exact ⟨xid,xa,xc,xs,rfl,h1,h2,h3,h4,h5,h6⟩
 ·rw [updS_other _ _ q] at hv;exact h k v hv
theorem HdL.hd {hb c:Nat} (h:HdL U A M T) (hM:Ms Tryz.prog 9 A hb c M) (hO:∀ i,O i->U i) (hn:¬ O hb):HdP O A hb T:=by
 refine ⟨c,M,hM,hn,fun key v hv=>?_⟩;obtain ⟨xid,xa,xc,xs,e1,e2,e3,e4,e5,e6,e7⟩:=h key v hv;exact ⟨xid,xa,xc,xs,e1,e2,⟨fun y hy hp q=>e3.1 y hy hp (hO _ q),fun y hy=>by cases hy⟩,e4,e5,e6,e7⟩
end
structure EdJ (W:World) (O:Nat->Prop) (T:List (List Int)) (b d:Nat) (r:Loop) (it:Nat->Nat × List En) (k:Nat) (U:Nat->Prop) (A:World):Prop where
 lp:LpAt d r A
 bel:Below W.heap.size W A
 k0:Ob A W.heap.size 27 [.int .u64 0]
 k1:Ob A (W.heap.size+1) 28 [.int .i64 0]
 kh:Ob A (b+2) 68 [.map (some (b+1))]
 row:∃ v,Ob A b 22 [v]/\Row (fun g=>d+2<=g) A 43 2 v (esK it k).length (Zo (esK it k))/\(∃ M,Ms Tryz.prog 9 A (b+1) k M/\HdL U A M T)/\∀ i,U i↔(O i\/i=b\/i=b+1\/v.ownBlock=some i)
section
variable {W A B:World} {O U:Nat->Prop} {T:List (List Int)} {b d k:Nat} {r:Loop} {it:Nat->Nat × List En}
theorem EdJ.below (h:EdJ W O T b d r it k U A) (hb:Below A.heap.size A B):EdJ W O T b d r it k U B:=by
 obtain ⟨v,v1,v2,⟨M,m1,m2⟩,v3⟩:=h.row;exact ⟨h.lp.below hb,h.bel.trans (hb.mono h.bel.size),h.k0.old hb,h.k1.old hb,h.kh.old hb,v,v1.old hb,v2.onl (F:=fun _=>False) (Onl.ofBelow hb) (fun _ _ q=>q),⟨M,m1.below hb,m2.below hb⟩,v3⟩
theorem EdJ.lt (h:EdJ W O T b d r it k U A) (hO:∀ i,O i->i < W.heap.size):∀ i,U i->i < A.heap.size:=by
 obtain ⟨v,v1,v2,⟨M,m1,m2⟩,v3⟩:=h.row;intro i q;rcases (v3 i).1 q with q | rfl | rfl | q
 ·exact Nat.lt_of_lt_of_le (hO i q) h.bel.size
 ·exact v1.lt
 ·exact m1.lt
 ·exact v2.lt i q
end
def EdR (W:World) (O:Nat->Prop) (T:List (List Int)) (b d:Nat) (r:Loop) (it:Nat->Nat × List En) (k:Nat) (U:Nat->Prop) (A A':World):Prop:=∃ U',EdJ W O T b d r it k U' A'/\Onl U A A'/\∀ i,U' i->U i\/A.heap.size<=i
end
section
open Go.RowKit Apo Go.Sort
attribute [local go_sem ↓] app_exec
theorem tecmp:CmpE 107:=by
 refine ⟨fun _ _=>by kernel_rfl,fun x y W=>?_⟩;obtain ⟨W0,hW0⟩:∃ W0,W0=(W.alloc (.cells #[.string x.k,.string x.v,.bool x.g] 46)).alloc (.cells #[.string y.k,.string y.v,.bool y.g] 46):=⟨_,rfl⟩;have C:=scompare_any x.k y.k W0;have k0:Ob W0 W.heap.size 46 [.string x.k,.string x.v,.bool x.g]:=by rw [hW0];exact (Ob.new W [.string x.k,.string x.v,.bool x.g] 46).alloc _
 have k1:Ob W0 (W.heap.size+1) 46 [.string y.k,.string y.v,.bool y.g]:=by
  rw [hW0];have:=Ob.new (W.alloc (.cells #[.string x.k,.string x.v,.bool x.g] 46)) [.string y.k,.string y.v,.bool y.g] 46;rw [World.size_alloc] at this;exact this
 have y0:=k0.cell 0;have y1:=k1.cell 0;simp only [List.getElem?_cons_zero] at y0 y1;have HG:Hid (∃ q os,W0=grow (W.drewN q) os):=Za ⟨0,#[.cells #[.string x.k,.string x.v,.bool x.g] 46,.cells #[.string y.k,.string y.v,.bool y.g] 46],by rw [hW0,alloc_eq_grow,alloc_eq_grow,grow_grow];rfl⟩;have HC:=Za C;rw [hW0] at y0 y1;unfold aggE;clear C k0 k1;go_enter Tryz.func107,Tryz.ntmps107
 go_wp2_with fail
 rw [<- hW0];clear hW0;refine HC.out.mono ?_;rintro e w2 ⟨rfl,rfl⟩;go_wp2;go_ret
 exact ⟨rfl,HG.out⟩
theorem temk (c:Nat) (wx:World) (hc:c<=10000000):∃ w',(Instr.makeSlice 44 (.int .i64 0) (.int .i64 (c:Int))).run Tryz.prog wx=.ok (.slice (some ⟨wx.heap.size,0,none⟩) 0 c) w'/\w'.ownsRow wx.heap.size 46 3 (.slice (some ⟨wx.heap.size,0,none⟩) 0 c) 0 []/\wx.grownBy w' none:=by
 obtain ⟨i0,hi,hz0,hz1,hz2⟩:=info_parts info_ed;exact run_make_own (P:=Tryz.prog) wx wx.heap.size 44 46 i0 _ 3 Tryz.underlying44 hi hz0 hz1 .i64 .i64 c (by rw [hz2];omega) (by unfold maxLen;omega) (Nat.le_refl _)
theorem teroe {O:Nat->Prop} {W:World} {g cap n:Nat} {d:List Ed} (h:Row O W 46 3 (.slice (some ⟨g,0,none⟩) n cap) d.length (Zk cEd d)):∃ ex,RoE W g d ex:=by
 rcases h.1.2 with ⟨hv,_⟩ | ⟨g',cap',cur,hv,_,hg,_,_,_,ht⟩
 ·cases hv
 ·injection hv with e1 e2 e3
  injection e1 with e1
  injection e1 with e1
  subst e1;refine ⟨cur.toList.drop (d.length * 3),?_⟩;unfold RoE Ob;rw [hg,<- ht,List.take_append_drop]
theorem teapply (w:World) (a b:Option Addr) (ca cb:Nat) (es:List En) (l:List Ed) (ha:RdEn w a es) (hb:RdG cEd 3 w b l) (hla:es.length<=400000) (hlb:l.length<=400000) :
  Calls Tryz.prog 64 #[.slice a es.length ca,.slice b l.length cb] w (EnP (ApR es l) w):=by
 obtain ⟨n,hn⟩:∃ n,n=es.length:=⟨_,rfl⟩;obtain ⟨m,hm⟩:∃ m,m=l.length:=⟨_,rfl⟩;obtain ⟨W0,RM,OM,GM⟩:=temk (n+m) w (by omega);have b0:Below w.heap.size w W0:=(Below.refl _ _).grown GM (Nat.le_refl _) (by simp)
 have rowM:Row (fun g=>w.heap.size<=g) W0 46 3 (.slice (some ⟨w.heap.size,0,none⟩) 0 (n+m)) 0 []:=by
  refine ⟨⟨OM.1,?_⟩,fun g hg=>by cases hg;exact Nat.le_refl _⟩;rcases OM.2 with q | ⟨g,cap,cur,q1,q2,q3⟩
  ·exact .inl q
  ·exact .inr ⟨g,cap,cur,q1,Nat.zero_le _,q3⟩
 have HLD:=Za (And.intro (fun W (h:Below w.heap.size w W)=>ha.below h) (fun W (h:Below w.heap.size w W)=>hb.below h));have HA:=Za (ha.below b0);have HBL:=Za (hb.below b0);have HN:=Za hn;have HM:=Za hm;have HB0:=Za b0;have HRM:=Za rowM
 have RM':(Instr.makeSlice 44 (.int .i64 0) (.int .i64 ((n:Int)+(m:Int)))).run Tryz.prog w=.ok (.slice (some ⟨w.heap.size,0,none⟩) 0 (n+m)) W0:=by
  rw [show (n:Int)+(m:Int)=((n+m:Nat):Int) by omega];exact RM
 obtain ⟨i0,hi0,_⟩:=info_parts info_ed;rw [<- hn,<- hm];rw [<- hn] at hla;rw [<- hm] at hlb;clear ha hb hn hm b0 rowM RM OM GM;go_enter Tryz.func64,Tryz.ntmps64
 go_wp2;go_loopw [5,19] (fun v i wr=>∃ (k g cp:Nat),k<=n/\i=.int .i64 k/\v=.slice (some ⟨g,0,none⟩) k cp/\Hid (k=((es.take k).map Zn).length)/\Hid (Row (fun g=>w.heap.size<=g) wr 46 3 (.slice (some ⟨g,0,none⟩) k cp) ((es.take k).map Zn).length (Zk cEd ((es.take k).map Zn)))/\Hid (Below w.heap.size w wr)/\Hid (RdEn wr a es)/\Hid (RdG cEd 3 wr b l)) (fun _ i _=>n - (intOf i).toNat)
 case atStart=>exact ⟨0,w.heap.size,n+m,Nat.zero_le _,rfl,rfl,Za rfl,Za HRM.out,HB0,HA,HBL⟩
 case round =>
  obtain ⟨k,g,cp,hk,rfl,rfl,HNK,HRW,HBr,HRA,HRB⟩:=hrel;by_cases hkn:k < n
  ·obtain ⟨⟨ek,ev⟩,hx⟩:∃ x,es[k]?=some x:=⟨es[k]'(by have:=HN.out;omega),List.getElem?_eq_getElem _⟩;obtain ⟨gm,om,rfl,p1,p2⟩:=HRA.out k _ hx;simp only at p1 p2;obtain ⟨W1,hW1⟩:∃ W1,W1=wr.alloc (.cells #[.string ek,.string ev] 43):=⟨_,rfl⟩;have b1:Below wr.heap.size wr W1:=by rw [hW1];exact (Below.refl _ wr).alloc (Nat.le_refl _) _
   have kb:Ob W1 wr.heap.size 43 [.string ek,.string ev]:=by rw [hW1];exact Ob.new wr [.string ek,.string ev] 43
   have y0:=kb.cell 0;have y1:=kb.cell 1;simp only [List.getElem?_cons_zero,List.getElem?_cons_succ] at y0 y1;obtain ⟨x,hx2⟩:∃ x:Ed,x=⟨ek,ev,false⟩:=⟨_,rfl⟩;obtain ⟨w6,hw6⟩:∃ w6,w6=W1.alloc (.cells (cEd x).toArray 46):=⟨_,rfl⟩;have bb6:Below W1.heap.size W1 w6:=by rw [hw6];exact (Below.refl _ W1).alloc (Nat.le_refl _) _
   have row6:=(HRW.out.onl (F:=fun _=>False) (Onl.ofBelow b1) (fun _ _ q=>q)).onl (F:=fun _=>False) (Onl.ofBelow bb6) (fun _ _ q=>q);have rd6:RdG cEd 3 w6 (some ⟨W1.heap.size,0,none⟩) [x]:=by rw [hw6];exact rd_lit _ _ x
   obtain ⟨v8,w8,RR,r8,o8,ow8⟩:=app_ed (cp:=1) row6 (by simp;omega) rd6;have htk:(es.take (k+1)).map Zn=(es.take k).map Zn++[x]:=by rw [List.take_add_one,hx,hx2];simp [Zn]
   rw [<- htk] at r8;have hk1:((es.take (k+1)).map Zn).length=k+1:=by have:=HN.out;simp;omega
   obtain ⟨g8,c8,hv8,_,_,_,_,_,_⟩:=r8.shape (by omega);rw [hk1] at hv8;rw [hv8] at r8 RR;rw [show [x].length=1 from rfl] at RR;have hs1:W1.heap.size=wr.heap.size+1:=by rw [hW1];simp
   have hs6:w6.heap.size=W1.heap.size+1:=by rw [hw6,World.size_alloc]
   have hbr:=HBr.out.size;have hb8:Below w.heap.size w w8:=Below.onl ((HBr.out.trans (b1.mono HBr.out.size)).trans (bb6.mono (by omega))) o8 (fun i q=>HRW.out.2 i q) (Nat.le_refl _);have far:Onl (fun j=>w.heap.size<=j) wr w8:=((Onl.ofBelow b1).trans (Onl.ofBelow bb6)).trans (o8.mono (fun i q=>HRW.out.2 i q));have ra8:RdEn w8 (some ⟨gm,om,none⟩) es:=HLD.out.1 w8 hb8;have rb8:RdG cEd 3 w8 b l:=HLD.out.2 w8 hb8;have HF:Hid (Row (fun g=>w.heap.size<=g) w8 46 3 (.slice (some ⟨g8,0,none⟩) (k+1) c8) ((es.take (k+1)).map Zn).length (Zk cEd ((es.take (k+1)).map Zn))):=Za ⟨r8.1,fun g hg=>(r8.2 g hg).elim (fun z=>z) (fun z=>by omega)⟩;have HB8:=Za hb8;have HA8:=Za ra8;have HB28:=Za rb8;have HK1:Hid (k+1=((es.take (k+1)).map Zn).length):=Za hk1.symm;rw [hw6,hx2] at RR;simp only [cEd] at RR;rw [hW1] at RR y0 y1;simp only [World.size_alloc] at RR;obtain ⟨z1,z2,z3⟩:=Zi RR;clear hW1 b1 kb hw6 bb6 row6 rd6 r8 o8 ow8 hv8 RR htk hk1 hs1 hs6 hbr hb8 HRW hx2 far ra8 rb8 hx;go_wp2;go_roundw
   case rel=>exact ⟨k+1,g8,c8,by omega,by simp,rfl,HK1,HF,HB8,HA8,HB28⟩
   case measure=>simp [intOf];omega
  ·obtain rfl:k=n:=by omega
   have hrow:=HRW.out;rw [show es.take k=es from List.take_of_length_le (by have:=HN.out;omega)] at hrow
   have sorting:∀ (wS:World) (gS cS:Nat),Row (fun g=>w.heap.size<=g) wS 46 3 (.slice (some ⟨gS,0,none⟩) (es.map Zn++l).length cS) (es.map Zn++l).length (Zk cEd (es.map Zn++l))->∃ ex,Calls Tryz.prog 106 #[.slice (some ⟨gS,0,none⟩) (es.map Zn++l).length cS,.func (.func 107) #[] #[]] wS (InP wS gS ex (es.map Zn++l) 0 (es.map Zn++l).length):=fun wS gS cS rowS=>by
    obtain ⟨ex,hro⟩:=teroe rowS;exact ⟨ex,sortst_any 107 tecmp wS gS cS (es.map Zn++l) ex hro (by have:=HN.out;have:=HM.out;simp;omega)⟩
   have HSO:=Za sorting;obtain ⟨ln,hln⟩:∃ ln,ln=(es.map Zn++l).length:=⟨_,rfl⟩;have hln2:ln=k+m:=by rw [hln];have:=HN.out;have:=HM.out;simp;omega
   have HL0:=Za hln
   have appd:∃ gS cS wS,(Builtin.append_ #[44,44] 44 #[.slice (some ⟨g,0,none⟩) k cp,.slice b m cb]).run Tryz.prog wr=.ok (.slice (some ⟨gS,0,none⟩) ln cS) wS/\Row (fun g=>w.heap.size<=g) wS 46 3 (.slice (some ⟨gS,0,none⟩) ln cS) (es.map Zn++l).length (Zk cEd (es.map Zn++l))/\Below w.heap.size w wS:=by
    by_cases hm0:m=0
    ·have hle:l=[]:=List.eq_nil_of_length_eq_zero (by rw [<- HM.out];exact hm0);subst hm0
     have hkc:k<=cp:=by
      obtain ⟨_,cap,hv,h1,_⟩:=hrow.form;injection hv with _ _ h3
      subst h3;have:=HN.out;simp at h1
      omega
     have hlk:ln=k:=by omega
     refine ⟨g,cp,wr,?_,?_,HBr.out⟩
     ·rw [hlk];exact app_zero Tryz.underlying44 hi0 hkc
     ·rw [hlk,hle,List.append_nil];exact hrow
    ·cases b with
     | none =>
      exfalso
      obtain ⟨x,hx⟩:∃ x,l[0]?=some x:=⟨l[0]'(by have:=HM.out;omega),List.getElem?_eq_getElem _⟩;obtain ⟨_,_,hn,_⟩:=HRB.out 0 x hx;cases hn
     | some y =>
      have hkl:k=(es.map Zn).length:=by have:=HN.out;simp;omega
      obtain ⟨v8,w8,RR,r8,o8,ow8⟩:=app_ed (cp:=cb) hrow (by have:=HN.out;have:=HM.out;simp;omega) HRB.out;obtain ⟨g8,c8,hv8,_,_,_,_,_,_⟩:=r8.shape (by have:=HM.out;simp;omega);rw [hv8,<- HM.out,<- hln] at RR;rw [hv8,<- hln] at r8;refine ⟨g8,c8,w8,RR,⟨by rw [<- hln];exact r8.1,fun g hg=>(r8.2 g hg).elim (fun z=>z) (fun z=>by have:=HBr.out.size;omega)⟩,Below.onl HBr.out o8 (fun i q=>HRW.out.2 i q) (Nat.le_refl _)⟩
   obtain ⟨gS,cS,wS,RR,rowS,bS⟩:=appd;rw [<- hln] at HSO;obtain ⟨ex,CS⟩:=HSO.out wS gS cS (by rw [<- hln] at rowS;exact rowS);have hgS:w.heap.size<=gS:=rowS.2 gS rfl;have HCS:=Za CS;have HBS:=Za bS;have HGS:=Za hgS;obtain ⟨z1,z2,z3⟩:=Zi RR;have HL2:=Za hln2;clear sorting hrow rowS bS RR CS hgS hln hln2;go_wp2_with fail
   refine HCS.out.mono ?_;rintro e' W3 ⟨rfl,d2,ro2,⟨t1,t2,t3,t4⟩,o3⟩;have HLN:Hid (d2.length=ln):=Za (by rw [t1.1,<- HL0.out])
   have HAP:Hid (ApR es l (Zg d2 ln)):=by
    have h4:=t4;rw [<- HLN.out] at h4 ⊢;exact Za (kept_apr t1 h4)
   have HRO:=Za ro2;have HB3:Hid (Below w.heap.size w W3):=Za (Below.onl HBS.out o3 (fun i q=>by rw [q];exact HGS.out) (Nat.le_refl _));have hlb2:ln<=1000000:=by have:=HL2.out;omega
   clear ro2 t1 t2 t3 t4 o3 HCS HSO HRW HRA HRB;go_wp2;go_loopw [8,39] (fun v i wr=>∃ (k:Nat) (va:Option Addr) (vc nk:Nat),k<=ln/\i=.int .i64 k/\v=.slice va nk vc/\Hid (nk=(Zg d2 k).length)/\Hid (Row (fun g=>W3.heap.size<=g) wr 43 2 (.slice va (Zg d2 k).length vc) (Zg d2 k).length (Zk cEn (Zg d2 k)))/\Hid (Below W3.heap.size W3 wr)) (fun _ i _=>ln - (intOf i).toNat)
   case atStart=>exact ⟨0,none,0,0,Nat.zero_le _,rfl,rfl,Za rfl,Za (Row.nil _ _ _ _),Za (Below.refl _ _)⟩
   case round =>
    clear z1 z2 z3;obtain ⟨k,va,vc,nk,hkk,rfl,rfl,HNK,HRW,HBr⟩:=hrel;by_cases hkl:k < ln
    ·obtain ⟨⟨xk,xv,xg⟩,hx⟩:∃ x,d2[k]?=some x:=⟨d2[k]'(by have:=HLN.out;omega),List.getElem?_eq_getElem _⟩;have ror:=HRO.out.old HBr.out;obtain ⟨c0,c1,c2⟩:=ror.cells hx;simp only at c0 c1 c2;obtain ⟨W1,hW1⟩:∃ W1,W1=wr.alloc (.cells #[.string xk,.string xv,.bool xg] 46):=⟨_,rfl⟩;have b1:Below wr.heap.size wr W1:=by rw [hW1];exact (Below.refl _ wr).alloc (Nat.le_refl _) _
     have kb:Ob W1 wr.heap.size 46 [.string xk,.string xv,.bool xg]:=by rw [hW1];exact Ob.new wr [.string xk,.string xv,.bool xg] 46
     have HB1:=Za b1;have HKB:=Za kb;have q0:=kb.cell 0;have q1:=kb.cell 1;have q2:=kb.cell 2;simp only [List.getElem?_cons_zero,List.getElem?_cons_succ] at q0 q1 q2;have HX:=Za hx;obtain ⟨k1,hkk1⟩:∃ k1,k1=k+1:=⟨_,rfl⟩;have wk:IntKind.i64.wrap ((k:Int)+1)=(k1:Int):=by rw [IntKind.wrap_i64];omega
     have wk2:(k:Int)+1=(k1:Int):=by omega
     have wk3:IntKind.i64.wrap (k1:Int)=(k1:Int):=by rw [IntKind.wrap_i64];omega
     have HKK:=Za hkk1;by_cases hk1:k1 < ln
     ·obtain ⟨⟨yk,yv,yg⟩,hy⟩:∃ x,d2[k1]?=some x:=⟨d2[k1]'(by have:=HLN.out;omega),List.getElem?_eq_getElem _⟩;obtain ⟨p0,_,_⟩:=(ror.old b1).cells hy;simp only at p0;have HY:=Za hy;have hd1:decide ((k1:Int) < (ln:Int))=true:=decide_eq_true (by omega);clear hx hy b1 kb ror hkk1;by_cases hyk:yk=xk
      ·have ht:(yk.toList == xk.toList)=true:=by rw [hyk];simp
       have HKE:Hid (Zg d2 k1=Zg d2 k):=by
        refine Za ?_;rw [HKK.out];show Zg d2 k++keepO d2 k=_
        rw [keep_no (fun z hz=>?_),List.append_nil];have h1:=hz.1;rw [HX.out] at h1;cases h1
        exact hz.2.2 _ (by rw [<- HKK.out];exact HY.out) hyk
       clear hyk;go_wp2;rw [<- hW1];clear hW1;go_quiet (fail)
       go_wp2;go_roundw
       case rel=>exact ⟨k1,va,vc,nk,by have:=HKK.out;omega,by simp,rfl,Za (by rw [HKE.out];exact HNK.out),Za (by rw [HKE.out];exact (HRW.out.onl (F:=fun _=>False) (Onl.ofBelow HB1.out) (fun _ _ q=>q)).onl (F:=fun _=>False) (Onl.ofBelow (below_drewN (Below.refl _ _) _)) (fun _ _ q=>q)),Za (below_drewN (HBr.out.trans (HB1.out.mono HBr.out.size)) _)⟩
       case measure=>have:=HKK.out;simp [intOf];omega
      ·have ht:(yk.toList == xk.toList)=false:=by
        cases q:(yk.toList == xk.toList) with
        | false=>rfl
        | true=>exact absurd (bytes_of_list (by simpa using q)) hyk
       cases xg with
       | true =>
        have HKE:Hid (Zg d2 k1=Zg d2 k):=by
         refine Za ?_;rw [HKK.out];show Zg d2 k++keepO d2 k=_
         rw [keep_no (fun z hz=>?_),List.append_nil];have h1:=hz.1;rw [HX.out] at h1;cases h1
         cases hz.2.1
        clear hyk;go_wp2;rw [<- hW1];clear hW1;go_quiet (fail)
        go_wp2;go_roundw
        case rel=>exact ⟨k1,va,vc,nk,by have:=HKK.out;omega,by simp,rfl,Za (by rw [HKE.out];exact HNK.out),Za (by rw [HKE.out];exact (HRW.out.onl (F:=fun _=>False) (Onl.ofBelow HB1.out) (fun _ _ q=>q)).onl (F:=fun _=>False) (Onl.ofBelow (below_drewN (Below.refl _ _) _)) (fun _ _ q=>q)),Za (below_drewN (HBr.out.trans (HB1.out.mono HBr.out.size)) _)⟩
        case measure=>have:=HKK.out;simp [intOf];omega
       | false =>
        have HKE:Hid (Zg d2 k1=Zg d2 k++[⟨xk,xv⟩]):=by
         refine Za ?_;rw [HKK.out];show Zg d2 k++keepO d2 k=_
         rw [keep_yes (x:=⟨xk,xv,false⟩) ⟨HX.out,rfl,fun z hz=>by rw [<- HKK.out,HY.out] at hz;cases hz;exact hyk⟩]
        clear hyk;go_wp2;rw [<- hW1];clear hW1;go_quiet (fail)
        obtain ⟨w5,hw5⟩:∃ w5,w5=W1.drewN nq:=⟨_,rfl⟩;have b5:Below W1.heap.size W1 w5:=by rw [hw5];exact below_drewN (Below.refl _ _) _
        have k5:=HKB.out.old b5;rw [<- hw5];obtain ⟨e,he⟩:∃ e:En,e=⟨xk,xv⟩:=⟨_,rfl⟩;obtain ⟨w6,hw6⟩:∃ w6,w6=w5.alloc (.cells (cEn e).toArray 43):=⟨_,rfl⟩;have bb6:Below w5.heap.size w5 w6:=by rw [hw6];exact (Below.refl _ w5).alloc (Nat.le_refl _) _
        have row6:=((HRW.out.onl (F:=fun _=>False) (Onl.ofBelow HB1.out) (fun _ _ q=>q)).onl (F:=fun _=>False) (Onl.ofBelow b5) (fun _ _ q=>q)).onl (F:=fun _=>False) (Onl.ofBelow bb6) (fun _ _ q=>q);have rd6:RdG cEn 2 w6 (some ⟨w5.heap.size,0,none⟩) [e]:=by rw [hw6];exact rd_lit _ _ e
        obtain ⟨v8,w8,RR,r8,o8,ow8⟩:=app_en (cp:=1) row6 (by have:=keptTo_len d2 k;simp;omega) rd6;obtain ⟨va8,vc8,hva8,_⟩:=r8.form;obtain ⟨n8,hn8⟩:∃ n8,n8=(Zg d2 k++[e]).length:=⟨_,rfl⟩;rw [hva8] at r8 RR;rw [show [e].length=1 from rfl,<- hn8,<- HNK.out] at RR;have htk:Zg d2 k1=Zg d2 k++[e]:=by rw [he];exact HKE.out
        have hs1:=HB1.out.size;have hs5:=b5.size;have hs6:w6.heap.size=w5.heap.size+1:=by rw [hw6,World.size_alloc]
        have hbr:=HBr.out.size;have hb8:Below W3.heap.size W3 w8:=Below.onl (((HBr.out.trans (HB1.out.mono HBr.out.size)).trans (b5.mono (by omega))).trans (bb6.mono (by omega))) o8 (fun i q=>HRW.out.2 i q) (Nat.le_refl _);have HB8:=Za hb8
        have HRF:Hid (Row (fun g=>W3.heap.size<=g) w8 43 2 (.slice va8 (Zg d2 k1).length vc8) (Zg d2 k1).length (Zk cEn (Zg d2 k1))):=by
         rw [htk];exact Za ⟨r8.1,fun g hg=>(r8.2 g hg).elim (fun z=>z) (fun z=>by omega)⟩
        have HN8:Hid (n8=(Zg d2 k1).length):=by rw [htk];exact Za hn8
        rw [hw6,he] at RR;simp only [cEn] at RR;have y0:=k5.cell 0;have y1:=k5.cell 1;simp only [List.getElem?_cons_zero,List.getElem?_cons_succ] at y0 y1;obtain ⟨z1,z2,z3⟩:=Zi RR;clear hw5 b5 k5 hw6 bb6 row6 rd6 r8 o8 ow8 hva8 hn8 RR htk hs1 hs5 hs6 hbr hb8 he q0 q1 q2;go_wp2;go_roundw
        case rel=>exact ⟨k1,va8,vc8,n8,by have:=HKK.out;omega,by simp,rfl,HN8,HRF,HB8⟩
        case measure=>have:=HKK.out;simp [intOf];omega
     ·have hd1:decide ((k1:Int) < (ln:Int))=false:=decide_eq_false (by omega);clear hx b1 kb ror hkk1;cases xg with
      | true =>
       have HKE:Hid (Zg d2 k1=Zg d2 k):=by
        refine Za ?_;rw [HKK.out];show Zg d2 k++keepO d2 k=_
        rw [keep_no (fun z hz=>?_),List.append_nil];have h1:=hz.1;rw [HX.out] at h1;cases h1
        cases hz.2.1
       go_wp2;rw [<- hW1];clear hW1;go_quiet (fail)
       go_wp2;go_roundw
       case rel=>exact ⟨k1,va,vc,nk,by have:=HKK.out;omega,by simp,rfl,Za (by rw [HKE.out];exact HNK.out),Za (by rw [HKE.out];exact (HRW.out.onl (F:=fun _=>False) (Onl.ofBelow HB1.out) (fun _ _ q=>q)).onl (F:=fun _=>False) (Onl.ofBelow (below_drewN (Below.refl _ _) _)) (fun _ _ q=>q)),Za (below_drewN (HBr.out.trans (HB1.out.mono HBr.out.size)) _)⟩
       case measure=>have:=HKK.out;simp [intOf];omega
      | false =>
       have HKE:Hid (Zg d2 k1=Zg d2 k++[⟨xk,xv⟩]):=by
        refine Za ?_;rw [HKK.out];show Zg d2 k++keepO d2 k=_
        rw [keep_yes (x:=⟨xk,xv,false⟩) ⟨HX.out,rfl,fun z hz=>by have:=(List.getElem?_eq_some_iff.1 hz).1;have:=HLN.out;have:=HKK.out;omega⟩]
       go_wp2;rw [<- hW1];clear hW1;go_quiet (fail)
       obtain ⟨w5,hw5⟩:∃ w5,w5=W1.drewN nq:=⟨_,rfl⟩;have b5:Below W1.heap.size W1 w5:=by rw [hw5];exact below_drewN (Below.refl _ _) _
       have k5:=HKB.out.old b5;rw [<- hw5];obtain ⟨e,he⟩:∃ e:En,e=⟨xk,xv⟩:=⟨_,rfl⟩;obtain ⟨w6,hw6⟩:∃ w6,w6=w5.alloc (.cells (cEn e).toArray 43):=⟨_,rfl⟩;have bb6:Below w5.heap.size w5 w6:=by rw [hw6];exact (Below.refl _ w5).alloc (Nat.le_refl _) _
       have row6:=((HRW.out.onl (F:=fun _=>False) (Onl.ofBelow HB1.out) (fun _ _ q=>q)).onl (F:=fun _=>False) (Onl.ofBelow b5) (fun _ _ q=>q)).onl (F:=fun _=>False) (Onl.ofBelow bb6) (fun _ _ q=>q);have rd6:RdG cEn 2 w6 (some ⟨w5.heap.size,0,none⟩) [e]:=by rw [hw6];exact rd_lit _ _ e
       obtain ⟨v8,w8,RR,r8,o8,ow8⟩:=app_en (cp:=1) row6 (by have:=keptTo_len d2 k;simp;omega) rd6;obtain ⟨va8,vc8,hva8,_⟩:=r8.form;obtain ⟨n8,hn8⟩:∃ n8,n8=(Zg d2 k++[e]).length:=⟨_,rfl⟩;rw [hva8] at r8 RR;rw [show [e].length=1 from rfl,<- hn8,<- HNK.out] at RR;have htk:Zg d2 k1=Zg d2 k++[e]:=by rw [he];exact HKE.out
       have hs1:=HB1.out.size;have hs5:=b5.size;have hs6:w6.heap.size=w5.heap.size+1:=by rw [hw6,World.size_alloc]
       have hbr:=HBr.out.size;have hb8:Below W3.heap.size W3 w8:=Below.onl (((HBr.out.trans (HB1.out.mono HBr.out.size)).trans (b5.mono (by omega))).trans (bb6.mono (by omega))) o8 (fun i q=>HRW.out.2 i q) (Nat.le_refl _);have HB8:=Za hb8
       have HRF:Hid (Row (fun g=>W3.heap.size<=g) w8 43 2 (.slice va8 (Zg d2 k1).length vc8) (Zg d2 k1).length (Zk cEn (Zg d2 k1))):=by
        rw [htk];exact Za ⟨r8.1,fun g hg=>(r8.2 g hg).elim (fun z=>z) (fun z=>by omega)⟩
       have HN8:Hid (n8=(Zg d2 k1).length):=by rw [htk];exact Za hn8
       rw [hw6,he] at RR;simp only [cEn] at RR;have y0:=k5.cell 0;have y1:=k5.cell 1;simp only [List.getElem?_cons_zero,List.getElem?_cons_succ] at y0 y1;obtain ⟨z1,z2,z3⟩:=Zi RR;clear hw5 b5 k5 hw6 bb6 row6 rd6 r8 o8 ow8 hva8 hn8 RR htk hs1 hs5 hs6 hbr hb8 he q0 q1 q2;go_wp2;go_roundw
       case rel=>exact ⟨k1,va8,vc8,n8,by have:=HKK.out;omega,by simp,rfl,HN8,HRF,HB8⟩
       case measure=>have:=HKK.out;simp [intOf];omega
    ·obtain rfl:k=ln:=by omega
     have HF:Hid (EnP (ApR es l) w (.returned (.slice va nk vc)) wr):=Za ⟨_,va,vc,by rw [HNK.out],HAP.out,HRW.out.mono (fun i hi=>by have:=HB3.out.size;omega),HB3.out.trans (HBr.out.mono HB3.out.size)⟩;clear HRW;go_wp2;go_ret
     exact HF.out
end
section
open Go.RowKit Go.Shelf Apo
attribute [local go_sem] Oper.semAt_some
theorem fin_edit {W:World} {A0 A1:Nat} {i e:Int} {tmps:Array Value} (k0:Ob W A0 27 [.int .u64 i]) (k1:Ob W A1 28 [.int .i64 e]) (h6:tmps.getD 6 undef=.pointer (some ⟨A0,0,none⟩)) (h7:tmps.getD 7 undef=.pointer (some ⟨A1,0,none⟩)) :
  (results Tryz.f36 tmps).run Tryz.prog W=.ok (.tuple #[.int .u64 i,.int .i64 e]) W:=by
 have h6':tmps[6]?.getD undef=.pointer (some ⟨A0,0,none⟩):=by simpa using h6
 have h7':tmps[7]?.getD undef=.pointer (some ⟨A1,0,none⟩):=by simpa using h7
 have c0:=k0.cell 0;have c1:=k1.cell 0;simp only [List.getElem?_cons_zero] at c0 c1;simp [results,Tryz.results36,go_sem,h6',h7',c0,c1]
end
end Go.Proofs.YtdhebpnkfookcaaGreat
