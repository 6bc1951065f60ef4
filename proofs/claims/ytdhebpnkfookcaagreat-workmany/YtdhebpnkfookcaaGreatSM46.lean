import Derived.Test.YtdhebpnkfookcaaGreatSM45
set_option maxRecDepth 100000
set_option maxHeartbeats 16000000
namespace Go.Proofs.YtdhebpnkfookcaaGreat
open Go.RowKit Go.Shelf Apo
attribute [local go_sem] Oper.semAt_some
attribute [local go_sem ↓] app_sem
theorem HdL.obj {U:Nat->Prop} {A:World} {M:ByteArray->Option Value} {T:List (List Int)} {d:Nat} {ob o:Obj} (h:HdL U A M T) (hl:A.heap[d]?=some ob) (ho:ob.isCells=false):HdL U (A.putObj d o) M T:=by
 intro key v hv;obtain ⟨xid,xa,xc,xs,e1,e2,e3,e4,e5,e6,e7⟩:=h key v hv;refine ⟨xid,xa,xc,xs,e1,OkN.off e2 (put_onl o) ⟨fun y hy hp q=>?_,fun y hy=>by cases hy⟩,e3,e4,e5,e6,e7⟩;obtain ⟨x0,hx0⟩:∃ x0,xs[0]?=some x0:=⟨xs[0]'hp,List.getElem?_eq_getElem hp⟩;obtain ⟨g,of,f1,f2,_⟩:=e2.es 0 x0 hx0;have hy':xa=some y:=hy;rw [hy'] at f1;cases f1
 exact cell_not f2 hl ho q
structure EdE (W:World) (O:Nat->Prop) (T:List (List Int)) (b d:Nat) (es:List En) (A:World):Prop where
 bel:Below W.heap.size W A
 k0:Ob A W.heap.size 27 [.int .u64 0]
 k1:Ob A (W.heap.size+1) 28 [.int .i64 0]
 kh:Ob A (b+2) 68 [.map (some (b+1))]
 row:∃ v U,Ob A b 22 [v]/\Row (fun g=>d+2<=g) A 43 2 v es.length (Zo es)/\(∃ k M,Ms Tryz.prog 9 A (b+1) k M/\HdL U A M T)/\∀ i,O i->U i
theorem EdE.obj {W:World} {O:Nat->Prop} {T:List (List Int)} {b d:Nat} {es:List En} {A:World} {ob o:Obj} {D:Nat} (h:EdE W O T b d es A) (hl:A.heap[D]?=some ob) (ho:ob.isCells=false) (hD:b+2 < D) (hW:W.heap.size+1 < D):EdE W O T b d es (A.putObj D o):=by
 obtain ⟨v,U,v1,v2,⟨k,M,m1,m2⟩,v3⟩:=h.row;have o3:Onl (fun i=>i=D) A (A.putObj D o):=put_onl _;exact ⟨Below.onl h.bel o3 (fun i q=>by omega) (Nat.le_refl _),h.k0.onl o3 (by omega),h.k1.onl o3 (by omega),h.kh.onl o3 (by omega),v,U,v1.onl o3 (by omega),v2.onl o3 (fun i hi q=>Row.noLoop v2 hl ho (by rw [hi,q])),⟨k,M,m1.onl o3 (by omega),m2.obj hl ho⟩,v3⟩
theorem tedit_any {w W:World} {s m:Nat} {O:Nat->Prop} {T:List (List Int)} (h:TSw w W s O T m) (hT:T.length<=16000) (hx:TxOk T) (root:Nat) (ls:List (Nat × List En)) (ht:RootT T root ls) (hpos:∀ p ∈ ls,0 < p.2.length) (hsz:(ls.flatMap (fun p=>p.2)).length<=1000) (hls:ls.length<=1000) (hlf:∀ p ∈ ls,T[p.1 - 1]?=some (ZW ⟨0,p.2,[]⟩)/\1<=p.1/\p.1<=T.length) (hrise:Rise ((ls.flatMap (fun p=>p.2)).map En.k)) (ea:Option Addr) (ec:Nat) (l:List Ed) (hl:RdG cEd 3 W ea l) (hll:l.length<=1000) (hok:∀ x ∈ l,Z2 x.k=0/\(x.g=true\/valE x.v=0)/\x.k.size<=9223372036854775807/\x.v.size<=9223372036854775807)
  (hmap:∀ fs,ApR (ls.flatMap (fun p=>p.2)) l fs->fs.length<=600/\MapOk fs/\(fs.flatMap enB).length<=40000/\pgT (treeT T fs)<=4096) :
  Calls Tryz.prog 36 #[.pointer (some ⟨s,0,none⟩),.int .u64 root,.slice ea l.length ec] W fun e W'=>∃ fs,ApR (ls.flatMap (fun p=>p.2)) l fs/\TRoot w W s O T m fs e W':=by
 refine (callsIn_wide (n:=1)).1 ?_;obtain ⟨W2,hW2⟩:∃ W2,W2=(W.alloc (.cells #[.int .u64 0] 27)).alloc (.cells #[.int .i64 0] 28):=⟨_,rfl⟩;have s2:W2.heap.size=W.heap.size+2:=by rw [hW2];simp
 have b2:Below W.heap.size W W2:=by rw [hW2];exact ((Below.refl _ W).alloc (Nat.le_refl _) _).alloc (by simp) _
 have k0:Ob W2 W.heap.size 27 [.int .u64 0]:=by rw [hW2];exact (Ob.new W [.int .u64 0] 27).alloc _
 have k1:Ob W2 (W.heap.size+1) 28 [.int .i64 0]:=by
  have:=Ob.new (W.alloc (.cells #[.int .u64 0] 27)) [.int .i64 0] 28;rw [World.size_alloc] at this;rw [hW2];exact this
 have hOlt:∀ i,O i->i < W.heap.size:=by
  obtain ⟨d,S,h1,_⟩:=h;exact h1.hi
 have hOlo:∀ i,O i->w.heap.size<=i:=by
  obtain ⟨d,S,h1,_⟩:=h;exact h1.lo
 have hwW:w.heap.size<=W.heap.size:=by
  obtain ⟨d,S,h1,_⟩:=h;exact h1.bel.size
 have hmm:=@run_makeMap Tryz.prog;have HC1:=Za (leaves_fn s root);have HH:=Za h;have HL:=Za hl;have HOK:=Za hok;have HMAP:=Za hmap;have HRS:=Za hrise;have HLF:=Za hlf;have HB2:=Za b2;have HK0:=Za k0;have HK1:=Za k1;have HO:=Za (And.intro hOlt (And.intro hOlo hwW));obtain ⟨nl,hnl⟩:∃ n,n=l.length:=⟨_,rfl⟩;have HNL:=Za hnl;rw [<- hnl] at hll ⊢;clear h hl hok hmap hrise hlf b2 k0 k1 hOlt hOlo hwW hnl;refine callsIn_of_wp_marks Tryz.func36 rfl trivial ?_ rfl;simp only [Tryz.ntmps36,List.size_toArray,List.length_cons,List.length_nil,Nat.reduceAdd,Nat.reduceSub,Array.replicate_succ,Array.replicate_zero,List.push_toArray,List.append_toArray,List.nil_append,List.cons_append];gi_wp2
 rw [<- hW2];clear hW2;gi_loopw [18] (fun i wr=>∃ j:Nat,j<=nl/\i=.int .i64 j/\Hid (Below W2.heap.size W2 wr)) (fun i _=>nl - (intOf i).toNat)
 case atStart=>exact ⟨0,Nat.zero_le _,rfl,Za (Below.refl _ _)⟩
 case round =>
 obtain ⟨j,hj,rfl,HBr⟩:=hrel;by_cases hjn:j < nl
 ·obtain ⟨⟨xk,xv,xg⟩,hxj⟩:∃ x,l[j]?=some x:=⟨l[j]'(by have:=HNL.out;omega),List.getElem?_eq_getElem _⟩;obtain ⟨g,o,rfl,c0,c1,c2⟩:=((HL.out.below HB2.out).below HBr.out).ed hxj;simp only at c0 c1 c2;obtain ⟨q1,q2,q3,q4⟩:=HOK.out _ (List.mem_of_getElem? hxj);simp only at q1 q2 q3 q4;have CK:=fun W=>key_any xk W q3
  have CV:=fun W=>val_any xv W q4
  rw [q1] at CK;have HCK:=Za CK;have HCV:=Za CV;have HBF:Hid (Below W2.heap.size W2 (wr.alloc (.cells #[.string xk,.string xv,.bool xg] 46))):=Za (HBr.out.alloc HBr.out.size _);clear CK CV q1 q3 q4 hxj;gi_wp2_with fail
  refine ⟨trivial,(callsIn_wide.2 (HCK.out _)).mono ?_⟩;rintro e w1 ⟨rfl,rfl⟩;gi_wp2_with fail
  refine ⟨trivial,(callsIn_wide.2 (HCV.out _)).mono ?_⟩;rintro e w1 ⟨rfl,rfl⟩;cases xg with
  | true =>
   clear q2;gi_wp2
   go_roundw
   case rel=>exact ⟨j+1,by omega,by go_num,HBF⟩
   case measure=>simp [intOf];omega
  | false =>
   have q5:valE xv=0:=q2.resolve_left (by simp);rw [q5];clear q2 q5;gi_wp2
   go_roundw
   case rel=>exact ⟨j+1,by omega,by go_num,HBF⟩
   case measure=>simp [intOf];omega
 gi_wp2_with fail
 refine ⟨trivial,(callsIn_wide.2 (HC1.out _)).mono ?_⟩;rintro e w1 ⟨rfl,rfl⟩;gi_wp2
 obtain ⟨W5,hW5⟩:∃ W5,W5=(((((wr.alloc (.cells #[.slice none 0 0] 22)).alloc (.map #[] 0)).alloc (.cells #[.map (some (wr.heap.size+1))] 68)).alloc (.cells #[ldV s] 84)).alloc (.cells #[.int .u64 root] 27)):=⟨_,rfl⟩;have s5:W5.heap.size=wr.heap.size+5:=by rw [hW5];simp
 have b25:Below wr.heap.size wr W5:=by rw [hW5];exact (((((Below.refl _ wr).alloc (Nat.le_refl _) _).alloc (by simp) _).alloc (by simp;omega) _).alloc (by simp;omega) _).alloc (by simp;omega) _
 have hbr:=HBr.out;have sr:W.heap.size+2<=wr.heap.size:=by have:=hbr.size;omega
 have b2r:Below W.heap.size W wr:=HB2.out.trans (hbr.mono HB2.out.size);have b5:Below W.heap.size W W5:=b2r.trans (b25.mono b2r.size);have k0:Ob W5 W.heap.size 27 [.int .u64 0]:=(HK0.out.old hbr).old b25;have k1:Ob W5 (W.heap.size+1) 28 [.int .i64 0]:=(HK1.out.old hbr).old b25;have kw:Ob W5 wr.heap.size 22 [.slice none 0 0]:=by rw [hW5];exact ((((Ob.new wr [.slice none 0 0] 22).alloc _).alloc _).alloc _).alloc _
 have km:Ms Tryz.prog 9 W5 (wr.heap.size+1) 0 (fun _=>none):=by
  have:=Ms.made (wr.alloc (.cells #[.slice none 0 0] 22)) Tryz.prog 9;rw [World.size_alloc] at this;refine this.below ?_;rw [hW5];exact (((Below.refl _ _).alloc (Nat.le_refl _) _).alloc (by simp) _).alloc (by simp;try omega) _
 have kh:Ob W5 (wr.heap.size+2) 68 [.map (some (wr.heap.size+1))]:=by
  have:=Ob.new ((wr.alloc (.cells #[.slice none 0 0] 22)).alloc (.map #[] 0)) [.map (some (wr.heap.size+1))] 68;rw [World.size_alloc,World.size_alloc] at this;rw [hW5];exact (this.alloc _).alloc _
 have k3:Ob W5 (wr.heap.size+3) 84 [ldV s]:=by
  have:=Ob.new (((wr.alloc (.cells #[.slice none 0 0] 22)).alloc (.map #[] 0)).alloc (.cells #[.map (some (wr.heap.size+1))] 68)) [ldV s] 84;rw [World.size_alloc,World.size_alloc,World.size_alloc] at this;rw [hW5];exact this.alloc _
 have k4:Ob W5 (wr.heap.size+4) 27 [.int .u64 root]:=by
  have:=Ob.new ((((wr.alloc (.cells #[.slice none 0 0] 22)).alloc (.map #[] 0)).alloc (.cells #[.map (some (wr.heap.size+1))] 68)).alloc (.cells #[ldV s] 84)) [.int .u64 root] 27;rw [World.size_alloc,World.size_alloc,World.size_alloc,World.size_alloc] at this;rw [hW5];exact this
 simp only [Nat.add_assoc,Nat.reduceAdd];rw [<- hW5];obtain ⟨bb,hbb⟩:∃ b,b=wr.heap.size:=⟨_,rfl⟩;rw [<- hbb] at s5 kw km kh k3 k4 sr ⊢;clear hW5 hbb hmm b25 hbr b2r;obtain ⟨it,hitd⟩:∃ it:Nat->Nat × List En,it=fun k=>ls.getD k (0,[]):=⟨_,rfl⟩
 have hit:∀ i p,ls[i]?=some p->it i=p:=fun i p hp=>by rw [hitd];simp [List.getD_eq_getElem?_getD,hp]
 clear hitd
 have HPOS:Hid (∀ k pid es,k < ls.length->it k=(pid,es)->0 < es.length/\T[pid - 1]?=some (ZW ⟨0,es,[]⟩)/\1<=pid/\pid<=T.length):=Za (fun k pid es hk e=>by
  have:=hit k _ (List.getElem?_eq_getElem hk);rw [e] at this;have h2:=hpos _ (List.getElem_mem hk);have h3:=HLF.out _ (List.getElem_mem hk);rw [<- this] at h2 h3;exact ⟨h2,h3⟩)
 have hall:esK it ls.length=ls.flatMap (fun p=>p.2):=by
  have:(List.range ls.length).map it=ls:=List.ext_getElem? (fun i=>by
   rw [List.getElem?_map];by_cases q:i < ls.length
   ·rw [List.getElem?_range q,List.getElem?_eq_getElem q];simp only [Option.map_some];rw [hit i _ (List.getElem?_eq_getElem q)]
   ·rw [List.getElem?_eq_none (by simp;omega),List.getElem?_eq_none (by omega)];rfl)
  unfold esK;conv=>rhs;rw [<- this]
  rw [List.flatMap_map]
 have HLEN:Hid (∀ k,k<=ls.length->(esK it k).length<=1000):=Za (fun k hk=>by
  have h1:(esK it k).length<=(esK it ls.length).length:=by
   have hm:∀ d k,(esK it k).length<=(esK it (k+d)).length:=fun d=>by
    induction d with
    | zero=>exact fun k=>Nat.le_refl _
    | succ d ih=>exact fun k=>Nat.le_trans (ih k) (by rw [<- Nat.add_assoc,esK_succ];simp)
   have:=hm (ls.length - k) k;rw [show k+(ls.length - k)=ls.length by omega] at this;exact this
  rw [hall] at h1;omega)
 have hstr:Tryz.prog.underlying 9=some .string:=by rfl
 refine range_hear (gf:=103) (lb:=#[.pointer (some ⟨bb+4,0,none⟩),.pointer (some ⟨bb+3,0,none⟩)]) rfl enter_leaves1 (fun A=>(∃ r,A.heap[W5.heap.size+1]?=some (.loop r))/\EdE W O T bb W5.heap.size (esK it ls.length) A) ?call ?done
 case call =>
  intro fn r W1 hr lp1 b1 s1
  have H:Hears w s m O T ls.length it (W5.heap.size+1) (EdJ W O T bb W5.heap.size r it):=by
   refine ⟨fun k U A B hj hb=>hj.below hb,fun k U A hj=>hj.lt HO.out.1,fun k U A hj=>HH.out.below hj.bel,fun k U A ea ec hj hk okl off nn=>?_⟩;obtain ⟨v,v1,v2,⟨M,m1,m2⟩,v3⟩:=hj.row;obtain ⟨⟨pid,es⟩,hpe⟩:∃ p,p=it k:=⟨_,rfl⟩;have hnx:=esK_succ it k;rw [<- hpe] at okl hnx ⊢;simp only at okl hnx ⊢;obtain ⟨hp,hl1,hl2,hl3⟩:=HPOS.out k pid es hk hpe.symm
   have hlen:(esK it k).length+es.length<=1000000:=by
    have:=HLEN.out (k+1) (by omega);rw [hnx,List.length_append] at this;omega
   have hkk:k < 1000000:=by omega
   obtain ⟨g,of,hea,hu1,hu2⟩:=okl.rd 0 _ (List.getElem?_eq_getElem hp);clear hu1 hu2;subst hea;have okn:OkN A (lfN (some ⟨g,of,none⟩) ec es):=⟨okl.rd,fun i e hi=>by simp [lfN] at hi,okl.nil,fun _=>rfl,okl.len,Nat.le_refl _,okl.big,by simp [lfN],by simp [lfN],okl.sz,by simp [lfN]⟩;have offn:OffN U (lfN (some ⟨g,of,none⟩) ec es):=⟨fun y hy _=>off y hy,fun y hy=>by cases hy⟩;have ha:=congrArg Loop.assign hr;have hb:=congrArg Loop.body hr;have hpa:=congrArg Loop.params hr;have htm:=congrArg Loop.tmps hr;show YieldAt Fence.wide nn Tryz.prog (W5.heap.size+1) _ A (fun e A'=>e=.returned (.bool true)/\EdR W O T bb W5.heap.size r it (k+1) U A A')
   obtain ⟨rb,hrb⟩:∃ rb,rb={ r with state:=.busy }:=⟨_,rfl⟩;refine yield_hear hrb (by rw [hr];rfl) (by rw [hr];rfl) ha hb hpa htm hj.lp rfl ?_;simp only [recL];obtain ⟨ne,hne⟩:∃ ne,ne=es.length:=⟨_,rfl⟩;have lp:=hj.lp;have hlA:=(Array.getElem?_eq_some_iff.1 lp.1).1;obtain ⟨A1,hA1⟩:∃ A1,A1=A.alloc (.cells #[.int .u64 pid,.slice (some ⟨g,of,none⟩) ne ec] 133):=⟨_,rfl⟩;have b1:Below A.heap.size A A1:=by rw [hA1];exact (Below.refl _ A).alloc (Nat.le_refl _) _
   have sA1:A1.heap.size=A.heap.size+1:=by rw [hA1];simp
   have kx1:Ob A1 A.heap.size 133 [.int .u64 pid,.slice (some ⟨g,of,none⟩) ne ec]:=by rw [hA1];exact Ob.new A [.int .u64 pid,.slice (some ⟨g,of,none⟩) ne ec] 133
   have lp1:=lp.below b1;obtain ⟨A2,hA2⟩:∃ A2,A2=A1.putObj (W5.heap.size+1) (.loop rb):=⟨_,rfl⟩;have o2:Onl (fun i=>i=W5.heap.size+1) A1 A2:=by rw [hA2];exact put_onl _
   have hlb2:A2.heap[W5.heap.size+1]?=some (.loop rb):=by rw [hA2];exact World.putObj_heap_same (by omega)
   have sA2:A1.heap.size<=A2.heap.size:=o2.size;have kx2:=kx1.onl o2 (by omega);have kv2:=(v1.old b1).onl o2 (by omega);have row1:=v2.onl (F:=fun _=>False) (Onl.ofBelow b1) (fun _ _ q=>q);have row2:=row1.onl o2 (fun i hi q=>Row.noLoop row1 lp1.1 rfl (by rw [hi,q]));have rd1:=okl.rd.below b1
   have rd2:=RdEn.off rd1 o2 (fun y hy _ q=>by
    cases hy
    obtain ⟨g2,of2,h1,h2,_⟩:=rd1 0 _ (List.getElem?_eq_getElem hp);injection h1 with h1
    injection h1 with h1 _ _
    exact cell_not h2 lp1.1 rfl (by rw [<- h1];exact q))
   obtain ⟨v8,w8,RR,r8,o8,ow8⟩:=app_Es (c:=ec) row2 hlen rd2;obtain ⟨va,vc,hva,_⟩:=row2.form;obtain ⟨va8,vc8,hva8,_⟩:=r8.form;obtain ⟨nk,hnk⟩:∃ nk,nk=(esK it k).length:=⟨_,rfl⟩;obtain ⟨n8,hn8⟩:∃ n8,n8=(esK it k++es).length:=⟨_,rfl⟩;rw [<- hnk] at hva;rw [<- hn8] at hva8;have hvb:∀ i,v.ownBlock=some i->W5.heap.size+2<=i:=v2.2;have hB2:v.ownBlock≠some bb:=fun q=>by have:=hvb _ q;omega
   have kv8:=kv2.onl o8 hB2;obtain ⟨w9,hw9⟩:∃ w9,w9=w8.setCell ⟨bb,0,none⟩ v8:=⟨_,rfl⟩;have o9:Onl (fun i=>i=bb) w8 w9:=by rw [hw9];exact (Onl.refl (fun i=>i=bb) w8).set (p:=bb) (.inl rfl) _
   have kv9:Ob w9 bb 22 [v8]:=by rw [hw9];exact kv8.set 0 _
   have hlb8:w8.heap[W5.heap.size+1]?=some (.loop rb):=(o8.block _ (by omega) (fun q=>Row.noLoop row2 hlb2 rfl q)).trans hlb2;have hlb9:w9.heap[W5.heap.size+1]?=some (.loop rb):=(o9.block _ (Array.getElem?_eq_some_iff.1 hlb8).1 (by omega)).trans hlb8;have row9:=r8.onl o9 (fun i hi q=>Row.apartOb r8 kv8 (by decide) (by rw [hi,q]));have s8:=o8.size;have s9:=o9.size;have kx8:=kx2.onl o8 (Row.apartOb row2 kx2 (by decide));have kx9:=kx8.onl o9 (by have:=v1.lt;omega)
   have OA9:Onl (fun i=>i=W5.heap.size+1\/v.ownBlock=some i\/i=bb) A w9 :=
    (((Onl.ofBelow (O:=fun i=>i=W5.heap.size+1\/v.ownBlock=some i\/i=bb) b1).trans (o2.mono (fun i q=>.inl q))).trans (o8.mono (fun i q=>.inr (.inl q)))).trans (o9.mono (fun i q=>.inr (.inr q)))
   have off9:OffN (fun i=>i=W5.heap.size+1\/v.ownBlock=some i\/i=bb) (lfN (some ⟨g,of,none⟩) ec es):=by
    refine ⟨fun y hy hpp q=>?_,fun y hy=>by cases hy⟩;have hny:=off y hy;rcases q with q | q | q
    ·obtain ⟨g2,of2,h1,h2,_⟩:=okl.rd 0 _ (List.getElem?_eq_getElem hp);injection h1 with h1
     injection h1 with h1 _ _
     cases hy
     exact cell_not h2 lp.1 rfl (by rw [<- h1];exact q)
    ·exact hny ((v3 _).2 (.inr (.inr (.inr q))))
    ·exact hny ((v3 _).2 (.inr (.inl q)))
   have okn9:=OkN.off okn OA9 off9;have kh9:=hj.kh.onl OA9 (fun q=>by rcases q with q | q | q <;> first | omega | (have:=hvb _ q;omega));have m9:=m1.onl OA9 (fun q=>by rcases q with q | q | q <;> first | omega | (have:=hvb _ q;omega));have CL:=tlast_any w9.drew pid (some ⟨g,of,none⟩) ec es { okn9 with } (by omega);rw [<- hne] at CL;have hks:(Zz ⟨0,es,[]⟩).size<=maxLen:=lastK_size okn9;obtain ⟨lk,hlk⟩:∃ lk,lk=Zz ⟨0,es,[]⟩:=⟨_,rfl⟩;rw [<- hlk] at CL hks;have HCL:=Za CL;have HM9:=Za m9;have HKH9:=Za kh9;have HKX9:=Za kx9;have HL9:=Za hlb9
   have HFIN:Hid (∀ w11 w12,Below w9.heap.size w9 w11->Onl (fun i=>i=bb+1) w11 w12->Ms Tryz.prog 9 w12 (bb+1) (k+1) (updS M lk (some (.agg #[.int .u64 (pid:Int),.slice (some ⟨g,of,none⟩) ne ec])))->w12.heap[W5.heap.size+1]?=some (.loop rb)/\EdR W O T bb W5.heap.size r it (k+1) U A (w12.putObj (W5.heap.size+1) (.loop r))):=by
    refine Za (fun w11 w12 b11 o12 m12=>?_)
    have hl12:w12.heap[W5.heap.size+1]?=some (.loop rb):=by
     have h1:w11.heap[W5.heap.size+1]?=some (.loop rb):=(b11.block _ (Array.getElem?_eq_some_iff.1 hlb9).1).trans hlb9;exact (o12.block _ (Array.getElem?_eq_some_iff.1 h1).1 (by omega)).trans h1
    have o13:Onl (fun i=>i=W5.heap.size+1) w12 (w12.putObj (W5.heap.size+1) (.loop r)):=put_onl _;have hl13:(w12.putObj (W5.heap.size+1) (.loop r)).heap[W5.heap.size+1]?=some (.loop r):=World.putObj_heap_same (Array.getElem?_eq_some_iff.1 hl12).1;have s11:=b11.size;have s12:=o12.size
    have OF:Onl (fun i=>i=W5.heap.size+1\/v.ownBlock=some i\/i=bb\/i=bb+1) A (w12.putObj (W5.heap.size+1) (.loop r)) :=
     (((OA9.mono (fun i q=>q.elim .inl (fun q=>q.elim (fun q=>.inr (.inl q)) (fun q=>.inr (.inr (.inl q)))))).trans (Onl.ofBelow b11)).trans (o12.mono (fun i q=>.inr (.inr (.inr q))))).trans (o13.mono (fun i q=>.inl q))
    have OB:Onl U A (w12.putObj (W5.heap.size+1) (.loop r)):=onl_back (OF.mono (fun i q=>by
     rcases q with q | q | q | q
     ·exact .inr q
     ·exact .inl ((v3 i).2 (.inr (.inr (.inr q))))
     ·exact .inl ((v3 i).2 (.inr (.inl q)))
     ·exact .inl ((v3 i).2 (.inr (.inr (.inl q)))))) (hl13.trans lp.1.symm)
    have row13:=((row9.onl (F:=fun _=>False) (Onl.ofBelow b11) (fun _ _ q=>q)).onl o12 (fun i hi q=>by
     rcases r8.2 i hi with z | z
     ·omega
     ·omega)).onl o13 (fun i hi q=>by
     rcases r8.2 i hi with z | z
     ·omega
     ·omega)
    refine ⟨hl12,fun i=>O i\/i=bb\/i=bb+1\/v8.ownBlock=some i,⟨⟨hl13,?_⟩,?_,?_,?_,?_,v8,?_,?_,⟨_,m12.onl o13 (by omega),?_⟩,fun i=>Iff.rfl⟩,OB,?_⟩
    ·refine (OF.block _ (Array.getElem?_eq_some_iff.1 lp.2).1 (fun q=>?_)).trans lp.2;rcases q with q | q | q | q
     ·omega
     ·have:=hvb _ q;omega
     ·omega
     ·omega
    ·exact Below.onl hj.bel OF (fun i q=>by rcases q with q | q | q | q <;> first | omega | (have:=hvb _ q;omega)) (Nat.le_refl _)
    ·exact hj.k0.onl OF (fun q=>by rcases q with q | q | q | q <;> first | omega | (have:=hvb _ q;omega))
    ·exact hj.k1.onl OF (fun q=>by rcases q with q | q | q | q <;> first | omega | (have:=hvb _ q;omega))
    ·exact hj.kh.onl OF (fun q=>by rcases q with q | q | q | q <;> first | omega | (have:=hvb _ q;omega))
    ·exact ((kv9.old b11).onl o12 (by omega)).onl o13 (by omega)
    ·rw [hnx];refine row13.mono (fun i q=>?_);rcases q with q | q
     ·exact q
     ·omega
    ·rw [hne];refine (m2.put lk okn offn (by omega) hl1 hl2 hl3).step OB ?_;rintro i (q | q | q | q)
     ·exact .inl ((v3 i).2 (.inl q))
     ·exact .inl ((v3 i).2 (.inr (.inl q)))
     ·exact .inl ((v3 i).2 (.inr (.inr (.inl q))))
     ·rcases ow8 i q with z | z
      ·exact .inl ((v3 i).2 (.inr (.inr (.inr z))))
      ·exact .inr (by omega)
    ·rintro i (q | q | q | q)
     ·exact .inl ((v3 i).2 (.inl q))
     ·exact .inl ((v3 i).2 (.inr (.inl q)))
     ·exact .inl ((v3 i).2 (.inr (.inr (.inl q))))
     ·rcases ow8 i q with z | z
      ·exact .inl ((v3 i).2 (.inr (.inr (.inr z))))
      ·exact .inr (by omega)
   have c0:=kx2.cell 0;have c1:=kx2.cell 1;have c2:=kv2.cell 0;have f8:=kv8.frozen 0;have c8:=kv8.cell 0;have d0:=kx9.cell 0;have d1:=kx9.cell 1;have d2:=kh9.cell 0;simp only [List.getElem?_cons_zero,List.getElem?_cons_succ] at c0 c1 c2 c8 d0 d1 d2;rw [hva] at RR c2 c8;rw [hva8] at RR hw9;rw [<- hne] at RR;obtain ⟨x1,x2,x3⟩:=Zi RR;have HLP1:=Za lp1;have HHKS:=Za hks;rw [<- hne];clear hr ha hb hpa htm hrb hne hj lp lp1 b1 kx1 kx2 kx8 kx9 kv2 kv8 kv9 row1 row2 row9 r8 rd1 rd2 o2 o8 o9 OA9 off9 okn okn9 offn hlb2 hlb8 hlb9 RR hva hva8 hnk hn8 v1 v2 v3 okl off hnx hpe hp hlen ow8 hB2 hvb s5 CL hks hlk m9 kh9 m1 m2 hl1 hl2 hl3;gi_wp2
   rw [<- hA1,<- hA2];refine ⟨HLP1.out,?_⟩;clear hA1 hA2;gi_wp2
   rw [<- hw9];clear hw9;have mixed:Tryz.prog.follows .mixedOrders=true:=by kernel_rfl
   have hdn:Fence.wide.depth=none:=rfl;have hf50:Fence.wide.fn 63:=trivial;gi_region_with_o (gi_at_call 63;refine (CallsIn.inRound _ (callsIn_wide.2 HCL.out)).mono ?_;rintro e w11 ⟨rfl,b11⟩;have k11:=(Ob.old (w:=w9.drew) HKX9.out b11);have h11:=(Ob.old (w:=w9.drew) HKH9.out b11);have g0:=k11.cell 0;have g1:=k11.cell 1;have g2:=h11.cell 0;simp only [List.getElem?_cons_zero,List.getElem?_cons_succ] at g0 g1 g2;obtain ⟨w12,RU,m12,t12⟩:=(Ms.below (w:=w9.drew) HM9.out b11).store (t:=68) hstr (by rfl) hkk HHKS.out (.agg #[.int .u64 (pid:Int),.slice (some ⟨g,of,none⟩) ne ec]);have HE:=Za (HFIN.out w11 w12 ((Below.refl _ w9).drew.trans b11) (turned_onl t12) m12);clear b11 k11 h11 m12 t12)
   all_goals
    gi_wp2
    exact HE.out
  have hj0:EdJ W O T bb W5.heap.size r it 0 (fun i=>O i\/i=bb\/i=bb+1) W1:=⟨lp1,b5.trans (b1.mono b5.size),k0.old b1,k1.old b1,kh.old b1,.slice none 0 0,kw.old b1,by simpa [esK,Zo] using Row.nil _ W1 43 2,⟨fun _=>none,km.below b1,HdL.none _ _ _⟩,fun i=>⟨fun q=>q.elim .inl (fun q=>q.elim (fun q=>.inr (.inl q)) (fun q=>.inr (.inr (.inl q)))),fun q=>q.elim .inl (fun q=>q.elim (fun q=>.inr (.inl q)) (fun q=>q.elim (fun q=>.inr (.inr q)) (fun q=>by cases q)))⟩⟩;have q3:=(k3.old b1).cell 0;have q4:=(k4.old b1).cell 0;simp only [List.getElem?_cons_zero] at q3 q4;refine (leaves1_in H hT hx _ W1 root (bb+4) (bb+3) ls _ ht hj0 q4 q3 hit (Nat.le_refl _)).mono ?_;rintro e W2 ⟨e1,U',j2,o2,u2⟩;obtain ⟨v,v1,v2,⟨M,m1,m2⟩,v3⟩:=j2.row;exact ⟨e1,j2.lp,⟨r,j2.lp.1⟩,j2.bel,j2.k0,j2.k1,j2.kh,v,U',v1,v2,⟨_,M,m1,m2⟩,fun i q=>(v3 i).2 (.inl q)⟩
 case done =>
  rintro W3' o ⟨⟨r,hlr⟩,hE⟩ dd dl;rw [hall] at hE;obtain ⟨es,hes⟩:∃ es,es=ls.flatMap (fun p=>p.2):=⟨_,rfl⟩;rw [<- hes] at hE HMAP HRS hsz;have HES:=Za hes;obtain ⟨W3,hW3⟩:∃ W3,W3=W3'.putObj (W5.heap.size+1) o:=⟨_,rfl⟩;have hE3:EdE W O T bb W5.heap.size es W3:=by rw [hW3];exact hE.obj hlr rfl (by omega) (by omega)
  have ed:W3.heap[W5.heap.size]?=some (.deferred (some [])):=by
   rw [hW3];exact ((put_onl (A:=W3') (l:=W5.heap.size+1) o).block _ (Array.getElem?_eq_some_iff.1 dd).1 (by omega)).trans dd
  rw [<- hW3];clear hW3 hE hlr dd dl hes k0 k1 kw km kh k3 k4 b5 HK0 HK1 HB2 HC1 HPOS HLEN HLF;obtain ⟨v,U,v1,v2,⟨mk,M,m1,m2⟩,v3⟩:=hE3.row;obtain ⟨va,vc,hva,_⟩:=v2.form;subst hva;have hec:∀ l:List En,Zo l=Zk cEn l:=fun l=>rfl
  rw [hec] at v2;obtain ⟨a',cp',hv',rd',_⟩:=rd_gcells cEn_len v2;injection hv' with e1 e2 e3
  subst e1 e3;have rd3:RdEn W3 va es:=RdG.en.1 rd';have CR:=trise_any W3 va vc es rd3 (by omega);obtain ⟨ne,hne⟩:∃ n,n=es.length:=⟨_,rfl⟩;rw [<- hne] at CR;have HNE:=Za hne;have y0:=v1.cell 0;simp only [List.getElem?_cons_zero] at y0;rw [<- hne] at y0 v1;have HCR:=Za CR;have HV1:=Za v1;have HKH:=Za hE3.kh;have HMM:=Za (And.intro m1 (And.intro m2 v3));have HRD:=Za rd3;have HED:=Za ed;have HE3:=Za hE3;clear CR hne v1 v2 m1 m2 v3 rd' rd3 ed hE3 e2;gi_wp2_with fail
  refine ⟨trivial,(callsIn_wide.2 HCR.out).mono ?_⟩;rintro e W4 ⟨bq,rfl,hbq,b4⟩;obtain rfl:bq=true:=hbq.2 HRS.out;have hb4W:Below W.heap.size W W4:=HE3.out.bel.trans (b4.mono HE3.out.bel.size);have kh4:=HKH.out.old b4;have kv4:=HV1.out.old b4;have CE:=teapply W4.drew va ea vc ec es l (HRD.out.below b4.drew) (HL.out.below hb4W.drew) (by omega) (by have:=HNL.out;omega);rw [<- HNE.out,<- HNL.out] at CE;have HCE:=Za CE;have HB4:=Za b4;have HB4W:=Za hb4W;have HKH4:=Za kh4;have HKV4:=Za kv4;have z0:=kh4.cell 0;have z1:=kv4.cell 0;simp only [List.getElem?_cons_zero] at z0 z1;have HS:=Za s5;have HSR:=Za sr;have n1:¬ W.heap.size=bb:=by omega
  have n2:¬ W.heap.size=bb+2:=by omega
  have n3:¬ W.heap.size+1=bb:=by omega
  have n4:¬ W.heap.size+1=bb+2:=by omega
  have n5:¬ bb=W.heap.size:=by omega
  have n6:¬ bb+2=W.heap.size:=by omega
  have n7:¬ bb=W.heap.size+1:=by omega
  have n8:¬ bb+2=W.heap.size+1:=by omega
  have n9:¬ W.heap.size=bb+1:=by omega
  have n10:¬ bb+1=W.heap.size:=by omega
  clear CE b4 hb4W kh4 kv4 hbq y0 HCR s5 sr;gi_wp2
  refine wpIn_wide.2 ?_
  go_region_held3 (fun W'=>W'.cell? ⟨bb+2,0,none⟩=some (.map (some (bb+1)))/\W'.cell? ⟨bb,0,none⟩=some (.slice va ne vc)) (go_keep) (first
   | (go_at_call 64;refine HCE.out.mono ?_;rintro e W6 ⟨fs,fa,fc,rfl,hap,frow,b6⟩;obtain ⟨hf1,hf2,hf3,hf4⟩:=HMAP.out fs hap;have kh6:=Ob.old (w:=W4.drew) HKH4.out b6;have kv6:=Ob.old (w:=W4.drew) HKV4.out b6;have x0:=kh6.cell 0;have x1:=kv6.cell 0;simp only [List.getElem?_cons_zero] at x0 x1;have b46:Below W4.heap.size W4 W6:=(Below.refl _ W4).drew.trans b6;have b36:Below W3.heap.size W3 W6:=HB4.out.trans (b46.mono HB4.out.size);have bW6:=HB4W.out.trans (b46.mono HB4W.out.size);obtain ⟨fa2,fc2,hfv,frd,_,_,fnil,_⟩:=rd_gcells cEn_len frow;injection hfv with e1 e2 e3;subst e1 e3;have CB:=tbuildm_any (HH.out.below bW6) (some (bb+1)) (fun hb e=>by cases e;exact (HMM.out.2.1.below b36).hd (HMM.out.1.below b36) HMM.out.2.2 (fun q=>by have:=HO.out.1 _ q;have:=HSR.out;omega)) fa fc fs (RdG.en.1 frd) fnil hf1 hf2 hf3 hf4;obtain ⟨nf,hnf⟩:∃ n,n=fs.length:=⟨_,rfl⟩;rw [<- hnf] at CB;rw [<- hnf];have HCB:=Za CB;have HAP:=Za hap;have HKH6:=Za kh6;have HKV6:=Za kv6;have HB6W:=Za bW6;have HB36:=Za b36;clear CB hap frow b6 hf1 hf2 hf3 hf4 kh6 kv6 b46 b36 bW6 frd fnil hnf e2)
   | (go_at_call 34;refine HCB.out.mono ?_;rintro e W7 ⟨id,O',T',rfl,ro,sub,txo,tl,ts,oo,on⟩;have kh7:=HKH6.out.onl on (fun q=>by have:=HO.out.1 _ q;have:=HSR.out;omega);have kv7:=HKV6.out.onl on (fun q=>by have:=HO.out.1 _ q;have:=HSR.out;omega);have k07:=(HE3.out.k0.old HB36.out).onl on (fun q=>by have:=HO.out.1 _ q;omega);have k17:=(HE3.out.k1.old HB36.out).onl on (fun q=>by have:=HO.out.1 _ q;omega);have w0:=kh7.cell 0;have w1:=kv7.cell 0;have t0:=k07.cell 0;have t1:=k17.cell 0;have g0:=k07.frozen 0;have g1:=k17.frozen 0;simp only [List.getElem?_cons_zero] at w0 w1 t0 t1;have HK07:=Za k07;have HK17:=Za k17;have HRO:=Za (And.intro ro (And.intro sub (And.intro txo (And.intro tl (And.intro ts (And.intro oo on))))));clear kh7 kv7 k07 k17 ro sub txo tl ts oo on))
  all_goals
   obtain ⟨W8,hW8⟩:∃ W8,W8=(W7.setCell ⟨W.heap.size,0,none⟩ (.int .u64 (id:Int))).setCell ⟨W.heap.size+1,0,none⟩ (.int .i64 0):=⟨_,rfl⟩;have o8:Onl (fun i=>i=W.heap.size\/i=W.heap.size+1) W7 W8:=by rw [hW8];exact ((Onl.refl (fun i=>i=W.heap.size\/i=W.heap.size+1) W7).set (p:=W.heap.size) (.inl (.inl rfl)) _).set (p:=W.heap.size+1) (.inl (.inr rfl)) _
   have g08:Ob W8 W.heap.size 27 [.int .u64 (id:Int)]:=by rw [hW8];exact (HK07.out.set 0 _).set_other (by omega) _
   have g18:Ob W8 (W.heap.size+1) 28 [.int .i64 0]:=by rw [hW8];exact (HK17.out.set_other (by omega) _).set 0 _
   have hS:=HS.out;have hSR:=HSR.out;have hD3:=(Array.getElem?_eq_some_iff.1 HED.out).1;have s36:=HB36.out.size
   have hd7:W7.heap[W5.heap.size]?=some (.deferred (some [])):=by
    have h1:=(HB36.out.block _ hD3).trans HED.out;exact (HRO.out.2.2.2.2.2.2.block _ (Array.getElem?_eq_some_iff.1 h1).1 (fun q=>by have:=HO.out.1 _ q;omega)).trans h1
   have hd8:W8.heap[W5.heap.size]?=some (.deferred (some [])):=(o8.block _ (Array.getElem?_eq_some_iff.1 hd7).1 (by omega)).trans hd7;have o9:Onl (fun i=>i=W5.heap.size) W8 (W8.putObj W5.heap.size (.deferred none)):=put_onl _;have g09:=g08.onl o9 (by omega);have g19:=g18.onl o9 (by omega)
   have HF:Hid (∃ fs,ApR (ls.flatMap (fun p=>p.2)) l fs/\TRoot w W s O T m fs (.returned (.tuple #[.int .u64 (id:Int),.int .i64 0])) (W8.putObj W5.heap.size (.deferred none))):=by
    obtain ⟨ro,sub,txo,tl,ts,oo,on⟩:=HRO.out;have hOO:=HO.out;have oF:Onl (fun i=>i=W.heap.size\/i=W.heap.size+1\/i=W5.heap.size) W7 (W8.putObj W5.heap.size (.deferred none)):=(o8.mono (fun i q=>q.elim .inl (fun z=>.inr (.inl z)))).trans (o9.mono (fun i q=>.inr (.inr q)));rw [<- HES.out];have h1:Onl (fun i=>O i\/(i=W.heap.size\/i=W.heap.size+1\/i=W5.heap.size)) W (W8.putObj W5.heap.size (.deferred none)):=(((Onl.ofBelow (O:=O) HB6W.out).trans on).mono (fun i q=>.inl q)).trans (oF.mono (fun i q=>.inr q));refine Za ⟨fs,HAP.out,id,O',T',rfl,ro,sub,txo,tl,ts.onl oF (fun i q z=>?_) (fun i z=>?_),fun i q=>(oo i q).imp (fun z=>z) (fun z=>by have:=HB6W.out.size;omega),⟨h1.os,h1.tape,h1.output,h1.size,fun i hi hu=>h1.block i hi (fun q=>q.elim hu (fun z=>by omega))⟩⟩
    ·rcases oo i q with y | y
     ·have:=hOO.1 i y;omega
     ·omega
    ·have:=hOO.2.2;omega
   have HG:=Za (And.intro g09 g19);have HD8:=Za hd8;rw [hW8] at HF HG HD8;clear hW8 o8 g08 g18 hd7 hd8 o9 g09 g19 hS hSR hD3 s36;obtain ⟨D,hD⟩:∃ D,D=W5.heap.size:=⟨_,rfl⟩;rw [<- hD] at HF HG HD8 ⊢;clear hD;gi_wp2
   refine ⟨by simp,.inl ⟨_,_,rfl,run_takeDeferred HD8.out,?_⟩⟩;exact ⟨_,fin_edit HG.out.1 HG.out.2 rfl rfl,HF.out⟩
end Go.Proofs.YtdhebpnkfookcaaGreat
