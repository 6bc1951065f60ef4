import Derived.Test.YtdhebpnkfookcaaGreatRM45
set_option maxRecDepth 100000
set_option maxHeartbeats 8000000
namespace Go.Proofs.YtdhebpnkfookcaaGreat
section
open Go.RowKit Apo Go.Sort
attribute [local go_sem ↓] app_exec
theorem dacmp:CmpE 109:=by
 refine ⟨fun _ _=>by kernel_rfl,fun x y W=>?_⟩;obtain ⟨W0,hW0⟩:∃ W0,W0=(W.alloc (.cells #[.string x.k,.string x.v,.bool x.g] 46)).alloc (.cells #[.string y.k,.string y.v,.bool y.g] 46):=⟨_,rfl⟩;have C:=scompare_any x.k y.k W0;have k0:Ob W0 W.heap.size 46 [.string x.k,.string x.v,.bool x.g]:=by rw [hW0];exact (Ob.new W [.string x.k,.string x.v,.bool x.g] 46).alloc _
 have k1:Ob W0 (W.heap.size+1) 46 [.string y.k,.string y.v,.bool y.g]:=by
  rw [hW0];have:=Ob.new (W.alloc (.cells #[.string x.k,.string x.v,.bool x.g] 46)) [.string y.k,.string y.v,.bool y.g] 46;rw [World.size_alloc] at this;exact this
 have y0:=k0.cell 0;have y1:=k1.cell 0;simp only [List.getElem?_cons_zero] at y0 y1;have HG:Hid (∃ q os,W0=grow (W.drewN q) os):=Za ⟨0,#[.cells #[.string x.k,.string x.v,.bool x.g] 46,.cells #[.string y.k,.string y.v,.bool y.g] 46],by rw [hW0,alloc_eq_grow,alloc_eq_grow,grow_grow];rfl⟩;have HC:=Za C;rw [hW0] at y0 y1;unfold aggE;clear C k0 k1;go_enter Tryz.func109,Tryz.ntmps109
 go_wp2_with fail
 rw [<- hW0];clear hW0;refine HC.out.mono ?_;rintro e w2 ⟨rfl,rfl⟩;go_wp2;go_ret
 exact ⟨rfl,HG.out⟩
theorem damk (c:Nat) (wx:World) (hc:c<=10000000):∃ w',(Instr.makeSlice 44 (.int .i64 0) (.int .i64 (c:Int))).run Tryz.prog wx=.ok (.slice (some ⟨wx.heap.size,0,none⟩) 0 c) w'/\w'.ownsRow wx.heap.size 46 3 (.slice (some ⟨wx.heap.size,0,none⟩) 0 c) 0 []/\wx.grownBy w' none:=by
 obtain ⟨i0,hi,hz0,hz1,hz2⟩:=info_parts info_ed;exact run_make_own (P:=Tryz.prog) wx wx.heap.size 44 46 i0 _ 3 Tryz.underlying44 hi hz0 hz1 .i64 .i64 c (by rw [hz2];omega) (by unfold maxLen;omega) (Nat.le_refl _)
theorem daroe {O:Nat->Prop} {W:World} {g cap n:Nat} {d:List Ed} (h:Row O W 46 3 (.slice (some ⟨g,0,none⟩) n cap) d.length (Zf cEd d)):∃ ex,RoE W g d ex:=by
 rcases h.1.2 with ⟨hv,_⟩ | ⟨g',cap',cur,hv,_,hg,_,_,_,ht⟩
 ·cases hv
 ·injection hv with e1 e2 e3
  injection e1 with e1
  injection e1 with e1
  subst e1;refine ⟨cur.toList.drop (d.length * 3),?_⟩;unfold RoE Ob;rw [hg,<- ht,List.take_append_drop]
end
section
open Go.RowKit Go.Shelf Apo
attribute [local go_sem] Oper.semAt_some
attribute [local go_sem ↓] app_sem
def KyP (es:List En) (l:List Ed) (W:World) (e:Ending) (W':World):Prop:=∃ fs,ApR es l fs/\e=.returned (.int .i64 (fs.length:Int))/\Below W.heap.size W W'
theorem fin_keys {X:World} {tmps:Array Value} {D:Nat} {n:Int} {Q:Ending->World->Prop} (h1:X.heap[D]?=some (.deferred (some []))) (hr:tmps.getD 6 undef=.int .i64 n) (hQ:Q (.returned (.int .i64 n)) (X.putObj D (.deferred none))) :
  bodyPostM Fence.wide 1 Tryz.prog Tryz.f37 Q Exit.ret { tmps:=tmps,defers:=[{ target:=.collected D,args:=#[] }] } X:=by
 refine ⟨by simp,.inl ⟨_,_,rfl,run_takeDeferred h1,?_⟩⟩;exact ⟨_,results_tmp rfl _ _ _,by rw [hr];exact hQ⟩
end
section
open Go.RowKit Go.Shelf Apo
def HdL (U:Nat->Prop) (A:World) (M:ByteArray->Option Value) (T:List (List Int)):Prop :=
 ∀ key v,M key=some v->∃ (xid:Nat) (xa:Option Addr) (xc:Nat) (xs:List En),v=.agg #[.int .u64 (xid:Int),.slice xa xs.length xc]/\OkN A (lfN xa xc xs)/\OffN U (lfN xa xc xs)/\xs.length<=1000000/\T[xid - 1]?=some (ndB ⟨0,xs,[]⟩)/\1<=xid/\xid<=T.length
section
variable {U U' O:Nat->Prop} {A A':World} {M:ByteArray->Option Value} {T:List (List Int)}
theorem HdL.none (U:Nat->Prop) (A:World) (T:List (List Int)):HdL U A (fun _=>none) T:=fun _ _ h=>by cases h
theorem HdL.step (h:HdL U A M T) (o:Onl U A A') (hU:∀ i,U' i->U i\/A.heap.size<=i):HdL U' A' M T:=by
 intro key v hv;obtain ⟨xid,xa,xc,xs,e1,e2,e3,e4,e5,e6,e7⟩:=h key v hv;refine ⟨xid,xa,xc,xs,e1,OkN.off e2 o e3,⟨fun y hy hp q=>?_,fun y hy=>by cases hy⟩,e4,e5,e6,e7⟩;rcases hU _ q with z | z
 ·exact e3.1 y hy hp z
 ·obtain ⟨x0,hx0⟩:∃ x0,xs[0]?=some x0:=⟨xs[0]'hp,List.getElem?_eq_getElem hp⟩;obtain ⟨g,of,f1,f2,_⟩:=e2.es 0 x0 hx0;have hgl:=World.block_lt_of_cell? _ _ f2;have hy':xa=some y:=hy;rw [hy'] at f1;cases f1
  simp only at z hgl;omega
theorem HdL.below (h:HdL U A M T) (b:Below A.heap.size A A'):HdL U A' M T:=h.step (Onl.ofBelow b) (fun _ q=>.inl q)
theorem HdL.put {xid:Nat} {xa:Option Addr} {xc:Nat} {xs:List En} (h:HdL U A M T) (key:ByteArray) (h1:OkN A (lfN xa xc xs)) (h2:OffN U (lfN xa xc xs)) (h3:xs.length<=1000000) (h4:T[xid - 1]?=some (ndB ⟨0,xs,[]⟩)) (h5:1<=xid) (h6:xid<=T.length):HdL U A (updS M key (some (.agg #[.int .u64 (xid:Int),.slice xa xs.length xc]))) T:=by
 intro k v hv;by_cases q:k=key
 ·subst q;rw [updS_same] at hv;cases hv
  exact ⟨xid,xa,xc,xs,rfl,h1,h2,h3,h4,h5,h6⟩
 ·rw [updS_other _ _ q] at hv;exact h k v hv
theorem HdL.hd {hb c:Nat} (h:HdL U A M T) (hM:Ms Tryz.prog 9 A hb c M) (hO:∀ i,O i->U i) (hn:¬ O hb):HdP O A hb T:=by
 refine ⟨c,M,hM,hn,fun key v hv=>?_⟩;obtain ⟨xid,xa,xc,xs,e1,e2,e3,e4,e5,e6,e7⟩:=h key v hv;exact ⟨xid,xa,xc,xs,e1,e2,⟨fun y hy hp q=>e3.1 y hy hp (hO _ q),fun y hy=>by cases hy⟩,e4,e5,e6,e7⟩
end
structure EdJ (W:World) (O:Nat->Prop) (T:List (List Int)) (b d:Nat) (r:Loop) (it:Nat->Nat × List En) (k:Nat) (U:Nat->Prop) (A:World):Prop where
 lp:LpAt d r A
 bel:Below W.heap.size W A
 k0:Ob A W.heap.size 27 [.int .u64 0]
 k1:Ob A (W.heap.size+1) 28 [.int .i64 0]
 kh:Ob A (b+2) 68 [.map (some (b+1))]
 row:∃ v,Ob A b 22 [v]/\Row (fun g=>d+2<=g) A 43 2 v (esK it k).length (Zm (esK it k))/\(∃ M,Ms Tryz.prog 9 A (b+1) k M/\HdL U A M T)/\∀ i,U i↔(O i\/i=b\/i=b+1\/v.ownBlock=some i)
section
variable {W A B:World} {O U:Nat->Prop} {T:List (List Int)} {b d k:Nat} {r:Loop} {it:Nat->Nat × List En}
theorem EdJ.below (h:EdJ W O T b d r it k U A) (hb:Below A.heap.size A B):EdJ W O T b d r it k U B:=by
 obtain ⟨v,v1,v2,⟨M,m1,m2⟩,v3⟩:=h.row;exact ⟨h.lp.below hb,h.bel.trans (hb.mono h.bel.size),h.k0.old hb,h.k1.old hb,h.kh.old hb,v,v1.old hb,v2.onl (F:=fun _=>False) (Onl.ofBelow hb) (fun _ _ q=>q),⟨M,m1.below hb,m2.below hb⟩,v3⟩
theorem EdJ.lt (h:EdJ W O T b d r it k U A) (hO:∀ i,O i->i < W.heap.size):∀ i,U i->i < A.heap.size:=by
 obtain ⟨v,v1,v2,⟨M,m1,m2⟩,v3⟩:=h.row;intro i q;rcases (v3 i).1 q with q | rfl | rfl | q
 ·exact Nat.lt_of_lt_of_le (hO i q) h.bel.size
 ·exact v1.lt
 ·exact m1.lt
 ·exact v2.lt i q
end
def EdR (W:World) (O:Nat->Prop) (T:List (List Int)) (b d:Nat) (r:Loop) (it:Nat->Nat × List En) (k:Nat) (U:Nat->Prop) (A A':World):Prop:=∃ U',EdJ W O T b d r it k U' A'/\Onl U A A'/\∀ i,U' i->U i\/A.heap.size<=i
end
section
open Go.RowKit Apo Go.Sort
attribute [local go_sem ↓] app_exec
theorem tecmp:CmpE 107:=by
 refine ⟨fun _ _=>by kernel_rfl,fun x y W=>?_⟩;obtain ⟨W0,hW0⟩:∃ W0,W0=(W.alloc (.cells #[.string x.k,.string x.v,.bool x.g] 46)).alloc (.cells #[.string y.k,.string y.v,.bool y.g] 46):=⟨_,rfl⟩;have C:=scompare_any x.k y.k W0;have k0:Ob W0 W.heap.size 46 [.string x.k,.string x.v,.bool x.g]:=by rw [hW0];exact (Ob.new W [.string x.k,.string x.v,.bool x.g] 46).alloc _
 have k1:Ob W0 (W.heap.size+1) 46 [.string y.k,.string y.v,.bool y.g]:=by
  rw [hW0];have:=Ob.new (W.alloc (.cells #[.string x.k,.string x.v,.bool x.g] 46)) [.string y.k,.string y.v,.bool y.g] 46;rw [World.size_alloc] at this;exact this
 have y0:=k0.cell 0;have y1:=k1.cell 0;simp only [List.getElem?_cons_zero] at y0 y1;have HG:Hid (∃ q os,W0=grow (W.drewN q) os):=Za ⟨0,#[.cells #[.string x.k,.string x.v,.bool x.g] 46,.cells #[.string y.k,.string y.v,.bool y.g] 46],by rw [hW0,alloc_eq_grow,alloc_eq_grow,grow_grow];rfl⟩;have HC:=Za C;rw [hW0] at y0 y1;unfold aggE;clear C k0 k1;go_enter Tryz.func107,Tryz.ntmps107
 go_wp2_with fail
 rw [<- hW0];clear hW0;refine HC.out.mono ?_;rintro e w2 ⟨rfl,rfl⟩;go_wp2;go_ret
 exact ⟨rfl,HG.out⟩
theorem temk (c:Nat) (wx:World) (hc:c<=10000000):∃ w',(Instr.makeSlice 44 (.int .i64 0) (.int .i64 (c:Int))).run Tryz.prog wx=.ok (.slice (some ⟨wx.heap.size,0,none⟩) 0 c) w'/\w'.ownsRow wx.heap.size 46 3 (.slice (some ⟨wx.heap.size,0,none⟩) 0 c) 0 []/\wx.grownBy w' none:=by
 obtain ⟨i0,hi,hz0,hz1,hz2⟩:=info_parts info_ed;exact run_make_own (P:=Tryz.prog) wx wx.heap.size 44 46 i0 _ 3 Tryz.underlying44 hi hz0 hz1 .i64 .i64 c (by rw [hz2];omega) (by unfold maxLen;omega) (Nat.le_refl _)
theorem teroe {O:Nat->Prop} {W:World} {g cap n:Nat} {d:List Ed} (h:Row O W 46 3 (.slice (some ⟨g,0,none⟩) n cap) d.length (Zf cEd d)):∃ ex,RoE W g d ex:=by
 rcases h.1.2 with ⟨hv,_⟩ | ⟨g',cap',cur,hv,_,hg,_,_,_,ht⟩
 ·cases hv
 ·injection hv with e1 e2 e3
  injection e1 with e1
  injection e1 with e1
  subst e1;refine ⟨cur.toList.drop (d.length * 3),?_⟩;unfold RoE Ob;rw [hg,<- ht,List.take_append_drop]
end
section
open Go.RowKit Go.Shelf Apo
attribute [local go_sem] Oper.semAt_some
theorem fin_edit {W:World} {A0 A1:Nat} {i e:Int} {tmps:Array Value} (k0:Ob W A0 27 [.int .u64 i]) (k1:Ob W A1 28 [.int .i64 e]) (h6:tmps.getD 6 undef=.pointer (some ⟨A0,0,none⟩)) (h7:tmps.getD 7 undef=.pointer (some ⟨A1,0,none⟩)) :
  (results Tryz.f36 tmps).run Tryz.prog W=.ok (.tuple #[.int .u64 i,.int .i64 e]) W:=by
 have h6':tmps[6]?.getD undef=.pointer (some ⟨A0,0,none⟩):=by simpa using h6
 have h7':tmps[7]?.getD undef=.pointer (some ⟨A1,0,none⟩):=by simpa using h7
 have c0:=k0.cell 0;have c1:=k1.cell 0;simp only [List.getElem?_cons_zero] at c0 c1;simp [results,Tryz.results36,go_sem,h6',h7',c0,c1]
end
section
open Go.RowKit Go.Shelf Apo
attribute [local go_sem] Oper.semAt_some
attribute [local go_sem ↓] app_sem
theorem HdL.obj {U:Nat->Prop} {A:World} {M:ByteArray->Option Value} {T:List (List Int)} {d:Nat} {ob o:Obj} (h:HdL U A M T) (hl:A.heap[d]?=some ob) (ho:ob.isCells=false):HdL U (A.putObj d o) M T:=by
 intro key v hv;obtain ⟨xid,xa,xc,xs,e1,e2,e3,e4,e5,e6,e7⟩:=h key v hv;refine ⟨xid,xa,xc,xs,e1,OkN.off e2 (ZI o) ⟨fun y hy hp q=>?_,fun y hy=>by cases hy⟩,e3,e4,e5,e6,e7⟩;obtain ⟨x0,hx0⟩:∃ x0,xs[0]?=some x0:=⟨xs[0]'hp,List.getElem?_eq_getElem hp⟩;obtain ⟨g,of,f1,f2,_⟩:=e2.es 0 x0 hx0;have hy':xa=some y:=hy;rw [hy'] at f1;cases f1
 exact cell_not f2 hl ho q
structure EdE (W:World) (O:Nat->Prop) (T:List (List Int)) (b d:Nat) (es:List En) (A:World):Prop where
 bel:Below W.heap.size W A
 k0:Ob A W.heap.size 27 [.int .u64 0]
 k1:Ob A (W.heap.size+1) 28 [.int .i64 0]
 kh:Ob A (b+2) 68 [.map (some (b+1))]
 row:∃ v U,Ob A b 22 [v]/\Row (fun g=>d+2<=g) A 43 2 v es.length (Zm es)/\(∃ k M,Ms Tryz.prog 9 A (b+1) k M/\HdL U A M T)/\∀ i,O i->U i
theorem EdE.obj {W:World} {O:Nat->Prop} {T:List (List Int)} {b d:Nat} {es:List En} {A:World} {ob o:Obj} {D:Nat} (h:EdE W O T b d es A) (hl:A.heap[D]?=some ob) (ho:ob.isCells=false) (hD:b+2 < D) (hW:W.heap.size+1 < D):EdE W O T b d es (A.putObj D o):=by
 obtain ⟨v,U,v1,v2,⟨k,M,m1,m2⟩,v3⟩:=h.row;have o3:Onl (fun i=>i=D) A (A.putObj D o):=ZI _;exact ⟨Below.onl h.bel o3 (fun i q=>by omega) (Nat.le_refl _),h.k0.onl o3 (by omega),h.k1.onl o3 (by omega),h.kh.onl o3 (by omega),v,U,v1.onl o3 (by omega),v2.onl o3 (fun i hi q=>Row.noLoop v2 hl ho (by rw [hi,q])),⟨k,M,m1.onl o3 (by omega),m2.obj hl ho⟩,v3⟩
end
section
open Go.RowKit Apo
def NearR {α:Type} (key:α->ByteArray) (L L':List α):Prop :=
 ∃ P M M' S,L=P++M++S/\L'=P++M'++S/\M.length<=2/\M'.length<=2/\(S=[]\/∃ x y,M.getLast?=some x/\M'.getLast?=some y/\key x=key y)
def keyRow {α:Type} (key:α->ByteArray) (r:List α):ByteArray:=match r.getLast? with
 | some x=>key x
 | none=>ByteArray.empty
theorem lastK_lf0 (r:List En):ZC ⟨0,r,[]⟩=keyRow En.k r:=by
 unfold ZC Nd.keys keyRow;cases h:r.getLast? with
 | none=>simp [List.getLast?_map,h]
 | some x=>simp [List.getLast?_map,h]
def ChN:Nat->List En->List En->Prop
 | 0,a,b=>a=b
 | n+1,a,b=>∃ c,ChN n a c/\NearR En.k c b/\b.length<=c.length+1
theorem ChN.len:∀ {n:Nat} {a b:List En},ChN n a b->b.length<=a.length+n
 | 0,_,_,h=>by have:_=_:=h;rw [this];omega
 | n+1,a,b,⟨c,h1,_,h3⟩=>by have:=ChN.len h1;omega
theorem Can.trees2 {T:List (List Int)} {es:List En} (hok:MapOk es) (hel:es.length<=100) (hT:T.length<=16000):∀ {l:Nat} {ks:List Ki},l<=20->Can T es l ks->∃ L:List (Nd × List (Nat × List En)),L.length=ks.length/\(∀ (i:Nat) (k:Ki) (x:Nd × List (Nat × List En)),ks[i]?=some k->L[i]?=some x->k.k=ZC x.1/\IsT T l k.i x.1 x.2)/\((L.map Prod.snd).flatten.map Prod.snd=Zj (fun e:En=>Zo 0 e.k) es/\∀ p ∈ (L.map Prod.snd).flatten,T[p.1 - 1]?=some (ndB ⟨0,p.2,[]⟩)/\1<=p.1)
 | 0,ks,_,h=>by
  obtain ⟨g1,_⟩:=hok.leaves (by omega) (hok.bytes (by omega));obtain ⟨rows,hrows⟩:∃ rows,rows=Zj (fun e:En=>Zo 0 e.k) es:=⟨_,rfl⟩;have h':Kids T (lvns rows) ks:=by rw [hrows];exact h
  rw [<- hrows] at g1;have hlen:ks.length=rows.length:=by have:=h'.1;simpa [lvns] using this
  refine ⟨(ks.zip rows).map (fun x=>(⟨0,x.2,[]⟩,[(x.1.i,x.2)])),by simp;omega,fun i k x hk hx=>?_,?_⟩
  ·rw [List.getElem?_map] at hx;cases hz:(ks.zip rows)[i]? with
   | none=>rw [hz] at hx;cases hx
   | some y =>
    rw [hz] at hx;simp only [Option.map_some,Option.some.injEq] at hx;rw [List.getElem?_zip_eq_some] at hz;obtain ⟨z1,z2⟩:=hz;rw [hk] at z1;have hy1:y.1=k:=by cases z1;rfl
    have hn:(lvns rows)[i]?=some ⟨0,y.2,[]⟩:=by simp [lvns,z2]
    obtain ⟨c1,c2,c3⟩:=h'.2 i _ k hn hk;subst hx;rw [hy1];have gn:=g1 _ (List.mem_of_getElem? hn);exact ⟨c1,gn.nod c3 c2 hT (fun k hk=>by simp at hk),rfl,rfl⟩
  ·have hfl:(((ks.zip rows).map (fun x=>((⟨0,x.2,[]⟩:Nd),[(x.1.i,x.2)]))).map Prod.snd).flatten=(ks.zip rows).map (fun x=>(x.1.i,x.2)):=by
    rw [List.map_map];generalize ks.zip rows=z;induction z with
    | nil=>rfl
    | cons y z ih=>simp only [List.map_cons,List.flatten_cons,ih];rfl
   rw [hfl];refine ⟨?_,fun p hp=>?_⟩
   ·rw [List.map_map,<- hrows];have h2:(Prod.snd ∘ fun x:Ki × List En=>(x.1.i,x.2))=Prod.snd:=rfl;rw [h2,List.map_snd_zip (by omega)]
   ·obtain ⟨y,hy,rfl⟩:=List.mem_map.1 hp;obtain ⟨i,hi,q⟩:=List.mem_iff_getElem.1 hy;have hz:(ks.zip rows)[i]?=some y:=by rw [List.getElem?_eq_getElem hi,q]
    rw [List.getElem?_zip_eq_some] at hz;have hn:(lvns rows)[i]?=some ⟨0,y.2,[]⟩:=by simp [lvns,hz.2]
    obtain ⟨c1,c2,c3⟩:=h'.2 i _ y.1 hn hz.1;exact ⟨c2,c3⟩
 | l+1,ks,hl,⟨ks0,h1,h2,h3⟩=>by
  obtain ⟨L0,p1,p2,p3⟩:=Can.trees2 hok hel hT (by omega) h1;obtain ⟨g1,_⟩:=h1.up hok (by omega) (by omega) (show l < 20 by omega);obtain ⟨lv,hlv⟩:∃ lv:Int,lv=((l+1:Nat):Int):=⟨_,rfl⟩;rw [<- hlv] at h3 g1;obtain ⟨R,hR⟩:∃ R,R=Zj (fun x:Ki × (Nd × List (Nat × List En))=>Zo lv x.1.k) (ks0.zip L0):=⟨_,rfl⟩;have hfst:(ks0.zip L0).map Prod.fst=ks0:=List.map_fst_zip (by omega)
  have hrows:Zj (fun e:Ki=>Zo lv e.k) ks0=R.map (List.map Prod.fst):=by
   rw [hR,<- split_map (f:=Prod.fst) (p:=fun e:Ki=>Zo lv e.k),hfst]
  have hRf:R.flatten=ks0.zip L0:=by rw [hR];exact Z3
  rw [hrows] at h3 g1;have hlen:ks.length=R.length:=by have:=h3.1;simpa [abns] using this
  refine ⟨R.map (fun r=>(⟨lv,[],r.map Prod.fst⟩,(r.map (fun y=>y.2.2)).flatten)),by simp;omega,fun i k x hk hx=>?_,?_⟩
  ·rw [List.getElem?_map] at hx;cases hz:R[i]? with
   | none=>rw [hz] at hx;cases hx
   | some r =>
    rw [hz] at hx;simp only [Option.map_some,Option.some.injEq] at hx;have hn:(abns lv (R.map (List.map Prod.fst)))[i]?=some ⟨lv,[],r.map Prod.fst⟩:=by simp [abns,hz]
    obtain ⟨c1,c2,c3⟩:=h3.2 i _ k hn hk;have gn:=g1 _ (List.mem_of_getElem? hn);subst hx;have hmem:∀ y ∈ r,y ∈ ks0.zip L0:=fun y hy=>by rw [<- hRf];exact List.mem_flatten.2 ⟨r,List.mem_of_getElem? hz,hy⟩
    have hpair:∀ y ∈ r,y.1.k=ZC y.2.1/\IsT T l y.1.i y.2.1 y.2.2:=fun y hy=>by
     obtain ⟨t,ht,q⟩:=List.mem_iff_getElem.1 (hmem y hy);have hq:(ks0.zip L0)[t]?=some y:=by rw [List.getElem?_eq_getElem ht,q]
     rw [List.getElem?_zip_eq_some] at hq;exact p2 t y.1 y.2 hq.1 hq.2
    refine ⟨c1,gn.nod c3 c2 hT (fun k hk'=>?_),hlv,by omega,r.map (fun y=>y.2.1),r.map (fun y=>y.2.2),by simp,by simp,fun j k' n' x' hk' hn' hx'=>?_,rfl⟩
    ·simp only [List.mem_map] at hk';obtain ⟨y,hy,rfl⟩:=hk';exact (hpair y hy).2.nod.1.lt
    ·rw [List.getElem?_map] at hk' hn' hx';cases hy:r[j]? with
     | none=>rw [hy] at hk';cases hk'
     | some y =>
      rw [hy] at hk' hn' hx';simp only [Option.map_some,Option.some.injEq] at hk' hn' hx';subst hk' hn' hx';exact hpair y (List.mem_of_getElem? hy)
  ·have hsnd:(ks0.zip L0).map Prod.snd=L0:=List.map_snd_zip (by omega)
   have h5:((R.map (fun r=>((⟨lv,[],r.map Prod.fst⟩:Nd),(r.map (fun y=>y.2.2)).flatten))).map Prod.snd).flatten=(L0.map Prod.snd).flatten:=by
    rw [List.map_map,<- hsnd,<- hRf,List.map_map]
    have:∀ R:List (List (Ki × (Nd × List (Nat × List En)))),(R.map (Prod.snd ∘ fun r=>((⟨lv,[],r.map Prod.fst⟩:Nd),(r.map (fun y=>y.2.2)).flatten))).flatten=(R.flatten.map (Prod.snd ∘ Prod.snd)).flatten:=by
     intro R;induction R with
     | nil=>rfl
     | cons r R ih =>
      simp only [List.map_cons,List.flatten_cons,List.map_append,List.flatten_append,ih];rfl
    exact this R
   rw [h5];exact p3
theorem RootOf.tree2 {T:List (List Int)} {es:List En} {id:Nat} (hok:MapOk es) (hel:es.length<=100) (hT:T.length<=16000) (h:RootOf T es id):∃ ls,RootT T id ls/\ls.map Prod.snd=Zj (fun e:En=>Zo 0 e.k) es/\∀ p ∈ ls,T[p.1 - 1]?=some (ndB ⟨0,p.2,[]⟩)/\1<=p.1/\p.1<=T.length:=by
 obtain ⟨l,ks,h1,h2,h3,h4⟩:=h;obtain ⟨L,p1,p2,p3,p4⟩:=h1.trees2 hok hel hT h2
 have lt:∀ p:Nat × List En,T[p.1 - 1]?=some (ndB ⟨0,p.2,[]⟩)/\1<=p.1->p.1<=T.length:=fun p q=>by
  have:=(List.getElem?_eq_some_iff.1 q.1).1;omega
 match ks,L,p1 with
 | [],[],_=>exact ⟨[],.inl ⟨h4,rfl⟩,p3,fun p hp=>by simp at hp⟩
 | [k],[x],_ =>
  obtain ⟨c1,c2⟩:=p2 0 k x rfl rfl;have hid:id=k.i:=h4;rw [<- hid] at c2;simp only [List.map_cons,List.map_nil,List.flatten_cons,List.flatten_nil,List.append_nil] at p3 p4;exact ⟨x.2,.inr ⟨l,x.1,c2⟩,p3,fun p hp=>⟨(p4 p hp).1,(p4 p hp).2,lt p (p4 p hp)⟩⟩
 | _ :: _ :: _,_,_=>simp at h3
theorem rise_parts (key:ByteArray):∀ {es:List En},Zz es->∃ A X B,es=A++(X++B)/\X.length<=1/\(∀ e ∈ A,Z2 e.k key=true)/\(∀ e ∈ X,e.k=key)/\∀ e ∈ B,Z2 key e.k=true
 | [],_=>⟨[],[],[],rfl,by simp,by simp,by simp,by simp⟩
 | e :: es,h=>by
  unfold Zz at h;rw [List.pairwise_cons] at h;cases h1:Z2 e.k key with
  | true =>
   obtain ⟨A,X,B,q1,q2,q3,q4,q5⟩:=rise_parts key h.2;refine ⟨e :: A,X,B,by rw [q1];rfl,q2,fun f hf=>?_,q4,q5⟩;rcases List.mem_cons.1 hf with z | z
   ·rw [z];exact h1
   ·exact q3 f z
  | false =>
   cases h2:Z2 key e.k with
   | true =>
    refine ⟨[],[],e :: es,rfl,by simp,by simp,by simp,fun f hf=>?_⟩;rcases List.mem_cons.1 hf with z | z
    ·rw [z];exact h2
    ·exact ZV h2 (h.1 f z)
   | false =>
    have hk:=sLt_conn h1 h2;exact ⟨[],[e],es,rfl,by simp,by simp,fun f hf=>by rw [List.mem_singleton.1 hf];exact hk,fun f hf=>by rw [<- hk];exact h.1 f hf⟩
theorem setC_near {es:List En} {x:Ed} (hr:Zz es):∃ A X Y B,es=A++(X++B)/\SetC es x (A++(Y++B))/\X.length<=1/\Y.length<=1/\∀ e ∈ Y,e=⟨x.k,x.v⟩/\x.g=false:=by
 obtain ⟨A,X,B,q1,q2,q3,q4,q5⟩:=rise_parts x.k hr;obtain ⟨Y,hY⟩:∃ Y,Y=(if x.g=true then [] else [(⟨x.k,x.v⟩:En)]):=⟨_,rfl⟩;have hYl:Y.length<=1:=by rw [hY];split <;> simp
 have hYk:∀ e ∈ Y,e.k=x.k:=fun e he=>by
  rw [hY] at he;split at he
  ·simp at he
  ·rw [List.mem_singleton.1 he]
 have hrA:Zz A/\Zz B/\∀ a ∈ A,∀ b ∈ B,Z2 a.k b.k=true:=by
  unfold Zz at hr ⊢;rw [q1,List.pairwise_append,List.pairwise_append] at hr;exact ⟨hr.1,hr.2.1.2.1,fun a ha b hb=>hr.2.2 a ha b (by simp [hb])⟩
 have hset:SetC es x (A++(Y++B)):=by
  refine ⟨?_,fun key v b hk hg=>?_,fun hg=>?_,fun hg=>?_⟩
  ·unfold Zz;rw [List.pairwise_append,List.pairwise_append];refine ⟨hrA.1,⟨?_,hrA.2.1,fun a ha b hb=>by rw [hYk a ha];exact q5 b hb⟩,fun a ha b hb=>?_⟩
   ·match Y,hYl with
    | [],_=>exact List.Pairwise.nil
    | [y],_=>exact List.pairwise_singleton _ _
   ·rcases List.mem_append.1 hb with z | z
    ·rw [hYk b z];exact q3 a ha
    ·exact hrA.2.2 a ha b z
  ·rcases hg with ⟨g1,e,g2,g3,g4⟩ | ⟨g1,g2,g3⟩
   ·refine .inl ⟨g1,e,?_,g3,g4⟩;rw [q1] at g2;simp only [List.mem_append] at g2 ⊢;rcases g2 with z | z | z
    ·exact .inl z
    ·exact absurd ((q4 e z).symm.trans g3).symm hk
    ·exact .inr (.inr z)
   ·refine .inr ⟨g1,g2,fun e he=>?_⟩;simp only [List.mem_append] at he;rcases he with z | z | z
    ·exact g3 e (by rw [q1];simp [z])
    ·exact fun q=>hk (q.symm.trans (hYk e z))
    ·exact g3 e (by rw [q1];simp [z])
  ·refine .inl ⟨rfl,⟨x.k,x.v⟩,?_,rfl,rfl⟩;rw [hY,hg];simp
  ·refine .inr ⟨rfl,rfl,fun e he q=>?_⟩;rw [hY,hg] at he;simp only [List.mem_append] at he;rcases he with z | z | z
   ·have:=q3 e z;rw [q,ZM] at this;cases this
   ·simp at z
   ·have:=q5 e z;rw [q,ZM] at this;cases this
 refine ⟨A,X,Y,B,q1,hset,q2,hYl,fun e he=>?_⟩;rw [hY] at he;split at he
 ·simp at he
 ·exact ⟨List.mem_singleton.1 he,by simpa using ‹¬ x.g=true›⟩
def edE (x:Ed):Int:=if Z7 x.k≠0 then Z7 x.k else if x.g=true then 0 else valE x.v
theorem edE_ok {x:Ed} (h:edE x=0):Z7 x.k=0/\(x.g=true\/valE x.v=0):=by
 unfold edE at h;by_cases h1:Z7 x.k=0
 ·rw [if_neg (by simp [h1])] at h;by_cases h2:x.g=true
  ·exact ⟨h1,.inl h2⟩
  ·rw [if_neg h2] at h;exact ⟨h1,.inr h⟩
 ·rw [if_pos h1] at h;exact absurd h h1
theorem near_place {A X Y B:List En} (hX:X.length<=1) (hY:Y.length<=1):NearR En.k (A++(X++B)) (A++(Y++B)):=by
 cases B with
 | nil=>exact ⟨A,X,Y,[],by simp,by simp,by omega,by omega,.inl rfl⟩
 | cons b B=>exact ⟨A,X++[b],Y++[b],B,by simp,by simp,by simp;omega,by simp;omega,.inr ⟨b,b,by simp,by simp,rfl⟩⟩
theorem keyE_okT {k:ByteArray} (h:Z7 k=0):1<=k.size/\k.size<=40:=by
 unfold Z7 at h;split at h
 ·simp at h
 ·omega
theorem valE_okT {v:ByteArray} (h:valE v=0):v.size<=200:=by
 unfold valE at h;split at h
 ·simp at h
 ·omega
theorem apr_chain {es:List En} (hok:MapOk es):∀ (n:Nat) (l:List Ed),l.length=n->(∀ x ∈ l,edE x=0)->∃ fs,ApR es l fs/\ChN n es fs/\MapOk fs
 | 0,l,hl,_=>by
  have:l=[]:=List.eq_nil_of_length_eq_zero hl;subst this;exact ⟨es,ApR.nil (riseE_iff.2 hok.rise),rfl,hok⟩
 | n+1,l,hl,he=>by
  obtain ⟨l0,x,rfl⟩:∃ l0 x,l=l0++[x]:=by
   cases hq:l.getLast? with
   | none =>
    have:l=[]:=by simpa using hq
    subst this;simp at hl
   | some x =>
    obtain ⟨l0,h⟩:=List.getLast?_eq_some_iff.1 hq
    exact ⟨l0,x,h⟩
  obtain ⟨c,h1,h2,h3⟩:=apr_chain hok n l0 (by simpa using hl) (fun y hy=>he y (by simp [hy]));obtain ⟨A,X,Y,B,q1,q2,q3,q4,q5⟩:=setC_near (x:=x) h1.1;obtain ⟨k1,k2⟩:=edE_ok (he x (by simp));refine ⟨A++(Y++B),h1.snoc q2,⟨c,h2,by rw [q1];exact near_place q3 q4,by rw [q1];simp;omega⟩,⟨riseE_iff.1 q2.1,fun e hm=>?_,fun e hm=>?_⟩⟩
  ·simp only [List.mem_append] at hm;rcases hm with z | z | z
   ·exact h3.key e (by rw [q1];simp [z])
   ·rw [(q5 e z).1];exact keyE_okT k1
   ·exact h3.key e (by rw [q1];simp [z])
  ·simp only [List.mem_append] at hm;rcases hm with z | z | z
   ·exact h3.val e (by rw [q1];simp [z])
   ·rcases k2 with y | y
    ·rw [(q5 e z).2] at y;cases y
    ·rw [(q5 e z).1];exact valE_okT y
   ·exact h3.val e (by rw [q1];simp [z])
theorem ApR.chain {es fs:List En} {l:List Ed} (hok:MapOk es) (he:∀ x ∈ l,edE x=0) (h:ApR es l fs):ChN l.length es fs/\MapOk fs/\fs.length<=es.length+l.length:=by
 obtain ⟨gs,h1,h2,h3⟩:=apr_chain hok l.length l rfl he;have:=h.uniq h1;subst this;exact ⟨h2,h3,h2.len⟩
theorem split_entT {ls:List (Nat × List En)} {es:List En} (h:ls.map Prod.snd=Zj (fun e:En=>Zo 0 e.k) es):ls.flatMap (fun p=>p.2)=es:=by
 have h1:ls.flatMap (fun p=>p.2)=(ls.map Prod.snd).flatten:=by rw [List.flatMap_def]
 rw [h1,h];exact Z3
theorem rows_lenT {rows:List (List En)} (h:∀ r ∈ rows,0 < r.length):rows.length<=rows.flatten.length:=by
 induction rows with
 | nil=>simp
 | cons r rows ih =>
  have:=h r (by simp);have:=ih (fun q hq=>h q (by simp [hq]));simp only [List.length_cons,List.flatten_cons,List.length_append];omega
def edsE (l:List Ed):Int:=ZK edE l
end
section
open Go.RowKit Go.Shelf Apo
attribute [local go_sem] Oper.semAt_some
attribute [local go_sem ↓] app_sem
theorem tedit_err (W:World) (s root:Nat) (ea:Option Addr) (ec:Nat) (l:List Ed) (hl:RdG cEd 3 W ea l) (hll:l.length<=1000) (hz:∀ x ∈ l,x.k.size<=9223372036854775807/\x.v.size<=9223372036854775807) (hbad:¬ ∀ x ∈ l,edE x=0) :
  Calls Tryz.prog 36 #[.pointer (some ⟨s,0,none⟩),.int .u64 root,.slice ea l.length ec] W fun e W'=>e=.returned (.tuple #[.int .u64 0,.int .i64 (edsE l)])/\Below W.heap.size W W':=by
 refine (callsIn_wide (n:=1)).1 ?_;obtain ⟨W2,hW2⟩:∃ W2,W2=(W.alloc (.cells #[.int .u64 0] 27)).alloc (.cells #[.int .i64 0] 28):=⟨_,rfl⟩;have s2:W2.heap.size=W.heap.size+2:=by rw [hW2];simp
 have b2:Below W.heap.size W W2:=by rw [hW2];exact ((Below.refl _ W).alloc (Nat.le_refl _) _).alloc (by simp) _
 have k0:Ob W2 W.heap.size 27 [.int .u64 0]:=by rw [hW2];exact (Ob.new W [.int .u64 0] 27).alloc _
 have k1:Ob W2 (W.heap.size+1) 28 [.int .i64 0]:=by
  have:=Ob.new (W.alloc (.cells #[.int .u64 0] 27)) [.int .i64 0] 28;rw [World.size_alloc] at this;rw [hW2];exact this
 have HL:=Za hl;have HZ:=Za hz;have HBAD:=Za hbad;have HB2:=Za b2;have HK0:=Za k0;have HK1:=Za k1;have HS2:=Za s2;obtain ⟨nl,hnl⟩:∃ n,n=l.length:=⟨_,rfl⟩;have HNL:=Za hnl;rw [<- hnl] at hll ⊢;clear hl hz hbad b2 k0 k1 hnl s2;refine callsIn_of_wp_marks Tryz.func36 rfl trivial ?_ rfl;simp only [Tryz.ntmps36,List.size_toArray,List.length_cons,List.length_nil,Nat.reduceAdd,Nat.reduceSub,Array.replicate_succ,Array.replicate_zero,List.push_toArray,List.append_toArray,List.nil_append,List.cons_append];gi_wp2
 rw [<- hW2];clear hW2;gi_loopw [18] (fun i wr=>∃ j:Nat,j<=nl/\i=.int .i64 j/\Hid (Below W2.heap.size W2 wr)/\Hid (∀ x ∈ l.take j,edE x=0)) (fun i _=>nl - (intOf i).toNat)
 case atStart=>exact ⟨0,Nat.zero_le _,rfl,Za (Below.refl _ _),Za (by simp)⟩
 case round =>
 obtain ⟨j,hj,rfl,HBr,HZR⟩:=hrel;by_cases hjn:j < nl
 ·obtain ⟨⟨xk,xv,xg⟩,hxj⟩:∃ x,l[j]?=some x:=⟨l[j]'(by have:=HNL.out;omega),List.getElem?_eq_getElem _⟩;obtain ⟨g,o,rfl,c0,c1,c2⟩:=((HL.out.below HB2.out).below HBr.out).ed hxj;simp only at c0 c1 c2;obtain ⟨q3,q4⟩:=HZ.out _ (List.mem_of_getElem? hxj);simp only at q3 q4;have CK:=fun W=>key_any xk W q3
  have CV:=fun W=>val_any xv W q4
  have HNX:Hid (edE ⟨xk,xv,xg⟩=0->∀ x ∈ l.take (j+1),edE x=0):=Za (fun h0 x hx=>by
   rw [List.take_add_one,hxj] at hx;rcases List.mem_append.1 hx with q | q
   ·exact HZR.out x q
   ·have:x=⟨xk,xv,xg⟩:=by simpa using q
    rw [this];exact h0)
  have HERR:Hid (edE ⟨xk,xv,xg⟩≠0->edsE l=edE ⟨xk,xv,xg⟩):=Za (fun q=>firstE_at hxj HZR.out q);obtain ⟨K,hK⟩:∃ K,K=Z7 xk:=⟨_,rfl⟩;obtain ⟨V,hV⟩:∃ V,V=valE xv:=⟨_,rfl⟩;rw [<- hK] at CK;rw [<- hV] at CV;have HCK:=Za CK;have HCV:=Za CV;have HKE:=Za hK;have HVE:=Za hV;have b1:Below W2.heap.size W2 (wr.alloc (.cells #[.string xk,.string xv,.bool xg] 46)):=HBr.out.alloc HBr.out.size _;have HBF:=Za b1;have d0:=HK0.out.old b1;have d1:=HK1.out.old b1;obtain ⟨W3,hW3⟩:∃ W3,W3=wr.alloc (.cells #[.string xk,.string xv,.bool xg] 46):=⟨_,rfl⟩
  have HFIN:Hid (∀ er:Int,er≠0->Below W.heap.size W ((W3.setCell ⟨W.heap.size,0,none⟩ (.int .u64 0)).setCell ⟨W.heap.size+1,0,none⟩ (.int .i64 er))/\Ob ((W3.setCell ⟨W.heap.size,0,none⟩ (.int .u64 0)).setCell ⟨W.heap.size+1,0,none⟩ (.int .i64 er)) W.heap.size 27 [.int .u64 0]/\Ob ((W3.setCell ⟨W.heap.size,0,none⟩ (.int .u64 0)).setCell ⟨W.heap.size+1,0,none⟩ (.int .i64 er)) (W.heap.size+1) 28 [.int .i64 er]):=Za (fun er _=>by
   rw [<- hW3] at d0 d1 b1;have o4:Onl (fun i=>i=W.heap.size\/i=W.heap.size+1) W3 ((W3.setCell ⟨W.heap.size,0,none⟩ (.int .u64 0)).setCell ⟨W.heap.size+1,0,none⟩ (.int .i64 er)):=((Onl.refl (fun i=>i=W.heap.size\/i=W.heap.size+1) W3).set (p:=W.heap.size) (.inl (.inl rfl)) _).set (p:=W.heap.size+1) (.inl (.inr rfl)) _;exact ⟨Below.onl (HB2.out.trans (b1.mono HB2.out.size)) o4 (fun i q=>by omega) (Nat.le_refl _),(d0.set 0 _).set_other (by omega) _,(d1.set_other (by omega) _).set 0 _⟩)
  have y0:=d0.cell 0;have y1:=d1.cell 0;have f0:=d0.frozen 0;have f1:=d1.frozen 0;have e1:=(d1.set_other (i:=0) (show W.heap.size+1≠W.heap.size by omega) (.int .u64 0)).cell 0;have e2:=(d1.set_other (i:=0) (show W.heap.size+1≠W.heap.size by omega) (.int .u64 0)).frozen 0;simp only [List.getElem?_cons_zero] at y0 y1 e1;rw [hW3] at HFIN;clear CK CV q3 q4 hxj b1 d0 d1 hW3 hK hV;gi_wp2_with fail
  refine ⟨trivial,(callsIn_wide.2 (HCK.out _)).mono ?_⟩;rintro e w1 ⟨rfl,rfl⟩;by_cases hK0:K=0
  rotate_left
  ·have dc:(K != 0)=true:=by simpa using hK0
   have HF:=Za (HFIN.out K hK0);have hE1:edE ⟨xk,xv,xg⟩=K:=by unfold edE;rw [if_pos (by rw [<- HKE.out];exact hK0)];exact HKE.out.symm
   have HE:=Za ((HERR.out (by rw [hE1];exact hK0)).trans hE1);clear HFIN HERR hE1;gi_wp2
   obtain ⟨z1,z2,z3⟩:=HF.out;exact ⟨_,fin_edit z2 z3 rfl rfl,by rw [HE.out],z1⟩
  subst hK0;gi_wp2_with fail
  refine ⟨trivial,(callsIn_wide.2 (HCV.out _)).mono ?_⟩;rintro e w1 ⟨rfl,rfl⟩;cases xg with
  | true =>
   have HN:=Za (HNX.out (by unfold edE;rw [if_neg (by simp [<- HKE.out]),if_pos rfl]));clear HFIN HNX HERR;gi_wp2
   go_roundw
   case rel=>exact ⟨j+1,by omega,by go_num,HBF,HN⟩
   case measure=>simp [intOf];omega
  | false =>
   by_cases hV0:V=0
   ·subst hV0;have HN:=Za (HNX.out (by unfold edE;rw [if_neg (by simp [<- HKE.out]),if_neg (by simp)];exact HVE.out.symm));clear HFIN HNX HERR;gi_wp2
    go_roundw
    case rel=>exact ⟨j+1,by omega,by go_num,HBF,HN⟩
    case measure=>simp [intOf];omega
   ·have dc:(V != 0)=true:=by simpa using hV0
    have HF:=Za (HFIN.out V hV0);have hE1:edE ⟨xk,xv,false⟩=V:=by unfold edE;rw [if_neg (by simp [<- HKE.out]),if_neg (by simp)];exact HVE.out.symm
    have HE:=Za ((HERR.out (by rw [hE1];exact hV0)).trans hE1);clear HFIN HNX HERR hE1;gi_wp2
    obtain ⟨z1,z2,z3⟩:=HF.out;exact ⟨_,fin_edit z2 z3 rfl rfl,by rw [HE.out],z1⟩
 ·exfalso
  have:=HZR.out;rw [List.take_of_length_le (by have:=HNL.out;omega)] at this;exact HBAD.out this
end
end Go.Proofs.YtdhebpnkfookcaaGreat
