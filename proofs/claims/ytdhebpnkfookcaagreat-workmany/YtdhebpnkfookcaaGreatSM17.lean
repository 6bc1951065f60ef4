import Derived.Test.YtdhebpnkfookcaaGreatSM15
import Derived.Test.YtdhebpnkfookcaaGreatSM16
set_option maxRecDepth 100000
set_option maxHeartbeats 4000000
namespace Apo
open Go Go.RowKit
def pgOf (raw:List Int) (k:Nat):List Int:=(raw.drop (128 * k)).take 128
def txOf (raw:List Int) (k:Nat):List Int:=(pgOf raw k).drop 4
def smOf (raw:List Int) (k:Nat):Bool:=decide ((pgOf raw k).take 4=sum4 (txOf raw k))
def Sd.rdText2 (st:Sd) (a size:Int):List Int × Int :=
 if Zc size=0 then ([],1) else if (gat st a (4 * Zc size)).2=0 then (if (List.range (Zc size)).all (smOf (gat st a (4 * Zc size)).1)=true then (((List.range (Zc size)).flatMap (txOf (gat st a (4 * Zc size)).1)).take size.toNat,0) else ([],60)) else ([],(gat st a (4 * Zc size)).2)
theorem pgOf_len {raw:List Int} {n k:Nat} (h:raw.length=128 * n) (hk:k < n):(pgOf raw k).length=128:=by
 unfold pgOf;rw [List.length_take,List.length_drop,h];omega
theorem txOf_len {raw:List Int} {n k:Nat} (h:raw.length=128 * n) (hk:k < n):(txOf raw k).length=124:=by
 unfold txOf;rw [List.length_drop,pgOf_len h hk]
theorem pgOf_byt {raw:List Int} (h:∀ z ∈ raw,0<=z/\z<=255) (k:Nat):∀ z ∈ pgOf raw k,0<=z/\z<=255:=fun z hz=>h z (List.mem_of_mem_drop (List.mem_of_mem_take hz))
theorem txOf_byt {raw:List Int} (h:∀ z ∈ raw,0<=z/\z<=255) (k:Nat):∀ z ∈ txOf raw k,0<=z/\z<=255:=fun z hz=>pgOf_byt h k z (List.mem_of_mem_drop hz)
def txts {n:Nat} (raw:List Int) (pre:List (Fin n)):List Int:=pre.flatMap (fun x=>txOf raw x.1)
theorem txts_snoc {n:Nat} (raw:List Int) (pre:List (Fin n)) (x:Fin n):txts raw (pre++[x])=txts raw pre++txOf raw x.1:=by simp [txts]
theorem txts_len {n:Nat} {raw:List Int} (h:raw.length=128 * n):∀ pre:List (Fin n),(txts raw pre).length=124 * pre.length
 | []=>rfl
 | x :: pre=>by
  have:=txts_len h pre;simp only [txts,List.flatMap_cons,List.length_append,List.length_cons] at this ⊢;rw [this,txOf_len h x.2];omega
theorem txts_all {n:Nat} (raw:List Int):txts raw (List.finRange n)=(List.range n).flatMap (txOf raw):=by
 have e:(List.finRange n).map (fun x=>x.1)=List.range n:=List.ext_getElem (by simp) (fun i h1 h2=>by simp);unfold txts;rw [<- e,List.flatMap_map]
theorem all_fin {n:Nat} {raw:List Int} (h:∀ x ∈ List.finRange n,smOf raw x.1=true):(List.range n).all (smOf raw)=true:=by
 rw [List.all_eq_true];intro k hk;exact h ⟨k,by simpa using hk⟩ (List.mem_finRange _)
theorem all_not {n:Nat} {raw:List Int} {x:Fin n} (h:smOf raw x.1=false):(List.range n).all (smOf raw)=false:=by
 rw [<- Bool.not_eq_true,List.all_eq_true];intro q;have:=q x.1 (by simp);rw [h] at this;cases this
end Apo
namespace Go.Proofs.YtdhebpnkfookcaaGreat
section
open Go.RowKit Go.Shelf Apo
attribute [local go_sem] Oper.semAt_some
attribute [local go_sem ↓] app_sem
def TldR (w':World) (B:Nat) (v:Value) (l:List Int):Prop:=∃ a c,v=.slice a l.length c/\Rd .u8 w' a l/\(a=none->c=0)/\(∀ x,a=some x->B<=x.block/\x.block < w'.heap.size)/\l.length<=c
theorem TldR.nil (w':World) (B:Nat):TldR w' B (.slice none 0 0) []:=⟨none,0,rfl,fun i hi=>by simp at hi,fun _=>rfl,(fun x hx=>by cases hx),Nat.le_refl _⟩
structure Rdg {n:Nat} (w W1 W0:World) (g:Nat) (raw:List Int) (pre:List (Fin n)) (W:World):Prop where
 sums:∀ x ∈ pre,smOf raw x.1=true
 box:∃ u,Ob W W1.heap.size 41 [u]/\W.ownsRow W0.heap.size 5 1 u (124 * pre.length) ((txts raw pre).map (Value.int .u8))
 r0:Ob W w.heap.size 41 [.slice none 0 0]
 r1:Ob W (w.heap.size+1) 28 [.int .i64 0]
 raw:Rd .u8 W (some ⟨g,0,none⟩) raw
 bel:Below w.heap.size w W
 siz:W0.heap.size<=W.heap.size
theorem Rdg.own {n:Nat} {w W1 W0:World} {g:Nat} {raw:List Int} (h1:w.heap.size+2<=W1.heap.size) (h2:W1.heap.size < W0.heap.size) (hg:g < W0.heap.size):OwnFrom W0.heap.size (Rdg (n:=n) w W1 W0 g raw):=by
 rintro s W W' row ⟨a1,⟨u,a2,a3⟩,a4,a5,a6,a7,a8⟩ hgr hr;refine ⟨a1,⟨u,a2.kept hgr (fun e=>by have:=(hr _ e).1;omega),a3.kept hgr ?_⟩,a4.kept hgr (fun e=>by have:=(hr _ e).1;omega),a5.kept hgr (fun e=>by have:=(hr _ e).1;omega),a6.grew hgr (fun x hx _ e=>by cases hx;have:=(hr _ e).1;simp at this;omega),a7.grown hgr a7.size (fun k e=>by have:=(hr k e).1;omega),Nat.le_trans a8 hgr.size⟩;cases hq:u.ownBlock with
 | none=>exact .inl rfl
 | some g =>
  right
  intro e;obtain ⟨_,o,ho,hc⟩:=hr g e.symm;obtain ⟨c,e',f,q⟩:=own_cells a3 g hq;rw [ho] at q;cases q
  cases hc
theorem fin_read {W:World} {A0 A1:Nat} {a:Option Addr} {n c:Nat} {e:Int} {tmps:Array Value} (k0:Ob W A0 41 [.slice a n c]) (k1:Ob W A1 28 [.int .i64 e]) (h6:tmps.getD 6 undef=.pointer (some ⟨A0,0,none⟩)) (h7:tmps.getD 7 undef=.pointer (some ⟨A1,0,none⟩)) :
  (results Tryz.f115 tmps).run Tryz.prog W=.ok (.tuple #[.slice a n c,.int .i64 e]) W:=by
 have h6':tmps[6]?.getD undef=.pointer (some ⟨A0,0,none⟩):=by simpa using h6
 have h7':tmps[7]?.getD undef=.pointer (some ⟨A1,0,none⟩):=by simpa using h7
 have c0:=k0.cell 0;have c1:=k1.cell 0;simp only [List.getElem?_cons_zero] at c0 c1;simp [results,Tryz.results115,go_sem,h6',h7',c0,c1]
theorem crtext_in {O:Nat->Prop} {w:World} {p:Nat} {st:Sd} (h:CDev O w p st) (hc:st.C.length<=1073741824) (start size:Int) :
  CallsIn Fence.wide 3 Tryz.prog 115 #[.pointer (some ⟨p,0,none⟩),.int .i64 start,.int .i64 size] w fun e w'=>∃ v,e=.returned (.tuple #[v,.int .i64 (st.rdText2 (Zw start) size).2])/\TldR w' w.heap.size v (st.rdText2 (Zw start) size).1/\Below w.heap.size w w':=by
 obtain ⟨i0,hi0,hz0,hz1,hz2⟩:=info_parts info_u8;have h1:1<=3:=by omega
 have hro:Fence.wide.round=none:=rfl;have h39:Fence.wide.fn 115:=trivial;have hnl:=needP_le size;have hroom:=needP_room (size:=size);have ok:=h.ok;have b0:Below w.heap.size w ((w.alloc (.cells #[.slice none 0 0] 41)).alloc (.cells #[.int .i64 0] 28)):=((Below.refl _ w).alloc (Nat.le_refl _) _).alloc (by simp) _;have k0:Ob ((w.alloc (.cells #[.slice none 0 0] 41)).alloc (.cells #[.int .i64 0] 28)) w.heap.size 41 [.slice none 0 0]:=(Ob.new w [.slice none 0 0] 41).alloc _
 have k1:Ob ((w.alloc (.cells #[.slice none 0 0] 41)).alloc (.cells #[.int .i64 0] 28)) (w.heap.size+1) 28 [.int .i64 0]:=by
  have:=Ob.new (w.alloc (.cells #[.slice none 0 0] 41)) [.int .i64 0] 28;rw [World.size_alloc] at this;exact this
 have d0:CDev O ((w.alloc (.cells #[.slice none 0 0] 41)).alloc (.cells #[.int .i64 0] 28)) p st:=h.onl (F:=fun _=>False) (Onl.ofBelow b0) (fun _ _ q=>q);have s0:((w.alloc (.cells #[.slice none 0 0] 41)).alloc (.cells #[.int .i64 0] 28)).heap.size=w.heap.size+2:=by simp
 have C1:=fun W=>cneed_any size W
 have C2:=fun W=>cfirst_any start W
 obtain ⟨a1,a2⟩:=firstP_bd start;generalize Zw start=a at *;obtain ⟨n,hn⟩:∃ n,n=Zc size:=⟨_,rfl⟩;rw [<- hn] at C1 hnl hroom;have HN:=Za hn;have H0:=Za b0;have HK0:=Za k0;have HK1:=Za k1;have HD0:=Za d0;clear hn b0 k0 k1 d0 h;have erd:st.rdText2 a size=if n=0 then ([],1) else if (gat st a (4 * n)).2=0 then (if (List.range n).all (smOf (gat st a (4 * n)).1)=true then (((List.range n).flatMap (txOf (gat st a (4 * n)).1)).take size.toNat,0) else ([],60)) else ([],(gat st a (4 * n)).2):=by rw [HN.out];rfl
 rw [erd];clear erd;refine callsIn_of_wp_marks Tryz.func115 rfl h39 ?_ hro;simp only [Tryz.ntmps115,List.size_toArray,List.length_cons,List.length_nil,Nat.reduceAdd,Nat.reduceSub,Array.replicate_succ,Array.replicate_zero,List.push_toArray,List.append_toArray,List.nil_append,List.cons_append];by_cases hn0:n=0
 ·rw [if_pos hn0];rw [hn0] at C1;gi_wp2_with fail
  refine ⟨trivial,(callsIn_wide.2 (C1 _)).mono ?_⟩;rintro e wx ⟨rfl,rfl⟩;gi_wp2
  have k0:Ob ((w.alloc (.cells #[.slice none 0 0] 41)).alloc (.cells #[.int .i64 1] 28)) w.heap.size 41 [.slice none 0 0]:=(Ob.new w [.slice none 0 0] 41).alloc _
  have k1:Ob ((w.alloc (.cells #[.slice none 0 0] 41)).alloc (.cells #[.int .i64 1] 28)) (w.heap.size+1) 28 [.int .i64 1]:=by
   have:=Ob.new (w.alloc (.cells #[.slice none 0 0] 41)) [.int .i64 1] 28;rw [World.size_alloc] at this;exact this
  refine ⟨_,fin_read k0 k1 rfl rfl,_,rfl,TldR.nil _ _,((Below.refl _ w).alloc (Nat.le_refl _) _).alloc (by simp) _⟩
 ·rw [if_neg hn0];have hn0b:((n:Int) == 0)=false:=by simp;omega
  obtain ⟨r1,r2,r3,r4⟩:=hroom hn0;have C3:=cgather_any HD0.out hc a a1 (by omega) (4 * n) (by omega);have hgl:=gat_len ok a (4 * n);have hgb:=gat_byt ok a (4 * n);have hgn:=gat_no (st:=st) (a:=a) (k:=4 * n);generalize gat st a (4 * n)=G at *;generalize hRES:(if G.2=0 then (if (List.range n).all (smOf G.1)=true then (((List.range n).flatMap (txOf G.1)).take size.toNat,0) else ([],60)) else ([],G.2))=RES;have HRES:=Za hRES;clear hRES;obtain ⟨N4,hN4⟩:∃ N,N=4 * n:=⟨_,rfl⟩;rw [<- hN4] at C3;have w4:IntKind.i64.wrap ((n:Int) * 4)=(N4:Int):=by rw [IntKind.wrap_i64];omega
  have HC3:=Za C3;have HN4:=Za hN4;clear C3 hN4;gi_wp2_with fail
  refine ⟨trivial,(callsIn_wide.2 (C1 _)).mono ?_⟩;rintro e wx ⟨rfl,rfl⟩;gi_wp2_with fail
  refine ⟨trivial,(callsIn_wide.2 (C2 _)).mono ?_⟩;rintro e wx ⟨rfl,rfl⟩;gi_wp2_with fail
  refine ⟨trivial,(callsIn_wide.2 HC3.out).mono ?_⟩;rintro e W1 ⟨v1,rfl,t1,b1⟩;rw [s0] at t1;have k0:=HK0.out.old b1;have k1:=HK1.out.old b1;have z1:w.heap.size+2<=W1.heap.size:=by have:=b1.size;rw [s0] at this;exact this
  have B1:Below w.heap.size w W1:=H0.out.trans (b1.mono (by rw [s0];omega));have x0:=k0.cell 0;have x1:=k1.cell 0;have f0:=k0.frozen 0;have f1:=k1.frozen 0;simp only [List.getElem?_cons_zero] at x0 x1;clear b1;by_cases hq:G.2=0
  ·rw [if_pos hq] at HRES;rw [hq];have hl128:G.1.length=128 * n:=by rw [hgl hq];omega
   obtain ⟨raw,hraw⟩:∃ raw,raw=G.1:=⟨_,rfl⟩;rw [<- hraw] at HRES hl128 t1 hgb;clear hgl hgn hq hraw HC3 HN4 w4;obtain ⟨N,hN⟩:∃ N,N=128 * n:=⟨_,rfl⟩;unfold Told at t1;rw [hl128,<- hN] at t1
   obtain ⟨g,cap,hv,hgw,hgW,hcap,hcm⟩:∃ g cap,v1=.slice (some ⟨g,0,none⟩) N cap/\w.heap.size+2<=g/\g < W1.heap.size/\N<=cap/\cap<=maxLen:=by
    rcases t1.2 with ⟨_,q⟩ | ⟨g,cap,cur,hv,q1,q2,q3,q4,_⟩
    ·omega
    ·exact ⟨g,cap,hv,q1,(Array.getElem?_eq_some_iff.1 q2).1,q3,q4⟩
   subst hv;have hrd:Rd .u8 W1 (some ⟨g,0,none⟩) raw:=(rdown t1).1;have HHN:=Za hN;have HHL:=Za hl128;have HK0':=Za k0;have HK1':=Za k1;have HB1:=Za B1;have HRD:=Za hrd;clear hN hl128 k0 k1 B1 hrd t1 x0 x1 f0 f1 HK0 HK1 HD0 H0;gi_wp2_with fail
   refine ⟨trivial,(chunk_in _ _ _ _ _).mono ?_⟩;rintro e w' ⟨rfl,rfl⟩;gi_wp2
   have hB0:Below w.heap.size w (((W1.alloc (.cells #[.slice none 0 0] 41)).alloc (.cells #[.slice (some ⟨g,0,none⟩) N cap] 41)).alloc (.cells #[.int .i64 128] 3)):=((HB1.out.alloc (by omega) _).alloc (by simp;omega) _).alloc (by simp;omega) _;have bb:Ob (((W1.alloc (.cells #[.slice none 0 0] 41)).alloc (.cells #[.slice (some ⟨g,0,none⟩) N cap] 41)).alloc (.cells #[.int .i64 128] 3)) W1.heap.size 41 [.slice none 0 0]:=((Ob.new W1 [.slice none 0 0] 41).alloc _).alloc _
   have bs:Ob (((W1.alloc (.cells #[.slice none 0 0] 41)).alloc (.cells #[.slice (some ⟨g,0,none⟩) N cap] 41)).alloc (.cells #[.int .i64 128] 3)) (W1.heap.size+1) 41 [.slice (some ⟨g,0,none⟩) N cap]:=by
    have:=(Ob.new (W1.alloc (.cells #[.slice none 0 0] 41)) [.slice (some ⟨g,0,none⟩) N cap] 41).alloc (.cells #[.int .i64 128] 3);rw [World.size_alloc] at this;exact this
   have bn:Ob (((W1.alloc (.cells #[.slice none 0 0] 41)).alloc (.cells #[.slice (some ⟨g,0,none⟩) N cap] 41)).alloc (.cells #[.int .i64 128] 3)) (W1.heap.size+1+1) 3 [.int .i64 128]:=by
    have:=Ob.new ((W1.alloc (.cells #[.slice none 0 0] 41)).alloc (.cells #[.slice (some ⟨g,0,none⟩) N cap] 41)) [.int .i64 128] 3;rw [World.size_alloc,World.size_alloc] at this;exact this
   have k0:Ob (((W1.alloc (.cells #[.slice none 0 0] 41)).alloc (.cells #[.slice (some ⟨g,0,none⟩) N cap] 41)).alloc (.cells #[.int .i64 128] 3)) w.heap.size 41 [.slice none 0 0]:=((HK0'.out.alloc _).alloc _).alloc _;have k1:Ob (((W1.alloc (.cells #[.slice none 0 0] 41)).alloc (.cells #[.slice (some ⟨g,0,none⟩) N cap] 41)).alloc (.cells #[.int .i64 128] 3)) (w.heap.size+1) 28 [.int .i64 0]:=((HK1'.out.alloc _).alloc _).alloc _;have hr0:Rd .u8 (((W1.alloc (.cells #[.slice none 0 0] 41)).alloc (.cells #[.slice (some ⟨g,0,none⟩) N cap] 41)).alloc (.cells #[.int .i64 128] 3)) (some ⟨g,0,none⟩) raw:=HRD.out.below ((((Below.refl _ W1).alloc (Nat.le_refl _) _).alloc (by simp) _).alloc (by simp;omega) _);have hsz:(((W1.alloc (.cells #[.slice none 0 0] 41)).alloc (.cells #[.slice (some ⟨g,0,none⟩) N cap] 41)).alloc (.cells #[.int .i64 128] 3)).heap.size=W1.heap.size+3:=by simp
   generalize ((W1.alloc (.cells #[.slice none 0 0] 41)).alloc (.cells #[.slice (some ⟨g,0,none⟩) N cap] 41)).alloc (.cells #[.int .i64 128] 3)=W0 at *
   refine wpIn_rangeFunc_ownH hro h1 (gf:=195) (lb:=#[.pointer (some ⟨W1.heap.size+1,0,none⟩),.pointer (some ⟨W1.heap.size+1+1,0,none⟩)]) rfl trivial enter_chunk1 (chunk_stops (n:=n) (by omega) HHN.out hcap bs bn) keepO_t (keepO_b (w:=W0) (fun i hi=>by rcases hi with rfl | rfl <;> omega)) (Below.refl _ _) (fun _=>rfl)
    (Rdg w W1 W0 g raw) (fun c _ W=>c=.ret/\(∃ x:Fin n,smOf raw x.1=false)/\Ob W w.heap.size 41 [.slice none 0 0]/\Ob W (w.heap.size+1) 28 [.int .i64 60]/\Below w.heap.size w W)
    (Rdg.own z1 (by omega) (by omega))
    (fun c s X Y row hs hgr hr=>⟨hs.1,hs.2.1,hs.2.2.1.kept hgr (fun e=>by have:=(hr _ e).1;omega),hs.2.2.2.1.kept hgr (fun e=>by have:=(hr _ e).1;omega),hs.2.2.2.2.grown hgr hs.2.2.2.2.size (fun k e=>by have:=(hr k e).1;omega)⟩)
    ⟨by simp,⟨_,bb,World.ownsRow_nil _ _ _ _⟩,k0,k1,hr0,hB0,Nat.le_refl _⟩
    (fun x a' W=>a'={ tmps:=#[.pointer (some ⟨p,0,none⟩),.int .i64 start,.int .i64 size,undef,undef,undef,.pointer (some ⟨w.heap.size,0,none⟩),.pointer (some ⟨w.heap.size+1,0,none⟩),.int .i64 n,.slice (some ⟨g,0,none⟩) N cap,.int .i64 0,.pointer (some ⟨W1.heap.size,0,none⟩),.slice (some ⟨g,128 * x.1,none⟩) 128 128,undef,.int .i64 size,.int .i64 n,.int .i64 n,.bool false,.tuple #[.slice (some ⟨g,0,none⟩) N cap,.int .i64 0],.pointer (some ⟨p,0,none⟩),.func (.func 120) #[.pointer (some ⟨p,0,none⟩)] #[],.int .i64 start,.int .i64 a,.int .i64 n,.int .i64 N4,.tuple #[.slice (some ⟨g,0,none⟩) N cap,.int .i64 0],.slice (some ⟨g,0,none⟩) N cap,.int .i64 0,.int .i64 0,.bool false,undef,.slice (some ⟨g,0,none⟩) N cap,.func (.func 195) #[] #[.pointer (some ⟨W1.heap.size+1,0,none⟩),.pointer (some ⟨W1.heap.size+1+1,0,none⟩)],.slice (some ⟨g,128 * x.1,none⟩) 128 128,undef,undef,undef,undef,undef,undef,undef,undef,undef,undef,undef,undef,undef,undef,undef],defers:=[] })
    (fun x a' _ X Y row hs _ _=>hs)
    ?assign ?body ?done ?stop
   case assign =>
    rintro l pre x W K hI hK;gi_wp2
    exact hK _ _ (KeepsFrom.refl _ _) ⟨Nat.le_refl _,fun _ _=>rfl⟩ hI rfl
   case body =>
    rintro l pre x a' W hl ⟨r,hr⟩ ⟨i1,⟨u,i2,i3⟩,i4,i5,i6,i7,i8⟩ rfl hlt;have hpl:=pgOf_len HHL.out x.2;have htl:=txOf_len HHL.out x.2
    have rp:Rd .u8 W (some ⟨g,128 * x.1,none⟩) (pgOf raw x.1):=by
     have:=Rd.take (rd_drop (at':=128 * x.1) i6) 128;rw [Nat.zero_add] at this;exact this
    have rt:Rd .u8 W (some ⟨g,128 * x.1+4,none⟩) (txOf raw x.1):=rd_drop (at':=4) rp;have rs:Rd .u8 W (some ⟨g,128 * x.1,none⟩) ((pgOf raw x.1).take 4):=Rd.take rp 4;have hsl:((pgOf raw x.1).take 4).length=4:=by rw [List.length_take,hpl];rfl
    have bdr:Below W.heap.size W W.drew:=(Below.refl _ W).drew;have C5:=csum_any (w:=W.drew) (some ⟨g,128 * x.1+4,none⟩) 124 (txOf raw x.1) (rt.below bdr) (by rw [htl];decide) (txOf_byt hgb x.1);rw [htl] at C5;have h4:=sum4_len (txOf raw x.1);have HC5:=Za C5;have HRT:=Za rt;have HRS:=Za rs;have HSL:=Za hsl;have HTL:=Za htl;have HI1:=Za i1;have HI2:=Za i2;have HI3:=Za i3;have HI4:=Za i4;have HI5:=Za i5;have HI6:=Za i6;have HI7:=Za i7;have HS4:=Za h4;have HHR:=Za hr;obtain ⟨X,hX⟩:∃ X,X=128 * x.1:=⟨_,rfl⟩;rw [<- hX] at HC5 HRT HRS;rw [<- hX];have HX:=Za hX;clear C5 rt rs hsl htl hpl i1 i2 i3 i4 i5 i6 i7 h4 rp bdr hX hr;gi_wp2
    have hmx:Tryz.prog.follows .mixedOrders=true:=by kernel_rfl
    have hsm:decide ((pgOf raw x.1).take 4=sum4 (txOf raw x.1))=smOf raw x.1:=rfl;have HSM:=Za hsm;clear hsm;have h63:Fence.wide.fn 161:=trivial;have h62:Fence.wide.fn 89:=trivial
    gi_region_with_o (first
     | (gi_at_call 161;refine (CallsIn.inRound l (callsIn_wide.2 HC5.out)).mono ?_;rintro e W2 ⟨rfl,k2,b2⟩;have HK2:=Za k2;have HB2:=Za b2;have r2:=rd_ob k2;have e2:=equal_any (w:=W2) (some ⟨g,X,none⟩) (some ⟨W.heap.size,0,none⟩) 4 4 _ _ ((HRS.out.below (Below.refl _ W).drew).below b2) r2 (fun z hz=>pgOf_byt hgb x.1 z (List.mem_of_mem_take hz)) (be_byt _ _);rw [HSL.out,HS4.out,HSM.out] at e2;have HE2:=Za e2;clear k2 b2 r2 e2)
     | (gi_at_call 89;refine (CallsIn.inRound l (callsIn_wide.2 HE2.out)).mono ?_;rintro e W3 ⟨rfl,rfl⟩))
    all_goals (
     have b3:Below W.heap.size W W2:=(Below.refl _ W).drew.trans HB2.out;have i2:=HI2.out.old b3;have i3:=own_old8 HI3.out b3;have i4:=HI4.out.old b3;have i5:=HI5.out.old b3;have i6:=HI6.out.below b3;have i7:Below w.heap.size w W2:=HI7.out.trans (b3.mono HI7.out.size);have z2:=b3.size;have KF3:KeepsFrom W0.heap.size W W2:=KeepsFrom.of_grownBy (row:=none) (Zm none b3) (fun j e=>by cases e);have KO3:KeepO (fun i=>i=W1.heap.size+1\/i=W1.heap.size+1+1) W W2:=⟨z2,fun i hi=>b3.block i (by omega)⟩;cases hq:smOf raw x.1 with
     | false =>
      have x0:=i4.cell 0;have x1:=i5.cell 0;have f0:=i4.frozen 0;have f1:=i5.frozen 0;simp only [List.getElem?_cons_zero] at x0 x1;have kk0:=(i4.set 0 (.slice none 0 0)).set_other (q:=w.heap.size+1) (i:=0) (by omega) (.int .i64 60);have kk1:=(i5.set_other (q:=w.heap.size) (i:=0) (by omega) (.slice none 0 0)).set 0 (.int .i64 60);have B5:=(i7.setCell (p:=⟨w.heap.size,0,none⟩) (Nat.le_refl _) (.slice none 0 0)).setCell (p:=⟨w.heap.size+1,0,none⟩) (by show w.heap.size<=w.heap.size+1;omega) (.int .i64 60);have KF5:KeepsFrom W0.heap.size W ((W2.setCell ⟨w.heap.size,0,none⟩ (.slice none 0 0)).setCell ⟨w.heap.size+1,0,none⟩ (.int .i64 60)):=(KF3.trans (KeepsFrom.of_grownBy (Zv W2 w.heap.size 0 _) (fun j e=>by cases e;omega))).trans (KeepsFrom.of_grownBy (Zv _ (w.heap.size+1) 0 _) (fun j e=>by cases e;omega));have HK5:=Za kk0;have HK6:=Za kk1;have HB5:=Za B5;have HF5:=Za KF5;have HQ:=Za hq;clear kk0 kk1 B5 KF5 hq i2 i3 i4 i5 i6 i7 KF3 KO3 b3;gi_wp2
      exact ⟨HF5.out,rfl,⟨x,HQ.out⟩,HK5.out,HK6.out,HB5.out⟩
     | true =>
      obtain ⟨a3,c3,hv3⟩:=own_len i3;subst hv3;have y0:=i2.cell 0;simp only [List.getElem?_cons_zero] at y0;have htx:=txts_len HHL.out pre;have i3':W2.ownsRow W0.heap.size 5 1 (.slice a3 (124 * pre.length) c3) (txts raw pre).length ((txts raw pre).map (Value.int .u8)):=by rw [htx];exact i3
      obtain ⟨v4,w4,R4,r4,g4⟩:=run_append_rd (P:=Tryz.prog) (w:=W2) W0.heap.size 41 41 5 i0 _ 1 Tryz.underlying41 hi0 hz0 hz1 hz2 rfl .u8 (.slice a3 (124 * pre.length) c3) (txts raw pre) i3' (some ⟨g,X+4,none⟩) 124 (txOf raw x.1) (HRT.out.below b3) (fun e=>by cases e) (by unfold maxLen;rw [htx,HTL.out];omega) (by rw [htx,HTL.out];omega) (by omega);rw [HTL.out] at R4;rw [<- txts_snoc,txts_len HHL.out] at r4;obtain ⟨L,hL⟩:∃ L,L=124 * pre.length:=⟨_,rfl⟩;obtain ⟨L5,hL5⟩:∃ L,L=124 * (pre++[x]).length:=⟨_,rfl⟩;rw [<- hL] at R4 y0;rw [<- hL5] at r4;obtain ⟨a5,c5,hv5⟩:=own_len r4;subst hv5;obtain ⟨q1,q2,q3⟩:=Zi R4;have hne:(Value.slice a3 (124 * pre.length) c3).ownBlock≠some W1.heap.size:=fun e=>by have:=(i3.lt _ e).1;omega
      have hne0:(Value.slice a3 (124 * pre.length) c3).ownBlock≠some w.heap.size:=fun e=>by have:=(i3.lt _ e).1;omega
      have hne1:(Value.slice a3 (124 * pre.length) c3).ownBlock≠some (w.heap.size+1):=fun e=>by have:=(i3.lt _ e).1;omega
      have hneg:(Value.slice a3 (124 * pre.length) c3).ownBlock≠some g:=fun e=>by have:=(i3.lt _ e).1;omega
      have o4:=i2.kept g4 hne;have z4:=o4.cell 0;have f4:=o4.frozen 0;simp only [List.getElem?_cons_zero] at z4;have r6:=ownsRow_setCell_below r4 (a:=⟨W1.heap.size,0,none⟩) (by show W1.heap.size < W0.heap.size;omega) (.slice a5 L5 c5);have hsW:W2.heap.size<=w4.heap.size:=g4.size
      have G6:Rdg w W1 W0 g raw (pre++[x]) (w4.setCell ⟨W1.heap.size,0,none⟩ (.slice a5 L5 c5)):=by
       refine ⟨fun y hy=>(List.mem_append.1 hy).elim (HI1.out y) (fun e=>by simp at e;subst e;exact hq),⟨_,o4.set 0 _,by rw [<- hL5];exact r6⟩,(i4.kept g4 hne0).set_other (by omega) _,(i5.kept g4 hne1).set_other (by omega) _,((i6.grew g4 (fun y hy _ e=>by cases hy;exact hneg e)).grew (Zv w4 W1.heap.size 0 _) (fun y hy _ e=>by cases hy;simp only [Option.some.injEq] at e;omega)),(i7.grown g4 i7.size (fun k e=>by have:=(i3.lt k e).1;omega)).setCell (p:=⟨W1.heap.size,0,none⟩) (by show w.heap.size<=W1.heap.size;omega) _,by simp [World.setCell];omega⟩
      have KF6:KeepsFrom W0.heap.size W (w4.setCell ⟨W1.heap.size,0,none⟩ (.slice a5 L5 c5)):=(KF3.trans (keepsFrom_cells g4 (own_cells i3))).trans (KeepsFrom.of_grownBy (Zv w4 W1.heap.size 0 _) (fun j e=>by cases e;omega))
      have KO6:KeepO (fun i=>i=W1.heap.size+1\/i=W1.heap.size+1+1) W (w4.setCell ⟨W1.heap.size,0,none⟩ (.slice a5 L5 c5)):=by
       refine ⟨by simp [World.setCell];omega,fun i hi=>?_⟩;exact (heap_setCell_other w4 ⟨W1.heap.size,0,none⟩ i _ (by show i≠W1.heap.size;omega)).trans ((g4.block i (by omega) (fun e=>by have:=(i3.lt i e.symm).1;omega)).trans (KO3.2 i hi))
      have HG6:=Za G6;have HF6:=Za KF6;have HO6:=Za KO6;clear R4 r4 g4 r6 G6 KF6 KO6 hne hne0 hne1 hneg o4 i2 i3 i3' i4 i5 i6 i7 KF3 KO3 b3 hL hL5 htx hq;gi_wp2
      exact ⟨HF6.out,HO6.out,HG6.out⟩)
   case done =>
    rintro D ys W hD rfl ⟨i1,⟨u,i2,i3⟩,i4,i5,i6,i7,i8⟩ hK;rw [List.length_finRange] at i3;obtain ⟨g3,c3,hu,hg3,hg3l,hc3,hc3m⟩:=own_shape2 i3 (by omega);subst hu;have r3:=(rdown i3).1;rw [txts_all] at r3;have y0:=i2.cell 0;have f0:=i4.frozen 0;have f1:=i5.frozen 0;have x0:=i4.cell 0;have x1:=i5.cell 0;simp only [List.getElem?_cons_zero] at y0 x0 x1;obtain ⟨Z,hZ⟩:∃ Z:Nat,Z=size.toNat:=⟨_,rfl⟩;have hZs:size=(Z:Int):=by omega
    have hZn:Z<=124 * n:=by omega
    obtain ⟨M,hM⟩:∃ M,M=124 * n:=⟨_,rfl⟩;rw [<- hM] at hZn hc3 y0;have kk0:=(i4.set 0 (.slice (some ⟨g3,0,none⟩) Z Z)).set_other (q:=w.heap.size+1) (i:=0) (by omega) (.int .i64 0);have kk1:=(i5.set_other (q:=w.heap.size) (i:=0) (by omega) (.slice (some ⟨g3,0,none⟩) Z Z)).set 0 (.int .i64 0);have B5:=(i7.setCell (p:=⟨w.heap.size,0,none⟩) (Nat.le_refl _) (.slice (some ⟨g3,0,none⟩) Z Z)).setCell (p:=⟨w.heap.size+1,0,none⟩) (by show w.heap.size<=w.heap.size+1;omega) (.int .i64 0);have r5:Rd .u8 ((W.setCell ⟨w.heap.size,0,none⟩ (.slice (some ⟨g3,0,none⟩) Z Z)).setCell ⟨w.heap.size+1,0,none⟩ (.int .i64 0)) (some ⟨g3,0,none⟩) ((List.range n).flatMap (txOf raw)):=(r3.grew (Zv W w.heap.size 0 _) (fun y hy _ e=>by cases hy;simp only [Option.some.injEq] at e;omega)).grew (Zv _ (w.heap.size+1) 0 _) (fun y hy _ e=>by cases hy;simp only [Option.some.injEq] at e;omega);have hKK:((W.setCell ⟨w.heap.size,0,none⟩ (.slice (some ⟨g3,0,none⟩) Z Z)).setCell ⟨w.heap.size+1,0,none⟩ (.int .i64 0)).heap[D]?=some (.deferred (some [])):=((heap_setCell_other _ ⟨w.heap.size+1,0,none⟩ D _ (by show D≠w.heap.size+1;omega)).trans (heap_setCell_other W ⟨w.heap.size,0,none⟩ D _ (by show D≠w.heap.size;omega))).trans hK;have hall:=all_fin i1;have htl:((List.range n).flatMap (txOf raw)).length=124 * n:=by rw [<- txts_all,txts_len HHL.out,List.length_finRange]
    rw [if_pos hall] at HRES;have HKK:=Za hKK;have HK5:=Za kk0;have HK6:=Za kk1;have HB5:=Za B5;have HR5:=Za r5;have HTL:=Za htl;have HZ:=Za hZ;have HI3:=Za i3;have HM:=Za hM;have hsl:g3 < ((W.setCell ⟨w.heap.size,0,none⟩ (.slice (some ⟨g3,0,none⟩) Z Z)).setCell ⟨w.heap.size+1,0,none⟩ (.int .i64 0)).heap.size:=by simpa [World.setCell] using hg3l
    have HSL:=Za hsl;clear hKK kk0 kk1 B5 r5 hall htl hZ i1 i2 i3 i4 i5 i6 r3 hM hK hsl;subst hZs;rw [<- HM.out] at *;gi_wp2
    refine ⟨by simp,.inl ⟨_,_,rfl,run_takeDeferred HKK.out,?_⟩⟩;refine ⟨_,fin_read (HK5.out.kept (grownBy_putObj' _ D (.deferred none)) (fun e=>by simp only [Option.some.injEq] at e;omega)) (HK6.out.kept (grownBy_putObj' _ D (.deferred none)) (fun e=>by simp only [Option.some.injEq] at e;omega)) rfl rfl,.slice (some ⟨g3,0,none⟩) Z Z,?_,?_,?_⟩
    ·rw [<- HRES.out]
    ·rw [<- HRES.out];have e9:((List.range n).flatMap (txOf raw)).take ((Z:Int).toNat)=((List.range n).flatMap (txOf raw)).take Z:=by rw [Int.toNat_natCast]
     have l9:(((List.range n).flatMap (txOf raw)).take Z).length=Z:=by rw [List.length_take,HTL.out];omega
     show TldR _ _ _ (((List.range n).flatMap (txOf raw)).take ((Z:Int).toNat))
     rw [e9];refine ⟨_,Z,by rw [l9],Rd.take (HR5.out.grew (grownBy_putObj' _ D (.deferred none)) (fun y hy _ e=>?_)) Z,(fun e=>by cases e),fun y hy=>?_,by rw [l9];exact Nat.le_refl _⟩
     ·cases hy
      simp only [Option.some.injEq] at e;subst e;obtain ⟨c,e',f,q⟩:=own_cells HI3.out D rfl;have:=HKK.out;rw [heap_setCell_other _ ⟨w.heap.size+1,0,none⟩ D _ (by show D≠w.heap.size+1;omega),heap_setCell_other W ⟨w.heap.size,0,none⟩ D _ (by show D≠w.heap.size;omega),q] at this;cases this
     ·cases hy
      exact ⟨by show w.heap.size<=g3;omega,by simpa using HSL.out⟩
    ·exact HB5.out.trans (belowK_b (w:=w) (Nat.le_refl _) _ D _ _ (by omega) HKK.out rfl rfl)
   case stop =>
    rintro D c pre W hD ⟨k,hk,rfl⟩ ⟨rfl,⟨x,i1⟩,i2,i3,i4⟩ hK;have k2:=i2.kept (grownBy_putObj' W D (.deferred none)) (fun e=>by cases e;omega);have k3:=i3.kept (grownBy_putObj' W D (.deferred none)) (fun e=>by cases e;omega);rw [if_neg (by rw [all_not i1];simp)] at HRES;gi_wp2
    refine ⟨by simp,.inl ⟨_,_,rfl,run_takeDeferred hK,?_⟩⟩;refine ⟨_,fin_read k2 k3 rfl rfl,.slice none 0 0,?_,?_,?_⟩
    ·rw [<- HRES.out]
    ·rw [<- HRES.out];exact TldR.nil _ _
    ·exact i4.trans (belowK_b (w:=w) (Nat.le_refl _) _ D _ _ (by omega) hK rfl rfl)
  ·rw [if_neg hq] at HRES;have hg0:=hgn hq;have hqb:(G.2 == 0)=false:=by simpa using hq
   obtain ⟨a5,n5,c5⟩:∃ a c,v1=.slice a G.1.length c:=own_len t1;subst c5;generalize G.2=ER at *;have k5:=(k0.set 0 (.slice none 0 0)).set_other (q:=w.heap.size+1) (i:=0) (by omega) (.int .i64 ER);have k6:=(k1.set_other (q:=w.heap.size) (i:=0) (by omega) (.slice none 0 0)).set 0 (.int .i64 ER);have B5:=(B1.setCell (p:=⟨w.heap.size,0,none⟩) (Nat.le_refl _) (.slice none 0 0)).setCell (p:=⟨w.heap.size+1,0,none⟩) (by show w.heap.size<=w.heap.size+1;omega) (.int .i64 ER);have HK5:=Za k5;have HK6:=Za k6;have HB5:=Za B5;clear k0 k1 k5 k6 B1 B5 t1;gi_wp2
   refine ⟨_,fin_read HK5.out HK6.out rfl rfl,.slice none 0 0,?_,?_,HB5.out⟩
   ·rw [<- HRES.out]
   ·rw [<- HRES.out];exact TldR.nil _ _
theorem crtext_any {O:Nat->Prop} {w:World} {p:Nat} {st:Sd} (h:CDev O w p st) (hc:st.C.length<=1073741824) (start size:Int) :
  Calls Tryz.prog 115 #[.pointer (some ⟨p,0,none⟩),.int .i64 start,.int .i64 size] w fun e w'=>∃ v,e=.returned (.tuple #[v,.int .i64 (st.rdText2 (Zw start) size).2])/\TldR w' w.heap.size v (st.rdText2 (Zw start) size).1/\Below w.heap.size w w':=callsIn_wide.1 (crtext_in h hc start size)
end
section
open Go.RowKit Go.Shelf Apo
attribute [local go_sem] Oper.semAt_some
end
section
open Go.RowKit Apo
theorem fin_root {W:World} {g:Nat} {sa sk:Int} {tmps:Array Value} {Q:Ending->World->Prop} (k:Ob W g 108 [.int .i64 sa,.int .i64 sk]) (h2:tmps.getD 2 undef=.pointer (some ⟨g,0,none⟩)) (hq:Q (.returned (.agg #[.int .i64 sa,.int .i64 sk])) W) :
  bodyPost Tryz.prog Tryz.f50 Q Exit.ret { tmps:=tmps,defers:=[] } W:=by
 have hl:=run_loadVar_row (P:=Tryz.prog) W g 108 108 #[.int .i64 sa,.int .i64 sk] (0,0) _ k Tryz.underlying108 rfl (by rw [size_span];rfl);have h2':tmps[2]?.getD undef=.pointer (some ⟨g,0,none⟩):=by simpa using h2
 refine bodyPost_ret (v:=.agg #[.int .i64 sa,.int .i64 sk]) ?_ rfl hq;simp [results,Tryz.results50,asAddr,h2',hl]
theorem croot_any {U:Nat->Prop} {w:World} {p d:Nat} {c:Cg} {st:Sd} (h:CPx U w p d c st) :
  Calls Tryz.prog 50 #[.pointer (some ⟨p,0,none⟩)] w fun e w'=>e=.returned (.agg #[.int .i64 c.r.a,.int .i64 c.r.k])/\Below w.heap.size w w':=by
 obtain ⟨_,_,_,_,_,_,_,h,_⟩:=h;have h1:=h.b.ob.alloc (.cells #[.int .i64 0,.int .i64 0] 108);have c2:=h1.cell 2;have c3:=h1.cell 3;simp only [List.getElem?_cons_zero,List.getElem?_cons_succ] at c2 c3;have hk:=Ob.new w [.int .i64 c.r.a,.int .i64 c.r.k] 108;have hb:=(Below.refl _ w).alloc (Nat.le_refl _) (.cells #[.int .i64 c.r.a,.int .i64 c.r.k] 108);have HK:=Za hk;have HB:=Za hb;clear h h1 hk hb;go_enter Tryz.func50,Tryz.ntmps50
 go_wp2;exact fin_root HK.out rfl ⟨rfl,HB.out⟩
end
end Go.Proofs.YtdhebpnkfookcaaGreat
