import Derived.Test.YtdhebpnkfookcaaGreatRM38
set_option maxRecDepth 100000
set_option maxHeartbeats 8000000
namespace Go.Proofs.YtdhebpnkfookcaaGreat
open Go.RowKit Apo
section
attribute [local go_sem ↓] Apo.app_exec
def kidOf (p:Nat × List En):Ki:=⟨ZC ⟨0,p.2,[]⟩,p.1⟩
def Zq (ls:List (Nat × List En)):List Ki:=ls.map kidOf
theorem kcells_app (a b:List Ki):Zn (a++b)=Zn a++Zn b:=by simp [Zn]
theorem app_Ks {O:Nat->Prop} {W:World} {v:Value} {l es:List Ki} (h:Row O W 128 2 v l.length (Zn l)) (hn:l.length+es.length<=1000000) {y:Addr} {c:Nat} (hr:RdKi W (some y) es) :
  ∃ v' w',(Builtin.append_ #[88,88] 88 #[v,.slice (some y) es.length c]).run Tryz.prog W=.ok v' w'/\Row (fun g=>O g\/g=W.heap.size) w' 128 2 v' (l++es).length (Zn (l++es))/\Onl (fun g=>v.ownBlock=some g) W w'/\∀ g,v'.ownBlock=some g->v.ownBlock=some g\/g=W.heap.size:=by
 obtain ⟨i0,hi,hz0,hz1,hz2⟩:=info_parts info_Ki;obtain ⟨v5,w5,RR,r5,g5,_,ho5⟩:=run_append_own_at (P:=Tryz.prog) W 0 88 88 128 i0 _ 2 24 Tryz.underlying88 hi hz0 hz1 hz2 rfl (by decide) v l.length (Zn l) h.1 y es.length c (Zn es) (kcells_len es) (RdKi.news hr) (by intro u hu;simp only [Zn,List.mem_flatMap] at hu;obtain ⟨e,_,hu⟩:=hu;simp at hu;rcases hu with rfl | rfl <;> rfl) (by unfold maxLen;omega) (by omega) (Nat.zero_le _);refine ⟨v5,w5,RR,⟨?_,fun g hg=>?_⟩,(Onl.refl _ W).grown g5 (fun k hk=>.inl hk),fun g hg=>?_⟩
 ·rw [List.length_append,kcells_app];exact r5
 ·rcases ho5 with q | q
  ·rw [q] at hg;exact .inl (h.2 g hg)
  ·rw [q] at hg;cases hg;exact .inr rfl
 ·rcases ho5 with q | q
  ·rw [q] at hg;exact .inl hg
  ·rw [q] at hg;cases hg;exact .inr rfl
theorem Mp.noCells {P:Program} {k:TypeId} {A:World} {b:Nat} {M:Nat->Option Value} (h:Mp P k A b M):∃ o:Obj,A.heap[b]?=some o/\o.isCells=false:=by
 obtain ⟨D,⟨es,clock,h1,_⟩,_⟩:=h;exact ⟨_,h1,rfl⟩
theorem Row.noMap {O:Nat->Prop} {P:Program} {k:TypeId} {A:World} {e:TypeId} {size n b:Nat} {v:Value} {xs:List Value} {M:Nat->Option Value} (h:Row O A e size v n xs) (m:Mp P k A b M):v.ownBlock≠some b:=by
 obtain ⟨o,h1,h2⟩:=Mp.noCells m;exact Row.noLoop h h1 h2
structure Fd (B:Nat) (A:World) (fb bw s:Nat) (v:Value) (fnd:List Ki) (M:Nat->Option Value):Prop where
 ob:Ob A fb 190 [ldV s,.map (some bw),v]
 row:Row (fun g=>B<=g) A 128 2 v fnd.length (Zn fnd)
 mp:Mp Tryz.prog 27 A bw M
 lf:B<=fb
 lw:B<=bw
 ne:fb≠bw
def FdU (fb bw:Nat) (v:Value) (i:Nat):Prop:=i=fb\/i=bw\/v.ownBlock=some i
theorem Fd.below {B:Nat} {A A':World} {fb bw s:Nat} {v:Value} {fnd:List Ki} {M:Nat->Option Value} (h:Fd B A fb bw s v fnd M) (b:Below A.heap.size A A'):Fd B A' fb bw s v fnd M:={ h with ob:=h.ob.old b,row:=h.row.onl (F:=fun _=>False) (Onl.ofBelow b) (fun _ _ q=>q),mp:=h.mp.below b }
theorem Fd.lt {B:Nat} {A:World} {fb bw s:Nat} {v:Value} {fnd:List Ki} {M:Nat->Option Value} (h:Fd B A fb bw s v fnd M):∀ i,FdU fb bw v i->B<=i/\i < A.heap.size:=by
 rintro i (rfl | rfl | q)
 ·exact ⟨h.lf,h.ob.lt⟩
 ·exact ⟨h.lw,h.mp.lt⟩
 ·exact ⟨h.row.2 i q,h.row.lt i q⟩
structure Way (T:List (List Int)) (M:Nat->Option Value) (h:Nat):Prop where
 un:∀ i v,M i=some v->v=.agg #[]
 fin:∃ L:List Nat,(∀ i,M i≠none->i ∈ L)/\L.length+h<=200
 up:∀ i,M i≠none->h < hgt T i
def DnP (B:Nat) (W0 W:World) (fb bw s:Nat) (v:Value) (fnd:List Ki) (M:Nat->Option Value) (e:Ending) (W':World):Prop :=
 e=.returned (.int .i64 0)/\∃ v',Fd B W' fb bw s v' fnd M/\Below W0.heap.size W0 W'/\Onl (FdU fb bw v) W W'/\∀ g,v'.ownBlock=some g->v.ownBlock=some g\/W.heap.size<=g
theorem IsT.kids1 {T:List (List Int)} {id:Nat} {n:Nd} {ls:List (Nat × List En)} (h:IsT T 1 id n ls):Zq ls=n.ks:=by
 obtain ⟨h1,h2,h3,ns,lss,h4,h5,h6,h7⟩:=h;subst h7
 have hk:∀ (i:Nat) (k:Ki) (x:List (Nat × List En)),n.ks[i]?=some k->lss[i]?=some x->Zq x=[k]:=fun i k x hk hx=>by
  obtain ⟨n',hn'⟩:∃ y,ns[i]?=some y:=⟨ns[i]'(by have:=(List.getElem?_eq_some_iff.1 hk).1;omega),List.getElem?_eq_getElem _⟩;obtain ⟨c1,c2,c3,c4⟩:=h6 i k n' x hk hn' hx;subst c4;have hl:=(node_leaf c2.ok c3).2;simp only [Zq,List.map_cons,List.map_nil,kidOf]
  have:ZC ⟨0,n'.es,[]⟩=k.k:=by
   rw [c1];unfold ZC Nd.keys;rw [hl]
  rw [this]
 have:∀ (ks:List Ki) (L:List (List (Nat × List En))),L.length=ks.length->(∀ (i:Nat) (k:Ki) (x:List (Nat × List En)),ks[i]?=some k->L[i]?=some x->Zq x=[k])->Zq L.flatten=ks:=by
  intro ks;induction ks with
  | nil =>
   intro L hL _;have:L=[]:=List.eq_nil_of_length_eq_zero (by simpa using hL);subst this;rfl
  | cons k ks ih =>
   intro L hL hq;match L,hL with
   | x :: L,hL =>
    have e1:=hq 0 k x rfl rfl;have e2:=ih L (by simpa using hL) (fun i k x hk hx=>hq (i+1) k x (by simpa using hk) (by simpa using hx));rw [List.flatten_cons];unfold Zq at e1 e2 ⊢;rw [List.map_append,e1,e2];rfl
 exact this n.ks lss h5 hk
theorem down_any {w W0:World} {s m:Nat} {O:Nat->Prop} {T:List (List Int)} (h:TSw w W0 s O T m) (hT:T.length<=16000) (hx:TxOk T) {B:Nat} (hB:W0.heap.size<=B):∀ (l:Nat) (W:World) (id:Nat) (n:Nd) (ls:List (Nat × List En)) (fb bw:Nat) (v:Value) (fnd:List Ki) (M:Nat->Option Value),IsT T l id n ls->Below W0.heap.size W0 W->Fd B W fb bw s v fnd M->Way T M (hgt T id)->fnd.length+ls.length<=1000 ->
  Calls Tryz.prog 110 #[.pointer (some ⟨fb,0,none⟩),.int .u64 id] W (DnP B W0 W fb bw s v (fnd++Zq ls) M):=by
 intro l;induction l using Nat.strongRecOn with
 | ind l ih =>
 intro W id n ls fb bw v fnd M ht hW hf hway hlen;have hnod:=ht.nod;have CL:=tload_any (h.below hW) hT hx id hnod.1.lt;rw [hnod.1.ld] at CL;have c0:=hf.ob.cell 0;have c1:=hf.ob.cell 1;have c2:=hf.ob.cell 2;simp only [List.getElem?_cons_zero,List.getElem?_cons_succ] at c0 c1 c2;simp only [ldV] at CL c0;obtain ⟨va,vc,hva,hv1,hv2,hv3,hv4⟩:=hf.row.form;obtain ⟨nf,hnf⟩:∃ nf,nf=fnd.length:=⟨_,rfl⟩;have HCL:=Za CL;have HF:=Za hf;have HW:=Za hW;have HWAY:=Za hway;have HT:=Za ht;have HNOD:=Za hnod;have HIH:=Za ih;have HLEN:=Za hlen;clear CL hf hW hway ht hnod ih hlen;go_enter Tryz.func110,Tryz.ntmps110
 go_wp2_with fail
 refine HCL.out.mono ?_;rintro e w3 ⟨x',hx'n,ok',nw',rfl,b3⟩;have s3:=b3.size;obtain ⟨w4,hw4⟩:∃ w4,w4=w3.alloc (.cells x'.cells.toArray 90):=⟨_,rfl⟩;have b4:Below w3.heap.size w3 w4:=by rw [hw4];exact (Below.refl _ w3).alloc (Nat.le_refl _) _
 have s4:w4.heap.size=w3.heap.size+1:=by rw [hw4];simp
 have kx4:Ob w4 w3.heap.size 90 x'.cells:=by rw [hw4];exact Ob.new w3 x'.cells 90
 have b24:Below W.heap.size W w4:=b3.trans (b4.mono (by omega));have f4:=HF.out.below b24;have bW4:=HW.out.trans (b24.mono HW.out.size);have x0:=kx4.cell 0;have x1:=kx4.cell 1;have x2:=kx4.cell 2;have ok4:=ok'.below b4;have hlv:x'.n.lv=(l:Int):=by rw [hx'n];exact HNOD.out.2
 have hks:x'.n.ks.length<=1000000:=by rw [hx'n];exact HNOD.out.1.ks
 have hes:x'.n.es.length<=1000000:=by rw [hx'n];exact HNOD.out.1.es
 have HXN:=Za hx'n;obtain ⟨x,hxx⟩:∃ x,x=x':=⟨_,rfl⟩;have HXX:=Za hxx;obtain ⟨⟨lv',es',ks'⟩,ea',ec',ka',kc'⟩:=x';simp only [NdA.cells,List.getElem?_cons_zero,List.getElem?_cons_succ] at x0 x1 x2 hw4 hlv hks hes ⊢;subst hlv;have HXN:Hid ((⟨(l:Int),es',ks'⟩:Nd)=n):=Za HXN.out;obtain ⟨ne',hne'⟩:∃ ne',ne'=es'.length:=⟨_,rfl⟩;obtain ⟨nk',hnk'⟩:∃ nk',nk'=ks'.length:=⟨_,rfl⟩;rw [<- hne'] at x1 hw4 ⊢;rw [<- hnk'] at x2 hw4 ⊢;have hw4':w4=w3.alloc (.cells #[.int .i64 (l:Int),.slice ea' ne' ec',.slice ka' nk' kc'] 90):=hw4;clear hw4;rcases l with _ | _ | l
 ·obtain ⟨LV,hLV⟩:∃ LV:Int,LV=((0:Nat):Int):=⟨_,rfl⟩;have hl0:(LV == 0)=true:=by rw [hLV];rfl
  have hlf:=node_leaf (n:=⟨((0:Nat):Int),es',ks'⟩) (by rw [HXN.out];exact HNOD.out.1.ok) rfl;have hls:ls=[(id,es')]:=by rw [HT.out.2.2,<- HXN.out]
  have hks0:ks'=[]:=hlf.2;have hlk:ZC ⟨((0:Nat):Int),es',ks'⟩=ZC ⟨0,es',[]⟩:=by rw [hks0];rfl
  have C5:=last_any w4.drew _ (ok4.below ((Below.refl _ w4).drew)) hes hks;simp only [NdA.cells] at C5;rw [hlk,<- hne',<- hnk',<- hLV] at C5;obtain ⟨LK,hLK⟩:∃ LK,LK=ZC ⟨0,es',[]⟩:=⟨_,rfl⟩;rw [<- hLK] at C5;have y2:=f4.ob.cell 2;simp only [List.getElem?_cons_zero,List.getElem?_cons_succ] at y2;have f4d:=f4.below ((Below.refl _ w4).drew);have HF4D:=Za f4d;have HF4:=Za f4;have HBW4:=Za bW4;have HB24:=Za b24;have HLS:=Za (And.intro hls hLK);have HC5:=Za C5;have HVA:=Za (And.intro hva hnf);have HS34:=Za (And.intro s3 s4);have HKX4:=Za (show Ob w4.drew w3.heap.size 90 _ from kx4);rw [hva,<- hnf] at y2;rw [<- hLV] at x0 hw4' ⊢;have y2d:w4.drew.cell? ⟨fb,2,none⟩=some (.slice va nf vc):=y2;have x0d:w4.drew.cell? ⟨w3.heap.size,0,none⟩=some (.int .i64 LV):=x0;have x1d:w4.drew.cell? ⟨w3.heap.size,1,none⟩=some (.slice ea' ne' ec'):=x1;have x2d:w4.drew.cell? ⟨w3.heap.size,2,none⟩=some (.slice ka' nk' kc'):=x2;have hfb4:fb < w4.drew.heap.size:=f4d.ob.lt;have hw34:w3.heap.size < w4.drew.heap.size:=by show w3.heap.size < w4.heap.size;omega
  rw [hw4'] at x0 x1 x2 y2
  have HAPP:Hid (∀ w5,Below w4.drew.heap.size w4.drew w5->∃ (va8:Option Addr) (n8 vc8:Nat) (w8:World),(Builtin.append_ #[88,88] 88 #[.slice va nf vc,.slice (some ⟨w5.heap.size,0,none⟩) 1 1]).run Tryz.prog (w5.alloc (.cells #[.string LK,.int .u64 (id:Int)] 128))=.ok (.slice va8 n8 vc8) w8/\w8.cell? ⟨fb,2,none⟩=some (.slice va nf vc)/\w8.frozen? ⟨fb,2,none⟩=false/\DnP B W0 W fb bw s v (fnd++Zq ls) M (.returned (.int .i64 0)) (w8.setCell ⟨fb,2,none⟩ (.slice va8 n8 vc8))):=by
   refine Za (fun w5 b5=>?_);have f5:=f4d.below b5;have hd4:w4.drew.heap.size=w4.heap.size:=rfl;have sz5:=b5.size;have row5:Row (fun g=>v.ownBlock=some g) w5 128 2 v fnd.length (Zn fnd):=⟨f5.row.1,fun g hg=>hg⟩;obtain ⟨v8,w8,RR,r8,o8⟩:=app_Ki row5 (by have:=HLEN.out;omega) ⟨LK,id⟩;obtain ⟨va8,vc8,hva8,_⟩:=r8.form;have hfbo:v.ownBlock≠some fb:=Row.apartOb f5.row f5.ob (by decide);have hbo:v.ownBlock≠some bw:=Row.noMap f5.row f5.mp;have kf8:=f5.ob.onl o8 hfbo;have o9:Onl (fun i=>i=fb) w8 (w8.setCell ⟨fb,2,none⟩ v8):=(Onl.refl (fun i=>i=fb) w8).set (p:=fb) (.inl rfl) _;have kf9:Ob (w8.setCell ⟨fb,2,none⟩ v8) fb 190 [ldV s,.map (some bw),v8]:=kf8.set 2 _;have row9:=r8.onl o9 (fun i hi q=>Row.apartOb r8 kf8 (by decide) (by rw [hi,q]));have mp9:=(f5.mp.onl o8 hbo).onl o9 (Ne.symm f5.ne);have s8:=o8.size;have hkid:Zq ls=[⟨LK,id⟩]:=by rw [hls,hLK];rfl
   have hD:DnP B W0 W fb bw s v (fnd++Zq ls) M (.returned (.int .i64 0)) (w8.setCell ⟨fb,2,none⟩ v8):=by
    rw [hkid];refine ⟨rfl,v8,⟨kf9,row9.mono (fun i q=>?_),mp9,f5.lf,f5.lw,f5.ne⟩,?_,?_,?_⟩
    ·rcases q with q | q
     ·exact f5.row.2 i q
     ·have:=f5.lf;have:=f5.ob.lt;omega
    ·refine Below.onl (Below.onl (bW4.drew.trans (b5.mono (by rw [hd4];exact bW4.size))) o8 (fun i q=>?_) (Nat.le_refl _)) o9 (fun i q=>?_) (Nat.le_refl _)
     ·have:=f5.row.2 i q;omega
     ·have:=f5.lf;omega
    ·exact ((((Onl.ofBelow (O:=FdU fb bw v) b24).drew).trans (Onl.ofBelow b5)).trans (o8.mono (fun i q=>.inr (.inr q)))).trans (o9.mono (fun i q=>.inl q))
    ·intro g' hg';rcases r8.2 g' hg' with z | z
     ·exact .inl z
     ·exact .inr (by have:=b24.size;omega)
   have z2:=kf8.cell 2;simp only [List.getElem?_cons_zero,List.getElem?_cons_succ] at z2;rw [hva,<- hnf] at RR z2;rw [hva8] at RR hD;exact ⟨va8,_,vc8,w8,RR,z2,kf8.frozen 2,hD⟩
  clear hLV C5 hls hLK hks0 hlk hlf f4 f4d bW4 b24 kx4 ok4 ok' nw' b3 b4 hx'n hxx hne' hnk' hks hes hv1 hv2 hv3 hv4 c0 c1 c2 hva hnf s3 s4;go_wp2;rw [<- hw4'];clear hw4' x0 x1 x2 y2
  go_region_law (go_simp;first
   | (go_at_call 105;refine HC5.out.mono ?_;rintro e w5 ⟨rfl,b5⟩;have u0:=(b5.cell (p:=⟨w3.heap.size,0,none⟩) hw34).trans x0d;have u1:=(b5.cell (p:=⟨w3.heap.size,1,none⟩) hw34).trans x1d;have u2:=(b5.cell (p:=⟨w3.heap.size,2,none⟩) hw34).trans x2d;have u3:=(b5.cell (p:=⟨fb,2,none⟩) hfb4).trans y2d;have u4:=(((Below.refl _ w5).alloc (Nat.le_refl _) (.cells #[.string LK,.int .u64 (id:Int)] 128)).cell (p:=⟨fb,2,none⟩) (Nat.lt_of_lt_of_le hfb4 b5.size)).trans u3;obtain ⟨va8,n8,vc8,w8,RR,z2,g2,hD⟩:=HAPP.out w5 b5;obtain ⟨q1,q2,q3⟩:=Ze RR;have HD:=Za hD;clear RR hD b5))
  all_goals
   go_wp2;go_ret
   exact HD.out
 ·have hin:=node_inner (n:=⟨((0+1:Nat):Int),es',ks'⟩) (by rw [HXN.out];exact HNOD.out.1.ok) (by show (0:Int) < 1;decide);have hkp:0 < ks'.length:=List.length_pos_iff.2 hin.1;have hkl:Zq ls=ks':=by rw [HT.out.kids1,<- HXN.out]
  have rk4:=ok4.ks;simp only at rk4;obtain ⟨g,of,hka,hu1,hu2⟩:=rk4 0 _ (List.getElem?_eq_getElem hkp);clear hu1 hu2;subst hka;have f4d:=f4.below ((Below.refl _ w4).drew)
  have hsum:fnd.length+ks'.length<=1000000:=by
   have:=HLEN.out;have h2:(Zq ls).length=ls.length:=by simp [Zq]
   rw [hkl] at h2;omega
  obtain ⟨v8,w8,RR,r8,o8,ow8⟩:=app_Ks (W:=w4.drew) (c:=kc') f4d.row hsum (rk4.below ((Below.refl _ w4).drew));obtain ⟨va8,vc8,hva8,_⟩:=r8.form;obtain ⟨n8,hn8⟩:∃ n8,n8=(fnd++ks').length:=⟨_,rfl⟩;rw [<- hn8] at hva8;have hfbo:v.ownBlock≠some fb:=Row.apartOb f4d.row f4d.ob (by decide);have kf8:=f4d.ob.onl o8 hfbo;obtain ⟨w9,hw9⟩:∃ w9,w9=w8.setCell ⟨fb,2,none⟩ v8:=⟨_,rfl⟩;have o9:Onl (fun i=>i=fb) w8 w9:=by rw [hw9];exact (Onl.refl (fun i=>i=fb) w8).set (p:=fb) (.inl rfl) _
  have kf9:Ob w9 fb 190 [ldV s,.map (some bw),v8]:=by rw [hw9];exact kf8.set 2 _
  have row9:=r8.onl o9 (fun i hi q=>Row.apartOb r8 kf8 (by decide) (by rw [hi,q]));have hbo:v.ownBlock≠some bw:=Row.noMap f4d.row f4d.mp;have mp9:=(f4d.mp.onl o8 hbo).onl o9 (Ne.symm f4d.ne);have s8:=o8.size
  have HFIN:Hid (DnP B W0 W fb bw s v (fnd++Zq ls) M (.returned (.int .i64 0)) w9):=by
   rw [hkl];refine Za ⟨rfl,v8,⟨kf9,row9.mono (fun i q=>?_),mp9,f4d.lf,f4d.lw,f4d.ne⟩,?_,?_,?_⟩
   ·rcases q with q | q
    ·exact q
    ·have:=HF.out.lf;have:=HF.out.ob.lt;have hs:w4.drew.heap.size=w4.heap.size:=rfl;omega
   ·refine Below.onl (Below.onl bW4.drew o8 (fun i q=>?_) (Nat.le_refl _)) o9 (fun i q=>?_) (Nat.le_refl _)
    ·have:=f4d.row.2 i q;omega
    ·have:=HF.out.lf;omega
   ·exact (((Onl.ofBelow (O:=FdU fb bw v) b24).drew).trans (o8.mono (fun i q=>.inr (.inr q)))).trans (o9.mono (fun i q=>.inl q))
   ·intro g' hg';rcases ow8 g' hg' with z | z
    ·exact .inl z
    ·exact .inr (by have hs:w4.drew.heap.size=w4.heap.size:=rfl;omega)
  have y2:=f4.ob.cell 2;have z2:=kf8.cell 2;have g2:=kf8.frozen 2;simp only [List.getElem?_cons_zero,List.getElem?_cons_succ] at y2 z2;rw [hva,<- hnf] at RR y2 z2;rw [hva8] at RR hw9;rw [<- hnk'] at RR;obtain ⟨q1,q2,q3⟩:=Ze RR;rw [hw9] at HFIN;obtain ⟨LV,hLV⟩:∃ LV:Int,LV=((0+1:Nat):Int):=⟨_,rfl⟩;have hl0:(LV == 0)=false:=by rw [hLV];rfl
  have hl1:(LV == 1)=true:=by rw [hLV];rfl
  rw [<- hLV] at x0 hw4' ⊢;rw [hw4'] at x0 x2 y2 q1 q2 q3;have y2d:((w3.alloc (.cells #[.int .i64 LV,.slice ea' ne' ec',.slice (some ⟨g,of,none⟩) nk' kc'] 90)).drew).cell? ⟨fb,2,none⟩=some (.slice va nf vc):=y2;have x2d:((w3.alloc (.cells #[.int .i64 LV,.slice ea' ne' ec',.slice (some ⟨g,of,none⟩) nk' kc'] 90)).drew).cell? ⟨w3.heap.size,2,none⟩=some (.slice (some ⟨g,of,none⟩) nk' kc'):=x2;clear hLV hw4' hw9 kx4 f4 f4d kf8 kf9 row9 r8 o8 o9 mp9 ow8 RR hva8 hva rk4 ok4 ok' nw' b3 b4 b24 bW4 hin hkp hkl hsum hfbo hbo hx'n hxx hnf hn8 hne' hnk' hks hes hv1 hv2 hv3 hv4;go_wp2;go_region
  go_wp2;go_ret
  exact HFIN.out
 ·obtain ⟨LV,hLV⟩:∃ LV:Int,LV=((l+1+1:Nat):Int):=⟨_,rfl⟩;have hl0:(LV == 0)=false:=by rw [beq_eq_false_iff_ne];omega
  have hl1:(LV == 1)=false:=by rw [beq_eq_false_iff_ne];omega
  obtain ⟨_,_,_,ns,lss,hns,hlss,hch,hls⟩:=HT.out;have hnks:n.ks=ks':=by rw [<- HXN.out]
  rw [hnks] at hns hlss hch
  have hMid:M id=none:=by
   cases q:M id with
   | none=>rfl
   | some u=>exact absurd (HWAY.out.up id (by rw [q];simp)) (Nat.lt_irrefl _)
  obtain ⟨L,hL1,hL2⟩:=HWAY.out.fin;have CA:=add_any f4.mp HWAY.out.un hL1 (by omega) id HNOD.out.1.lt;unfold AdP at CA;rw [hMid] at CA;simp only [Option.isSome_none,Bool.not_false] at CA;have rk4:=ok4.ks;simp only at rk4;have hnw2:=nw'.2;simp only at hnw2;have hkz:=ok4.kz;simp only at hkz;have HCA:=Za CA;have HRK:=Za rk4;have HNW:=Za hnw2;have HCH:=Za hch;have HLS:=Za hls;have HNS:=Za hns;have HLSS:=Za hlss;have HMID:=Za hMid;have HF4:=Za f4;have HBW4:=Za bW4;have HB24:=Za b24;have HL:=Za (And.intro hL1 hL2);have HX2:=Za x2;have HNK:=Za hnk';have HKZ:=Za hkz;have HFLT:=Za HF.out.lt;have HS34:=Za (And.intro s3 s4);have y1:=f4.ob.cell 1;simp only [List.getElem?_cons_zero,List.getElem?_cons_succ] at y1;rw [<- hLV] at x0 hw4' ⊢;rw [hw4'] at x0 x1 x2 y1;have hnk2:nk'<=1000000:=by rw [hnk'];exact hks
  clear hLV CA rk4 hnw2 hch hls hns hlss hMid f4 bW4 b24 hL1 hL2 kx4 ok4 ok' nw' b3 b4 hx'n hxx hnks hne' hnk' hks hes hv1 hv2 hv3 hv4 hkz c0 c1 c2 hva hnf;go_wp2_with fail
  rw [<- hw4'];clear hw4';refine HCA.out.mono ?_;rintro e w5 ⟨rfl,m5,o5⟩;have kf5:=HF4.out.ob.onl o5 HF4.out.ne;have row5:=HF4.out.row.onl o5 (fun g hg q=>by rw [q] at hg;exact Row.noMap HF4.out.row HF4.out.mp hg);have F5:Fd B w5 fb bw s v fnd (upd M id (some (.agg #[]))):=⟨kf5,row5,m5,HF4.out.lf,HF4.out.lw,HF4.out.ne⟩;have B5:Below W0.heap.size W0 w5:=Below.onl HBW4.out o5 (fun i q=>by have:=HF4.out.lw;omega) (Nat.le_refl _);have O5:Onl (FdU fb bw v) W w5:=(Onl.ofBelow HB24.out).trans (o5.mono (fun i q=>.inr (.inl q)));obtain ⟨s3,s4⟩:=HS34.out;have s5:=o5.size;have kx5:∀ i:Nat,w5.cell? ⟨w3.heap.size,i,none⟩=w4.cell? ⟨w3.heap.size,i,none⟩:=fun i=>World.cell?_of_block (a:=⟨w3.heap.size,i,none⟩) (o5.block w3.heap.size (by omega) (fun q=>by have h1:=HFLT.out bw (.inr (.inl rfl));omega))
  have z2:=(kx5 2).trans (by rw [show w4.cell? ⟨w3.heap.size,2,none⟩=some (.slice ka' nk' kc') from HX2.out]);have HF5:=Za F5;have HB5:=Za B5;have HO5:=Za O5;have HO4:Hid (Onl (FdU fb bw v) w4 w5):=Za (o5.mono (fun i q=>.inr (.inl q)));clear m5 o5 kf5 row5 F5 B5 O5 kx5 HCA;go_wp2;go_loopw [61] (fun i wr=>∃ (k:Nat) (v':Value),k<=nk'/\i=.int .i64 k/\Hid (Fd B wr fb bw s v' (fnd++Zq (lss.take k).flatten) (upd M id (some (.agg #[]))))/\Hid (Below W0.heap.size W0 wr)/\Hid (Onl (FdU fb bw v) W wr)/\Hid (w5.heap.size<=wr.heap.size)/\Hid (∀ g,v'.ownBlock=some g->v.ownBlock=some g\/w5.heap.size<=g)/\Hid (Onl (FdU fb bw v) w5 wr)) (fun i _=>nk' - (intOf i).toNat)
  case atStart=>exact ⟨0,v,Nat.zero_le _,rfl,Za (by simpa [Zq] using HF5.out),HB5,HO5,Za (Nat.le_refl _),Za (fun g q=>.inl q),Za (Onl.refl _ _)⟩
  case round =>
   obtain ⟨k,v',hk,rfl,HFr,HBr,HOr,HSr,HVr,HO5r⟩:=hrel;by_cases hlt:k < nk'
   ·obtain ⟨⟨kk,ki⟩,hkid⟩:∃ x,ks'[k]?=some x:=⟨ks'[k]'(by have:=HNK.out;omega),List.getElem?_eq_getElem _⟩;obtain ⟨n',hn'⟩:∃ x,ns[k]?=some x:=⟨ns[k]'(by have:=HNS.out;have:=HNK.out;omega),List.getElem?_eq_getElem _⟩;obtain ⟨lk,hlk⟩:∃ x,lss[k]?=some x:=⟨lss[k]'(by have:=HLSS.out;have:=HNK.out;omega),List.getElem?_eq_getElem _⟩;obtain ⟨hc1,hc2⟩:=HCH.out k _ n' lk hkid hn' hlk;simp only at hc1 hc2;have rkr:=RdKi.off HRK.out (HO4.out.trans HO5r.out) (fun y hy _ q=>by have:=HNW.out y hy;have:=HFLT.out _ q;omega);obtain ⟨g,of,hka,q1,q2⟩:=rkr k _ hkid;subst hka;simp only at q1 q2;obtain ⟨w6,hw6⟩:∃ w6,w6=wr.alloc (.cells #[.string kk,.int .u64 ki] 128):=⟨_,rfl⟩;have b6:Below wr.heap.size wr w6:=by rw [hw6];exact (Below.refl _ wr).alloc (Nat.le_refl _) _
    have s6:w6.heap.size=wr.heap.size+1:=by rw [hw6];simp
    have kd6:Ob w6 wr.heap.size 128 [.string kk,.int .u64 ki]:=by rw [hw6];exact Ob.new wr [.string kk,.int .u64 ki] 128
    have htk:lss.take (k+1)=lss.take k++[lk]:=by rw [List.take_add_one,hlk];rfl
    have hg1:=hgt_is hc2;have hg2:=hgt_is HT.out
    have hlen2:(fnd++Zq (lss.take k).flatten).length+lk.length<=1000:=by
     have h1:=HLEN.out;have:lss=lss.take (k+1)++lss.drop (k+1):=(List.take_append_drop _ _).symm;rw [HLS.out,this,htk] at h1;simp only [List.flatten_append,List.length_append,List.flatten_cons,List.flatten_nil,List.append_nil] at h1;simp only [List.length_append,Zq,List.length_map];omega
    have hway2:Way T (upd M id (some (.agg #[]))) (hgt T ki):=by
     refine ⟨fun i u q=>?_,⟨id :: L,fun i q=>?_,?_⟩,fun i q=>?_⟩
     ·by_cases z:i=id
      ·subst z;rw [Z5] at q;cases q;rfl
      ·rw [ZD _ _ z] at q;exact HWAY.out.un i u q
     ·by_cases z:i=id
      ·subst z;simp
      ·rw [ZD _ _ z] at q;exact List.mem_cons_of_mem _ (HL.out.1 i q)
     ·have:=HL.out.2;simp only [List.length_cons];omega
     ·by_cases z:i=id
      ·subst z;omega
      ·rw [ZD _ _ z] at q;have:=HWAY.out.up i q;omega
    have C7:=HIH.out (l+1) (by omega) w6 ki n' lk fb bw v' (fnd++Zq (lss.take k).flatten) (upd M id (some (.agg #[]))) hc2 (HBr.out.trans (b6.mono HBr.out.size)) (HFr.out.below b6) hway2 hlen2;have e0:=kd6.cell 0;have e1:=kd6.cell 1;simp only [List.getElem?_cons_zero,List.getElem?_cons_succ] at e0 e1;have HC7:=Za C7;have HTK:=Za htk;have HB6:=Za b6;have sWr:=HOr.out.size;have hkn:nk'<=1000000:=hnk2;rw [hw6] at e0 e1;clear C7 htk b6 kd6 hc1 hc2 hkid hn' hlk rkr hway2 hlen2 hg1 hg2;go_wp2_with fail
    rw [<- hw6];clear hw6 e0 e1;refine HC7.out.mono ?_;rintro e w7 ⟨rfl,v7,f7,bb7,o7,ow7⟩
    have HFIN:Hid (Fd B w7 fb bw s v7 (fnd++Zq (lss.take (k+1)).flatten) (upd M id (some (.agg #[])))/\Below W0.heap.size W0 w7/\Onl (FdU fb bw v) W w7/\w5.heap.size<=w7.heap.size/\(∀ g,v7.ownBlock=some g->v.ownBlock=some g\/w5.heap.size<=g)/\Onl (FdU fb bw v) w5 w7):=by
     have s7:=o7.size;have hsr:=HSr.out;have h5W:=HO5.out.size
     have hcv:∀ i,FdU fb bw v' i->FdU fb bw v i\/w5.heap.size<=i:=fun i q=>by
      rcases q with q | q | q
      ·exact .inl (.inl q)
      ·exact .inl (.inr (.inl q))
      ·exact (HVr.out i q).imp (fun z=>.inr (.inr z)) (fun z=>z)
     have o67:Onl (FdU fb bw v') wr w7:=(Onl.ofBelow HB6.out).trans o7;refine Za ⟨?_,bb7,HOr.out.more o67 (fun i q=>(hcv i q).imp (fun z=>z) (fun z=>by omega)),by omega,fun g hg=>?_,HO5r.out.more o67 hcv⟩
     ·rw [HTK.out];simp only [List.flatten_append,List.flatten_cons,List.flatten_nil,List.append_nil,Zq,List.map_append] at f7 ⊢;rw [List.append_assoc] at f7;exact f7
     ·rcases ow7 g hg with z | z
      ·exact HVr.out g z
      ·exact .inr (by omega)
    clear f7 bb7 o7 ow7 HFr HBr HOr HSr HVr HO5r q1 q2;go_wp2;go_roundw
    case rel =>
     obtain ⟨a1,a2,a3,a4,a5,a6⟩:=HFIN.out;exact ⟨k+1,v7,by omega,by simp,Za a1,Za a2,Za a3,Za a4,Za a5,Za a6⟩
    case measure=>simp [intOf];omega
   ·obtain rfl:k=nk':=by omega
    have hall:(lss.take k).flatten=ls:=by rw [List.take_of_length_le (by have:=HLSS.out;have:=HNK.out;omega),HLS.out]
    rw [hall] at HFr;obtain ⟨w8,R8,m8,t8⟩:=HFr.out.mp.drop hk64 Tryz.underlying86 HNOD.out.1.lt 0;have o8:=turned_onl t8
    have hMM:upd (upd M id (some (.agg #[]))) id none=M:=by
     funext i
     by_cases z:i=id
     ·subst z;rw [Z5];exact HMID.out.symm
     ·rw [ZD _ _ z,ZD _ _ z]
    rw [hMM] at m8;have hVr:=HVr.out;have h5W:=HO5.out.size
    have HFIN:Hid (DnP B W0 W fb bw s v (fnd++Zq ls) M (.returned (.int .i64 0)) w8):=by
     refine Za ⟨rfl,v',⟨HFr.out.ob.onl o8 HFr.out.ne,HFr.out.row.onl o8 (fun g hg q=>by rw [q] at hg;exact Row.noMap HFr.out.row HFr.out.mp hg),m8,HFr.out.lf,HFr.out.lw,HFr.out.ne⟩,Below.onl HBr.out o8 (fun i q=>by have:=HFr.out.lw;omega) (Nat.le_refl _),HOr.out.trans (o8.mono (fun i q=>.inr (.inl q))),fun g hg=>(hVr g hg).imp (fun z=>z) (fun z=>by omega)⟩
    have y1r:=HFr.out.ob.cell 1;simp only [List.getElem?_cons_zero,List.getElem?_cons_succ] at y1r;clear m8 t8 o8 hMM hVr HFr HBr HOr HSr HVr HO5r hall;go_wp2;go_ret
    exact HFIN.out
end
def LvP (W:World) (ks:List Ki) (e:Ending) (W':World):Prop:=∃ v,e=.returned (.tuple #[v,.int .i64 0])/\Row (fun g=>W.heap.size<=g) W' 128 2 v ks.length (Zn ks)/\Below W.heap.size W W'
theorem tleaves_any {w W:World} {s m:Nat} {O:Nat->Prop} {T:List (List Int)} (h:TSw w W s O T m) (hT:T.length<=16000) (hx:TxOk T) (root:Nat) (ls:List (Nat × List En)) (ht:RootT T root ls) (hlen:ls.length<=1000) :
  Calls Tryz.prog 68 #[.pointer (some ⟨s,0,none⟩),.int .u64 root] W (LvP W (Zq ls)):=by
 rcases ht with ⟨rfl,rfl⟩ | ⟨l,n,ht⟩
 ·have HF:Hid (LvP W (Zq []) (.returned (.tuple #[.slice none 0 0,.int .i64 0])) W):=Za ⟨_,rfl,by simpa [Zq,Zn] using Row.nil _ W 128 2,Below.refl _ _⟩;go_enter Tryz.func68,Tryz.ntmps68
  go_wp2;refine bodyPost_ret (by simp [results,Tryz.results68,go_sem];rfl) rfl ?_;exact HF.out
 ·have hnod:=ht.nod;have hne:((root:Int) == 0)=false:=by have:=hnod.1.pos;rw [beq_eq_false_iff_ne];omega
  obtain ⟨W1,hW1⟩:∃ W1,W1=W.alloc (.map #[] 0):=⟨_,rfl⟩;obtain ⟨W2,hW2⟩:∃ W2,W2=W1.alloc (.cells #[ldV s,.map (some W.heap.size),.slice none 0 0] 190):=⟨_,rfl⟩;have s1:W1.heap.size=W.heap.size+1:=by rw [hW1];simp
  have b1:Below W.heap.size W W1:=by rw [hW1];exact (Below.refl _ W).alloc (Nat.le_refl _) _
  have b12:Below W1.heap.size W1 W2:=by rw [hW2];exact (Below.refl _ W1).alloc (Nat.le_refl _) _
  have b2:Below W.heap.size W W2:=b1.trans (b12.mono (by omega));have m1:Mp Tryz.prog 27 W1 W.heap.size (fun _=>none):=by rw [hW1];exact Mp.made W Tryz.prog 27
  have k2:Ob W2 (W.heap.size+1) 190 [ldV s,.map (some W.heap.size),.slice none 0 0]:=by rw [hW2,<- s1];exact Ob.new W1 [ldV s,.map (some W.heap.size),.slice none 0 0] 190
  have F2:Fd W.heap.size W2 (W.heap.size+1) W.heap.size s (.slice none 0 0) [] (fun _=>none):=⟨k2,by simpa [Zn] using Row.nil _ W2 128 2,m1.below b12,by omega,Nat.le_refl _,by omega⟩;have hw:Way T (fun _=>none) (hgt T root):=⟨fun i v q=>(by cases q),⟨[],fun i q=>absurd rfl q,by have:=hgt_is ht;simp;omega⟩,fun i q=>absurd rfl q⟩;have C3:=down_any h hT hx (Nat.le_refl _) l W2 root n ls (W.heap.size+1) W.heap.size (.slice none 0 0) [] (fun _=>none) ht b2 F2 hw (by simp;omega);rw [List.nil_append] at C3;have HC3:=Za C3;have hmm:=@run_makeMap Tryz.prog;have hW2':W2=(W.alloc (.map #[] 0)).alloc (.cells #[.func (.func 41) #[.pointer (some ⟨s,0,none⟩)] #[],.map (some W.heap.size),.slice none 0 0] 190):=by rw [hW2,hW1];rfl
  clear C3 hw F2 k2 m1 b2 b12 b1 s1 hW1 hW2 h ht hnod hlen;go_enter Tryz.func68,Tryz.ntmps68
  go_wp2_with fail
  rw [<- hW2'];clear hW2';refine HC3.out.mono ?_;rintro e w3 ⟨rfl,v',f3,b3,o3,ow3⟩;have y2:=f3.ob.cell 2;simp only [List.getElem?_cons_zero,List.getElem?_cons_succ] at y2;obtain ⟨va,vc,hva,_⟩:=f3.row.form;have HF:Hid (LvP W (Zq ls) (.returned (.tuple #[v',.int .i64 0])) w3):=Za ⟨v',rfl,f3.row,b3⟩;rw [hva] at HF y2;clear f3 b3 o3 ow3 hva;obtain ⟨nn,hnn⟩:∃ nn,nn=(Zq ls).length:=⟨_,rfl⟩;rw [<- hnn] at y2 HF;clear hnn;go_wp2;refine bodyPost_ret (by simp [results,Tryz.results68,go_sem];rfl) rfl ?_;exact HF.out
theorem fin_load {W:World} {g:Nat} {c0 c1 c2:Value} {er:Int} {tmps:Array Value} {Q:Ending->World->Prop} (k:Ob W g 90 [c0,c1,c2]) (h4:tmps.getD 4 undef=.pointer (some ⟨g,0,none⟩)) (h5:tmps.getD 5 undef=.int .i64 er) (hq:Q (.returned (.tuple #[.agg #[c0,c1,c2],.int .i64 er])) W) :
  bodyPost Tryz.prog Tryz.f111 Q Exit.ret { tmps:=tmps,defers:=[] } W:=by
 have hl:=run_loadVar_row (P:=Tryz.prog) W g 90 90 #[c0,c1,c2] (0,0) _ k Tryz.underlying90 rfl (by rw [size_node];rfl);have h4':tmps[4]?.getD undef=.pointer (some ⟨g,0,none⟩):=by simpa using h4
 have h5':tmps[5]?.getD undef=.int .i64 er:=by simpa using h5
 refine bodyPost_ret (v:=.tuple #[.agg #[c0,c1,c2],.int .i64 er]) ?_ rfl hq;simp [results,Tryz.results111,asAddr,h4',h5',hl]
theorem tLoad_any {w W:World} {s m:Nat} {O:Nat->Prop} {T:List (List Int)} (h:TSw w W s O T m) (hT:T.length<=16000) (hx:TxOk T) (id:Nat) (hid:id < 18446744073709551616) :
  Calls Tryz.prog 111 #[.pointer (some ⟨s,0,none⟩),.int .u64 id] W (NoP W (loadT T id).1 (loadT T id).2):=by
 obtain ⟨W1,hW1⟩:∃ W1,W1=W.alloc (.cells #[.int .i64 0,.slice none 0 0,.slice none 0 0] 90):=⟨_,rfl⟩;have b1:Below W.heap.size W W1:=by rw [hW1];exact (Below.refl _ W).alloc (Nat.le_refl _) _
 have s1:W1.heap.size=W.heap.size+1:=by rw [hW1];simp
 have k1:Ob W1 W.heap.size 90 [.int .i64 0,.slice none 0 0,.slice none 0 0]:=by rw [hW1];exact Ob.new W [.int .i64 0,.slice none 0 0,.slice none 0 0] 90
 have C1:=tload_any (h.below b1) hT hx id hid;obtain ⟨NN,hNN⟩:∃ NN,NN=loadT T id:=⟨_,rfl⟩;rw [<- hNN] at C1 ⊢;simp only [ldV] at C1;have HB1:=Za b1;have HK1:=Za k1;have HC1:=Za C1;clear b1 k1 C1 h hx hNN;go_enter Tryz.func111,Tryz.ntmps111
 go_wp2_with fail
 rw [<- hW1];clear hW1;refine HC1.out.mono ?_;rintro e w3 ⟨x,hxn,ok,nw,rfl,b3⟩;have s3:=b3.size;have k3:=HK1.out.old b3;obtain ⟨⟨lv,es,ks⟩,ea,ec,ka,kc⟩:=x;simp only [NdA.cells] at hxn ⊢;obtain ⟨ne,hne⟩:∃ ne,ne=es.length:=⟨_,rfl⟩;obtain ⟨nk,hnk⟩:∃ nk,nk=ks.length:=⟨_,rfl⟩;rw [<- hne,<- hnk];obtain ⟨w4,hw4⟩:∃ w4,w4=((w3.setCell ⟨W.heap.size,0,none⟩ (.int .i64 lv)).setCell ⟨W.heap.size,1,none⟩ (.slice ea ne ec)).setCell ⟨W.heap.size,2,none⟩ (.slice ka nk kc):=⟨_,rfl⟩
 have o4:Onl (fun i=>i=W.heap.size) w3 w4:=by
  rw [hw4];exact (((Onl.refl (fun i=>i=W.heap.size) w3).set (p:=W.heap.size) (.inl rfl) _).set (p:=W.heap.size) (.inl rfl) _).set (p:=W.heap.size) (.inl rfl) _
 have k4:Ob w4 W.heap.size 90 [.int .i64 lv,.slice ea ne ec,.slice ka nk kc]:=by
  rw [hw4];exact ((k3.set 0 _).set 1 _).set 2 _
 have HF:Hid (NoP W NN.1 NN.2 (.returned (.tuple #[.agg #[.int .i64 lv,.slice ea ne ec,.slice ka nk kc],.int .i64 NN.2])) w4):=by
  refine Za ⟨⟨⟨lv,es,ks⟩,ea,ec,ka,kc⟩,hxn,OkN.off ok o4 ⟨fun y hy _ q=>?_,fun y hy _ q=>?_⟩,⟨fun y hy=>Nat.le_trans (by omega) (nw.1 y hy),fun y hy=>Nat.le_trans (by omega) (nw.2 y hy)⟩,by rw [hne,hnk];rfl,?_⟩
  ·have:=nw.1 y hy;omega
  ·have:=nw.2 y hy;omega
  ·exact Below.onl (HB1.out.trans (b3.mono (by omega))) o4 (fun i q=>by omega) (Nat.le_refl _)
 have c0:=k3.cell 0;have c1:=k3.cell 1;have c2:=k3.cell 2;have f0:=k3.frozen 0;have f1:=k3.frozen 1;have f2:=k3.frozen 2;simp only [List.getElem?_cons_zero,List.getElem?_cons_succ] at c0 c1 c2;have HK4:=Za k4;rw [hw4] at HF HK4;clear k3 k4 o4 ok nw b3 hne hnk hxn hw4;go_wp2;exact fin_load HK4.out rfl rfl HF.out
end Go.Proofs.YtdhebpnkfookcaaGreat
namespace Apo
open Go Go.RowKit
end Apo
namespace Go.Proofs.YtdhebpnkfookcaaGreat
open Go.RowKit Go.Shelf Apo
attribute [local go_sem] Oper.semAt_some
end Go.Proofs.YtdhebpnkfookcaaGreat
