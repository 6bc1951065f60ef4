import Derived.Deep.Slices
import Derived.Test.YteopalkiebfioaaGreatQM36
set_option maxRecDepth 100000
set_option maxHeartbeats 4000000
namespace Go.Proofs.YteopalkiebfioaaGreat
section
open Go.RowKit Apo
theorem Z7 {es:List En} {key v v':ByteArray} {b b':Bool} (hr:Zo es) (h:Gets es key v b) (h':Gets es key v' b'):v=v'/\b=b':=by
 rcases h with ⟨rfl,e,h1,h2,h3⟩ | ⟨rfl,rfl,h1⟩
 ·rcases h' with ⟨rfl,f,k1,k2,k3⟩ | ⟨rfl,rfl,k1⟩
  ·obtain ⟨i,hi,qi⟩:=List.mem_iff_getElem.1 h1;obtain ⟨j,hj,qj⟩:=List.mem_iff_getElem.1 k1;have hP:=List.pairwise_iff_getElem.1 hr;rcases Nat.lt_trichotomy i j with z | z | z
   ·have:=hP i j hi hj z;rw [qi,qj,h2,k2,Zr] at this;cases this
   ·subst z;rw [<- h3,<- k3,<- qi,<- qj];exact ⟨rfl,rfl⟩
   ·have:=hP j i hj hi z;rw [qi,qj,h2,k2,Zr] at this;cases this
  ·exact absurd h2 (k1 e h1)
 ·rcases h' with ⟨rfl,f,k1,k2,k3⟩ | ⟨rfl,rfl,k1⟩
  ·exact absurd k2 (h1 f k1)
  ·exact ⟨rfl,rfl⟩
theorem tstore_any (w:World):Calls Tryz.prog 7 #[] w fun e W'=>∃ s O,e=.returned (.pointer (some ⟨s,0,none⟩))/\TSw w W' s O [] 1:=by
 have h8:8<=lenOf 16384:=by decide
 have H8:=Za h8;clear h8;go_enter Tryz.func7,Tryz.ntmps7
 go_wp2_with fail
 refine (cnew_any 16384 w).mono ?_;rintro e w1 ⟨d,rfl,k1,b1⟩;have L1:LwD w w1 d (Zl 16384) (Fresh w w1):=⟨k1,fun i q=>q.1,fun i q=>q.2,b1⟩
 have C2:=lopen_new L1 H8.out;have HC2:=Za C2;clear k1 b1 L1 C2;go_wp2_with fail
 refine HC2.out.mono ?_;rintro e w2 ⟨s,O2,rfl,L2⟩;have HF:=Za (show TSw w w2 s O2 [] 1 from ⟨d,_,L2,sta_new⟩)
 clear L2;go_wp2;go_ret
 exact ⟨s,O2,rfl,HF.out⟩
end
section
open Go.RowKit Apo Go.ChangeShapes Go.WideShapes Go.Deep
section
variable {H:Type} {enc:TypeId × Value->H} {w:World} {base:Nat} {spare:Nat->Bool} {held:Bool}
structure Tb where
 a:Option Addr
 c:Nat
 b:List Int
instance:Inhabited Tb:=⟨⟨none,0,[]⟩⟩
end
end
section
open Go.RowKit Apo Go.ChangeShapes Go.WideShapes Go.Deep
section
variable {H:Type} {enc:TypeId × Value->H} {w:World} {base:Nat} {spare:Nat->Bool} {held:Bool}
theorem open_ens {fuel:Nat} {v:Value} {x:DataW H × List MemPlace} (h:DataW.trod enc Tryz.prog w base spare held fuel 22 [v]=some x) :
  ∃ (a:Option Addr) (cap:Nat) (fs:List En),v=.slice a fs.length cap/\RdEn w a fs/\(∀ f ∈ fs,f.k.size<=maxLen/\f.v.size<=maxLen)/\fs.length<=cap/\cap<=maxLen/\(a=none->cap=0):=by
 rcases open_slice Tryz.underlying22 h with ⟨hcs,_⟩ | ⟨ad,len,cap,m,n,D,Pl,hcs,hb,hl,hm,hmm,_,hx⟩
 ·simp only [List.cons.injEq,and_true] at hcs;exact ⟨none,0,[],hcs,(fun i e hi=>by simp at hi),by simp,by simp,by omega,fun _=>rfl⟩
 ·simp only [List.cons.injEq,and_true] at hcs;have hlm:len<=m:=by rw [hmm];split <;> omega
  have ce:Tryz.prog.cellsOf 47=2:=by kernel_rfl
  have each:∀ i,i < len->∃ f:En,w.cell? (ad.add (i * 2))=some (.string f.k)/\w.cell? (ad.add (i * 2+1))=some (.string f.v)/\(f.k.size<=maxLen/\f.v.size<=maxLen):=by
   intro i hi;obtain ⟨cs',h1,h2⟩:=hx i (by omega)
   rw [ce] at h1;obtain ⟨_,hlen,hcell⟩:=World.cells?_some h1
   obtain ⟨xs,k,hk,hxy,_,hxl,hf⟩:=DataW.trod_struct Tryz.underlying47 h2;match xs,hxl,cs',hlen with
   | [y0,y1],_,[v0,v1],_ =>
    have c9:Tryz.prog.cellsOf 9=1:=by kernel_rfl
    have g0:=hf 0 _ rfl;have g1:=hf 1 _ rfl;simp [c9] at g0 g1
    obtain ⟨kk,e0,_,w0⟩:=DataW.trod_string Tryz.underlying9 g0;obtain ⟨vv,e1,_,w1⟩:=DataW.trod_string Tryz.underlying9 g1;have q0:=hcell 0 (by omega)
    have q1:=hcell 1 (by omega)
    rw [add_add] at q0 q1;simp only [List.cons.injEq,and_true] at e0 e1;subst e0 e1;exact ⟨⟨kk,vv⟩,by simpa using q0,by simpa using q1,w0,w1⟩
  obtain ⟨F,hF⟩:=choose_lt each;refine ⟨some ad,cap,(List.range len).map F,by simpa using hcs,?_,?_,by simp;omega,by omega,fun e=>by cases e⟩
  ·intro i f hi;obtain ⟨hlt,hv⟩:=List.getElem?_eq_some_iff.1 hi
   have hil:i < len:=by simpa using hlt
   have hfi:F i=f:=by simpa using hv
   obtain ⟨p0,p1,_⟩:=hF i hil;have z0:=(hF 0 (by omega)).1
   obtain ⟨b,off,spot⟩:=ad;have hspot:spot=none:=by simpa [Addr.add] using World.cell?_spot z0
   subst hspot;rw [hfi] at p0 p1;rw [add_plain] at p0 p1;exact ⟨b,off,rfl,p0,by simpa [Nat.add_assoc] using p1⟩
  ·intro f hf;simp only [List.mem_map,List.mem_range] at hf;obtain ⟨i,hi,rfl⟩:=hf;exact (hF i hi).2.2
structure EsA where
 a:Option Addr
 c:Nat
 l:List En
structure OkEs (w:World) (x:EsA):Prop where
 rd:RdEn w x.a x.l
 sz:∀ e ∈ x.l,e.k.size<=maxLen/\e.v.size<=maxLen
 len:x.l.length<=x.c
 big:x.c<=maxLen
 nil:x.a=none->x.c=0
theorem OkEs.below {w w':World} {x:EsA} (h:OkEs w x) (b:Below w.heap.size w w'):OkEs w' x:={ h with rd:=h.rd.below b }
theorem ens_in {r:Reach} {b0:Nat} {v:Value} {d:DataW H} {ps:List MemPlace} (hval:Value.okWide Tryz.prog w r b0 22 v) (h:DataW.Trod enc Tryz.prog w base spare held 22 v d ps):∃ t:EsA,v=.slice t.a t.l.length t.c/\OkEs w t:=by
 obtain ⟨a,l,c,rfl⟩:=okWide_slice Tryz.underlying22 hval;obtain ⟨fuel,hf⟩:=h;obtain ⟨a',c',fs,e,h1,h2,h3,h4,h5⟩:=open_ens hf;exact ⟨⟨a',c',fs⟩,e,⟨h1,h2,h3,h4,h5⟩⟩
end
end
section
open Go.RowKit Apo
theorem TBld.good {w W W':World} {s m:Nat} {O:Nat->Prop} {T:List (List Int)} {es:List En} {e:Ending} (h:TBld w W s O T m es e W') (hr:Z8 es=0):TRoot w W s O T m es e W':=by
 rcases h with ⟨q,_⟩ | ⟨_,q⟩
 ·exact absurd hr q
 ·exact q
end
end Go.Proofs.YteopalkiebfioaaGreat
namespace Apo
open Go Go.RowKit
structure Ed where
 k:ByteArray
 v:ByteArray
 g:Bool
structure Ch where
 k:ByteArray
 had:Bool
 was:ByteArray
 has:Bool
 now:ByteArray
def cEn (e:En):List Value:=[.string e.k,.string e.v]
def cEd (e:Ed):List Value:=[.string e.k,.string e.v,.bool e.g]
def cCh (e:Ch):List Value:=[.string e.k,.bool e.had,.string e.was,.bool e.has,.string e.now]
def cTx (s:ByteArray):List Value:=[.string s]
section
variable {α:Type} (c:α->List Value) (k:Nat)
def Zg (l:List α):List Value:=l.flatMap c
def RdG (w:World) (a:Option Addr) (l:List α):Prop :=
 ∀ i x,l[i]?=some x->∃ g o,a=some ⟨g,o,none⟩/\∀ j u,(c x)[j]?=some u->w.cell? ⟨g,o+i * k+j,none⟩=some u
variable {c:α->List Value} {k:Nat}
theorem gcells_app (a b:List α):Zg c (a++b)=Zg c a++Zg c b:=by simp [Zg]
theorem gcells_len (hk:∀ x,(c x).length=k):∀ l:List α,(Zg c l).length=l.length * k
 | []=>by simp [Zg]
 | x :: l=>by
  have:=gcells_len hk l;unfold Zg at this ⊢;rw [List.flatMap_cons,List.length_append,this,List.length_cons,hk,Nat.succ_mul];omega
theorem gcells_at (hk:∀ x,(c x).length=k):∀ (l:List α) {i j:Nat} {x:α} {u:Value},l[i]?=some x->(c x)[j]?=some u->(Zg c l)[i * k+j]?=some u
 | [],_,_,_,_,h,_=>by simp at h
 | y :: l,0,j,x,u,h,hu=>by
  simp at h
  subst h;have hj:=(List.getElem?_eq_some_iff.1 hu).1
  unfold Zg;rw [List.flatMap_cons,Nat.zero_mul,Nat.zero_add,List.getElem?_append_left hj]
  exact hu
 | y :: l,i+1,j,x,u,h,hu=>by
  have:=gcells_at hk l (i:=i) (by simpa using h) hu
  unfold Zg at this ⊢;rw [List.flatMap_cons,List.getElem?_append_right (by rw [hk,Nat.succ_mul];omega),hk,show (i+1) * k+j - k=i * k+j by rw [Nat.succ_mul];omega]
  exact this
theorem RdG.nil (w:World) (a:Option Addr):RdG c k w a []:=fun i x h=>by simp at h
theorem RdG.below {w w':World} {a:Option Addr} {l:List α} (h:RdG c k w a l) (b:Below w.heap.size w w'):RdG c k w' a l:=fun i e hi=>by
 obtain ⟨g,o,h1,h2⟩:=h i e hi;exact ⟨g,o,h1,fun j u hu=>(b.cell (p:=⟨g,o+i * k+j,none⟩) (World.block_lt_of_cell? _ _ (h2 j u hu))).trans (h2 j u hu)⟩
theorem RdG.onl {w w':World} {a:Option Addr} {l:List α} {O:Nat->Prop} (h:RdG c k w a l) (ho:Onl O w w') (hr:∀ x,a=some x->¬ O x.block):RdG c k w' a l:=fun i e hi=>by
 obtain ⟨g,o,h1,h2⟩:=h i e hi;refine ⟨g,o,h1,fun j u hu=>?_⟩
 have hc:=h2 j u hu;exact (World.cell?_of_block (ho.block g (World.block_lt_of_cell? w _ hc) (hr ⟨g,o,none⟩ h1))).trans hc
theorem RdG.news (hk:∀ x,(c x).length=k) (hk0:0 < k) {w:World} {x:Addr} {l:List α} (h:RdG c k w (some x) l):∀ j u,(Zg c l)[j]?=some u->w.cell? (x.add j)=some u:=by
 intro j u hu;have hj:=(List.getElem?_eq_some_iff.1 hu).1
 rw [gcells_len hk] at hj;have hi:j / k < l.length:=by rw [Nat.div_lt_iff_lt_mul hk0];exact hj
 have he:l[j / k]?=some (l[j / k]'hi):=List.getElem?_eq_getElem _
 obtain ⟨g,o,h1,h2⟩:=h _ _ he;injection h1 with h1
 subst h1;have hm:j % k < k:=Nat.mod_lt _ hk0;have hcu:(c (l[j / k]'hi))[j % k]?=some ((c (l[j / k]'hi))[j % k]'(by rw [hk];exact hm)):=List.getElem?_eq_getElem _
 have hat:=gcells_at hk l he hcu;have hjj:j / k * k+j % k=j:=Nat.div_add_mod' j k;rw [hjj] at hat;rw [hat] at hu;injection hu with hu
 have:=h2 _ _ hcu;rw [hu,Nat.add_assoc,hjj] at this;have hadd:(⟨g,o,none⟩:Addr).add j=⟨g,o+j,none⟩:=by unfold Addr.add;split <;> simp_all
 rw [hadd];exact this
theorem ZV (hk:∀ x,(c x).length=k) {O:Nat->Prop} {W:World} {e:TypeId} {v:Value} {l:List α} (h:Row O W e k v l.length (Zg c l)) :
  ∃ a cp,v=.slice a l.length cp/\RdG c k W a l/\l.length<=cp/\cp<=maxLen/\(a=none->cp=0)/\∀ x,a=some x->∃ g,x=⟨g,0,none⟩/\O g:=by
 obtain ⟨a,cp,hv,h1,h2,h3,h4⟩:=h.form;refine ⟨a,cp,hv,fun i x hi=>?_,h1,h2,h3,h4⟩
 have hil:=(List.getElem?_eq_some_iff.1 hi).1
 obtain ⟨g,cap,hv2,_,_,_,_,hc,_⟩:=h.shape (by omega)
 rw [hv] at hv2;injection hv2 with e1 e2 e3
 refine ⟨g,0,e1,fun j u hu=>?_⟩
 have hj:=(List.getElem?_eq_some_iff.1 hu).1
 rw [hk] at hj
 rw [Nat.zero_add,hc (i * k+j) (by
  have:(i+1) * k<=l.length * k:=Nat.mul_le_mul_right k hil;rw [Nat.succ_mul] at this;omega)]
 exact gcells_at hk l hi hu
theorem rd_lit (t:TypeId) (W:World) (x:α):RdG c k (W.alloc (.cells (c x).toArray t)) (some ⟨W.heap.size,0,none⟩) [x]:=by
 intro i e h;have hi:i=0:=by have:=(List.getElem?_eq_some_iff.1 h).1;simp at this;omega
 subst hi;simp only [List.getElem?_cons_zero,Option.some.injEq] at h
 subst h;refine ⟨_,_,rfl,fun j u hu=>?_⟩
 have hob:Ob (W.alloc (.cells (c x).toArray t)) W.heap.size t (c x):=Ob.new W (c x) t;have:=hob.cell j;rw [hu] at this;simpa using this
theorem app_G {P:Program} (hk:∀ x,(c x).length=k) (hk0:0 < k) (h1:∀ x,∀ u ∈ c x,u.oneCell'=true) {t e:TypeId} {z:Value} {by':Nat} (hu:P.underlying t=some (.slice e)) (hi:(P.info? e).map (fun i=>(i.zero,i.size,i.bytes))=some (some z,k,by')) (hz:z.cells.size=k) (hby:by'<=1000)
  {O:Nat->Prop} {W:World} {v:Value} {l xs:List α} (h:Row O W e k v l.length (Zg c l)) (hn:l.length+xs.length<=100000000) {y:Addr} {cp:Nat} (hr:RdG c k W (some y) xs) :
  ∃ v' w',(Builtin.append_ #[t,t] t #[v,.slice (some y) xs.length cp]).run P W=.ok v' w'/\Row (fun g=>O g\/g=W.heap.size) w' e k v' (l++xs).length (Zg c (l++xs))/\Onl (fun g=>v.ownBlock=some g) W w'/\∀ g,v'.ownBlock=some g->v.ownBlock=some g\/g=W.heap.size:=by
 obtain ⟨i0,hi,hz0,hz1,hz2⟩:=info_parts hi
 obtain ⟨v5,w5,RR,r5,g5,_,ho5⟩:=run_append_own_at (P:=P) W 0 t t e i0 _ k by' hu hi hz0 hz1 hz2 hz hk0 v l.length (Zg c l) h.1 y xs.length cp (Zg c xs) (gcells_len hk xs) (RdG.news hk hk0 hr) (by intro u hu;simp only [Zg,List.mem_flatMap] at hu;obtain ⟨x,_,hu⟩:=hu;exact h1 x u hu) (by unfold maxLen;omega) (by
  have:(l.length+xs.length) * by'<=100000000 * 1000:=Nat.mul_le_mul hn hby
  omega) (Nat.zero_le _)
 refine ⟨v5,w5,RR,⟨?_,fun g hg=>?_⟩,(Onl.refl _ W).grown g5 (fun k hk=>.inl hk),fun g hg=>?_⟩
 ·rw [List.length_append,gcells_app];exact r5
 ·rcases ho5 with q | q
  ·rw [q] at hg;exact .inl (h.2 g hg)
  ·rw [q] at hg;cases hg;exact .inr rfl
 ·rcases ho5 with q | q
  ·rw [q] at hg;exact .inl hg
  ·rw [q] at hg;cases hg;exact .inr rfl
end
theorem cEn_len (x:En):(cEn x).length=2:=rfl
theorem cEd_len (x:Ed):(cEd x).length=3:=rfl
theorem cCh_len (x:Ch):(cCh x).length=5:=rfl
theorem cTx_len (x:ByteArray):(cTx x).length=1:=rfl
theorem cEn_one (x:En):∀ u ∈ cEn x,u.oneCell'=true:=by simp [cEn,Value.oneCell']
theorem cEd_one (x:Ed):∀ u ∈ cEd x,u.oneCell'=true:=by simp [cEd,Value.oneCell']
theorem cCh_one (x:Ch):∀ u ∈ cCh x,u.oneCell'=true:=by simp [cCh,Value.oneCell']
theorem cTx_one (x:ByteArray):∀ u ∈ cTx x,u.oneCell'=true:=by simp [cTx,Value.oneCell']
theorem RdG.en {w:World} {a:Option Addr} {l:List En}:RdG cEn 2 w a l↔RdEn w a l:=by
 constructor
 ·intro h i e hi;obtain ⟨g,o,h1,h2⟩:=h i e hi;exact ⟨g,o,h1,h2 0 _ rfl,h2 1 _ rfl⟩
 ·intro h i e hi;obtain ⟨g,o,h1,h2,h3⟩:=h i e hi;refine ⟨g,o,h1,fun j u hu=>?_⟩
  match j with
  | 0=>simp [cEn] at hu;rw [<- hu];exact h2
  | 1=>simp [cEn] at hu;rw [<- hu];exact h3
  | j+2=>simp [cEn] at hu
theorem RdG.ed {w:World} {a:Option Addr} {l:List Ed} (h:RdG cEd 3 w a l) {i:Nat} {x:Ed} (hi:l[i]?=some x):∃ g o,a=some ⟨g,o,none⟩/\w.cell? ⟨g,o+i * 3,none⟩=some (.string x.k)/\w.cell? ⟨g,o+i * 3+1,none⟩=some (.string x.v)/\w.cell? ⟨g,o+i * 3+2,none⟩=some (.bool x.g):=by
 obtain ⟨g,o,h1,h2⟩:=h i x hi;exact ⟨g,o,h1,h2 0 _ rfl,h2 1 _ rfl,h2 2 _ rfl⟩
theorem RdG.ch {w:World} {a:Option Addr} {l:List Ch} (h:RdG cCh 5 w a l) {i:Nat} {x:Ch} (hi:l[i]?=some x):∃ g o,a=some ⟨g,o,none⟩/\w.cell? ⟨g,o+i * 5,none⟩=some (.string x.k)/\w.cell? ⟨g,o+i * 5+1,none⟩=some (.bool x.had)/\w.cell? ⟨g,o+i * 5+2,none⟩=some (.string x.was)/\w.cell? ⟨g,o+i * 5+3,none⟩=some (.bool x.has)/\w.cell? ⟨g,o+i * 5+4,none⟩=some (.string x.now):=by
 obtain ⟨g,o,h1,h2⟩:=h i x hi;exact ⟨g,o,h1,h2 0 _ rfl,h2 1 _ rfl,h2 2 _ rfl,h2 3 _ rfl,h2 4 _ rfl⟩
theorem RdG.tx {w:World} {a:Option Addr} {l:List ByteArray} (h:RdG cTx 1 w a l) {i:Nat} {x:ByteArray} (hi:l[i]?=some x):∃ g o,a=some ⟨g,o,none⟩/\w.cell? ⟨g,o+i,none⟩=some (.string x):=by
 obtain ⟨g,o,h1,h2⟩:=h i x hi;exact ⟨g,o,h1,by simpa using h2 0 _ rfl⟩
end Apo
namespace Go.Proofs.YteopalkiebfioaaGreat
open Go.RowKit Apo
section
theorem info_en:(Tryz.prog.info? 47).map (fun i=>(i.zero,i.size,i.bytes))=some (some (.agg #[.string ByteArray.empty,.string ByteArray.empty]),2,32):=by kernel_rfl
theorem info_ed:(Tryz.prog.info? 52).map (fun i=>(i.zero,i.size,i.bytes))=some (some (.agg #[.string ByteArray.empty,.string ByteArray.empty,.bool false]),3,40):=by kernel_rfl
theorem info_ch:(Tryz.prog.info? 49).map (fun i=>(i.zero,i.size,i.bytes))=some (some (.agg #[.string ByteArray.empty,.bool false,.string ByteArray.empty,.bool false,.string ByteArray.empty]),5,64):=by kernel_rfl
theorem info_tx:(Tryz.prog.info? 9).map (fun i=>(i.zero,i.size,i.bytes))=some (some (.string ByteArray.empty),1,16):=by kernel_rfl
section
variable {O:Nat->Prop} {W:World} {v:Value} {y:Addr} {cp:Nat}
theorem app_en {l xs:List En} (h:Row O W 47 2 v l.length (Zg cEn l)) (hn:l.length+xs.length<=100000000) (hr:RdG cEn 2 W (some y) xs) :
  ∃ v' w',(Builtin.append_ #[22,22] 22 #[v,.slice (some y) xs.length cp]).run Tryz.prog W=.ok v' w'/\Row (fun g=>O g\/g=W.heap.size) w' 47 2 v' (l++xs).length (Zg cEn (l++xs))/\Onl (fun g=>v.ownBlock=some g) W w'/\∀ g,v'.ownBlock=some g->v.ownBlock=some g\/g=W.heap.size :=
 app_G cEn_len (by decide) cEn_one Tryz.underlying22 info_en rfl (by decide) h hn hr
theorem app_ed {l xs:List Ed} (h:Row O W 52 3 v l.length (Zg cEd l)) (hn:l.length+xs.length<=100000000) (hr:RdG cEd 3 W (some y) xs) :
  ∃ v' w',(Builtin.append_ #[23,23] 23 #[v,.slice (some y) xs.length cp]).run Tryz.prog W=.ok v' w'/\Row (fun g=>O g\/g=W.heap.size) w' 52 3 v' (l++xs).length (Zg cEd (l++xs))/\Onl (fun g=>v.ownBlock=some g) W w'/\∀ g,v'.ownBlock=some g->v.ownBlock=some g\/g=W.heap.size :=
 app_G cEd_len (by decide) cEd_one Tryz.underlying23 info_ed rfl (by decide) h hn hr
theorem app_ch {l xs:List Ch} (h:Row O W 49 5 v l.length (Zg cCh l)) (hn:l.length+xs.length<=100000000) (hr:RdG cCh 5 W (some y) xs) :
  ∃ v' w',(Builtin.append_ #[34,34] 34 #[v,.slice (some y) xs.length cp]).run Tryz.prog W=.ok v' w'/\Row (fun g=>O g\/g=W.heap.size) w' 49 5 v' (l++xs).length (Zg cCh (l++xs))/\Onl (fun g=>v.ownBlock=some g) W w'/\∀ g,v'.ownBlock=some g->v.ownBlock=some g\/g=W.heap.size :=
 app_G cCh_len (by decide) cCh_one Tryz.underlying34 info_ch rfl (by decide) h hn hr
theorem app_tx {l xs:List ByteArray} (h:Row O W 9 1 v l.length (Zg cTx l)) (hn:l.length+xs.length<=100000000) (hr:RdG cTx 1 W (some y) xs) :
  ∃ v' w',(Builtin.append_ #[79,79] 79 #[v,.slice (some y) xs.length cp]).run Tryz.prog W=.ok v' w'/\Row (fun g=>O g\/g=W.heap.size) w' 9 1 v' (l++xs).length (Zg cTx (l++xs))/\Onl (fun g=>v.ownBlock=some g) W w'/\∀ g,v'.ownBlock=some g->v.ownBlock=some g\/g=W.heap.size :=
 app_G cTx_len (by decide) cTx_one Tryz.underlying79 info_tx rfl (by decide) h hn hr
end
end
def headK:List En->ByteArray × Bool
 | []=>(⟨#[]⟩,false)
 | e :: _=>(e.k,true)
def leastK:List En->List En->ByteArray × Bool
 | [],fs=>headK fs
 | e :: _,[]=>(e.k,true)
 | e :: _,f :: _=>if ZR f.k e.k=true then (f.k,true) else (e.k,true)
open Classical in
noncomputable def takeK:List En->ByteArray->(Bool × ByteArray) × List En
 | [],_=>((false,⟨#[]⟩),[])
 | e :: es,key=>if e.k=key then ((true,e.v),es) else ((false,⟨#[]⟩),e :: es)
open Classical in
noncomputable def chOf (key:ByteArray) (v w:Bool × ByteArray):List Ch:=if v=w then [] else [⟨key,v.1,v.2,w.1,w.2⟩]
inductive OfR:List En->List En->List Ch->Prop where
 | done:OfR [] [] []
 | step {es fs:List En} {key:ByteArray} {cs:List Ch}:leastK es fs=(key,true)->OfR (takeK es key).2 (takeK fs key).2 cs->OfR es fs (chOf key (takeK es key).1 (takeK fs key).1++cs)
def Cur (B:Nat) (w:World) (p:Nat) (es:List En):Prop:=B<=p/\∃ a c,Ob w p 87 [.slice a es.length c]/\RdEn w a es/\es.length<=c/\c<=maxLen/\(∀ x,a=some x->es≠[]->x.block < B)
theorem Cur.onl {B:Nat} {w w':World} {p:Nat} {es:List En} {O:Nat->Prop} (h:Cur B w p es) (o:Onl O w w') (hp:¬ O p) (hO:∀ i,O i->B<=i):Cur B w' p es:=by
 obtain ⟨hB,a,c,k,r,h1,h3,h2⟩:=h;refine ⟨hB,a,c,k.onl o hp,fun i e hi=>?_,h1,h3,h2⟩
 obtain ⟨g,of,e1,e2,e3⟩:=r i e hi;have hg:=World.block_lt_of_cell? _ _ e2;have hgB:g < B:=h2 _ e1 (fun q=>by rw [q] at hi;simp at hi)
 have hb:=o.block g hg (fun q=>by have:=hO g q;omega)
 exact ⟨g,of,e1,(World.cell?_of_block (a:=⟨g,of+i * 2,none⟩) hb).trans e2,(World.cell?_of_block (a:=⟨g,of+i * 2+1,none⟩) hb).trans e3⟩
theorem dkey_any {B:Nat} {w:World} {p:Nat} {es:List En} (h:Cur B w p es):Calls Tryz.prog 37 #[.pointer (some ⟨p,0,none⟩)] w fun e w'=>e=.returned (.tuple #[.string (headK es).1,.bool (headK es).2])/\w=w':=by
 obtain ⟨_,a,c,k,r,_,_,_⟩:=h;have y0:=k.cell 0;simp only [List.getElem?_cons_zero] at y0
 cases es with
 | nil =>
  simp only [List.length_nil] at y0;clear r k;go_enter Tryz.func37,Tryz.ntmps37
  go_wp2;go_ret2
  exact ⟨rfl,rfl⟩
 | cons e es =>
  obtain ⟨g,of,rfl,q1,q2⟩:=r 0 e rfl;simp only [List.length_cons,Nat.zero_mul,Nat.add_zero] at y0 q1;have hz:(((es.length+1:Nat):Int) == 0)=false:=by simp;omega
  clear r k q2;go_enter Tryz.func37,Tryz.ntmps37
  go_wp2;go_ret2
  exact ⟨rfl,rfl⟩
theorem fin_take {W:World} {g:Nat} {c0 c1:Value} {tmps:Array Value} {Q:Ending->World->Prop} (k:Ob W g 83 [c0,c1]) (h4:tmps.getD 4 undef=.pointer (some ⟨g,0,none⟩)) (hq:Q (.returned (.agg #[c0,c1])) W) :
  bodyPost Tryz.prog Tryz.f35 Q Exit.ret { tmps:=tmps,defers:=[] } W:=by
 have hl:=run_loadVar_row (P:=Tryz.prog) W g 83 83 #[c0,c1] (0,0) _ k Tryz.underlying83 rfl (by rw [size_side];rfl)
 have h4':tmps[4]?.getD undef=.pointer (some ⟨g,0,none⟩):=by simpa using h4
 refine bodyPost_ret (v:=.agg #[c0,c1]) ?_ rfl hq;simp [results,Tryz.results35,asAddr,h4',hl]
def TkP (B:Nat) (w:World) (p:Nat) (es:List En) (key:ByteArray) (e:Ending) (w':World):Prop:=e=.returned (.agg #[.bool (takeK es key).1.1,.string (takeK es key).1.2])/\Cur B w' p (takeK es key).2/\Onl (fun j=>j=p) w w'
theorem dtake_any {B:Nat} {w:World} {p:Nat} {es:List En} (h:Cur B w p es) (key:ByteArray) (hl:es.length<=1000000):Calls Tryz.prog 35 #[.pointer (some ⟨p,0,none⟩),.string key] w (TkP B w p es key):=by
 obtain ⟨W0,hW0⟩:∃ W0,W0=w.alloc (.cells #[.bool false,.string ⟨#[]⟩] 83):=⟨_,rfl⟩;have b0:Below w.heap.size w W0:=by rw [hW0];exact (Below.refl _ w).alloc (Nat.le_refl _) _
 have k0:Ob W0 w.heap.size 83 [.bool false,.string ⟨#[]⟩]:=by rw [hW0];exact Ob.new w [.bool false,.string ⟨#[]⟩] 83
 have hcur:Cur B W0 p es:=h.onl (O:=fun _=>False) (Onl.ofBelow b0) (fun q=>q) (fun _ q=>q.elim)
 have hpl:p < w.heap.size:=by obtain ⟨_,a,c,k,_⟩:=h;exact k.lt
 have hBp:B<=p:=h.1;have CK:=dkey_any hcur;have z0:=k0.cell 0;have z1:=k0.cell 1;have f0:=k0.frozen 0;have f1:=k0.frozen 1;simp only [List.getElem?_cons_zero,List.getElem?_cons_succ] at z0 z1
 have HCK:=Za CK;clear CK;by_cases hno:∀ e r,es=e :: r->e.k≠key
 ·have htk:takeK es key=((false,⟨#[]⟩),es):=by
   cases es with
   | nil=>rfl
   | cons e r=>exact if_neg (hno e r rfl)
  obtain ⟨W2,hW2⟩:∃ W2,W2=(W0.setCell ⟨w.heap.size,0,none⟩ (.bool false)).setCell ⟨w.heap.size,1,none⟩ (.string ⟨#[]⟩):=⟨_,rfl⟩;have o2:Onl (fun j=>j=w.heap.size) W0 W2:=by rw [hW2];exact ((Onl.refl (fun j=>j=w.heap.size) W0).set (p:=w.heap.size) (.inl rfl) _).set (p:=w.heap.size) (.inl rfl) _
  have k2:Ob W2 w.heap.size 83 [.bool false,.string ⟨#[]⟩]:=by rw [hW2];exact (k0.set 0 _).set 1 _
  have hF:TkP B w p es key (.returned (.agg #[.bool false,.string ⟨#[]⟩])) W2:=by
   unfold TkP;rw [htk];exact ⟨rfl,hcur.onl o2 (by omega) (fun i hi=>by omega),(Onl.ofBelow b0).more o2 (fun i q=>.inr (by omega))⟩
  have HF:=Za hF;have HK2:=Za k2
  obtain ⟨kk,bb,hkb,htest⟩:∃ kk bb,headK es=(kk,bb)/\(bb=false\/(kk.toList == key.toList)=false):=by
   cases es with
   | nil=>exact ⟨_,_,rfl,.inl rfl⟩
   | cons e r =>
    refine ⟨_,_,rfl,.inr ?_⟩;cases q:(e.k.toList == key.toList) with
    | false=>rfl
    | true=>exact absurd (ZG (by simpa using q)) (hno e r rfl)
  rw [hkb] at HCK;rw [hW2] at HF HK2;clear hW2 o2 k2 hF htk hno hkb hcur k0 b0 h;go_enter Tryz.func35,Tryz.ntmps35
  go_wp2_with fail
  rw [<- hW0];clear hW0;refine HCK.out.mono ?_;rintro e w2 ⟨rfl,rfl⟩;rcases htest with rfl | htest
  ·go_wp2;exact fin_take HK2.out rfl HF.out
  ·cases bb
   ·go_wp2;exact fin_take HK2.out rfl HF.out
   ·go_wp2;exact fin_take HK2.out rfl HF.out
 ·obtain ⟨e,r,rfl,hk⟩:∃ e r,es=e :: r/\e.k=key:=by
   cases es with
   | nil=>exact absurd (fun e r q=>by cases q) hno
   | cons e r =>
    refine ⟨e,r,rfl,?_⟩;by_cases q:e.k=key
    ·exact q
    ·exact absurd (fun e' r' q'=>by cases q';exact q) hno
  have htk:takeK (e :: r) key=((true,e.v),r):=if_pos hk;obtain ⟨_,a,c,ob,rd,h1,h3,h2⟩:=hcur;obtain ⟨g,of,rfl,q1,q2⟩:=rd 0 e rfl;have hgB:g < B:=h2 _ rfl (by simp)
  have y0:=ob.cell 0;have yf:=ob.frozen 0;simp only [List.length_cons,List.getElem?_cons_zero,Nat.zero_mul,Nat.add_zero] at y0 q1 q2 hl h1
  obtain ⟨n,hn⟩:∃ n,n=r.length:=⟨_,rfl⟩;obtain ⟨A,hA⟩:∃ A:Option Addr,A=(if c=1 then some ⟨g,of,none⟩ else some ⟨g,of+2,none⟩):=⟨_,rfl⟩
  obtain ⟨W1,hW1⟩:∃ W1,W1=W0.setCell ⟨p,0,none⟩ (.slice A n (c - 1)):=⟨_,rfl⟩;obtain ⟨W2,hW2⟩:∃ W2,W2=(W1.setCell ⟨w.heap.size,0,none⟩ (.bool true)).setCell ⟨w.heap.size,1,none⟩ (.string e.v):=⟨_,rfl⟩;have o1:Onl (fun j=>j=p) W0 W1:=by rw [hW1];exact (Onl.refl (fun j=>j=p) W0).set (p:=p) (.inl rfl) _
  have o2:Onl (fun j=>j=w.heap.size) W1 W2:=by rw [hW2];exact ((Onl.refl (fun j=>j=w.heap.size) W1).set (p:=w.heap.size) (.inl rfl) _).set (p:=w.heap.size) (.inl rfl) _
  have k1:Ob W1 w.heap.size 83 [.bool false,.string ⟨#[]⟩]:=k0.onl o1 (by omega)
  have k2:Ob W2 w.heap.size 83 [.bool true,.string e.v]:=by rw [hW2];exact (k1.set 0 _).set 1 _
  have ob1:Ob W1 p 87 [.slice A n (c - 1)]:=by rw [hW1];exact ob.set 0 _
  have hrd:RdEn W1 A r:=by
   intro i x hi;obtain ⟨g',of',e1,e2,e3⟩:=rd (i+1) x (by simpa using hi)
   injection e1 with e1
   injection e1 with e1 e1'
   subst e1 e1';have hil:=(List.getElem?_eq_some_iff.1 hi).1
   have hc1:c≠1:=by omega
   rw [if_neg hc1] at hA;have hg:=World.block_lt_of_cell? _ _ e2;have hb:=o1.block g hg (by simp only at hg;omega)
   refine ⟨g,of+2,hA,?_,?_⟩
   ·rw [show of+2+i * 2=of+(i+1) * 2 by omega]
    exact (World.cell?_of_block (a:=⟨g,of+(i+1) * 2,none⟩) hb).trans e2
   ·rw [show of+2+i * 2+1=of+(i+1) * 2+1 by omega]
    exact (World.cell?_of_block (a:=⟨g,of+(i+1) * 2+1,none⟩) hb).trans e3
  have hcur1:Cur B W1 p r:=by
   refine ⟨hBp,A,c - 1,by rw [<- hn];exact ob1,hrd,by omega,by omega,fun x hx _=>?_⟩
   rw [hA] at hx;split at hx
   ·cases hx;exact hgB
   ·cases hx;exact hgB
  have hF:TkP B w p (e :: r) key (.returned (.agg #[.bool true,.string e.v])) W2:=by
   unfold TkP;rw [htk];refine ⟨rfl,hcur1.onl o2 (by omega) (fun i hi=>by omega),?_⟩
   exact ((Onl.ofBelow b0).trans o1).more o2 (fun i q=>.inr (by omega))
  have z0':=k1.cell 0;have z1':=k1.cell 1;have f0':=k1.frozen 0;have f1':=k1.frozen 1;simp only [List.getElem?_cons_zero,List.getElem?_cons_succ] at z0' z1'
  have HF:=Za hF;have HK2:=Za k2;have hd:(e.k.toList == key.toList)=true:=by rw [hk];simp
  have hne:(e.k.toList != key.toList)=false:=by rw [hk];simp
  have hc1:1<=c:=by omega
  rw [hW2,hW1] at HF HK2;rw [hW1] at z0' z1' f0' f1';rw [<- hn] at y0 hl h1;have h64:maxLen<=9223372036854775807:=by decide
  clear hW2 hW1 o1 o2 k1 k2 ob1 hrd hcur1 hF htk hno ob rd h2 k0 b0 h z0 z1 f0 f1 hn hk;go_enter Tryz.func35,Tryz.ntmps35
  go_wp2_with fail
  rw [<- hW0];clear hW0;refine HCK.out.mono ?_;rintro e' w2 ⟨rfl,rfl⟩;simp only [headK];by_cases hc2:c=1
  ·subst hc2;obtain rfl:n=0:=by omega
   simp only [if_true] at hA;subst hA;simp only [Nat.sub_self] at HF HK2 z0' z1' f0' f1';go_wp2;exact fin_take HK2.out rfl HF.out
  ·rw [if_neg hc2] at hA;subst hA;go_wp2;exact fin_take HK2.out rfl HF.out
theorem dleast_any {B:Nat} {w:World} {p q:Nat} {es fs:List En} (h:Cur B w p es) (h':Cur B w q fs):Calls Tryz.prog 36 #[.func (.func 37) #[.pointer (some ⟨p,0,none⟩)] #[],.func (.func 37) #[.pointer (some ⟨q,0,none⟩)] #[]] w fun e w'=>e=.returned (.tuple #[.string (leastK es fs).1,.bool (leastK es fs).2])/\w=w':=by
 have C1:=dkey_any h;have C2:=dkey_any h';clear h h';have HC1:=Za C1;have HC2:=Za C2;clear C1 C2;cases es with
 | nil =>
  cases fs with
  | nil =>
   simp only [headK] at HC1 HC2;go_enter Tryz.func36,Tryz.ntmps36
   go_wp2_with fail
   refine HC1.out.mono ?_;rintro e' w2 ⟨rfl,rfl⟩;go_wp2_with fail
   refine HC2.out.mono ?_;rintro e' w2 ⟨rfl,rfl⟩;go_wp2;go_ret2
   exact ⟨rfl,rfl⟩
  | cons f fs =>
   simp only [headK] at HC1 HC2;go_enter Tryz.func36,Tryz.ntmps36
   go_wp2_with fail
   refine HC1.out.mono ?_;rintro e' w2 ⟨rfl,rfl⟩;go_wp2_with fail
   refine HC2.out.mono ?_;rintro e' w2 ⟨rfl,rfl⟩;go_wp2;go_ret2
   exact ⟨rfl,rfl⟩
 | cons e es =>
  cases fs with
  | nil =>
   simp only [headK] at HC1 HC2;go_enter Tryz.func36,Tryz.ntmps36
   go_wp2_with fail
   refine HC1.out.mono ?_;rintro e' w2 ⟨rfl,rfl⟩;go_wp2_with fail
   refine HC2.out.mono ?_;rintro e' w2 ⟨rfl,rfl⟩;go_wp2;go_ret2
   exact ⟨rfl,rfl⟩
  | cons f fs =>
   simp only [headK] at HC1 HC2;cases hb:ZR f.k e.k
   ·have hl:leastK (e :: es) (f :: fs)=(e.k,true):=by simp [leastK,hb]
    have hb':Op.bytesLess f.k.toList e.k.toList=false:=hb;rw [hl];clear hl hb;go_enter Tryz.func36,Tryz.ntmps36
    go_wp2_with fail
    refine HC1.out.mono ?_;rintro e' w2 ⟨rfl,rfl⟩;go_wp2_with fail
    refine HC2.out.mono ?_;rintro e' w2 ⟨rfl,rfl⟩;go_wp2;go_ret2
    exact ⟨rfl,rfl⟩
   ·have hl:leastK (e :: es) (f :: fs)=(f.k,true):=by simp [leastK,hb]
    have hb':Op.bytesLess f.k.toList e.k.toList=true:=hb;rw [hl];clear hl hb;go_enter Tryz.func36,Tryz.ntmps36
    go_wp2_with fail
    refine HC1.out.mono ?_;rintro e' w2 ⟨rfl,rfl⟩;go_wp2_with fail
    refine HC2.out.mono ?_;rintro e' w2 ⟨rfl,rfl⟩;go_wp2;go_ret2
    exact ⟨rfl,rfl⟩
end Go.Proofs.YteopalkiebfioaaGreat
