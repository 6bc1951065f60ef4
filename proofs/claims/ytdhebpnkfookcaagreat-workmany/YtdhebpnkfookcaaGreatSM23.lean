import Derived.Test.YtdhebpnkfookcaaGreatSM22
set_option maxRecDepth 100000
set_option maxHeartbeats 4000000
namespace Apo
open Go Go.RowKit
def ZN {α:Type} (p:α->Bool) (l:List α):Nat->List (List α) × List α
 | 0=>([],[])
 | k+1=>match l[k]? with
  | none=>ZN p l k
  | some x=>if p x=true then ((ZN p l k).1++[(ZN p l k).2++[x]],[]) else ((ZN p l k).1,(ZN p l k).2++[x])
theorem ZZ {α:Type} {p:α->Bool} {l:List α} {k:Nat} {x:α} (h:l[k]?=some x):ZN p l (k+1)=if p x=true then ((ZN p l k).1++[(ZN p l k).2++[x]],[]) else ((ZN p l k).1,(ZN p l k).2++[x]):=by
 simp only [ZN,h]
theorem cut_spl {α:Type} (p:α->Bool) (l:List α):∀ k,k < l.length->splK p l k=ZN p l k
 | 0,_=>rfl
 | k+1,h=>by
  have hx:l[k]?=some (l[k]'(by omega)):=List.getElem?_eq_getElem _
  rw [splK_step hx,ZZ hx,cut_spl p l k (by omega)];by_cases q:p (l[k]'(by omega))=true
  ·rw [if_pos (.inr q),if_pos q]
  ·rw [if_neg (by rintro (z | z);omega;exact q z),if_neg q]
theorem cut_split {α:Type} (p:α->Bool) (l:List α):Zd p l=(ZN p l l.length).1++(if (ZN p l l.length).2.length=0 then [] else [(ZN p l l.length).2]):=by
 unfold Zd;cases h:l.length with
 | zero=>simp [splK,ZN]
 | succ m =>
  have hx:l[m]?=some (l[m]'(by omega)):=List.getElem?_eq_getElem _
  rw [splK_step hx,ZZ hx,cut_spl p l m (by omega),if_pos (.inl h.symm)];by_cases q:p (l[m]'(by omega))=true
  ·rw [if_pos q];simp
  ·rw [if_neg q];simp
theorem cut_cur {α:Type} (p:α->Bool) (l:List α):∀ k,k<=l.length->(ZN p l k).2.length<=k/\(ZN p l k).2=(l.drop (k - (ZN p l k).2.length)).take (ZN p l k).2.length
 | 0,_=>by simp [ZN]
 | k+1,h=>by
  have hx:l[k]?=some (l[k]'(by omega)):=List.getElem?_eq_getElem _
  obtain ⟨i1,i2⟩:=cut_cur p l k (by omega);rw [ZZ hx];by_cases q:p (l[k]'(by omega))=true
  ·rw [if_pos q];simp
  ·rw [if_neg q];simp only [List.length_append,List.length_cons,List.length_nil];refine ⟨by omega,?_⟩;have e:k+1 - ((ZN p l k).2.length+(0+1))=k - (ZN p l k).2.length:=by omega
   rw [e];generalize hs:(ZN p l k).2.length=sz at *
   have ht:(l.drop (k - sz)).take (sz+(0+1))=(l.drop (k - sz)).take sz++[l[k]'(by omega)]:=by
    rw [Nat.zero_add,List.take_add_one,List.getElem?_drop,show k - sz+sz=k by omega,hx];rfl
   rw [ht,<- i2]
theorem cut_rowsN {α:Type} (p:α->Bool) (l:List α):∀ k,(ZN p l k).1.length+(ZN p l k).2.length<=k
 | 0=>by simp [ZN]
 | k+1=>by
  have:=cut_rowsN p l k;unfold ZN;split
  ·omega
  ·split
   ·simp;omega
   ·simp;omega
theorem split_len {α:Type} (p:α->Bool) (l:List α):(Zd p l).length<=l.length:=by
 unfold Zd;have:=splK_len p l l.length;omega
end Apo
namespace Go.Proofs.YtdhebpnkfookcaaGreat
open Go.RowKit Apo
attribute [local go_sem ↓] Apo.app_exec
theorem own_lower0 {w:World} {B:Nat} {e:TypeId} {size:Nat} {v:Value} {n:Nat} {xs:List Value} (h:w.ownsRow B e size v n xs):w.ownsRow 0 e size v n xs:=by
 refine ⟨h.1,?_⟩;rcases h.2 with q | ⟨g,cap,cur,h1,h2,h3⟩
 ·exact .inl q
 ·exact .inr ⟨g,cap,cur,h1,Nat.zero_le _,h3⟩
theorem RdEn.part {w:World} {G:Nat} {l:List En} (h:RdEn w (some ⟨G,0,none⟩) l) (s m:Nat):RdEn w (some ⟨G,s * 2,none⟩) ((l.drop s).take m):=by
 intro i e hi
 have hi2:l[s+i]?=some e:=by
  rw [List.getElem?_take] at hi;split at hi
  ·rw [List.getElem?_drop] at hi;exact hi
  ·cases hi
 obtain ⟨g,o,h1,h2,h3⟩:=h (s+i) e hi2;injection h1 with h1
 injection h1 with e1 e2
 subst e1 e2;have e3:s * 2+i * 2=0+(s+i) * 2:=by omega
 exact ⟨G,s * 2,rfl,by rw [e3];exact h2,by rw [e3];exact h3⟩
theorem RdEn.news {w:World} {x:Addr} {l:List En} (h:RdEn w (some x) l):∀ j u,(Zo l)[j]?=some u->w.cell? (x.add j)=some u:=by
 intro j u hu;have hj:=(List.getElem?_eq_some_iff.1 hu).1;rw [ecells_len] at hj;have hi:j / 2 < l.length:=by omega
 have he:l[j / 2]?=some (l[j / 2]'hi):=List.getElem?_eq_getElem _
 obtain ⟨g,o,h1,h2,h3⟩:=h _ _ he;injection h1 with h1
 subst h1;obtain ⟨c1,c2⟩:=ecells_at l he;have hadd:(⟨g,o,none⟩:Addr).add j=⟨g,o+j,none⟩:=by unfold Addr.add;split <;> simp_all
 rw [hadd];rcases Nat.mod_two_eq_zero_or_one j with z | z
 ·have ej:j / 2 * 2=j:=by omega
  rw [ej] at c1 h2;rw [c1] at hu;injection hu with hu
  rw [<- hu];exact h2
 ·have ej:j / 2 * 2+1=j:=by omega
  rw [ej] at c2;rw [show o+j / 2 * 2+1=o+j by omega] at h3;rw [c2] at hu;injection hu with hu
  rw [<- hu];exact h3
theorem RdEn.ob {w w':World} {G:Nat} {t:TypeId} {cs:List Value} {l:List En} (h:RdEn w (some ⟨G,0,none⟩) l) (k:Ob w G t cs) (k':Ob w' G t cs):RdEn w' (some ⟨G,0,none⟩) l:=by
 intro i e hi;obtain ⟨g,o,h1,h2,h3⟩:=h i e hi;injection h1 with h1
 injection h1 with e1 e2
 subst e1 e2;exact ⟨G,0,rfl,(k'.cell _).trans ((k.cell _).symm.trans h2),(k'.cell _).trans ((k.cell _).symm.trans h3)⟩
def FinE (G:Nat) (l:List En) (vs:List Value) (rows:List (List En)):Prop:=vs.length=rows.length/\∀ (i:Nat) (v:Value) (r:List En),vs[i]?=some v->rows[i]?=some r->∃ s,v=.slice (some ⟨G,s * 2,none⟩) r.length r.length/\r=(l.drop s).take r.length/\0 < r.length
theorem FinE.snoc {G:Nat} {l:List En} {vs:List Value} {rows:List (List En)} (h:FinE G l vs rows) {v:Value} {r:List En} (k:∃ s,v=.slice (some ⟨G,s * 2,none⟩) r.length r.length/\r=(l.drop s).take r.length/\0 < r.length):FinE G l (vs++[v]) (rows++[r]):=by
 refine ⟨by simp [h.1],fun i u q hu hq=>?_⟩;have hl:=h.1;by_cases z:i < vs.length
 ·rw [List.getElem?_append_left z] at hu;rw [List.getElem?_append_left (by omega)] at hq;exact h.2 i u q hu hq
 ·rw [List.getElem?_append_right (by omega)] at hu hq
  have h0:i - vs.length=0:=by
   have:=(List.getElem?_eq_some_iff.1 hu).1;simp at this
   omega
  rw [h0] at hu;rw [show i - rows.length=0 by omega] at hq;simp at hu hq
  subst hu hq;exact k
structure RowsE (lo:Nat) (w:World) (v:Value) (rows:List (List En)) (vs:List Value):Prop where
 row:Row (fun g=>lo<=g) w 22 1 v vs.length vs
 len:vs.length=rows.length
 fin:∀ (i:Nat) (u:Value) (r:List En),vs[i]?=some u->rows[i]?=some r->∃ G o,u=.slice (some ⟨G,o,none⟩) r.length r.length/\RdEn w (some ⟨G,o,none⟩) r/\0 < r.length/\r.length<=maxLen/\lo<=G/\∃ cs,Ob w G 43 cs
def SpoE (w:World) (rows:List (List En)) (e:Ending) (w':World):Prop:=∃ v vs,e=.returned v/\RowsE w.heap.size w' v rows vs/\Below w.heap.size w w'
theorem FinE.rows {G lo:Nat} {w:World} {l:List En} {vs:List Value} {rows:List (List En)} {v:Value} (h:FinE G l vs rows) (hr:rows≠[]->RdEn w (some ⟨G,0,none⟩) l/\lo<=G/\∃ cs,Ob w G 43 cs) (hl:l.length<=maxLen) (hrow:Row (fun g=>lo<=g) w 22 1 v vs.length vs):RowsE lo w v rows vs:=by
 refine ⟨hrow,h.1,fun i u r hu hq=>?_⟩;obtain ⟨s,h1,h2,h3⟩:=h.2 i u r hu hq;obtain ⟨k1,k2,k3⟩:=hr (by intro e;rw [e] at hq;simp at hq);have hp:=RdEn.part k1 s r.length;rw [<- h2] at hp
 have hlen:r.length<=l.length:=by
  have:=congrArg List.length h2;rw [List.length_take,List.length_drop] at this;omega
 exact ⟨G,s * 2,h1,hp,h3,by omega,k2,k3⟩
theorem clone_En (a:Option Addr) (cap:Nat) (l:List En) (w:World) (hr:RdEn w a l) (hn:a=none->cap=0) (hl:l.length<=1000000) :
  Calls Tryz.prog 187 #[.slice a l.length cap] w fun e w'=>∃ v,e=.returned v/\Row (fun g=>w.heap.size<=g) w' 43 2 v l.length (Zo l)/\Below w.heap.size w w':=by
 obtain ⟨i0,hi,hz0,hz1,hz2⟩:=info_parts info_En;cases a with
 | none =>
  have h0:l=[]:=by
   cases l with
   | nil=>rfl
   | cons x t=>obtain ⟨_,_,h',_⟩:=hr 0 x rfl;cases h'
  subst h0;have hc:=hn rfl;subst hc;clear hr hn;have hq:=fun wx=>Lib.run_eql_slice_nil (P:=Tryz.prog) wx 22 43 none 0 0 0 0 Tryz.underlying22
  go_enter Tryz.func187,Tryz.ntmps187
  go_wp2;go_ret
  exact ⟨_,rfl,Row.nil _ _ _ _,Below.refl _ _⟩
 | some x =>
  have hb:Below w.heap.size w (w.alloc (.cells #[] 43)):=(Below.refl _ _).alloc (Nat.le_refl _) _;have HL:(w.alloc (.cells #[] 43)).ownsRow w.heap.size 43 2 (.slice (some ⟨w.heap.size,0,none⟩) 0 0) 0 []:=World.ownsRow_lit w #[] 0 (Nat.le_refl _) (by decide) rfl;obtain ⟨v2,w2,RR,r2,g2,_,ho⟩:=run_append_own_at (P:=Tryz.prog) (w.alloc (.cells #[] 43)) w.heap.size 22 22 43 i0 _ 2 32 Tryz.underlying22 hi hz0 hz1 hz2 rfl (by decide) _ 0 [] HL x l.length cap (Zo l) (ecells_len l) (RdEn.news (hr.below hb)) (by intro u hu;simp only [Zo,List.mem_flatMap] at hu;obtain ⟨e,_,h⟩:=hu;simp at h;rcases h with rfl | rfl <;> rfl) (by unfold maxLen;omega) (by omega) (by simp);obtain ⟨s1,s2,s3⟩:=Zi RR;simp only [Nat.zero_add,List.nil_append] at r2;have HO:Hid (Row (fun g=>w.heap.size<=g) w2 43 2 v2 l.length (Zo l)):=Za ⟨own_lower0 r2,fun g hg=>(r2.lt g hg).1⟩;have HB:=Za (hb.grown g2 (by simp) (fun q hq=>(HL.lt q hq).1));clear hr hn RR r2 g2 ho HL hb;have hq:=fun wx=>Lib.run_eql_slice_nil (P:=Tryz.prog) wx 22 43 (some x) l.length cap 0 0 Tryz.underlying22
  go_enter Tryz.func187,Tryz.ntmps187
  go_wp2;go_ret
  exact ⟨_,rfl,HO.out,HB.out⟩
theorem last_En (k v:ByteArray) (w:World) (hk:k.size<=1099511627776):Calls Tryz.prog 150 #[.agg #[.string k,.string v]] w fun e w'=>e=.returned (.bool (Zf 0 k))/\Below w.heap.size w w':=by
 have bb:Below w.heap.size w (w.alloc (.cells #[.string k,.string v] 43)):=(Below.refl _ _).alloc (Nat.le_refl _) _;have HC:=Za (endsN_any 0 k (w.alloc (.cells #[.string k,.string v] 43)) hk);have HBB:=Za bb;clear bb;go_enter Tryz.func150,Tryz.ntmps150
 go_wp2_with fail
 refine HC.out.mono ?_;rintro e w1 ⟨rfl,b1⟩;have HB:=Za (HBB.out.trans (b1.mono HBB.out.size));clear b1;go_wp2;go_ret
 exact ⟨rfl,HB.out⟩
theorem rows_En (a:Option Addr) (c:Nat) (l:List En) (w:World) (h:RdEn w a l) (hn:a=none->c=0) (hl:l.length<=1000000) (hz:∀ e ∈ l,e.k.size<=1099511627776) :
  Calls Tryz.prog 149 #[.slice a l.length c,.func (.func 150) #[] #[]] w (SpoE w (Zd (fun e:En=>Zf 0 e.k) l)):=by
 obtain ⟨p,hp⟩:∃ p,p=(fun e:En=>Zf 0 e.k):=⟨_,rfl⟩;have HCL:=Za (clone_En a c l w h hn hl);have HE:=Za h;have HZ:=Za hz;obtain ⟨n,hnn⟩:∃ n,n=l.length:=⟨_,rfl⟩;rw [<- hp];rw [<- hnn] at HCL hl ⊢;have HN:=Za hnn;have HP:=Za hp;clear h hn hz hnn hp;go_enter Tryz.func149,Tryz.ntmps149
 go_wp2_with fail
 refine HCL.out.mono ?_;rintro e w1 ⟨v1,rfl,row1,b1⟩;obtain ⟨a1,c1,hv1,hc1,hm1,hnn1,_⟩:=row1.form;subst hv1;have HB1:=Za b1;have hsz1:=b1.size
 have HR1:Hid (0 < n->∃ G,a1=some ⟨G,0,none⟩/\w.heap.size<=G/\G < w1.heap.size/\RdEn w1 (some ⟨G,0,none⟩) l/\∃ cs,Ob w1 G 43 cs):=by
  refine Za (fun h0=>?_);obtain ⟨G,cap,hv,hG,hlt,_,_,_,_⟩:=row1.shape h0;injection hv with e1 e2 e3
  subst e1
  have hob:∃ cs,Ob w1 G 43 cs:=by
   rcases row1.1.2 with ⟨hz,_⟩ | ⟨g,_,cur,hv,_,hh,_⟩
   ·cases hz
   ·injection hv with e1 e2 e3
    injection e1 with e1
    injection e1 with e1
    subst e1;exact ⟨cur.toList,by unfold Ob;rw [hh]⟩
  rw [HN.out] at row1;obtain ⟨a',c',hv',hrd,_⟩:=rd_ecells row1;injection hv' with e4 e5 e6
  subst e4;exact ⟨G,rfl,hG,hlt,hrd,hob⟩
 clear HCL row1 b1 hnn1;by_cases h0:n=0
 ·have hl0:l=[]:=List.eq_nil_of_length_eq_zero (by have:=HN.out;omega);have HX:Hid (Zd p l=[]):=Za (by rw [hl0];rfl);have d0:decide ((0:Int) < (n:Int))=false:=by simp;omega
  subst h0;clear hl0;go_wp2;go_loopw [5,6,7,14] (fun _ vc vz i wr=>vc=.slice none 0 0/\vz=.int .i64 0/\i=.int .i64 0/\wr=w1) (fun _ _ _ _ _=>0)
  case atStart=>exact ⟨rfl,rfl,rfl,rfl⟩
  case round =>
   obtain ⟨rfl,rfl,rfl,rfl⟩:=hrel;go_wp2;go_ret
   exact ⟨.slice none 0 0,[],rfl,⟨Row.nil _ _ _ _,by rw [HX.out];rfl,fun i u r hu=>by simp at hu⟩,HB1.out⟩
 ·obtain ⟨G,rfl,hGl,hGs,hrd,cs,hob⟩:=HR1.out (by omega);have HRD:=Za (fun (W:World) (k:Ob W G 43 cs)=>RdEn.ob hrd hob k);have HOB:=Za hob;have hc1b:c1<=9223372036854775807:=by unfold maxLen at hm1;omega
  have hn0:0 < n:=by omega
  clear HR1 hrd hob hm1 h0;go_wp2;go_loopw [5,6,7,14] (fun vr vc vz i wr=>∃ (k sz o L C:Nat) (ca:Option Addr) (cn cc:Nat) (vs:List Value),k<=n/\sz<=k/\i=.int .i64 k/\vz=.int .i64 sz/\vr=.slice (some ⟨G,o,none⟩) L C/\vc=.slice ca cn cc/\Hid (L=n - (k - sz)/\C=c1 - (k - sz))/\Hid (sz=(ZN p l k).2.length)/\Hid (k < n\/0 < sz->o=(k - sz) * 2)/\Hid (Row (fun g=>w.heap.size<=g) wr 22 1 (.slice ca cn cc) vs.length vs)/\Hid (FinE G l vs (ZN p l k).1)/\Hid (Ob wr G 43 cs)/\Hid (Below w.heap.size w wr)) (fun _ _ _ i _=>n - (intOf i).toNat)
  case atStart=>exact ⟨0,0,0,n,c1,none,0,0,[],Nat.zero_le _,Nat.le_refl _,rfl,rfl,rfl,rfl,Za ⟨rfl,rfl⟩,Za rfl,Za (fun _=>rfl),Za (Row.nil _ _ _ _),Za ⟨rfl,fun i v r hv=>by simp at hv⟩,HOB,HB1⟩
  case round =>
   obtain ⟨k,sz,o,L,C,ca,cn,cc,vs,hk,hsk,rfl,rfl,rfl,rfl,HLC,HSZ,HO,HR,HF,HG,HB⟩:=hrel;have hrows:=cut_rowsN p l k;have hcur:=cut_cur p l k (by have:=HN.out;omega);have hlc:=HLC.out;have hszb:sz<=n:=by omega
   have hvl:vs.length<=1000000:=by
    have:=HF.out.1;omega
   have hLC2:L<=C/\C<=9223372036854775807/\sz<=L:=by omega
   by_cases hkn:k < n
   ·obtain ⟨e,hek⟩:∃ e,l[k]?=some e:=⟨l[k]'(by have:=HN.out;omega),List.getElem?_eq_getElem _⟩;obtain ⟨g,oo,rfl,q1,q2⟩:=HE.out k e hek;have q1':=(HB.out.cell (p:=⟨g,oo+k * 2,none⟩) (World.block_lt_of_cell? _ _ q1)).trans q1;have q2':=(HB.out.cell (p:=⟨g,oo+k * 2+1,none⟩) (World.block_lt_of_cell? _ _ q2)).trans q2;have hsz:=HZ.out _ (List.mem_of_getElem? hek);have hstep:=ZZ (p:=p) hek;obtain ⟨ek,ev⟩:=e;simp only at q1' q2' hsz;have HEKL:=Za hek;have hpe:p ⟨ek,ev⟩=Zf 0 ek:=by rw [HP.out]
    obtain ⟨W1,hW1⟩:∃ W1,W1=wr.alloc (.cells #[.string ek,.string ev] 43):=⟨_,rfl⟩;have bb1:Below wr.heap.size wr W1:=by rw [hW1];exact (Below.refl _ wr).alloc (Nat.le_refl _) _
    have HCE:=Za (last_En ek ev W1 hsz);have HST:=Za hstep;have HPE:=Za hpe;have HB1':=Za bb1;have hs2:=HB.out.size;rw [hW1] at HCE;clear hstep hek q1 q2 hpe bb1;cases hb:Zf 0 ek
    ·rw [hb] at HCE HPE;go_wp2_with fail
     refine HCE.out.mono ?_;rintro en w3 ⟨rfl,b3'⟩;rw [<- hW1] at b3';have b3:Below wr.heap.size wr w3:=HB1'.out.trans (b3'.mono HB1'.out.size);have e:=HST.out;rw [if_neg (by rw [HPE.out];simp)] at e;have H1:Hid (L=n - (k+1 - (sz+1))/\C=c1 - (k+1 - (sz+1))):=Za (by omega);have H2:Hid (sz+1=(ZN p l (k+1)).2.length):=Za (by rw [e];simp only [List.length_append,List.length_cons,List.length_nil];have:=HSZ.out;omega);have H3:Hid (k+1 < n\/0 < sz+1->o=(k+1 - (sz+1)) * 2):=Za (fun _=>by have:=HO.out (.inl hkn);omega);have H4:=Za (HR.out.onl (F:=fun _=>False) (Onl.ofBelow b3) (fun _ _ q=>q));have H5:Hid (FinE G l vs (ZN p l (k+1)).1):=Za (by rw [e];exact HF.out);have H6:=Za (HG.out.old b3);have H7:=Za (HB.out.trans (b3.mono hs2));clear b3 b3' e hb HCE HR HF HG HB HLC hlc;go_wp2;go_roundw
     case rel=>exact ⟨k+1,sz+1,o,L,C,ca,cn,cc,vs,by omega,by omega,by simp,by simp,rfl,rfl,H1,H2,H3,H4,H5,H6,H7⟩
     case measure=>simp [intOf];omega
    ·rw [hb] at HCE HPE;go_wp2_with fail
     refine HCE.out.mono ?_;rintro en w3 ⟨rfl,b3'⟩;rw [<- hW1] at b3';have b3:Below wr.heap.size wr w3:=HB1'.out.trans (b3'.mono HB1'.out.size);have e:=HST.out;rw [if_pos HPE.out] at e;have r3:=HR.out.onl (F:=fun _=>False) (Onl.ofBelow b3) (fun _ _ q=>q);have r3':Row (fun g=>w.heap.size<=g/\(Value.slice ca cn cc).ownBlock=some g) w3 22 1 (.slice ca cn cc) vs.length vs:=⟨r3.1,fun g hg=>⟨r3.2 g hg,hg⟩⟩;obtain ⟨v5,w5,R5,r5,o5⟩:=app_Ens r3' hvl (ra:=some ⟨G,o,none⟩) (rl:=sz+1) (rc:=sz+1);obtain ⟨oa5,oc5,hv5,_⟩:=r5.form;subst hv5;have g3:=HG.out.old b3;have g5:=g3.onl o5 (fun q=>Row.apartOb r3 g3 (by decide) q.2);have z3:=b3.size;obtain ⟨p1,p2,p3⟩:=Zi R5;have hos:=HO.out (.inl hkn);have H1:Hid (L - (sz+1)=n - (k+1 - 0)/\C - (sz+1)=c1 - (k+1 - 0)):=Za (by omega);have H2:Hid (0=(ZN p l (k+1)).2.length):=Za (by rw [e];rfl)
     have H4:Hid (Row (fun g=>w.heap.size<=g) w5 22 1 (.slice oa5 (vs++[Value.slice (some ⟨G,o,none⟩) (sz+1) (sz+1)]).length oc5) (vs++[Value.slice (some ⟨G,o,none⟩) (sz+1) (sz+1)]).length (vs++[Value.slice (some ⟨G,o,none⟩) (sz+1) (sz+1)])):=Za (r5.mono (fun i q=>by
      rcases q with q | q
      ·exact q.1
      ·omega))
     have H5:Hid (FinE G l (vs++[Value.slice (some ⟨G,o,none⟩) (sz+1) (sz+1)]) (ZN p l (k+1)).1):=by
      refine Za ?_;rw [e];refine HF.out.snoc ⟨k - sz,?_,?_,by simp⟩
      ·rw [hos];simp only [List.length_append,List.length_cons,List.length_nil,Nat.zero_add];rw [<- HSZ.out]
      ·have h1:=hcur.2;rw [<- HSZ.out] at h1;simp only [List.length_append,List.length_cons,List.length_nil,Nat.zero_add];rw [<- HSZ.out,List.take_add_one,List.getElem?_drop,show k - sz+sz=k by omega,HEKL.out,<- h1];rfl
     have H6:=Za g5;have H7:=Za (Below.onl (HB.out.trans (b3.mono hs2)) o5 (fun i q=>q.1) (Nat.le_refl _));obtain ⟨NL,hNL⟩:∃ NL,NL=(vs++[Value.slice (some ⟨G,o,none⟩) (sz+1) (sz+1)]).length:=⟨_,rfl⟩;obtain ⟨vs',hvs'⟩:∃ vs',vs'=vs++[Value.slice (some ⟨G,o,none⟩) (sz+1) (sz+1)]:=⟨_,rfl⟩;rw [<- hNL] at p2 H4;rw [<- hvs'] at hNL H4 H5;have HNL:=Za hNL;have H4':Hid (Row (fun g=>w.heap.size<=g) w5 22 1 (.slice oa5 NL oc5) vs'.length vs'):=Za (by have:=H4.out;rw [HNL.out] at this ⊢;exact this);have HOS:=Za hos;have hL1:sz+1<=L:=by omega
     have hC1:sz+1<=C:=by omega
     clear b3 b3' e hb HCE HR HF HG HB HLC hlc r3 r3' R5 r5 o5 g3 g5 hvs' hNL H4 hrows hcur HSZ hos;by_cases hcc:C=sz+1
     ·have H3:Hid (k+1 < n\/0 < 0->o=(k+1 - 0) * 2):=Za (fun q=>by have:=H1.out;omega);subst hcc;go_wp2;go_roundw
      case rel=>exact ⟨k+1,0,o,L - (sz+1),sz+1 - (sz+1),oa5,NL,oc5,vs',by omega,by omega,by simp,rfl,by simp;omega,rfl,H1,H2,H3,H4',H5,H6,H7⟩
      case measure=>simp [intOf];omega
     ·have H3:Hid (k+1 < n\/0 < 0->o+(sz+1) * 2=(k+1 - 0) * 2):=Za (fun q=>by have:=HOS.out;omega);go_wp2;go_roundw
      case rel=>exact ⟨k+1,0,o+(sz+1) * 2,L - (sz+1),C - (sz+1),oa5,NL,oc5,vs',by omega,by omega,by simp,rfl,by simp,rfl,H1,H2,H3,H4',H5,H6,H7⟩
      case measure=>simp [intOf];omega
   ·obtain rfl:k=n:=by omega
    have hcs:=cut_split p l;have hnl:=HN.out;have hml:l.length<=maxLen:=by unfold maxLen;omega
    rw [<- hnl] at hcs;by_cases hs0:sz=0
    ·subst hs0;rw [if_pos (by have:=HSZ.out;omega),List.append_nil] at hcs
     have HX:Hid (SpoE w (Zd p l) (.returned (.slice ca cn cc)) wr):=by
      refine Za ⟨_,vs,rfl,?_,HB.out⟩;rw [hcs];exact FinE.rows HF.out (fun _=>⟨HRD.out wr HG.out,hGl,cs,HG.out⟩) hml HR.out
     clear hcs hnl hml HR HF HLC hlc hrows hcur;go_wp2;go_ret
     exact HX.out
    ·rw [if_neg (by have:=HSZ.out;omega)] at hcs;have dz:decide ((0:Int) < (sz:Int))=true:=by simp;omega
     have dzn:decide (0 < sz)=true:=by simp;omega
     have r3':Row (fun g=>w.heap.size<=g/\(Value.slice ca cn cc).ownBlock=some g) wr 22 1 (.slice ca cn cc) vs.length vs:=⟨HR.out.1,fun g hg=>⟨HR.out.2 g hg,hg⟩⟩;obtain ⟨v5,w5,R5,r5,o5⟩:=app_Ens r3' hvl (ra:=some ⟨G,o,none⟩) (rl:=sz) (rc:=sz);obtain ⟨oa5,oc5,hv5,_⟩:=r5.form;subst hv5;have g5:=HG.out.onl o5 (fun q=>Row.apartOb HR.out HG.out (by decide) q.2);have hs2:=HB.out.size;obtain ⟨p1,p2,p3⟩:=Zi R5;have hos:=HO.out (.inr (by omega))
     have hfin:FinE G l (vs++[Value.slice (some ⟨G,o,none⟩) sz sz]) (Zd p l):=by
      rw [hcs];refine HF.out.snoc ⟨k - sz,?_,?_,by have:=HSZ.out;omega⟩
      ·rw [hos,<- HSZ.out]
      ·have h1:=hcur.2;rw [<- HSZ.out] at h1 ⊢;exact h1
     have HX:Hid (SpoE w (Zd p l) (.returned (.slice oa5 (vs++[Value.slice (some ⟨G,o,none⟩) sz sz]).length oc5)) w5):=by
      refine Za ⟨_,vs++[Value.slice (some ⟨G,o,none⟩) sz sz],rfl,?_,Below.onl HB.out o5 (fun i q=>q.1) (Nat.le_refl _)⟩
      exact FinE.rows hfin (fun _=>⟨HRD.out w5 g5,hGl,cs,g5⟩) hml (r5.mono (fun i q=>by
       rcases q with q | q
       ·exact q.1
       ·omega))
     obtain ⟨NL,hNL⟩:∃ NL,NL=(vs++[Value.slice (some ⟨G,o,none⟩) sz sz]).length:=⟨_,rfl⟩;rw [<- hNL] at p2 HX;clear hcs hnl hml HR HF HLC hlc hrows hcur R5 r5 o5 g5 hos hfin hNL r3' hs0;go_wp2;go_ret
     exact HX.out
theorem RdKi.part {w:World} {G:Nat} {l:List Ki} (h:RdKi w (some ⟨G,0,none⟩) l) (s m:Nat):RdKi w (some ⟨G,s * 2,none⟩) ((l.drop s).take m):=by
 intro i e hi
 have hi2:l[s+i]?=some e:=by
  rw [List.getElem?_take] at hi;split at hi
  ·rw [List.getElem?_drop] at hi;exact hi
  ·cases hi
 obtain ⟨g,o,h1,h2,h3⟩:=h (s+i) e hi2;injection h1 with h1
 injection h1 with e1 e2
 subst e1 e2;have e3:s * 2+i * 2=0+(s+i) * 2:=by omega
 exact ⟨G,s * 2,rfl,by rw [e3];exact h2,by rw [e3];exact h3⟩
theorem RdKi.news {w:World} {x:Addr} {l:List Ki} (h:RdKi w (some x) l):∀ j u,(ZH l)[j]?=some u->w.cell? (x.add j)=some u:=by
 intro j u hu;have hj:=(List.getElem?_eq_some_iff.1 hu).1;rw [kcells_len] at hj;have hi:j / 2 < l.length:=by omega
 have he:l[j / 2]?=some (l[j / 2]'hi):=List.getElem?_eq_getElem _
 obtain ⟨g,o,h1,h2,h3⟩:=h _ _ he;injection h1 with h1
 subst h1;obtain ⟨c1,c2⟩:=kcells_at l he;have hadd:(⟨g,o,none⟩:Addr).add j=⟨g,o+j,none⟩:=by unfold Addr.add;split <;> simp_all
 rw [hadd];rcases Nat.mod_two_eq_zero_or_one j with z | z
 ·have ej:j / 2 * 2=j:=by omega
  rw [ej] at c1 h2;rw [c1] at hu;injection hu with hu
  rw [<- hu];exact h2
 ·have ej:j / 2 * 2+1=j:=by omega
  rw [ej] at c2;rw [show o+j / 2 * 2+1=o+j by omega] at h3;rw [c2] at hu;injection hu with hu
  rw [<- hu];exact h3
theorem RdKi.ob {w w':World} {G:Nat} {t:TypeId} {cs:List Value} {l:List Ki} (h:RdKi w (some ⟨G,0,none⟩) l) (k:Ob w G t cs) (k':Ob w' G t cs):RdKi w' (some ⟨G,0,none⟩) l:=by
 intro i e hi;obtain ⟨g,o,h1,h2,h3⟩:=h i e hi;injection h1 with h1
 injection h1 with e1 e2
 subst e1 e2;exact ⟨G,0,rfl,(k'.cell _).trans ((k.cell _).symm.trans h2),(k'.cell _).trans ((k.cell _).symm.trans h3)⟩
def FinJ (G:Nat) (l:List Ki) (vs:List Value) (rows:List (List Ki)):Prop:=vs.length=rows.length/\∀ (i:Nat) (v:Value) (r:List Ki),vs[i]?=some v->rows[i]?=some r->∃ s,v=.slice (some ⟨G,s * 2,none⟩) r.length r.length/\r=(l.drop s).take r.length/\0 < r.length
theorem FinJ.snoc {G:Nat} {l:List Ki} {vs:List Value} {rows:List (List Ki)} (h:FinJ G l vs rows) {v:Value} {r:List Ki} (k:∃ s,v=.slice (some ⟨G,s * 2,none⟩) r.length r.length/\r=(l.drop s).take r.length/\0 < r.length):FinJ G l (vs++[v]) (rows++[r]):=by
 refine ⟨by simp [h.1],fun i u q hu hq=>?_⟩;have hl:=h.1;by_cases z:i < vs.length
 ·rw [List.getElem?_append_left z] at hu;rw [List.getElem?_append_left (by omega)] at hq;exact h.2 i u q hu hq
 ·rw [List.getElem?_append_right (by omega)] at hu hq
  have h0:i - vs.length=0:=by
   have:=(List.getElem?_eq_some_iff.1 hu).1;simp at this
   omega
  rw [h0] at hu;rw [show i - rows.length=0 by omega] at hq;simp at hu hq
  subst hu hq;exact k
structure RowsJ (lo:Nat) (w:World) (v:Value) (rows:List (List Ki)) (vs:List Value):Prop where
 row:Row (fun g=>lo<=g) w 88 1 v vs.length vs
 len:vs.length=rows.length
 fin:∀ (i:Nat) (u:Value) (r:List Ki),vs[i]?=some u->rows[i]?=some r->∃ G o,u=.slice (some ⟨G,o,none⟩) r.length r.length/\RdKi w (some ⟨G,o,none⟩) r/\0 < r.length/\r.length<=maxLen/\lo<=G/\∃ cs,Ob w G 128 cs
def SpoJ (w:World) (rows:List (List Ki)) (e:Ending) (w':World):Prop:=∃ v vs,e=.returned v/\RowsJ w.heap.size w' v rows vs/\Below w.heap.size w w'
theorem FinJ.rows {G lo:Nat} {w:World} {l:List Ki} {vs:List Value} {rows:List (List Ki)} {v:Value} (h:FinJ G l vs rows) (hr:rows≠[]->RdKi w (some ⟨G,0,none⟩) l/\lo<=G/\∃ cs,Ob w G 128 cs) (hl:l.length<=maxLen) (hrow:Row (fun g=>lo<=g) w 88 1 v vs.length vs):RowsJ lo w v rows vs:=by
 refine ⟨hrow,h.1,fun i u r hu hq=>?_⟩;obtain ⟨s,h1,h2,h3⟩:=h.2 i u r hu hq;obtain ⟨k1,k2,k3⟩:=hr (by intro e;rw [e] at hq;simp at hq);have hp:=RdKi.part k1 s r.length;rw [<- h2] at hp
 have hlen:r.length<=l.length:=by
  have:=congrArg List.length h2;rw [List.length_take,List.length_drop] at this;omega
 exact ⟨G,s * 2,h1,hp,h3,by omega,k2,k3⟩
theorem clone_Ki (a:Option Addr) (cap:Nat) (l:List Ki) (w:World) (hr:RdKi w a l) (hn:a=none->cap=0) (hl:l.length<=1000000) :
  Calls Tryz.prog 189 #[.slice a l.length cap] w fun e w'=>∃ v,e=.returned v/\Row (fun g=>w.heap.size<=g) w' 128 2 v l.length (ZH l)/\Below w.heap.size w w':=by
 obtain ⟨i0,hi,hz0,hz1,hz2⟩:=info_parts info_Ki;cases a with
 | none =>
  have h0:l=[]:=by
   cases l with
   | nil=>rfl
   | cons x t=>obtain ⟨_,_,h',_⟩:=hr 0 x rfl;cases h'
  subst h0;have hc:=hn rfl;subst hc;clear hr hn;have hq:=fun wx=>Lib.run_eql_slice_nil (P:=Tryz.prog) wx 88 128 none 0 0 0 0 Tryz.underlying88
  go_enter Tryz.func189,Tryz.ntmps189
  go_wp2;go_ret
  exact ⟨_,rfl,Row.nil _ _ _ _,Below.refl _ _⟩
 | some x =>
  have hb:Below w.heap.size w (w.alloc (.cells #[] 128)):=(Below.refl _ _).alloc (Nat.le_refl _) _;have HL:(w.alloc (.cells #[] 128)).ownsRow w.heap.size 128 2 (.slice (some ⟨w.heap.size,0,none⟩) 0 0) 0 []:=World.ownsRow_lit w #[] 0 (Nat.le_refl _) (by decide) rfl;obtain ⟨v2,w2,RR,r2,g2,_,ho⟩:=run_append_own_at (P:=Tryz.prog) (w.alloc (.cells #[] 128)) w.heap.size 88 88 128 i0 _ 2 24 Tryz.underlying88 hi hz0 hz1 hz2 rfl (by decide) _ 0 [] HL x l.length cap (ZH l) (kcells_len l) (RdKi.news (hr.below hb)) (by intro u hu;simp only [ZH,List.mem_flatMap] at hu;obtain ⟨e,_,h⟩:=hu;simp at h;rcases h with rfl | rfl <;> rfl) (by unfold maxLen;omega) (by omega) (by simp);obtain ⟨s1,s2,s3⟩:=Zi RR;simp only [Nat.zero_add,List.nil_append] at r2;have HO:Hid (Row (fun g=>w.heap.size<=g) w2 128 2 v2 l.length (ZH l)):=Za ⟨own_lower0 r2,fun g hg=>(r2.lt g hg).1⟩;have HB:=Za (hb.grown g2 (by simp) (fun q hq=>(HL.lt q hq).1));clear hr hn RR r2 g2 ho HL hb;have hq:=fun wx=>Lib.run_eql_slice_nil (P:=Tryz.prog) wx 88 128 (some x) l.length cap 0 0 Tryz.underlying88
  go_enter Tryz.func189,Tryz.ntmps189
  go_wp2;go_ret
  exact ⟨_,rfl,HO.out,HB.out⟩
theorem last_Ki (k:ByteArray) (i:Int) (lv:Int) (q:Nat) (w:World) (hq:w.cell? ⟨q,0,none⟩=some (.int .i64 lv)) (hk:k.size<=1099511627776):Calls Tryz.prog 154 #[.agg #[.string k,.int .u64 i],.pointer (some ⟨q,0,none⟩)] w fun e w'=>e=.returned (.bool (Zf lv k))/\Below w.heap.size w w':=by
 have bb:Below w.heap.size w (w.alloc (.cells #[.string k,.int .u64 i] 128)):=(Below.refl _ _).alloc (Nat.le_refl _) _;have HC:=Za (endsN_any lv k (w.alloc (.cells #[.string k,.int .u64 i] 128)) hk);have hq2:=(bb.cell (p:=⟨q,0,none⟩) (World.block_lt_of_cell? _ _ hq)).trans hq;have HBB:=Za bb;clear bb;go_enter Tryz.func154,Tryz.ntmps154
 go_wp2_with fail
 refine HC.out.mono ?_;rintro e w1 ⟨rfl,b1⟩;have HB:=Za (HBB.out.trans (b1.mono HBB.out.size));clear b1;go_wp2;go_ret
 exact ⟨rfl,HB.out⟩
theorem rows_Ki (lv:Int) (q:Nat) (a:Option Addr) (c:Nat) (l:List Ki) (w:World) (hq:w.cell? ⟨q,0,none⟩=some (.int .i64 lv)) (h:RdKi w a l) (hn:a=none->c=0) (hl:l.length<=1000000) (hz:∀ e ∈ l,e.k.size<=1099511627776) :
  Calls Tryz.prog 153 #[.slice a l.length c,.func (.func 154) #[] #[.pointer (some ⟨q,0,none⟩)]] w (SpoJ w (Zd (fun e:Ki=>Zf lv e.k) l)):=by
 obtain ⟨p,hp⟩:∃ p,p=(fun e:Ki=>Zf lv e.k):=⟨_,rfl⟩;have HCL:=Za (clone_Ki a c l w h hn hl);have HE:=Za h;have HZ:=Za hz;obtain ⟨n,hnn⟩:∃ n,n=l.length:=⟨_,rfl⟩;rw [<- hp];rw [<- hnn] at HCL hl ⊢;have HN:=Za hnn;have HP:=Za hp;clear h hn hz hnn hp;go_enter Tryz.func153,Tryz.ntmps153
 go_wp2_with fail
 refine HCL.out.mono ?_;rintro e w1 ⟨v1,rfl,row1,b1⟩;obtain ⟨a1,c1,hv1,hc1,hm1,hnn1,_⟩:=row1.form;subst hv1;have HB1:=Za b1;have hsz1:=b1.size
 have HR1:Hid (0 < n->∃ G,a1=some ⟨G,0,none⟩/\w.heap.size<=G/\G < w1.heap.size/\RdKi w1 (some ⟨G,0,none⟩) l/\∃ cs,Ob w1 G 128 cs):=by
  refine Za (fun h0=>?_);obtain ⟨G,cap,hv,hG,hlt,_,_,_,_⟩:=row1.shape h0;injection hv with e1 e2 e3
  subst e1
  have hob:∃ cs,Ob w1 G 128 cs:=by
   rcases row1.1.2 with ⟨hz,_⟩ | ⟨g,_,cur,hv,_,hh,_⟩
   ·cases hz
   ·injection hv with e1 e2 e3
    injection e1 with e1
    injection e1 with e1
    subst e1;exact ⟨cur.toList,by unfold Ob;rw [hh]⟩
  rw [HN.out] at row1;obtain ⟨a',c',hv',hrd,_⟩:=rd_kcells row1;injection hv' with e4 e5 e6
  subst e4;exact ⟨G,rfl,hG,hlt,hrd,hob⟩
 clear HCL row1 b1 hnn1;by_cases h0:n=0
 ·have hl0:l=[]:=List.eq_nil_of_length_eq_zero (by have:=HN.out;omega);have HX:Hid (Zd p l=[]):=Za (by rw [hl0];rfl);have d0:decide ((0:Int) < (n:Int))=false:=by simp;omega
  subst h0;clear hl0;go_wp2;go_loopw [5,6,7,14] (fun _ vc vz i wr=>vc=.slice none 0 0/\vz=.int .i64 0/\i=.int .i64 0/\wr=w1) (fun _ _ _ _ _=>0)
  case atStart=>exact ⟨rfl,rfl,rfl,rfl⟩
  case round =>
   obtain ⟨rfl,rfl,rfl,rfl⟩:=hrel;go_wp2;go_ret
   exact ⟨.slice none 0 0,[],rfl,⟨Row.nil _ _ _ _,by rw [HX.out];rfl,fun i u r hu=>by simp at hu⟩,HB1.out⟩
 ·obtain ⟨G,rfl,hGl,hGs,hrd,cs,hob⟩:=HR1.out (by omega);have HRD:=Za (fun (W:World) (k:Ob W G 128 cs)=>RdKi.ob hrd hob k);have HOB:=Za hob;have hc1b:c1<=9223372036854775807:=by unfold maxLen at hm1;omega
  have hn0:0 < n:=by omega
  clear HR1 hrd hob hm1 h0;go_wp2;go_loopw [5,6,7,14] (fun vr vc vz i wr=>∃ (k sz o L C:Nat) (ca:Option Addr) (cn cc:Nat) (vs:List Value),k<=n/\sz<=k/\i=.int .i64 k/\vz=.int .i64 sz/\vr=.slice (some ⟨G,o,none⟩) L C/\vc=.slice ca cn cc/\Hid (L=n - (k - sz)/\C=c1 - (k - sz))/\Hid (sz=(ZN p l k).2.length)/\Hid (k < n\/0 < sz->o=(k - sz) * 2)/\Hid (Row (fun g=>w.heap.size<=g) wr 88 1 (.slice ca cn cc) vs.length vs)/\Hid (FinJ G l vs (ZN p l k).1)/\Hid (Ob wr G 128 cs)/\Hid (Below w.heap.size w wr)) (fun _ _ _ i _=>n - (intOf i).toNat)
  case atStart=>exact ⟨0,0,0,n,c1,none,0,0,[],Nat.zero_le _,Nat.le_refl _,rfl,rfl,rfl,rfl,Za ⟨rfl,rfl⟩,Za rfl,Za (fun _=>rfl),Za (Row.nil _ _ _ _),Za ⟨rfl,fun i v r hv=>by simp at hv⟩,HOB,HB1⟩
  case round =>
   obtain ⟨k,sz,o,L,C,ca,cn,cc,vs,hk,hsk,rfl,rfl,rfl,rfl,HLC,HSZ,HO,HR,HF,HG,HB⟩:=hrel;have hrows:=cut_rowsN p l k;have hcur:=cut_cur p l k (by have:=HN.out;omega);have hlc:=HLC.out;have hszb:sz<=n:=by omega
   have hvl:vs.length<=1000000:=by
    have:=HF.out.1;omega
   have hLC2:L<=C/\C<=9223372036854775807/\sz<=L:=by omega
   by_cases hkn:k < n
   ·obtain ⟨e,hek⟩:∃ e,l[k]?=some e:=⟨l[k]'(by have:=HN.out;omega),List.getElem?_eq_getElem _⟩;obtain ⟨g,oo,rfl,q1,q2⟩:=HE.out k e hek;have q1':=(HB.out.cell (p:=⟨g,oo+k * 2,none⟩) (World.block_lt_of_cell? _ _ q1)).trans q1;have q2':=(HB.out.cell (p:=⟨g,oo+k * 2+1,none⟩) (World.block_lt_of_cell? _ _ q2)).trans q2;have hsz:=HZ.out _ (List.mem_of_getElem? hek);have hstep:=ZZ (p:=p) hek;obtain ⟨ek,ev⟩:=e;simp only at q1' q2' hsz;have HEKL:=Za hek;have hpe:p ⟨ek,ev⟩=Zf lv ek:=by rw [HP.out]
    obtain ⟨W1,hW1⟩:∃ W1,W1=wr.alloc (.cells #[.string ek,.int .u64 ev] 128):=⟨_,rfl⟩;have bb1:Below wr.heap.size wr W1:=by rw [hW1];exact (Below.refl _ wr).alloc (Nat.le_refl _) _
    have HCE:=Za (last_Ki ek ev lv q W1 ((bb1.cell (p:=⟨q,0,none⟩) (Nat.lt_of_lt_of_le (World.block_lt_of_cell? _ _ hq) HB.out.size)).trans ((HB.out.cell (p:=⟨q,0,none⟩) (World.block_lt_of_cell? _ _ hq)).trans hq)) hsz);have HST:=Za hstep;have HPE:=Za hpe;have HB1':=Za bb1;have hs2:=HB.out.size;rw [hW1] at HCE;clear hstep hek q1 q2 hpe bb1;cases hb:Zf lv ek
    ·rw [hb] at HCE HPE;go_wp2_with fail
     refine HCE.out.mono ?_;rintro en w3 ⟨rfl,b3'⟩;rw [<- hW1] at b3';have b3:Below wr.heap.size wr w3:=HB1'.out.trans (b3'.mono HB1'.out.size);have e:=HST.out;rw [if_neg (by rw [HPE.out];simp)] at e;have H1:Hid (L=n - (k+1 - (sz+1))/\C=c1 - (k+1 - (sz+1))):=Za (by omega);have H2:Hid (sz+1=(ZN p l (k+1)).2.length):=Za (by rw [e];simp only [List.length_append,List.length_cons,List.length_nil];have:=HSZ.out;omega);have H3:Hid (k+1 < n\/0 < sz+1->o=(k+1 - (sz+1)) * 2):=Za (fun _=>by have:=HO.out (.inl hkn);omega);have H4:=Za (HR.out.onl (F:=fun _=>False) (Onl.ofBelow b3) (fun _ _ q=>q));have H5:Hid (FinJ G l vs (ZN p l (k+1)).1):=Za (by rw [e];exact HF.out);have H6:=Za (HG.out.old b3);have H7:=Za (HB.out.trans (b3.mono hs2));clear b3 b3' e hb HCE HR HF HG HB HLC hlc;go_wp2;go_roundw
     case rel=>exact ⟨k+1,sz+1,o,L,C,ca,cn,cc,vs,by omega,by omega,by simp,by simp,rfl,rfl,H1,H2,H3,H4,H5,H6,H7⟩
     case measure=>simp [intOf];omega
    ·rw [hb] at HCE HPE;go_wp2_with fail
     refine HCE.out.mono ?_;rintro en w3 ⟨rfl,b3'⟩;rw [<- hW1] at b3';have b3:Below wr.heap.size wr w3:=HB1'.out.trans (b3'.mono HB1'.out.size);have e:=HST.out;rw [if_pos HPE.out] at e;have r3:=HR.out.onl (F:=fun _=>False) (Onl.ofBelow b3) (fun _ _ q=>q);have r3':Row (fun g=>w.heap.size<=g/\(Value.slice ca cn cc).ownBlock=some g) w3 88 1 (.slice ca cn cc) vs.length vs:=⟨r3.1,fun g hg=>⟨r3.2 g hg,hg⟩⟩;obtain ⟨v5,w5,R5,r5,o5⟩:=app_Kis r3' hvl (ra:=some ⟨G,o,none⟩) (rl:=sz+1) (rc:=sz+1);obtain ⟨oa5,oc5,hv5,_⟩:=r5.form;subst hv5;have g3:=HG.out.old b3;have g5:=g3.onl o5 (fun q=>Row.apartOb r3 g3 (by decide) q.2);have z3:=b3.size;obtain ⟨p1,p2,p3⟩:=Zi R5;have hos:=HO.out (.inl hkn);have H1:Hid (L - (sz+1)=n - (k+1 - 0)/\C - (sz+1)=c1 - (k+1 - 0)):=Za (by omega);have H2:Hid (0=(ZN p l (k+1)).2.length):=Za (by rw [e];rfl)
     have H4:Hid (Row (fun g=>w.heap.size<=g) w5 88 1 (.slice oa5 (vs++[Value.slice (some ⟨G,o,none⟩) (sz+1) (sz+1)]).length oc5) (vs++[Value.slice (some ⟨G,o,none⟩) (sz+1) (sz+1)]).length (vs++[Value.slice (some ⟨G,o,none⟩) (sz+1) (sz+1)])):=Za (r5.mono (fun i q=>by
      rcases q with q | q
      ·exact q.1
      ·omega))
     have H5:Hid (FinJ G l (vs++[Value.slice (some ⟨G,o,none⟩) (sz+1) (sz+1)]) (ZN p l (k+1)).1):=by
      refine Za ?_;rw [e];refine HF.out.snoc ⟨k - sz,?_,?_,by simp⟩
      ·rw [hos];simp only [List.length_append,List.length_cons,List.length_nil,Nat.zero_add];rw [<- HSZ.out]
      ·have h1:=hcur.2;rw [<- HSZ.out] at h1;simp only [List.length_append,List.length_cons,List.length_nil,Nat.zero_add];rw [<- HSZ.out,List.take_add_one,List.getElem?_drop,show k - sz+sz=k by omega,HEKL.out,<- h1];rfl
     have H6:=Za g5;have H7:=Za (Below.onl (HB.out.trans (b3.mono hs2)) o5 (fun i q=>q.1) (Nat.le_refl _));obtain ⟨NL,hNL⟩:∃ NL,NL=(vs++[Value.slice (some ⟨G,o,none⟩) (sz+1) (sz+1)]).length:=⟨_,rfl⟩;obtain ⟨vs',hvs'⟩:∃ vs',vs'=vs++[Value.slice (some ⟨G,o,none⟩) (sz+1) (sz+1)]:=⟨_,rfl⟩;rw [<- hNL] at p2 H4;rw [<- hvs'] at hNL H4 H5;have HNL:=Za hNL;have H4':Hid (Row (fun g=>w.heap.size<=g) w5 88 1 (.slice oa5 NL oc5) vs'.length vs'):=Za (by have:=H4.out;rw [HNL.out] at this ⊢;exact this);have HOS:=Za hos;have hL1:sz+1<=L:=by omega
     have hC1:sz+1<=C:=by omega
     clear b3 b3' e hb HCE HR HF HG HB HLC hlc r3 r3' R5 r5 o5 g3 g5 hvs' hNL H4 hrows hcur HSZ hos;by_cases hcc:C=sz+1
     ·have H3:Hid (k+1 < n\/0 < 0->o=(k+1 - 0) * 2):=Za (fun q=>by have:=H1.out;omega);subst hcc;go_wp2;go_roundw
      case rel=>exact ⟨k+1,0,o,L - (sz+1),sz+1 - (sz+1),oa5,NL,oc5,vs',by omega,by omega,by simp,rfl,by simp;omega,rfl,H1,H2,H3,H4',H5,H6,H7⟩
      case measure=>simp [intOf];omega
     ·have H3:Hid (k+1 < n\/0 < 0->o+(sz+1) * 2=(k+1 - 0) * 2):=Za (fun q=>by have:=HOS.out;omega);go_wp2;go_roundw
      case rel=>exact ⟨k+1,0,o+(sz+1) * 2,L - (sz+1),C - (sz+1),oa5,NL,oc5,vs',by omega,by omega,by simp,rfl,by simp,rfl,H1,H2,H3,H4',H5,H6,H7⟩
      case measure=>simp [intOf];omega
   ·obtain rfl:k=n:=by omega
    have hcs:=cut_split p l;have hnl:=HN.out;have hml:l.length<=maxLen:=by unfold maxLen;omega
    rw [<- hnl] at hcs;by_cases hs0:sz=0
    ·subst hs0;rw [if_pos (by have:=HSZ.out;omega),List.append_nil] at hcs
     have HX:Hid (SpoJ w (Zd p l) (.returned (.slice ca cn cc)) wr):=by
      refine Za ⟨_,vs,rfl,?_,HB.out⟩;rw [hcs];exact FinJ.rows HF.out (fun _=>⟨HRD.out wr HG.out,hGl,cs,HG.out⟩) hml HR.out
     clear hcs hnl hml HR HF HLC hlc hrows hcur;go_wp2;go_ret
     exact HX.out
    ·rw [if_neg (by have:=HSZ.out;omega)] at hcs;have dz:decide ((0:Int) < (sz:Int))=true:=by simp;omega
     have dzn:decide (0 < sz)=true:=by simp;omega
     have r3':Row (fun g=>w.heap.size<=g/\(Value.slice ca cn cc).ownBlock=some g) wr 88 1 (.slice ca cn cc) vs.length vs:=⟨HR.out.1,fun g hg=>⟨HR.out.2 g hg,hg⟩⟩;obtain ⟨v5,w5,R5,r5,o5⟩:=app_Kis r3' hvl (ra:=some ⟨G,o,none⟩) (rl:=sz) (rc:=sz);obtain ⟨oa5,oc5,hv5,_⟩:=r5.form;subst hv5;have g5:=HG.out.onl o5 (fun q=>Row.apartOb HR.out HG.out (by decide) q.2);have hs2:=HB.out.size;obtain ⟨p1,p2,p3⟩:=Zi R5;have hos:=HO.out (.inr (by omega))
     have hfin:FinJ G l (vs++[Value.slice (some ⟨G,o,none⟩) sz sz]) (Zd p l):=by
      rw [hcs];refine HF.out.snoc ⟨k - sz,?_,?_,by have:=HSZ.out;omega⟩
      ·rw [hos,<- HSZ.out]
      ·have h1:=hcur.2;rw [<- HSZ.out] at h1 ⊢;exact h1
     have HX:Hid (SpoJ w (Zd p l) (.returned (.slice oa5 (vs++[Value.slice (some ⟨G,o,none⟩) sz sz]).length oc5)) w5):=by
      refine Za ⟨_,vs++[Value.slice (some ⟨G,o,none⟩) sz sz],rfl,?_,Below.onl HB.out o5 (fun i q=>q.1) (Nat.le_refl _)⟩
      exact FinJ.rows hfin (fun _=>⟨HRD.out w5 g5,hGl,cs,g5⟩) hml (r5.mono (fun i q=>by
       rcases q with q | q
       ·exact q.1
       ·omega))
     obtain ⟨NL,hNL⟩:∃ NL,NL=(vs++[Value.slice (some ⟨G,o,none⟩) sz sz]).length:=⟨_,rfl⟩;rw [<- hNL] at p2 HX;clear hcs hnl hml HR HF HLC hlc hrows hcur R5 r5 o5 g5 hos hfin hNL r3' hs0;go_wp2;go_ret
     exact HX.out
end Go.Proofs.YtdhebpnkfookcaaGreat
