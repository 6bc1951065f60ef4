import Derived.Test.YtdhebpnkfookcaaGreatSM33
import Derived.Test.YtdhebpnkfookcaaGreatSM32
set_option maxRecDepth 100000
set_option maxHeartbeats 8000000
namespace Go.Proofs.YtdhebpnkfookcaaGreat
open Go.RowKit Apo
section
attribute [local go_sem ↓] Apo.app_exec
def HdP (O:Nat->Prop) (W:World) (hb:Nat) (T:List (List Int)):Prop:=∃ (c:Nat) (M:ByteArray->Option Value),Ms Tryz.prog 9 W hb c M/\¬ O hb /\
 ∀ key v,M key=some v->∃ (xid:Nat) (xa:Option Addr) (xc:Nat) (xs:List En),v=.agg #[.int .u64 (xid:Int),.slice xa xs.length xc]/\OkN W (lfN xa xc xs)/\OffN O (lfN xa xc xs)/\xs.length<=1000000/\T[xid - 1]?=some (ZW ⟨0,xs,[]⟩)/\1<=xid/\xid<=T.length
theorem HdP.step {O O':Nat->Prop} {W W':World} {hb:Nat} {T T':List (List Int)} (h:HdP O W hb T) (o:Onl O W W') (hO:∀ i,O' i->O i\/W.heap.size<=i) (hT:∀ (i:Nat) (t:List Int),T[i]?=some t->T'[i]?=some t):HdP O' W' hb T':=by
 obtain ⟨c,M,h1,h2,h3⟩:=h;have hlt:=h1.lt;refine ⟨c,M,h1.onl o h2,fun q=>(hO hb q).elim h2 (fun z=>by omega),fun key v hv=>?_⟩;obtain ⟨xid,xa,xc,xs,e1,e2,e3,e4,e5,e6,e7⟩:=h3 key v hv;have hT':=hT _ _ e5;have hl':=(List.getElem?_eq_some_iff.1 hT').1;refine ⟨xid,xa,xc,xs,e1,OkN.off e2 o e3,⟨fun y hy hp q=>?_,fun y hy=>by cases hy⟩,e4,hT',e6,by omega⟩;rcases hO _ q with z | z
 ·exact e3.1 y hy hp z
 ·obtain ⟨x0,hx0⟩:∃ x0,xs[0]?=some x0:=⟨xs[0]'hp,List.getElem?_eq_getElem hp⟩;obtain ⟨g,of,f1,f2,_⟩:=e2.es 0 x0 hx0;have hgl:=World.block_lt_of_cell? _ _ f2;have hy':xa=some y:=hy;rw [hy'] at f1;cases f1
  simp only at z hgl;omega
theorem zero_leaf:∀ W,(zeroValue 133).run Tryz.prog W=.ok (.agg #[.int .u64 0,.slice none 0 0]) W:=fun W=>by kernel_rfl
theorem HdP.look {O:Nat->Prop} {W:World} {hb:Nat} {T:List (List Int)} (h:HdP O W hb T) {key:ByteArray} (hk:key.size<=maxLen):∃ (xid:Nat) (xa:Option Addr) (xs:List En) (xc:Nat) (is:Bool),(∀ W',Below W.heap.size W W'->(Instr.lookup 68 (.map (some hb)) (.string key) true).run Tryz.prog W'=.ok (.tuple #[.agg #[.int .u64 (xid:Int),.slice xa xs.length xc],.bool is]) W')/\(is=true->OkN W (lfN xa xc xs)/\xs.length<=1000000/\T[xid - 1]?=some (ZW ⟨0,xs,[]⟩)/\1<=xid/\xid<=T.length):=by
 obtain ⟨c,M,h1,h2,h3⟩:=h;have hl:∀ W',Below W.heap.size W W'->_:=fun W' b=>(h1.below b).look2 Tryz.underlying9 Tryz.underlying68 zero_leaf hk
 cases hM:M key with
 | none =>
  refine ⟨0,none,[],0,false,fun W' b=>?_,fun q=>by cases q⟩;have:=hl W' b;rw [hM] at this;exact this
 | some v =>
  obtain ⟨xid,xa,xc,xs,e1,e2,e3,e4,e5,e6,e7⟩:=h3 key v hM;refine ⟨xid,xa,xs,xc,true,fun W' b=>?_,fun _=>⟨e2,e4,e5,e6,e7⟩⟩;have:=hl W' b;rw [hM,e1] at this;exact this
def HdO (O:Nat->Prop) (W:World) (hmp:Option Nat) (T:List (List Int)):Prop:=∀ hb,hmp=some hb->HdP O W hb T
theorem HdO.none (O:Nat->Prop) (W:World) (T:List (List Int)):HdO O W none T:=fun _ h=>by cases h
theorem HdO.step {O O':Nat->Prop} {W W':World} {hmp:Option Nat} {T T':List (List Int)} (h:HdO O W hmp T) (o:Onl O W W') (hO:∀ i,O' i->O i\/W.heap.size<=i) (hT:∀ (i:Nat) (t:List Int),T[i]?=some t->T'[i]?=some t):HdO O' W' hmp T':=fun hb e=>(h hb e).step o hO hT
theorem HdO.look {O:Nat->Prop} {W:World} {hmp:Option Nat} {T:List (List Int)} (h:HdO O W hmp T) {key:ByteArray} (hk:key.size<=maxLen):∃ (xid:Nat) (xa:Option Addr) (xs:List En) (xc:Nat) (is:Bool),(∀ W',Below W.heap.size W W'->(Instr.lookup 68 (.map hmp) (.string key) true).run Tryz.prog W'=.ok (.tuple #[.agg #[.int .u64 (xid:Int),.slice xa xs.length xc],.bool is]) W')/\(is=true->OkN W (lfN xa xc xs)/\xs.length<=1000000/\T[xid - 1]?=some (ZW ⟨0,xs,[]⟩)/\1<=xid/\xid<=T.length):=by
 cases hmp with
 | none=>exact ⟨0,.none,[],0,false,fun W' _=>look_none W' key,fun q=>by cases q⟩
 | some hb=>exact (h hb rfl).look hk
theorem lastK_size {W:World} {ea:Option Addr} {ec:Nat} {r:List En} (h:OkN W (lfN ea ec r)):(Zz ⟨0,r,[]⟩).size<=maxLen:=by
 unfold Zz Nd.keys;simp only [List.map_nil,List.append_nil];cases hq:(r.map En.k).getLast? with
 | none=>simp
 | some k =>
  have hm:=List.mem_of_getLast? hq;obtain ⟨e,he,rfl⟩:=List.mem_map.1 hm;exact (h.sz e he).1
theorem tlvm_any {w W:World} {s m:Nat} {O:Nat->Prop} {T:List (List Int)} (h:TSw w W s O T m) (hmp:Option Nat) (hd:HdO O W hmp T) (ea:Option Addr) (ec:Nat) (es:List En) (hr:RdEn W ea es) (hen:ea=none->ec=0) (hel:es.length<=1000000) (hz:∀ e ∈ es,e.k.size<=1099511627776) (hg:∀ n ∈ lvns  (Zd (fun e:En=>Zf 0 e.k) es),GoodN n) (hm:pgT (Zp T (lvns  (Zd (fun e:En=>Zf 0 e.k) es)))<=4096) (hT:T.length+es.length<=16000) :
  Calls Tryz.prog 60 #[.agg (bldV s (.map hmp)),.slice ea es.length ec] W (TKids w W s O T m (lvns  (Zd (fun e:En=>Zf 0 e.k) es))):=by
 obtain ⟨rows,hrows⟩:∃ rows,rows=Zd (fun e:En=>Zf 0 e.k) es:=⟨_,rfl⟩;obtain ⟨ns,hns⟩:∃ ns,ns=lvns  rows:=⟨_,rfl⟩;have hrl:rows.length<=es.length:=by rw [hrows];exact split_len _ _
 have hnl:ns.length=rows.length:=by rw [hns];simp [lvns]
 have hat:∀ (k:Nat) (r:List En),rows[k]?=some r->ns[k]?=some (⟨0,r,[]⟩:Nd):=fun k r hk=>by rw [hns];simp [lvns,hk]
 simp only [bldV];obtain ⟨W1,hW1⟩:∃ W1,W1=W.alloc (.cells #[.func (.func 33) #[.pointer (some ⟨s,0,none⟩)] #[],.map hmp] 70):=⟨_,rfl⟩;have s1:W1.heap.size=W.heap.size+1:=by rw [hW1];simp
 have kb1:Ob W1 W.heap.size 70 [.func (.func 33) #[.pointer (some ⟨s,0,none⟩)] #[],.map hmp]:=by rw [hW1];exact Ob.new W [.func (.func 33) #[.pointer (some ⟨s,0,none⟩)] #[],.map hmp] 70
 have b1:Below W.heap.size W W1:=by rw [hW1];exact (Below.refl _ W).alloc (Nat.le_refl _) _
 have C1:=split_En ea ec es W1 (hr.below b1) hen hel hz;rw [<- hrows] at C1 hg hm ⊢;rw [<- hns] at hg hm ⊢;have hlo:=h.lo;have hhi:=h.hi;have hbw:=h.bel.size;have HHD:=Za hd;have HH:=Za h;have HC1:=Za C1;have HG:=Za hg;have HM:=Za hm;have HAT:=Za hat;have HKB:=Za kb1;have HB1:=Za b1;have HLO:=Za hlo;have HHI:=Za hhi;have HNL:=Za hnl;skip
 obtain ⟨ne,hne⟩:∃ ne,ne=es.length:=⟨_,rfl⟩;rw [<- hne] at HC1 hT hrl ⊢;clear hd h C1 hg hat kb1 b1 hlo hhi hns hrows hr hz hel hnl hne;go_enter Tryz.func60,Tryz.ntmps60
 go_wp2_with fail
 rw [<- hW1];clear hW1;refine HC1.out.mono ?_;rintro e w1 ⟨rv,vs,rfl,R1,b2⟩;obtain ⟨ra,rc,hrv,hrc1,hrc2,hrn,hrx⟩:=R1.row.form;have hvl:=R1.len;rw [hvl] at hrv;obtain ⟨nr,hnr⟩:∃ nr,nr=rows.length:=⟨_,rfl⟩;rw [<- hnr] at hrv hvl hrl HNL;subst hrv
 have hcell:∀ k,k < nr->∃ g u r,ra=some ⟨g,0,none⟩/\vs[k]?=some u/\rows[k]?=some r/\∀ W',Onl O w1 W'->W'.cell? ⟨g,k,none⟩=some u:=fun k hk=>by
  obtain ⟨g,cap,e1,e2,e3,e4,e5,e6,_⟩:=R1.row.shape (by omega);injection e1 with e1 _ _
  refine ⟨g,vs[k]'(by omega),rows[k]'(by omega),e1,List.getElem?_eq_getElem (by omega),List.getElem?_eq_getElem (by omega),fun W' o=>?_⟩;have hbk:=o.block g e3 (fun q=>by have:=HHI.out _ q;omega);rw [World.cell?_of_block (a:=⟨g,k,none⟩) hbk,e6 k (by omega)];exact List.getElem?_eq_getElem (by omega)
 have HCELL:=Za hcell;have HR1:=Za R1;have HB2:=Za b2;have sz2:=b2.size;have hk2:=HKB.out.old b2;have HK2:=Za hk2;have HW1:=Za ((HH.out.below HB1.out).below b2);have hnr2:nr<=9223372036854775807:=by omega
 have HNR:=Za hnr;clear hcell R1 b2 hk2 hvl hnr hrn hrx;go_wp2;go_loopw [6,14] (fun u i wr=>∃ (k:Nat) (ks:List Ki) (O':Nat->Prop) (va:Option Addr) (nk vc:Nat),k<=nr/\i=.int .i64 k/\u=.slice va nk vc/\Hid (nk=ks.length)/\Hid (Row (fun g=>¬ O' g/\w1.heap.size<=g) wr 128 2 (.slice va nk vc) ks.length (ZH ks))/\Hid (Kids (Zp T (ns.take k)) (ns.take k) ks)/\Hid (TSw w wr s O' (Zp T (ns.take k)) (m+Zy (ns.take k)))/\Hid (∀ i,O' i->O i\/w1.heap.size<=i)/\Hid (Onl O w1 wr)) (fun _ i _=>nr - (intOf i).toNat)
 case atStart=>exact ⟨0,[],O,none,0,0,Nat.zero_le _,rfl,rfl,Za rfl,Za (Row.nil _ _ _ _),Za (by simp only [List.take_zero];exact Kids.nil _),Za (by simpa [Zp,Zy] using HW1.out),Za (fun i q=>.inl q),Za (Onl.refl _ _)⟩
 case round =>
  obtain ⟨k,ks,O',va,nk,vc,hk,rfl,rfl,HNK2,HRW,HKD,HTS,HSUB,HON⟩:=hrel;by_cases hkn:k < nr
  ·obtain ⟨g,u,r,rfl,hu,hrk,hcl⟩:=HCELL.out k hkn;have hce:=hcl wr HON.out;have hnk:=HAT.out k r hrk;obtain ⟨G,off,e1,e2,e3,e4,e5,cs,e6⟩:=(HR1.out.off HON.out (fun i q=>by have:=HHI.out i q;omega)).fin k u r hu hrk;subst e1;have gn:=HG.out _ (List.mem_of_getElem? hnk);have htk:ns.take (k+1)=ns.take k++[(⟨0,r,[]⟩:Nd)]:=by rw [List.take_add_one,hnk];rfl
   have hpg:=pagesN_take ns (k+1);rw [htk,pagesN_append] at hpg;have hp1:Zy [(⟨0,r,[]⟩:Nd)]=Zc (ZW (⟨0,r,[]⟩:Nd)).length:=by simp [Zy]
   have hpl:=putNs_len T (ns.take k);have hkl:(ns.take k).length<=nr:=by rw [List.length_take,HNL.out];omega
   have hGw:=(e6.onl (Onl.refl O wr) (fun q=>by have:=HHI.out _ q;omega)).lt
   have hG1:G < w1.heap.size:=by
    obtain ⟨G2,off2,f1,f2,f3,f4,f5,cs2,f6⟩:=HR1.out.fin k _ r hu hrk;injection f1 with f1 _ _
    injection f1 with f1
    injection f1 with f1 _ _
    rw [f1];exact f6.lt
   have hnO:¬ O' G:=fun q=>by
    rcases HSUB.out G q with z | z
    ·have:=HHI.out G z;omega
    ·omega
   have okx:OkN wr (lfN (some ⟨G,off,none⟩) r.length r):=okN_lf e2 (fun q=>by cases q) (Nat.le_refl _) e4 gn.ok;have hdr:HdO O' wr hmp (Zp T (ns.take k)):=HHD.out.step ((Onl.ofBelow (HB1.out.trans (HB2.out.mono (by omega)))).trans HON.out) (fun i q=>(HSUB.out i q).imp id (fun z=>by omega)) (fun i t q=>putNs_keeps q _);obtain ⟨xid,xa,xs,xc,is,hlook,hyes⟩:=hdr.look (lastK_size okx);have C3:=tleafm_any HTS.out (by omega) (some ⟨G,off,none⟩) r.length r okx ⟨fun y hy _ q=>by cases hy;exact hnO q,fun y hy=>by cases hy⟩ gn.small.1 gn.ok (Nat.le_trans gn.len (by decide)) (pgT_step htk HM.out) gn.byt hmp xid xa xs xc is hlook hyes;have kbr:=HK2.out.onl HON.out (fun q=>by have:=HHI.out _ q;omega);have c0:=kbr.cell 0;have c1:=kbr.cell 1;simp only [List.getElem?_cons_zero,List.getElem?_cons_succ] at c0 c1;simp only [bldV] at C3;have HC3:=Za C3;have HTK:=Za htk;have HP1:=Za hp1;obtain ⟨rl,hrl2⟩:∃ rl,rl=r.length:=⟨_,rfl⟩;rw [<- hrl2] at HC3 hce;have hrl3:rl<=maxLen:=by rw [hrl2];exact e4
   have hgx:=HON.out.size;clear hdr hlook hyes C3 htk hp1 hcl hnk hrk hu e2 e3 e6 gn okx kbr hrl2;go_wp2_with fail
   refine HC3.out.mono ?_;rintro e w6 ⟨id,rfl,p1,p2,p3,t6,o6⟩;obtain ⟨LK,hLK⟩:∃ LK,LK=Zz (⟨0,r,[]⟩:Nd):=⟨_,rfl⟩;rw [<- hLK];have sO6:=o6.size
   have rw6:Row (fun g=>¬ Gro O' wr w6 g/\w1.heap.size<=g) w6 128 2 (.slice va nk vc) ks.length (ZH ks):=by
    refine ⟨(HRW.out.onl o6 (fun g hg=>(HRW.out.2 g hg).1)).1,fun g hg=>⟨fun q=>?_,(HRW.out.2 g hg).2⟩⟩;rcases q with q | q
    ·exact (HRW.out.2 g hg).1 q
    ·have:=HRW.out.lt g hg;have:=q.1;omega
   obtain ⟨w7,hw7⟩:∃ w7,w7=w6.alloc (.cells #[.string LK,.int .u64 (id:Int)] 128):=⟨_,rfl⟩;have b7:Below w6.heap.size w6 w7:=by rw [hw7];exact (Below.refl _ w6).alloc (Nat.le_refl _) _
   have rw7:=rw6.onl (F:=fun _=>False) (Onl.ofBelow b7) (fun _ _ q=>q);have t7:=t6.below b7;have k7:Ob w7 w6.heap.size 128 [.string LK,.int .u64 (id:Int)]:=by rw [hw7];exact Ob.new w6 [.string LK,.int .u64 (id:Int)] 128
   have s7:w7.heap.size=w6.heap.size+1:=by rw [hw7];simp
   have hkc:ks.length<=1000000:=by have:=HKD.out.1;rw [this];omega
   have o7:Onl O' wr w7:=o6.trans (Onl.ofBelow b7);have q0:=k7.cell 0;have q1:=k7.cell 1;simp only [List.getElem?_cons_zero,List.getElem?_cons_succ] at q0 q1;obtain ⟨v8,w8,RR,r8,o8⟩:=app_Ki rw7 hkc ⟨LK,id⟩;simp only at RR;have f8:=r8.form;obtain ⟨va8,vc8,hva8,_⟩:=f8;subst hva8;obtain ⟨n8,hn8⟩:∃ n8,n8=(ks++[(⟨LK,id⟩:Ki)]).length:=⟨_,rfl⟩;rw [<- hn8] at RR r8;have HN8:=Za hn8;obtain ⟨x1,x2,x3⟩:=Zi RR;rw [s7] at x1 x2 x3
   have HF:Hid (∃ (ks8:List Ki) (O8:Nat->Prop),n8=ks8.length/\Row (fun g=>¬ O8 g/\w1.heap.size<=g) w8 128 2 (.slice va8 n8 vc8) ks8.length (ZH ks8)/\Kids (Zp T (ns.take (k+1))) (ns.take (k+1)) ks8/\TSw w w8 s O8 (Zp T (ns.take (k+1))) (m+Zy (ns.take (k+1)))/\(∀ i,O8 i->O i\/w1.heap.size<=i)/\Onl O w1 w8):=by
    refine Za ⟨ks++[⟨LK,id⟩],Gro O' wr w6,HN8.out,?_,?_,?_,?_,?_⟩
    ·rw [<- HN8.out];refine r8.mono (fun i q=>?_);rcases q with q | q
     ·exact q
     ·subst q;exact ⟨fun z=>by have:=t7.hi _ z;omega,by omega⟩
    ·rw [HTK.out,putNs_snoc];exact HKD.out.snoc hLK p1 p2
    ·rw [HTK.out,putNs_snoc,pagesN_append,HP1.out,<- Nat.add_assoc];exact t7.onl o8 (fun i q z=>z.1 q) (fun i q=>by have:=q.2;have:=HW1.out.bel.size;omega)
    ·intro i q;rcases q with q | q
     ·exact HSUB.out i q
     ·exact .inr (by have:=q.1;omega)
    ·exact (HON.out.more o7 (fun i q=>HSUB.out i q)).more o8 (fun i q=>.inr q.2)
   have HX:=Za (And.intro p1 (And.intro p2 p3));clear RR r8 o8 p1 p2 p3 t6 o6 o7 rw6 rw7 t7 k7 b7 hLK hn8 HRW HKD HTS HSUB HON;subst hw7;go_wp2;go_roundw
   case rel =>
    obtain ⟨ks8,O8,a0,a1,a2,a3,a4,a5⟩:=HF.out;exact ⟨k+1,ks8,O8,va8,n8,vc8,by omega,by simp,rfl,Za a0,Za a1,Za a2,Za a3,Za a4,Za a5⟩
   case measure=>simp [intOf];omega
  ·obtain rfl:k=nr:=by omega
   have HF:Hid (TKids w W s O T m ns (.returned (.tuple #[.slice va nk vc,.int .i64 0])) wr):=by
    have htn:ns.take k=ns:=List.take_of_length_le (by rw [HNL.out];omega);have h1:=HRW.out;have h2:=HKD.out;have h3:=HTS.out;rw [htn] at h2 h3;refine Za ⟨.slice va nk vc,ks,O',rfl,h1.mono (fun i q=>⟨q.1,by omega⟩),h2,h3,fun i q=>(HSUB.out i q).imp id (fun z=>by omega),?_⟩;exact (Onl.ofBelow (HB1.out.trans (HB2.out.mono (by omega)))).trans HON.out
   clear HRW HKD HTS HSUB HON;go_wp2;refine bodyPost_ret (by simp [results,Tryz.results60,go_sem];rfl) rfl ?_;exact HF.out
end
theorem tbuildm_any {w W:World} {s m:Nat} {O:Nat->Prop} {T:List (List Int)} (h:TSw w W s O T m) (hmp:Option Nat) (hd:HdO O W hmp T) (ea:Option Addr) (ec:Nat) (es:List En) (hr:RdEn W ea es) (hen:ea=none->ec=0) (hel:es.length<=600) (hok:MapOk es) (hbl:(es.flatMap enB).length<=40000) (hm:pgT (treeT T es)<=4096) :
  Calls Tryz.prog 34 #[.agg (bldV s (.map hmp)),.slice ea es.length ec] W (TRoot w W s O T m es):=by
 obtain ⟨W1,hW1⟩:∃ W1,W1=W.alloc (.cells #[.func (.func 33) #[.pointer (some ⟨s,0,none⟩)] #[],.map hmp] 70):=⟨_,rfl⟩;have s1:W1.heap.size=W.heap.size+1:=by rw [hW1];simp
 have kb1:Ob W1 W.heap.size 70 [.func (.func 33) #[.pointer (some ⟨s,0,none⟩)] #[],.map hmp]:=by rw [hW1];exact Ob.new W [.func (.func 33) #[.pointer (some ⟨s,0,none⟩)] #[],.map hmp] 70
 have b1:Below W.heap.size W W1:=by rw [hW1];exact (Below.refl _ W).alloc (Nat.le_refl _) _
 have g1:=(hok.leaves hel hbl).1;have hr0:pgT (Zp T (lvns  (Zd (fun e:En=>Zf 0 e.k) es)))<=4096:=Nat.le_trans (lvT_room (T:=T) (es:=es) (l:=0) (by omega)) hm
 have htl:T.length+es.length<=16000:=by
  have a1:=h.len;have a2:=pgT_puts T (lvns  (Zd (fun e:En=>Zf 0 e.k) es));omega
 have HM:=Za hm;have C1:=tlvm_any (h.below b1) hmp (hd.step (Onl.ofBelow b1) (fun i q=>.inl q) (fun i t q=>q)) ea ec es (hr.below b1) hen (by omega) (fun e he=>by have:=hok.key e he;omega) g1 hr0 htl;simp only [bldV] at C1 ⊢;obtain ⟨ne,hne⟩:∃ ne,ne=es.length:=⟨_,rfl⟩;have hhi:=h.hi;have hbw:=h.bel.size;have HC1:=Za C1;have HKB:=Za kb1;have HB1:=Za b1;have HHI:=Za hhi;have HOK:=Za hok;have HG1:=Za g1;have HNE:=Za hne;rw [<- hne] at HC1 hel ⊢;clear hd C1 kb1 b1 hhi hok g1 h hr hne hr0 htl hm hbl;go_enter Tryz.func34,Tryz.ntmps34
 go_wp2_with fail
 rw [<- hW1];clear hW1;refine HC1.out.mono ?_;rintro e w1 ⟨v1,ks1,O1,rfl,r1,k1,t1,u1,o1⟩;obtain ⟨va1,vc1,hv1,hx1,hx2,hx3,hx4⟩:=r1.form;have sz1:=o1.size
 have H0:Hid (∃ T',Can T' es 0 ks1/\lvT T es 0=(T',ks1)/\(Sub T T'/\(TxOk T->TxOk T'))/\TSw w w1 s O1 T' m):=by
  refine Za ⟨_,k1,?_,⟨Sub.put _ _,fun q=>q.puts HG1.out⟩,t1.any m⟩;rw [lvT_zero,Kids.is t1.nodup k1];rfl
 obtain ⟨n1,hn1⟩:∃ n1,n1=ks1.length:=⟨_,rfl⟩;rw [<- hn1] at hv1;subst hv1;have HR1:=Za r1;have HU1:=Za u1;have HO1:=Za o1;have HN1:=Za hn1;clear r1 k1 t1 u1 o1 hx1 hx2 hx3 hx4 hn1;go_wp2;go_loopw [6,7,8] (fun u er i wr=>∃ (l:Nat) (ks:List Ki) (O':Nat->Prop) (va:Option Addr) (nk vc:Nat),l<=20/\i=.int .i64 ((l+1:Nat):Int)/\er=.int .i64 0/\u=.slice va nk vc/\Hid (nk=ks.length)/\Hid (Row (fun g=>¬ O' g/\W1.heap.size<=g) wr 128 2 (.slice va nk vc) ks.length (ZH ks))/\Hid (∃ T',Can T' es l ks/\lvT T es l=(T',ks)/\(Sub T T'/\(TxOk T->TxOk T'))/\TSw w wr s O' T' m)/\Hid (∀ i,O' i->O i\/W1.heap.size<=i)/\Hid (Onl O W1 wr)) (fun _ _ i _=>22 - (intOf i).toNat)
 case atStart=>exact ⟨0,ks1,O1,va1,n1,vc1,by omega,rfl,rfl,rfl,HN1,HR1,H0,HU1,HO1⟩
 case round =>
  obtain ⟨l,ks,O',va,nk,vc,hl,rfl,rfl,rfl,HNK,HRW,HCT,HSUB,HON⟩:=hrel;by_cases hgo:1 < nk
  ·have hl2:l < 20:=by
    obtain ⟨T',c1,_⟩:=HCT.out;by_cases q:l < 20
    ·exact q
    ·obtain rfl:l=20:=by omega
     have:=c1.top;have:=HNK.out;omega
   have hd:decide ((1:Int) < (nk:Int))=true:=decide_eq_true (by omega);obtain ⟨T',c1,ce,c2,c4⟩:=HCT.out;have hne2:=HNE.out;have hrl:=lvT_room (T:=T) (es:=es) (l:=l) hl;have hm2:=HM.out
   have hTl:T'.length<=4095:=by
    rw [ce] at hrl;have:=c4.len;simp only at hrl;omega
   have g1:=(c1.up HOK.out (by omega) (by omega) hl2).1
   have hgo2:lvT T es (l+1)=(Zp T' (lvNk (l+1) ks),kidsT (Zp T' (lvNk (l+1) ks)) (lvNk (l+1) ks)):=by
    rw [lvT_go (by rw [ce];show 1 < ks.length;rw [<- HNK.out];exact hgo),ce]
   have hr2:pgT (Zp T' (abns ((l+1:Nat):Int) (Zd (fun e:Ki=>Zf ((l+1:Nat):Int) e.k) ks)))<=4096:=by
    have h:=lvT_room (T:=T) (es:=es) (l:=l+1) (by omega);rw [hgo2] at h;exact Nat.le_trans h hm2
   have hlen:=c1.len;obtain ⟨xa,xc,x1,x2,x3,x4,x5⟩:=rd_kcells HRW.out;rw [<- HNK.out] at x1;injection x1 with y1 y2 y3
   subst y1 y3
   have C2:=tab_any c4 hmp ((l+1:Nat):Int) ⟨by omega,by omega⟩ va vc ks x2 x5 (by omega) (fun e he=>by
    have:=c1.keys.subset (List.mem_map.2 ⟨e,he,rfl⟩);obtain ⟨e',he',q⟩:=List.mem_map.1 this;rw [<- q];have:=HOK.out.key e' he';omega) g1 hr2 (by omega) (fun e he=>by have:=c1.ids e he;omega)
   rw [<- HNK.out] at C2;simp only [bldV] at C2;have kbr:=HKB.out.onl HON.out (fun q=>by have:=HHI.out _ q;omega);have d0:=kbr.cell 0;have d1:=kbr.cell 1;simp only [List.getElem?_cons_zero,List.getElem?_cons_succ] at d0 d1;have HC2:=Za C2;have HX:=Za (And.intro c1 (And.intro c2 (And.intro hgo2 hlen)));have HG1':=Za g1;have hwl:IntKind.i64.wrap (((l+1:Nat):Int)+1)=((l+1+1:Nat):Int):=by rw [IntKind.wrap_i64];omega
   have sr:=HON.out.size;clear C2 kbr c1 ce c2 c4 g1 hgo2 hr2 hrl hm2 hTl x2 x3 x4 x5 HCT hlen hne2;go_wp2_with fail
   refine HC2.out.mono ?_;rintro e w3 ⟨v3,ks3,O3,rfl,r3,k3,t3,u3,o3⟩;obtain ⟨va3,vc3,hv3,_⟩:=r3.form;obtain ⟨n3,hn3⟩:∃ n3,n3=ks3.length:=⟨_,rfl⟩;rw [<- hn3] at hv3;subst hv3
   have HF:Hid (Row (fun g=>¬ O3 g/\W1.heap.size<=g) w3 128 2 (.slice va3 n3 vc3) ks3.length (ZH ks3)/\(∃ T',Can T' es (l+1) ks3/\lvT T es (l+1)=(T',ks3)/\(Sub T T'/\(TxOk T->TxOk T'))/\TSw w w3 s O3 T' m)/\(∀ i,O3 i->O i\/W1.heap.size<=i)/\Onl O W1 w3):=by
    obtain ⟨c1,c2,ce2,hlen⟩:=HX.out;refine Za ⟨r3.mono (fun i q=>⟨q.1,by omega⟩),⟨_,⟨ks,Can.sub (Sub.put _ _) c1,by have:=HNK.out;omega,k3⟩,?_,⟨c2.1.trans (Sub.put _ _),fun q=>(c2.2 q).puts HG1'.out⟩,t3.any m⟩,?_,HON.out.more o3 (fun i q=>HSUB.out i q)⟩
    ·rw [ce2,Kids.is t3.nodup k3];rfl
    ·intro i q;rcases u3 i q with z | z
     ·exact HSUB.out i z
     ·exact .inr (by omega)
   have HN3:=Za hn3;clear r3 k3 t3 u3 o3 hn3 HX HRW HSUB HON;go_wp2;go_roundw
   case rel =>
    obtain ⟨a1,a2,a3,a4⟩:=HF.out;exact ⟨l+1,ks3,O3,va3,n3,vc3,by omega,by simp,rfl,rfl,HN3,Za a1,Za a2,Za a3,Za a4⟩
   case measure=>simp [intOf];omega
  ·have hd:decide ((1:Int) < (nk:Int))=false:=decide_eq_false (by omega);obtain ⟨T',c1,ce,c2,c4⟩:=HCT.out;have hend:lvT T es 20=(T',ks):=by rw [lvT_end (by rw [ce];show ks.length<=1;have:=HNK.out;omega) hl,ce]
   have HF:Hid (∀ id:Nat,id=topI ks->TRoot w W s O T m es (.returned (.tuple #[.int .u64 id,.int .i64 0])) wr):=by
    refine Za (fun id hid=>⟨id,O',T',rfl,⟨l,ks,c1,hl,by have:=HNK.out;omega,hid⟩,c2.1,c2.2,⟨by unfold treeT;rw [hend],by unfold rootT;rw [hend];exact hid⟩,c4.any m,fun i q=>(HSUB.out i q).imp (fun z=>z) (fun z=>by omega),(Onl.ofBelow HB1.out).trans HON.out⟩)
   clear c1 ce c2 c4 hend HCT;by_cases hz:nk=0
   ·have hz2:((nk:Int) == 0)=true:=by simp;omega
    have HFF:=Za (HF.out 0 (by
     have:=HNK.out;cases ks with
     | nil=>rfl
     | cons k ks=>simp at this;omega))
    clear HF hz HRW HSUB HON HNK;go_wp2;refine bodyPost_ret (by simp [results,Tryz.results34,go_sem];rfl) rfl ?_;exact HFF.out
   ·have hz2:((nk:Int) == 0)=false:=by simp;omega
    obtain ⟨k,hks⟩:∃ k,ks=[k]:=by
     have:=HNK.out;cases ks with
     | nil=>simp at this;omega
     | cons k ks =>
      cases ks with
      | nil=>exact ⟨k,rfl⟩
      | cons k2 ks=>simp at this;omega
    subst hks;have HFF:=Za (HF.out k.i rfl);obtain ⟨g,cap,e1,e2,e3,e4,e5,e6,_⟩:=HRW.out.shape (by simp);injection e1 with y1 y2 y3
    have y2':nk=1:=by simpa using HNK.out
    subst y1;have e7:=e6 1 (by simp);simp only [ZH,List.flatMap_cons,List.flatMap_nil,List.append_nil,List.getElem?_cons_succ,List.getElem?_cons_zero] at e7;have hd0:decide ((0:Int) < (nk:Int))=true:=decide_eq_true (by omega);subst y2';clear HF hz HRW HSUB HON HNK e2 e3 e4 e5 e6 y2 y3;go_wp2;refine bodyPost_ret (by simp [results,Tryz.results34,go_sem];rfl) rfl ?_;exact HFF.out
theorem rightE_at {es:List En} {k:Nat} {e:En} (h:es[k]?=some e) (hp:∀ y ∈ es.take k,enE y=0) (hx:enE e≠0):rightE es=enE e:=by
 unfold rightE;rw [firstE_at h hp hx,if_pos hx]
theorem take_enE {es:List En} {k:Nat} {e:En} (h:es[k]?=some e) (hp:∀ y ∈ es.take k,enE y=0) (hx:enE e=0):∀ y ∈ es.take (k+1),enE y=0:=by
 intro y hy;rw [List.take_add_one,h] at hy;rcases List.mem_append.1 hy with q | q
 ·exact hp y q
 ·simp at q;rw [q];exact hx
def TBld (w W:World) (s:Nat) (O:Nat->Prop) (T:List (List Int)) (m:Nat) (es:List En) (e:Ending) (W':World):Prop :=
 (rightE es≠0/\e=.returned (.tuple #[.int .u64 0,.int .i64 (rightE es)])/\Below W.heap.size W W')\/(rightE es=0/\TRoot w W s O T m es e W')
theorem tBuild_any {w W:World} {s m:Nat} {O:Nat->Prop} {T:List (List Int)} (h:TSw w W s O T m) (ea:Option Addr) (ec:Nat) (es:List En) (hr:RdEn W ea es) (hen:ea=none->ec=0) (hel:es.length<=600) (hsz:∀ e ∈ es,e.k.size<=maxLen/\e.v.size<=maxLen) (hm:MapOk es->(es.flatMap enB).length<=40000/\pgT (treeT T es)<=4096) :
  Calls Tryz.prog 10 #[.pointer (some ⟨s,0,none⟩),.slice ea es.length ec] W (TBld w W s O T m es):=by
 have C2:∀ W',Below W.heap.size W W'->Calls Tryz.prog 32 #[.slice ea es.length ec] W' (RsP es W'):=fun W' b=>trise_any W' ea ec es (hr.below b) (by omega)
 have C3:MapOk es->∀ W',Below W.heap.size W W'->Calls Tryz.prog 34 #[.agg (bldV s (.map none)),.slice ea es.length ec] W' (TRoot w W' s O T m es):=fun ok W' b=>tbuildm_any (h.below b) none (HdO.none _ _ _) ea ec es (hr.below b) hen hel ok (hm ok).1 (hm ok).2
 simp only [bldV] at C3;obtain ⟨ne,hne⟩:∃ ne,ne=es.length:=⟨_,rfl⟩;have hmx:maxLen<=9223372036854775807:=by decide
 have hhi:=h.hi;have hbw:=h.bel.size;have HHI:=Za hhi;have HLO:=Za h.lo;have HC2:=Za C2;have HC3:=Za C3;have HNE:=Za hne;have HR:=Za hr;have HSZ:=Za hsz;rw [<- hne] at HC2 HC3 hel ⊢;clear C2 C3 hne hr hsz h hm hhi;go_enter Tryz.func10,Tryz.ntmps10
 go_wp2;go_loopw [12] (fun i wr=>∃ k:Nat,k<=ne/\i=.int .i64 k/\Hid (∀ y ∈ es.take k,enE y=0)/\Hid (Below W.heap.size W wr)) (fun i _=>ne - (intOf i).toNat)
 case atStart=>exact ⟨0,Nat.zero_le _,rfl,Za (fun y hy=>by simp at hy),Za (Below.refl _ _)⟩
 case round =>
  obtain ⟨k,hk,rfl,HP,HB⟩:=hrel;by_cases hkn:k < ne
  ·obtain ⟨⟨ek,ev⟩,hx⟩:∃ x,es[k]?=some x:=⟨es[k]'(by have:=HNE.out;omega),List.getElem?_eq_getElem _⟩;obtain ⟨g,of,rfl,q1,q2⟩:=(HR.out.below HB.out) k _ hx;simp only at q1 q2;have hz:=HSZ.out _ (List.mem_of_getElem? hx);simp only at hz;obtain ⟨W1,hW1⟩:∃ W1,W1=wr.alloc (.cells #[.string ek,.string ev] 43):=⟨_,rfl⟩;have kb:Ob W1 wr.heap.size 43 [.string ek,.string ev]:=by rw [hW1];exact Ob.new wr [.string ek,.string ev] 43
   have b1:Below W.heap.size W W1:=by rw [hW1];exact HB.out.alloc HB.out.size _
   have y0:=kb.cell 0;have y1:=kb.cell 1;simp only [List.getElem?_cons_zero,List.getElem?_cons_succ] at y0 y1;have CK:=key_any ek W1 (by omega);have CV:=val_any ev W1 (by omega);have HX:=Za hx;have HB1:=Za b1;have HCK:=Za CK;have HCV:=Za CV;clear hx kb b1 CK CV;by_cases hke:Z2 ek=0
   ·rw [hke] at HCK;by_cases hve:valE ev=0
    ·rw [hve] at HCV;have HN:Hid (∀ y ∈ es.take (k+1),enE y=0):=Za (take_enE HX.out HP.out (by rw [enE_val hke];exact hve));clear hke hve HP;go_wp2_with fail
     rw [<- hW1];clear hW1;refine HCK.out.mono ?_;rintro e w2 ⟨rfl,rfl⟩;go_wp2_with fail
     refine HCV.out.mono ?_;rintro e w2 ⟨rfl,rfl⟩;go_wp2;go_roundw
     case rel=>exact ⟨k+1,by omega,by simp,HN,HB1⟩
     case measure=>simp [intOf];omega
    ·have HF:Hid (TBld w W s O T m es (.returned (.tuple #[.int .u64 0,.int .i64 (valE ev)])) W1):=by
      have hq:rightE es=valE ev:=by rw [rightE_at HX.out HP.out (by rw [enE_val hke];exact hve),enE_val hke]
      exact Za (.inl ⟨by rw [hq];exact hve,by rw [hq],HB1.out⟩)
     obtain ⟨er,her⟩:∃ er,er=valE ev:=⟨_,rfl⟩;rw [<- her] at HCV HF hve;have hb:(er != 0)=true:=by simpa using hve
     clear hke hve HP her;go_wp2_with fail
     rw [<- hW1];clear hW1;refine HCK.out.mono ?_;rintro e w2 ⟨rfl,rfl⟩;go_wp2_with fail
     refine HCV.out.mono ?_;rintro e w2 ⟨rfl,rfl⟩;go_wp2;refine bodyPost_ret (by simp [results,Tryz.results10,go_sem];rfl) rfl ?_;exact HF.out
   ·have HF:Hid (TBld w W s O T m es (.returned (.tuple #[.int .u64 0,.int .i64 (Z2 ek)])) W1):=by
     have hq:rightE es=Z2 ek:=by rw [rightE_at HX.out HP.out (by rw [enE_key hke];exact hke),enE_key hke]
     exact Za (.inl ⟨by rw [hq];exact hke,by rw [hq],HB1.out⟩)
    obtain ⟨er,her⟩:∃ er,er=Z2 ek:=⟨_,rfl⟩;rw [<- her] at HCK HF hke;have hb:(er != 0)=true:=by simpa using hke
    clear hke HP her;go_wp2_with fail
    rw [<- hW1];clear hW1;refine HCK.out.mono ?_;rintro e w2 ⟨rfl,rfl⟩;go_wp2;refine bodyPost_ret (by simp [results,Tryz.results10,go_sem];rfl) rfl ?_;exact HF.out
  ·have hf0:ZE enE es=0:=firstE_none (fun y hy=>HP.out y (by rw [List.take_of_length_le (by have:=HNE.out;omega)];exact hy));have CR:=HC2.out wr HB.out;have HF0:=Za hf0;have HCR:=Za CR;clear hf0 CR HP;go_wp2_with fail
   refine HCR.out.mono ?_;rintro e w2 ⟨b,rfl,hb,b2⟩;have HBW:=Za (HB.out.trans (b2.mono HB.out.size));have sB:=HB.out.size;have sB2:=b2.size;cases b with
   | false =>
    have HF:Hid (TBld w W s O T m es (.returned (.tuple #[.int .u64 0,.int .i64 90])) w2):=by
     have hq:rightE es=90:=by
      unfold rightE;rw [if_neg (by rw [HF0.out];simp),if_neg (fun q=>by have:=hb.2 q;cases this)]
     exact Za (.inl ⟨by rw [hq];decide,by rw [hq],HBW.out⟩)
    clear hb b2;go_wp2;refine bodyPost_ret (by simp [results,Tryz.results10,go_sem];rfl) rfl ?_;exact HF.out
   | true =>
    have hq:rightE es=0:=by
     unfold rightE;rw [if_neg (by rw [HF0.out];simp),if_pos (hb.1 rfl)]
    have C5:=HC3.out (rightE_map hq) w2 HBW.out;have HC5:=Za C5;have HQ:=Za hq;clear C5 hq hb b2;go_wp2_with fail
    refine HC5.out.mono ?_;rintro e w3 ⟨id,O',T',rfl,p1,p2,p2',p3,p4,p5,p6⟩;have HF:Hid (TBld w W s O T m es (.returned (.tuple #[.int .u64 id,.int .i64 0])) w3):=Za (.inr ⟨HQ.out,id,O',T',rfl,p1,p2,p2',p3,p4,fun i q=>(p5 i q).imp (fun z=>z) (fun z=>by omega),(Onl.ofBelow HBW.out).trans p6⟩);clear p1 p2 p2' p3 p4 p5 p6;go_wp2;refine bodyPost_ret (by simp [results,Tryz.results10,go_sem];rfl) rfl ?_;exact HF.out
end Go.Proofs.YtdhebpnkfookcaaGreat
