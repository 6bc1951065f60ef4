import Derived.Test.YtdhebpnkfookcaaGreatSM43
set_option maxRecDepth 100000
set_option maxHeartbeats 16000000
namespace Go.Proofs.YtdhebpnkfookcaaGreat
section
open Go.RowKit Apo
def Says (ws:List Ed) (key v:ByteArray) (b:Bool):Prop:=(b=true/\∃ x,(ofKey ws key).getLast?=some x/\x.g=false/\x.v=v)\/(b=false/\v=⟨#[]⟩/\∀ x,(ofKey ws key).getLast?=some x->x.g=true)
theorem says_ex (ws:List Ed) (key:ByteArray):∃ v b,Says ws key v b:=by
 cases h:(ofKey ws key).getLast? with
 | none=>exact ⟨_,false,.inr ⟨rfl,rfl,fun x hx=>by rw [h] at hx;cases hx⟩⟩
 | some x =>
  cases hg:x.g with
  | true=>exact ⟨_,false,.inr ⟨rfl,rfl,fun y hy=>by rw [h] at hy;cases hy;exact hg⟩⟩
  | false=>exact ⟨x.v,true,.inl ⟨rfl,x,h,hg,rfl⟩⟩
def Zn (e:En):Ed:=⟨e.k,e.v,false⟩
theorem ofK_ne {ws:List Ed} {x:Ed} {key:ByteArray} (h:x.k≠key):ofKey (ws++[x]) key=ofKey ws key:=by
 rw [ofK_app];simp [ofKey,h]
theorem ofK_eq {ws:List Ed} {x:Ed} {key:ByteArray} (h:x.k=key):ofKey (ws++[x]) key=ofKey ws key++[x]:=by
 rw [ofK_app];simp [ofKey,h]
theorem says_ne {ws:List Ed} {x:Ed} {key v:ByteArray} {b:Bool} (h:x.k≠key):Says (ws++[x]) key v b↔Says ws key v b:=by unfold Says;rw [ofK_ne h]
theorem says_eq {ws:List Ed} {x:Ed} {key v:ByteArray} {b:Bool} (h:x.k=key):Says (ws++[x]) key v b↔(b=true/\x.g=false/\x.v=v)\/(b=false/\v=⟨#[]⟩/\x.g=true):=by
 unfold Says;rw [ofK_eq h];simp
def ApR (a:List En) (l:List Ed) (es:List En):Prop:=Z1 es/\∀ key v b,Says (a.map Zn++l) key v b->Gets es key v b
theorem ent_mem {es:List En} {e:En}:e ∈ es↔Gets es e.k e.v true:=by
 constructor
 ·exact fun h=>.inl ⟨rfl,e,h,rfl,rfl⟩
 ·rintro (⟨_,f,hf,h1,h2⟩ | ⟨h,_⟩)
  ·have:f=e:=by cases f;cases e;simp only at h1 h2;rw [h1,h2]
   rwa [<- this]
  ·cases h
theorem riseE_uniq {es fs:List En} (h:Z1 es) (h':Z1 fs) (hm:∀ e,e ∈ es↔e ∈ fs):es=fs:=by
 induction es generalizing fs with
 | nil =>
  cases fs with
  | nil=>rfl
  | cons c l=>exact absurd ((hm c).2 (by simp)) (by simp)
 | cons c l ih =>
  cases fs with
  | nil=>exact absurd ((hm c).1 (by simp)) (by simp)
  | cons c' l' =>
   unfold Z1 at h h';rw [List.pairwise_cons] at h h'
   have hcc:c=c':=by
    rcases List.mem_cons.1 ((hm c).1 (by simp)) with q | q
    ·exact q
    ·rcases List.mem_cons.1 ((hm c').2 (by simp)) with q' | q'
     ·exact q'.symm
     ·have:=ZL (h'.1 c q) (h.1 c' q');rw [ZM] at this;cases this
   subst hcc;congr 1
   refine ih h.2 h'.2 (fun x=>?_);constructor
   ·intro hx;rcases List.mem_cons.1 ((hm x).1 (by simp [hx])) with q | q
    ·have:=h.1 x hx;rw [q,ZM] at this;cases this
    ·exact q
   ·intro hx;rcases List.mem_cons.1 ((hm x).2 (by simp [hx])) with q | q
    ·have:=h'.1 x hx;rw [q,ZM] at this;cases this
    ·exact q
theorem ApR.uniq {a:List En} {l:List Ed} {es fs:List En} (h:ApR a l es) (h':ApR a l fs):es=fs:=by
 refine riseE_uniq h.1 h'.1 (fun e=>?_);obtain ⟨v,b,hs⟩:=says_ex (a.map Zn++l) e.k;have g1:=h.2 _ _ _ hs;have g2:=h'.2 _ _ _ hs;rw [ent_mem,ent_mem];constructor
 ·intro q;obtain ⟨e1,e2⟩:=gets_uniq h.1 q g1;rw [e1,e2];exact g2
 ·intro q;obtain ⟨e1,e2⟩:=gets_uniq h'.1 q g2;rw [e1,e2];exact g1
theorem says_words {a:List En} {key v:ByteArray} {b:Bool} (h:Says (a.map Zn) key v b):Gets a key v b:=by
 rcases h with ⟨rfl,x,hx,hg,hv⟩ | ⟨rfl,rfl,hx⟩
 ·have hm:=List.mem_of_getLast? hx;unfold ofKey at hm;rw [List.mem_filter,decide_eq_true_eq] at hm;obtain ⟨e,he,rfl⟩:=List.mem_map.1 hm.1;exact .inl ⟨rfl,e,he,hm.2,hv⟩
 ·refine .inr ⟨rfl,rfl,fun e he hk=>?_⟩
  have hm:Zn e ∈ ofKey (a.map Zn) key:=by
   unfold ofKey;rw [List.mem_filter,decide_eq_true_eq];exact ⟨List.mem_map.2 ⟨e,he,rfl⟩,hk⟩
  cases hq:(ofKey (a.map Zn) key).getLast? with
  | none=>rw [List.getLast?_eq_none_iff] at hq;rw [hq] at hm;simp at hm
  | some y =>
   have hy:=hx y hq;have hm2:=List.mem_of_getLast? hq;unfold ofKey at hm2;rw [List.mem_filter] at hm2;obtain ⟨f,_,rfl⟩:=List.mem_map.1 hm2.1;cases hy
theorem ApR.nil {a:List En} (hr:Z1 a):ApR a [] a:=⟨hr,fun key v b h=>says_words (by simpa using h)⟩
def SetC (es:List En) (x:Ed) (fs:List En):Prop:=Z1 fs/\(∀ key v b,key≠x.k->Gets es key v b->Gets fs key v b)/\(x.g=false->Gets fs x.k x.v true)/\(x.g=true->Gets fs x.k ⟨#[]⟩ false)
theorem ApR.snoc {a:List En} {l:List Ed} {es fs:List En} {x:Ed} (h:ApR a l es) (hs:SetC es x fs):ApR a (l++[x]) fs:=by
 refine ⟨hs.1,fun key v b q=>?_⟩;rw [<- List.append_assoc] at q;by_cases z:x.k=key
 ·rw [says_eq z] at q;rcases q with ⟨rfl,h1,rfl⟩ | ⟨rfl,rfl,h1⟩
  ·rw [<- z];exact hs.2.2.1 h1
  ·rw [<- z];exact hs.2.2.2 h1
 ·rw [says_ne z] at q;exact hs.2.1 key v b (Ne.symm z) (h.2 key v b q)
def Kept (d:List Ed) (t:Nat) (x:Ed):Prop:=d[t]?=some x/\x.g=false/\∀ y,d[t+1]?=some y->y.k≠x.k
open Classical in
noncomputable def keepO (d:List Ed) (t:Nat):List En:=if h:∃ x,Kept d t x then [⟨h.choose.k,h.choose.v⟩] else []
theorem keep_yes {d:List Ed} {t:Nat} {x:Ed} (h:Kept d t x):keepO d t=[⟨x.k,x.v⟩]:=by
 have hex:∃ x,Kept d t x:=⟨x,h⟩;unfold keepO;rw [dif_pos hex];have h1:=hex.choose_spec.1;rw [h.1] at h1;cases h1
 rfl
theorem keep_no {d:List Ed} {t:Nat} (h:∀ x,¬ Kept d t x):keepO d t=[]:=by
 unfold keepO;rw [dif_neg (fun ⟨x,hx⟩=>h x hx)]
noncomputable def Zg (d:List Ed):Nat->List En
 | 0=>[]
 | n+1=>Zg d n++keepO d n
theorem keep_len (d:List Ed) (t:Nat):(keepO d t).length<=1:=by
 unfold keepO;split <;> simp
theorem keptTo_len (d:List Ed):∀ n,(Zg d n).length<=n
 | 0=>Nat.le_refl _
 | n+1=>by have h1:=keptTo_len d n;have h2:=keep_len d n;simp only [Zg,List.length_append];omega
theorem keptTo_mem {d:List Ed} {e:En}:∀ {n:Nat},e ∈ Zg d n↔∃ t x,t < n/\Kept d t x/\e=⟨x.k,x.v⟩
 | 0=>by simp [Zg]
 | n+1=>by
  simp only [Zg,List.mem_append];rw [keptTo_mem (n:=n)];constructor
  ·rintro (⟨t,x,h1,h2⟩ | h)
   ·exact ⟨t,x,by omega,h2⟩
   ·by_cases q:∃ x,Kept d n x
    ·obtain ⟨x,hx⟩:=q;rw [keep_yes hx,List.mem_singleton] at h;exact ⟨n,x,by omega,hx,h⟩
    ·rw [keep_no (fun x hx=>q ⟨x,hx⟩)] at h;simp at h
  ·rintro ⟨t,x,h1,h2,rfl⟩;by_cases z:t < n
   ·exact .inl ⟨t,x,z,h2,rfl⟩
   ·obtain rfl:t=n:=by omega
    right
    rw [keep_yes h2];simp
theorem leK_anti {a b:ByteArray} (h:leK a b) (k:leK b a):a=b:=sLt_conn k h
theorem kept_lt {d:List Ed} {n t u:Nat} {x y:Ed} (hs:SrtIn d 0 n) (hn:d.length<=n) (h:Kept d t x) (hy:d[u]?=some y) (htu:t < u):ZQ x.k y.k=true:=by
 have hu:=(List.getElem?_eq_some_iff.1 hy).1;have h1:=hs t u (Nat.zero_le _) htu (by omega);rw [ZS h.1,ZS hy] at h1;cases q:ZQ x.k y.k with
 | true=>rfl
 | false =>
  exfalso
  have hxy:x.k=y.k:=leK_anti h1 q;obtain ⟨z,hz⟩:∃ z,d[t+1]?=some z:=⟨d[t+1]'(by omega),List.getElem?_eq_getElem _⟩;have h2:=hs.le (i:=t) (j:=t+1) (Nat.zero_le _) (by omega) (by omega);have h3:=hs.le (i:=t+1) (j:=u) (Nat.zero_le _) (by omega) (by omega);rw [ZS h.1,ZS hz] at h2;rw [ZS hz,ZS hy,<- hxy] at h3;exact h.2.2 z hz (leK_anti h3 h2)
theorem keptTo_rise {d:List Ed} {n:Nat} (hs:SrtIn d 0 n) (hn:d.length<=n):∀ m,Z1 (Zg d m)
 | 0=>List.Pairwise.nil
 | m+1=>by
  have ih:=keptTo_rise hs hn m;unfold Z1 at ih ⊢;simp only [Zg];rw [List.pairwise_append];refine ⟨ih,?_,fun e he f hf=>?_⟩
  ·by_cases q:∃ x,Kept d m x
   ·obtain ⟨x,hx⟩:=q;rw [keep_yes hx];simp
   ·rw [keep_no (fun x hx=>q ⟨x,hx⟩)];exact List.Pairwise.nil
  ·by_cases q:∃ x,Kept d m x
   ·obtain ⟨x,hx⟩:=q;rw [keep_yes hx,List.mem_singleton] at hf;obtain ⟨t,y,ht,hy,rfl⟩:=keptTo_mem.1 he;rw [hf];exact kept_lt hs hn hy hx.1 ht
   ·rw [keep_no (fun x hx=>q ⟨x,hx⟩)] at hf;simp at hf
theorem lastk_at {d:List Ed} {t:Nat} {x:Ed} {key:ByteArray} (h:d[t]?=some x) (hk:x.k=key) (hl:∀ u y,t < u->d[u]?=some y->y.k≠key):(ofKey d key).getLast?=some x:=by
 have ht:=(List.getElem?_eq_some_iff.1 h).1
 have hd:d=d.take t++([x]++d.drop (t+1)):=by
  conv=>lhs;rw [<- List.take_append_drop t d]
  rw [List.drop_eq_getElem_cons ht,(List.getElem?_eq_some_iff.1 h).2];simp
 have h0:ofKey (d.drop (t+1)) key=[]:=by
  unfold ofKey;rw [List.filter_eq_nil_iff];intro y hy z;rw [decide_eq_true_eq] at z;obtain ⟨i,hi,rfl⟩:=List.mem_iff_getElem.1 hy;simp only [List.length_drop] at hi;exact hl (t+1+i) _ (by omega) (by rw [List.getElem?_eq_getElem (by omega),List.getElem_drop]) z
 have h1:ofKey [x] key=[x]:=by simp [ofKey,hk]
 rw [hd,ofK_app,ofK_app,h0,h1];simp
theorem last_place {p:Nat->Prop}:∀ n,(∃ t,t < n/\p t)->∃ t,t < n/\p t/\∀ u,t < u->u < n->¬ p u
 | 0,⟨t,h,_⟩=>by omega
 | n+1,⟨t,h,hp⟩=>by
  by_cases q:p n
  ·exact ⟨n,by omega,q,fun u h1 h2=>by omega⟩
  ·have htn:t≠n:=fun z=>q (by rw [<- z];exact hp)
   obtain ⟨s,h1,h2,h3⟩:=last_place n ⟨t,by omega,hp⟩;refine ⟨s,by omega,h2,fun u z1 z2=>?_⟩;by_cases y:u=n
   ·rw [y];exact q
   ·exact h3 u z1 (by omega)
theorem kept_apr {a:List En} {l d:List Ed} (hst:Stb (a.map Zn++l) d) (hs:SrtIn d 0 d.length):ApR a l (Zg d d.length):=by
 refine ⟨keptTo_rise hs (Nat.le_refl _) _,fun key v b h=>?_⟩;unfold Says at h;rw [<- hst.2 key] at h;by_cases q:∃ t,t < d.length/\∃ x,d[t]?=some x/\x.k=key
 ·obtain ⟨t,ht,⟨x,hx,hk⟩,hl⟩:=last_place (p:=fun t=>∃ x,d[t]?=some x/\x.k=key) d.length q;have hlast:=lastk_at hx hk (fun u y h1 h2 h3=>hl u h1 (List.getElem?_eq_some_iff.1 h2).1 ⟨y,h2,h3⟩);rw [hlast] at h;have hnext:∀ y,d[t+1]?=some y->y.k≠x.k:=fun y hy z=>hl (t+1) (by omega) (List.getElem?_eq_some_iff.1 hy).1 ⟨y,hy,z.trans hk⟩
  rcases h with ⟨rfl,y,hy,hg,hv⟩ | ⟨rfl,rfl,hy⟩
  ·cases hy
   exact .inl ⟨rfl,⟨x.k,x.v⟩,keptTo_mem.2 ⟨t,x,ht,⟨hx,hg,hnext⟩,rfl⟩,hk,hv⟩
  ·have hg:=hy x rfl;refine .inr ⟨rfl,rfl,fun e he hek=>?_⟩;obtain ⟨u,z,hu,hz,rfl⟩:=keptTo_mem.1 he;simp only at hek
   have hut:u<=t:=by
    rcases Nat.lt_or_ge t u with y | y
    ·exact absurd ⟨z,hz.1,hek⟩ (hl u y hu)
    ·exact y
   rcases Nat.lt_or_ge u t with y | y
   ·have:=kept_lt hs (Nat.le_refl _) hz hx y;rw [hek,hk,ZM] at this;cases this
   ·obtain rfl:u=t:=by omega
    have hz1:=hz.1;rw [hx] at hz1;cases hz1
    rw [hz.2.1] at hg;cases hg
 ·have hno:ofKey d key=[]:=by
   unfold ofKey;rw [List.filter_eq_nil_iff];intro y hy z;rw [decide_eq_true_eq] at z;obtain ⟨i,hi,rfl⟩:=List.mem_iff_getElem.1 hy;exact q ⟨i,hi,_,List.getElem?_eq_getElem hi,z⟩
  rw [hno] at h;rcases h with ⟨_,y,hy,_⟩ | ⟨rfl,rfl,_⟩
  ·simp at hy
  ·refine .inr ⟨rfl,rfl,fun e he hek=>?_⟩;obtain ⟨u,z,hu,hz,rfl⟩:=keptTo_mem.1 he;exact q ⟨u,hu,z,hz.1,hek⟩
end
section
open Go.RowKit Apo Go.Sort
attribute [local go_sem ↓] app_exec
theorem dacmp:CmpE 109:=by
 refine ⟨fun _ _=>by kernel_rfl,fun x y W=>?_⟩;obtain ⟨W0,hW0⟩:∃ W0,W0=(W.alloc (.cells #[.string x.k,.string x.v,.bool x.g] 46)).alloc (.cells #[.string y.k,.string y.v,.bool y.g] 46):=⟨_,rfl⟩;have C:=scompare_any x.k y.k W0;have k0:Ob W0 W.heap.size 46 [.string x.k,.string x.v,.bool x.g]:=by rw [hW0];exact (Ob.new W [.string x.k,.string x.v,.bool x.g] 46).alloc _
 have k1:Ob W0 (W.heap.size+1) 46 [.string y.k,.string y.v,.bool y.g]:=by
  rw [hW0];have:=Ob.new (W.alloc (.cells #[.string x.k,.string x.v,.bool x.g] 46)) [.string y.k,.string y.v,.bool y.g] 46;rw [World.size_alloc] at this;exact this
 have y0:=k0.cell 0;have y1:=k1.cell 0;simp only [List.getElem?_cons_zero] at y0 y1;have HG:Hid (∃ q os,W0=grow (W.drewN q) os):=Za ⟨0,#[.cells #[.string x.k,.string x.v,.bool x.g] 46,.cells #[.string y.k,.string y.v,.bool y.g] 46],by rw [hW0,alloc_eq_grow,alloc_eq_grow,grow_grow];rfl⟩;have HC:=Za C;rw [hW0] at y0 y1;unfold aggE;clear C k0 k1;go_enter Tryz.func109,Tryz.ntmps109
 go_wp2_with fail
 rw [<- hW0];clear hW0;refine HC.out.mono ?_;rintro e w2 ⟨rfl,rfl⟩;go_wp2;go_ret
 exact ⟨rfl,HG.out⟩
theorem damk (c:Nat) (wx:World) (hc:c<=10000000):∃ w',(Instr.makeSlice 44 (.int .i64 0) (.int .i64 (c:Int))).run Tryz.prog wx=.ok (.slice (some ⟨wx.heap.size,0,none⟩) 0 c) w'/\w'.ownsRow wx.heap.size 46 3 (.slice (some ⟨wx.heap.size,0,none⟩) 0 c) 0 []/\wx.grownBy w' none:=by
 obtain ⟨i0,hi,hz0,hz1,hz2⟩:=info_parts info_ed;exact run_make_own (P:=Tryz.prog) wx wx.heap.size 44 46 i0 _ 3 Tryz.underlying44 hi hz0 hz1 .i64 .i64 c (by rw [hz2];omega) (by unfold maxLen;omega) (Nat.le_refl _)
theorem daroe {O:Nat->Prop} {W:World} {g cap n:Nat} {d:List Ed} (h:Row O W 46 3 (.slice (some ⟨g,0,none⟩) n cap) d.length (Zk cEd d)):∃ ex,RoE W g d ex:=by
 rcases h.1.2 with ⟨hv,_⟩ | ⟨g',cap',cur,hv,_,hg,_,_,_,ht⟩
 ·cases hv
 ·injection hv with e1 e2 e3
  injection e1 with e1
  injection e1 with e1
  subst e1;refine ⟨cur.toList.drop (d.length * 3),?_⟩;unfold RoE Ob;rw [hg,<- ht,List.take_append_drop]
theorem daapply (w:World) (a b:Option Addr) (ca cb:Nat) (es:List En) (l:List Ed) (ha:RdEn w a es) (hb:RdG cEd 3 w b l) (hla:es.length<=400000) (hlb:l.length<=400000) :
  Calls Tryz.prog 66 #[.slice a es.length ca,.slice b l.length cb] w (EnP (ApR es l) w):=by
 obtain ⟨n,hn⟩:∃ n,n=es.length:=⟨_,rfl⟩;obtain ⟨m,hm⟩:∃ m,m=l.length:=⟨_,rfl⟩;obtain ⟨W0,RM,OM,GM⟩:=damk (n+m) w (by omega);have b0:Below w.heap.size w W0:=(Below.refl _ _).grown GM (Nat.le_refl _) (by simp)
 have rowM:Row (fun g=>w.heap.size<=g) W0 46 3 (.slice (some ⟨w.heap.size,0,none⟩) 0 (n+m)) 0 []:=by
  refine ⟨⟨OM.1,?_⟩,fun g hg=>by cases hg;exact Nat.le_refl _⟩;rcases OM.2 with q | ⟨g,cap,cur,q1,q2,q3⟩
  ·exact .inl q
  ·exact .inr ⟨g,cap,cur,q1,Nat.zero_le _,q3⟩
 have HLD:=Za (And.intro (fun W (h:Below w.heap.size w W)=>ha.below h) (fun W (h:Below w.heap.size w W)=>hb.below h));have HA:=Za (ha.below b0);have HBL:=Za (hb.below b0);have HN:=Za hn;have HM:=Za hm;have HB0:=Za b0;have HRM:=Za rowM
 have RM':(Instr.makeSlice 44 (.int .i64 0) (.int .i64 ((n:Int)+(m:Int)))).run Tryz.prog w=.ok (.slice (some ⟨w.heap.size,0,none⟩) 0 (n+m)) W0:=by
  rw [show (n:Int)+(m:Int)=((n+m:Nat):Int) by omega];exact RM
 obtain ⟨i0,hi0,_⟩:=info_parts info_ed;rw [<- hn,<- hm];rw [<- hn] at hla;rw [<- hm] at hlb;clear ha hb hn hm b0 rowM RM OM GM;go_enter Tryz.func66,Tryz.ntmps66
 go_wp2;go_loopw [5,19] (fun v i wr=>∃ (k g cp:Nat),k<=n/\i=.int .i64 k/\v=.slice (some ⟨g,0,none⟩) k cp/\Hid (k=((es.take k).map Zn).length)/\Hid (Row (fun g=>w.heap.size<=g) wr 46 3 (.slice (some ⟨g,0,none⟩) k cp) ((es.take k).map Zn).length (Zk cEd ((es.take k).map Zn)))/\Hid (Below w.heap.size w wr)/\Hid (RdEn wr a es)/\Hid (RdG cEd 3 wr b l)) (fun _ i _=>n - (intOf i).toNat)
 case atStart=>exact ⟨0,w.heap.size,n+m,Nat.zero_le _,rfl,rfl,Za rfl,Za HRM.out,HB0,HA,HBL⟩
 case round =>
  obtain ⟨k,g,cp,hk,rfl,rfl,HNK,HRW,HBr,HRA,HRB⟩:=hrel;by_cases hkn:k < n
  ·obtain ⟨⟨ek,ev⟩,hx⟩:∃ x,es[k]?=some x:=⟨es[k]'(by have:=HN.out;omega),List.getElem?_eq_getElem _⟩;obtain ⟨gm,om,rfl,p1,p2⟩:=HRA.out k _ hx;simp only at p1 p2;obtain ⟨W1,hW1⟩:∃ W1,W1=wr.alloc (.cells #[.string ek,.string ev] 43):=⟨_,rfl⟩;have b1:Below wr.heap.size wr W1:=by rw [hW1];exact (Below.refl _ wr).alloc (Nat.le_refl _) _
   have kb:Ob W1 wr.heap.size 43 [.string ek,.string ev]:=by rw [hW1];exact Ob.new wr [.string ek,.string ev] 43
   have y0:=kb.cell 0;have y1:=kb.cell 1;simp only [List.getElem?_cons_zero,List.getElem?_cons_succ] at y0 y1;obtain ⟨x,hx2⟩:∃ x:Ed,x=⟨ek,ev,false⟩:=⟨_,rfl⟩;obtain ⟨w6,hw6⟩:∃ w6,w6=W1.alloc (.cells (cEd x).toArray 46):=⟨_,rfl⟩;have bb6:Below W1.heap.size W1 w6:=by rw [hw6];exact (Below.refl _ W1).alloc (Nat.le_refl _) _
   have row6:=(HRW.out.onl (F:=fun _=>False) (Onl.ofBelow b1) (fun _ _ q=>q)).onl (F:=fun _=>False) (Onl.ofBelow bb6) (fun _ _ q=>q);have rd6:RdG cEd 3 w6 (some ⟨W1.heap.size,0,none⟩) [x]:=by rw [hw6];exact rd_lit _ _ x
   obtain ⟨v8,w8,RR,r8,o8,ow8⟩:=app_ed (cp:=1) row6 (by simp;omega) rd6;have htk:(es.take (k+1)).map Zn=(es.take k).map Zn++[x]:=by rw [List.take_add_one,hx,hx2];simp [Zn]
   rw [<- htk] at r8;have hk1:((es.take (k+1)).map Zn).length=k+1:=by have:=HN.out;simp;omega
   obtain ⟨g8,c8,hv8,_,_,_,_,_,_⟩:=r8.shape (by omega);rw [hk1] at hv8;rw [hv8] at r8 RR;rw [show [x].length=1 from rfl] at RR;have hs1:W1.heap.size=wr.heap.size+1:=by rw [hW1];simp
   have hs6:w6.heap.size=W1.heap.size+1:=by rw [hw6,World.size_alloc]
   have hbr:=HBr.out.size;have hb8:Below w.heap.size w w8:=Below.onl ((HBr.out.trans (b1.mono HBr.out.size)).trans (bb6.mono (by omega))) o8 (fun i q=>HRW.out.2 i q) (Nat.le_refl _);have far:Onl (fun j=>w.heap.size<=j) wr w8:=((Onl.ofBelow b1).trans (Onl.ofBelow bb6)).trans (o8.mono (fun i q=>HRW.out.2 i q));have ra8:RdEn w8 (some ⟨gm,om,none⟩) es:=HLD.out.1 w8 hb8;have rb8:RdG cEd 3 w8 b l:=HLD.out.2 w8 hb8;have HF:Hid (Row (fun g=>w.heap.size<=g) w8 46 3 (.slice (some ⟨g8,0,none⟩) (k+1) c8) ((es.take (k+1)).map Zn).length (Zk cEd ((es.take (k+1)).map Zn))):=Za ⟨r8.1,fun g hg=>(r8.2 g hg).elim (fun z=>z) (fun z=>by omega)⟩;have HB8:=Za hb8;have HA8:=Za ra8;have HB28:=Za rb8;have HK1:Hid (k+1=((es.take (k+1)).map Zn).length):=Za hk1.symm;rw [hw6,hx2] at RR;simp only [cEd] at RR;rw [hW1] at RR y0 y1;simp only [World.size_alloc] at RR;obtain ⟨z1,z2,z3⟩:=Zi RR;clear hW1 b1 kb hw6 bb6 row6 rd6 r8 o8 ow8 hv8 RR htk hk1 hs1 hs6 hbr hb8 HRW hx2 far ra8 rb8 hx;go_wp2;go_roundw
   case rel=>exact ⟨k+1,g8,c8,by omega,by simp,rfl,HK1,HF,HB8,HA8,HB28⟩
   case measure=>simp [intOf];omega
  ·obtain rfl:k=n:=by omega
   have hrow:=HRW.out;rw [show es.take k=es from List.take_of_length_le (by have:=HN.out;omega)] at hrow
   have sorting:∀ (wS:World) (gS cS:Nat),Row (fun g=>w.heap.size<=g) wS 46 3 (.slice (some ⟨gS,0,none⟩) (es.map Zn++l).length cS) (es.map Zn++l).length (Zk cEd (es.map Zn++l))->∃ ex,Calls Tryz.prog 106 #[.slice (some ⟨gS,0,none⟩) (es.map Zn++l).length cS,.func (.func 109) #[] #[]] wS (InP wS gS ex (es.map Zn++l) 0 (es.map Zn++l).length):=fun wS gS cS rowS=>by
    obtain ⟨ex,hro⟩:=daroe rowS;exact ⟨ex,sortst_any 109 dacmp wS gS cS (es.map Zn++l) ex hro (by have:=HN.out;have:=HM.out;simp;omega)⟩
   have HSO:=Za sorting;obtain ⟨ln,hln⟩:∃ ln,ln=(es.map Zn++l).length:=⟨_,rfl⟩;have hln2:ln=k+m:=by rw [hln];have:=HN.out;have:=HM.out;simp;omega
   have HL0:=Za hln
   have appd:∃ gS cS wS,(Builtin.append_ #[44,44] 44 #[.slice (some ⟨g,0,none⟩) k cp,.slice b m cb]).run Tryz.prog wr=.ok (.slice (some ⟨gS,0,none⟩) ln cS) wS/\Row (fun g=>w.heap.size<=g) wS 46 3 (.slice (some ⟨gS,0,none⟩) ln cS) (es.map Zn++l).length (Zk cEd (es.map Zn++l))/\Below w.heap.size w wS:=by
    by_cases hm0:m=0
    ·have hle:l=[]:=List.eq_nil_of_length_eq_zero (by rw [<- HM.out];exact hm0);subst hm0
     have hkc:k<=cp:=by
      obtain ⟨_,cap,hv,h1,_⟩:=hrow.form;injection hv with _ _ h3
      subst h3;have:=HN.out;simp at h1
      omega
     have hlk:ln=k:=by omega
     refine ⟨g,cp,wr,?_,?_,HBr.out⟩
     ·rw [hlk];exact app_zero Tryz.underlying44 hi0 hkc
     ·rw [hlk,hle,List.append_nil];exact hrow
    ·cases b with
     | none =>
      exfalso
      obtain ⟨x,hx⟩:∃ x,l[0]?=some x:=⟨l[0]'(by have:=HM.out;omega),List.getElem?_eq_getElem _⟩;obtain ⟨_,_,hn,_⟩:=HRB.out 0 x hx;cases hn
     | some y =>
      have hkl:k=(es.map Zn).length:=by have:=HN.out;simp;omega
      obtain ⟨v8,w8,RR,r8,o8,ow8⟩:=app_ed (cp:=cb) hrow (by have:=HN.out;have:=HM.out;simp;omega) HRB.out;obtain ⟨g8,c8,hv8,_,_,_,_,_,_⟩:=r8.shape (by have:=HM.out;simp;omega);rw [hv8,<- HM.out,<- hln] at RR;rw [hv8,<- hln] at r8;refine ⟨g8,c8,w8,RR,⟨by rw [<- hln];exact r8.1,fun g hg=>(r8.2 g hg).elim (fun z=>z) (fun z=>by have:=HBr.out.size;omega)⟩,Below.onl HBr.out o8 (fun i q=>HRW.out.2 i q) (Nat.le_refl _)⟩
   obtain ⟨gS,cS,wS,RR,rowS,bS⟩:=appd;rw [<- hln] at HSO;obtain ⟨ex,CS⟩:=HSO.out wS gS cS (by rw [<- hln] at rowS;exact rowS);have hgS:w.heap.size<=gS:=rowS.2 gS rfl;have HCS:=Za CS;have HBS:=Za bS;have HGS:=Za hgS;obtain ⟨z1,z2,z3⟩:=Zi RR;have HL2:=Za hln2;clear sorting hrow rowS bS RR CS hgS hln hln2;go_wp2_with fail
   refine HCS.out.mono ?_;rintro e' W3 ⟨rfl,d2,ro2,⟨t1,t2,t3,t4⟩,o3⟩;have HLN:Hid (d2.length=ln):=Za (by rw [t1.1,<- HL0.out])
   have HAP:Hid (ApR es l (Zg d2 ln)):=by
    have h4:=t4;rw [<- HLN.out] at h4 ⊢;exact Za (kept_apr t1 h4)
   have HRO:=Za ro2;have HB3:Hid (Below w.heap.size w W3):=Za (Below.onl HBS.out o3 (fun i q=>by rw [q];exact HGS.out) (Nat.le_refl _));have hlb2:ln<=1000000:=by have:=HL2.out;omega
   clear ro2 t1 t2 t3 t4 o3 HCS HSO HRW HRA HRB;go_wp2;go_loopw [8,39] (fun v i wr=>∃ (k:Nat) (va:Option Addr) (vc nk:Nat),k<=ln/\i=.int .i64 k/\v=.slice va nk vc/\Hid (nk=(Zg d2 k).length)/\Hid (Row (fun g=>W3.heap.size<=g) wr 43 2 (.slice va (Zg d2 k).length vc) (Zg d2 k).length (Zk cEn (Zg d2 k)))/\Hid (Below W3.heap.size W3 wr)) (fun _ i _=>ln - (intOf i).toNat)
   case atStart=>exact ⟨0,none,0,0,Nat.zero_le _,rfl,rfl,Za rfl,Za (Row.nil _ _ _ _),Za (Below.refl _ _)⟩
   case round =>
    clear z1 z2 z3;obtain ⟨k,va,vc,nk,hkk,rfl,rfl,HNK,HRW,HBr⟩:=hrel;by_cases hkl:k < ln
    ·obtain ⟨⟨xk,xv,xg⟩,hx⟩:∃ x,d2[k]?=some x:=⟨d2[k]'(by have:=HLN.out;omega),List.getElem?_eq_getElem _⟩;have ror:=HRO.out.old HBr.out;obtain ⟨c0,c1,c2⟩:=ror.cells hx;simp only at c0 c1 c2;obtain ⟨W1,hW1⟩:∃ W1,W1=wr.alloc (.cells #[.string xk,.string xv,.bool xg] 46):=⟨_,rfl⟩;have b1:Below wr.heap.size wr W1:=by rw [hW1];exact (Below.refl _ wr).alloc (Nat.le_refl _) _
     have kb:Ob W1 wr.heap.size 46 [.string xk,.string xv,.bool xg]:=by rw [hW1];exact Ob.new wr [.string xk,.string xv,.bool xg] 46
     have HB1:=Za b1;have HKB:=Za kb;have q0:=kb.cell 0;have q1:=kb.cell 1;have q2:=kb.cell 2;simp only [List.getElem?_cons_zero,List.getElem?_cons_succ] at q0 q1 q2;have HX:=Za hx;obtain ⟨k1,hkk1⟩:∃ k1,k1=k+1:=⟨_,rfl⟩;have wk:IntKind.i64.wrap ((k:Int)+1)=(k1:Int):=by rw [IntKind.wrap_i64];omega
     have wk2:(k:Int)+1=(k1:Int):=by omega
     have wk3:IntKind.i64.wrap (k1:Int)=(k1:Int):=by rw [IntKind.wrap_i64];omega
     have HKK:=Za hkk1;by_cases hk1:k1 < ln
     ·obtain ⟨⟨yk,yv,yg⟩,hy⟩:∃ x,d2[k1]?=some x:=⟨d2[k1]'(by have:=HLN.out;omega),List.getElem?_eq_getElem _⟩;obtain ⟨p0,_,_⟩:=(ror.old b1).cells hy;simp only at p0;have HY:=Za hy;have hd1:decide ((k1:Int) < (ln:Int))=true:=decide_eq_true (by omega);clear hx hy b1 kb ror hkk1;by_cases hyk:yk=xk
      ·have ht:(yk.toList == xk.toList)=true:=by rw [hyk];simp
       have HKE:Hid (Zg d2 k1=Zg d2 k):=by
        refine Za ?_;rw [HKK.out];show Zg d2 k++keepO d2 k=_
        rw [keep_no (fun z hz=>?_),List.append_nil];have h1:=hz.1;rw [HX.out] at h1;cases h1
        exact hz.2.2 _ (by rw [<- HKK.out];exact HY.out) hyk
       clear hyk;go_wp2;rw [<- hW1];clear hW1;go_quiet (fail)
       go_wp2;go_roundw
       case rel=>exact ⟨k1,va,vc,nk,by have:=HKK.out;omega,by simp,rfl,Za (by rw [HKE.out];exact HNK.out),Za (by rw [HKE.out];exact (HRW.out.onl (F:=fun _=>False) (Onl.ofBelow HB1.out) (fun _ _ q=>q)).onl (F:=fun _=>False) (Onl.ofBelow (below_drewN (Below.refl _ _) _)) (fun _ _ q=>q)),Za (below_drewN (HBr.out.trans (HB1.out.mono HBr.out.size)) _)⟩
       case measure=>have:=HKK.out;simp [intOf];omega
      ·have ht:(yk.toList == xk.toList)=false:=by
        cases q:(yk.toList == xk.toList) with
        | false=>rfl
        | true=>exact absurd (bytes_of_list (by simpa using q)) hyk
       cases xg with
       | true =>
        have HKE:Hid (Zg d2 k1=Zg d2 k):=by
         refine Za ?_;rw [HKK.out];show Zg d2 k++keepO d2 k=_
         rw [keep_no (fun z hz=>?_),List.append_nil];have h1:=hz.1;rw [HX.out] at h1;cases h1
         cases hz.2.1
        clear hyk;go_wp2;rw [<- hW1];clear hW1;go_quiet (fail)
        go_wp2;go_roundw
        case rel=>exact ⟨k1,va,vc,nk,by have:=HKK.out;omega,by simp,rfl,Za (by rw [HKE.out];exact HNK.out),Za (by rw [HKE.out];exact (HRW.out.onl (F:=fun _=>False) (Onl.ofBelow HB1.out) (fun _ _ q=>q)).onl (F:=fun _=>False) (Onl.ofBelow (below_drewN (Below.refl _ _) _)) (fun _ _ q=>q)),Za (below_drewN (HBr.out.trans (HB1.out.mono HBr.out.size)) _)⟩
        case measure=>have:=HKK.out;simp [intOf];omega
       | false =>
        have HKE:Hid (Zg d2 k1=Zg d2 k++[⟨xk,xv⟩]):=by
         refine Za ?_;rw [HKK.out];show Zg d2 k++keepO d2 k=_
         rw [keep_yes (x:=⟨xk,xv,false⟩) ⟨HX.out,rfl,fun z hz=>by rw [<- HKK.out,HY.out] at hz;cases hz;exact hyk⟩]
        clear hyk;go_wp2;rw [<- hW1];clear hW1;go_quiet (fail)
        obtain ⟨w5,hw5⟩:∃ w5,w5=W1.drewN nq:=⟨_,rfl⟩;have b5:Below W1.heap.size W1 w5:=by rw [hw5];exact below_drewN (Below.refl _ _) _
        have k5:=HKB.out.old b5;rw [<- hw5];obtain ⟨e,he⟩:∃ e:En,e=⟨xk,xv⟩:=⟨_,rfl⟩;obtain ⟨w6,hw6⟩:∃ w6,w6=w5.alloc (.cells (cEn e).toArray 43):=⟨_,rfl⟩;have bb6:Below w5.heap.size w5 w6:=by rw [hw6];exact (Below.refl _ w5).alloc (Nat.le_refl _) _
        have row6:=((HRW.out.onl (F:=fun _=>False) (Onl.ofBelow HB1.out) (fun _ _ q=>q)).onl (F:=fun _=>False) (Onl.ofBelow b5) (fun _ _ q=>q)).onl (F:=fun _=>False) (Onl.ofBelow bb6) (fun _ _ q=>q);have rd6:RdG cEn 2 w6 (some ⟨w5.heap.size,0,none⟩) [e]:=by rw [hw6];exact rd_lit _ _ e
        obtain ⟨v8,w8,RR,r8,o8,ow8⟩:=app_en (cp:=1) row6 (by have:=keptTo_len d2 k;simp;omega) rd6;obtain ⟨va8,vc8,hva8,_⟩:=r8.form;obtain ⟨n8,hn8⟩:∃ n8,n8=(Zg d2 k++[e]).length:=⟨_,rfl⟩;rw [hva8] at r8 RR;rw [show [e].length=1 from rfl,<- hn8,<- HNK.out] at RR;have htk:Zg d2 k1=Zg d2 k++[e]:=by rw [he];exact HKE.out
        have hs1:=HB1.out.size;have hs5:=b5.size;have hs6:w6.heap.size=w5.heap.size+1:=by rw [hw6,World.size_alloc]
        have hbr:=HBr.out.size;have hb8:Below W3.heap.size W3 w8:=Below.onl (((HBr.out.trans (HB1.out.mono HBr.out.size)).trans (b5.mono (by omega))).trans (bb6.mono (by omega))) o8 (fun i q=>HRW.out.2 i q) (Nat.le_refl _);have HB8:=Za hb8
        have HRF:Hid (Row (fun g=>W3.heap.size<=g) w8 43 2 (.slice va8 (Zg d2 k1).length vc8) (Zg d2 k1).length (Zk cEn (Zg d2 k1))):=by
         rw [htk];exact Za ⟨r8.1,fun g hg=>(r8.2 g hg).elim (fun z=>z) (fun z=>by omega)⟩
        have HN8:Hid (n8=(Zg d2 k1).length):=by rw [htk];exact Za hn8
        rw [hw6,he] at RR;simp only [cEn] at RR;have y0:=k5.cell 0;have y1:=k5.cell 1;simp only [List.getElem?_cons_zero,List.getElem?_cons_succ] at y0 y1;obtain ⟨z1,z2,z3⟩:=Zi RR;clear hw5 b5 k5 hw6 bb6 row6 rd6 r8 o8 ow8 hva8 hn8 RR htk hs1 hs5 hs6 hbr hb8 he q0 q1 q2;go_wp2;go_roundw
        case rel=>exact ⟨k1,va8,vc8,n8,by have:=HKK.out;omega,by simp,rfl,HN8,HRF,HB8⟩
        case measure=>have:=HKK.out;simp [intOf];omega
     ·have hd1:decide ((k1:Int) < (ln:Int))=false:=decide_eq_false (by omega);clear hx b1 kb ror hkk1;cases xg with
      | true =>
       have HKE:Hid (Zg d2 k1=Zg d2 k):=by
        refine Za ?_;rw [HKK.out];show Zg d2 k++keepO d2 k=_
        rw [keep_no (fun z hz=>?_),List.append_nil];have h1:=hz.1;rw [HX.out] at h1;cases h1
        cases hz.2.1
       go_wp2;rw [<- hW1];clear hW1;go_quiet (fail)
       go_wp2;go_roundw
       case rel=>exact ⟨k1,va,vc,nk,by have:=HKK.out;omega,by simp,rfl,Za (by rw [HKE.out];exact HNK.out),Za (by rw [HKE.out];exact (HRW.out.onl (F:=fun _=>False) (Onl.ofBelow HB1.out) (fun _ _ q=>q)).onl (F:=fun _=>False) (Onl.ofBelow (below_drewN (Below.refl _ _) _)) (fun _ _ q=>q)),Za (below_drewN (HBr.out.trans (HB1.out.mono HBr.out.size)) _)⟩
       case measure=>have:=HKK.out;simp [intOf];omega
      | false =>
       have HKE:Hid (Zg d2 k1=Zg d2 k++[⟨xk,xv⟩]):=by
        refine Za ?_;rw [HKK.out];show Zg d2 k++keepO d2 k=_
        rw [keep_yes (x:=⟨xk,xv,false⟩) ⟨HX.out,rfl,fun z hz=>by have:=(List.getElem?_eq_some_iff.1 hz).1;have:=HLN.out;have:=HKK.out;omega⟩]
       go_wp2;rw [<- hW1];clear hW1;go_quiet (fail)
       obtain ⟨w5,hw5⟩:∃ w5,w5=W1.drewN nq:=⟨_,rfl⟩;have b5:Below W1.heap.size W1 w5:=by rw [hw5];exact below_drewN (Below.refl _ _) _
       have k5:=HKB.out.old b5;rw [<- hw5];obtain ⟨e,he⟩:∃ e:En,e=⟨xk,xv⟩:=⟨_,rfl⟩;obtain ⟨w6,hw6⟩:∃ w6,w6=w5.alloc (.cells (cEn e).toArray 43):=⟨_,rfl⟩;have bb6:Below w5.heap.size w5 w6:=by rw [hw6];exact (Below.refl _ w5).alloc (Nat.le_refl _) _
       have row6:=((HRW.out.onl (F:=fun _=>False) (Onl.ofBelow HB1.out) (fun _ _ q=>q)).onl (F:=fun _=>False) (Onl.ofBelow b5) (fun _ _ q=>q)).onl (F:=fun _=>False) (Onl.ofBelow bb6) (fun _ _ q=>q);have rd6:RdG cEn 2 w6 (some ⟨w5.heap.size,0,none⟩) [e]:=by rw [hw6];exact rd_lit _ _ e
       obtain ⟨v8,w8,RR,r8,o8,ow8⟩:=app_en (cp:=1) row6 (by have:=keptTo_len d2 k;simp;omega) rd6;obtain ⟨va8,vc8,hva8,_⟩:=r8.form;obtain ⟨n8,hn8⟩:∃ n8,n8=(Zg d2 k++[e]).length:=⟨_,rfl⟩;rw [hva8] at r8 RR;rw [show [e].length=1 from rfl,<- hn8,<- HNK.out] at RR;have htk:Zg d2 k1=Zg d2 k++[e]:=by rw [he];exact HKE.out
       have hs1:=HB1.out.size;have hs5:=b5.size;have hs6:w6.heap.size=w5.heap.size+1:=by rw [hw6,World.size_alloc]
       have hbr:=HBr.out.size;have hb8:Below W3.heap.size W3 w8:=Below.onl (((HBr.out.trans (HB1.out.mono HBr.out.size)).trans (b5.mono (by omega))).trans (bb6.mono (by omega))) o8 (fun i q=>HRW.out.2 i q) (Nat.le_refl _);have HB8:=Za hb8
       have HRF:Hid (Row (fun g=>W3.heap.size<=g) w8 43 2 (.slice va8 (Zg d2 k1).length vc8) (Zg d2 k1).length (Zk cEn (Zg d2 k1))):=by
        rw [htk];exact Za ⟨r8.1,fun g hg=>(r8.2 g hg).elim (fun z=>z) (fun z=>by omega)⟩
       have HN8:Hid (n8=(Zg d2 k1).length):=by rw [htk];exact Za hn8
       rw [hw6,he] at RR;simp only [cEn] at RR;have y0:=k5.cell 0;have y1:=k5.cell 1;simp only [List.getElem?_cons_zero,List.getElem?_cons_succ] at y0 y1;obtain ⟨z1,z2,z3⟩:=Zi RR;clear hw5 b5 k5 hw6 bb6 row6 rd6 r8 o8 ow8 hva8 hn8 RR htk hs1 hs5 hs6 hbr hb8 he q0 q1 q2;go_wp2;go_roundw
       case rel=>exact ⟨k1,va8,vc8,n8,by have:=HKK.out;omega,by simp,rfl,HN8,HRF,HB8⟩
       case measure=>have:=HKK.out;simp [intOf];omega
    ·obtain rfl:k=ln:=by omega
     have HF:Hid (EnP (ApR es l) w (.returned (.slice va nk vc)) wr):=Za ⟨_,va,vc,by rw [HNK.out],HAP.out,HRW.out.mono (fun i hi=>by have:=HB3.out.size;omega),HB3.out.trans (HBr.out.mono HB3.out.size)⟩;clear HRW;go_wp2;go_ret
     exact HF.out
end
end Go.Proofs.YtdhebpnkfookcaaGreat
