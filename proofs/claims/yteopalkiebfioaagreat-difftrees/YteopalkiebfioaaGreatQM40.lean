import Derived.Test.YteopalkiebfioaaGreatQM39
set_option maxRecDepth 100000
set_option maxHeartbeats 4000000
namespace Go.Proofs.YteopalkiebfioaaGreat
open Go.RowKit Apo
open Classical in
theorem neqCh (f g:Ch) (w:World):(binOp .neq 49 (.agg #[.string f.k,.bool f.had,.string f.was,.bool f.has,.string f.now]) (.agg #[.string g.k,.bool g.had,.string g.was,.bool g.has,.string g.now])).run Tryz.prog w=.ok (.bool (!decide (f=g))) w:=by
 have u9:=Tryz.underlying9;have u4:=Tryz.underlying4;have hS:Tryz.prog.underlying 49=some (.struct (Tryz.prog.fieldsOf 49)):=by kernel_rfl
 have hp:Tryz.prog.stoodInHeld 49=false:=by kernel_rfl
 rw [run_neq_struct,show (10000:Nat)=9999+1 from rfl,run_equalIn_agg w 9999 49 _ _ hS hp]
 simp only [Program.fieldsOf,Tryz.underlying49];go_simp;obtain ⟨fk,fh,fw,fs,fn⟩:=f;obtain ⟨gk,gh,gw,gs,gn⟩:=g;simp only;by_cases h1:fk=gk
 ·by_cases h2:fh=gh
  ·by_cases h3:fw=gw
   ·by_cases h4:fs=gs
    ·by_cases h5:fn=gn
     ·simp [h1,h2,h3,h4,h5]
     ·have h5':¬ fn.toList=gn.toList:=fun e=>h5 (ZG e)
      simp [h1,h2,h3,h4,h5,h5']
    ·simp [h1,h2,h3,h4]
   ·have h3':¬ fw.toList=gw.toList:=fun e=>h3 (ZG e)
    simp [h1,h2,h3,h3']
  ·simp [h1,h2]
 ·have h1':¬ fk.toList=gk.toList:=fun e=>h1 (ZG e)
  simp [h1,h1']
open Classical in
theorem sameCh_any (a:Option Addr) (acap:Nat) (l:List Ch) (b:Option Addr) (bcap:Nat) (m:List Ch) (w:World) (ha:RdG cCh 5 w a l) (hb:RdG cCh 5 w b m) (hl:l.length<=9223372036854775807) :
  Calls Tryz.prog 12 #[.slice a l.length acap,.slice b m.length bcap] w fun e w'=>e=.returned (.bool (decide (l=m)))/\Below w.heap.size w w':=by
 have hA:=Za ha;have hB:=Za hb;clear ha hb;by_cases hlen:l.length=m.length
 ·rw [<- hlen];have HL:=Za hlen;clear hlen;go_enter Tryz.func12,Tryz.ntmps12
  go_wp2;go_loopw [13] (fun i wr=>∃ k:Nat,k<=l.length/\i=.int .i64 k/\Hid (l.take k=m.take k)/\Below w.heap.size w wr) (fun i _=>l.length - (intOf i).toNat)
  case atStart=>exact ⟨0,Nat.zero_le _,rfl,rfl,Below.refl _ _⟩
  case round =>
   obtain ⟨k,hk,rfl,hE,hbr⟩:=hrel;by_cases hlt:k < l.length
   ·have hz:l[k]?=some l[k]:=List.getElem?_eq_getElem hlt
    have hlt2:k < m.length:=by rw [<- HL.out];exact hlt
    have hy:m[k]?=some m[k]:=List.getElem?_eq_getElem hlt2
    generalize l[k]=f at hz;generalize m[k]=g at hy;obtain ⟨p,off,rfl,c0,c1,c2,c3,c4⟩:=(hA.out.below hbr).ch hz;obtain ⟨p',off',rfl,d0,d1,d2,d3,d4⟩:=(hB.out.below hbr).ch hy;have HZ:=Za hz;have HY:=Za hy;clear hz hy;have hm:Tryz.prog.eqGuardType Tryz.prog.depth 49=false:=by kernel_rfl
    have hcmp:=neqCh f g;by_cases hfg:f=g
    ·subst hfg;simp only [decide_true,Bool.not_true] at hcmp
     have hE':Hid (l.take (k+1)=m.take (k+1)):=by
      show _=_
      rw [List.take_add_one,List.take_add_one,HZ.out,HY.out,hE.out]
     go_wp2;go_quiet (fail)
     go_wp2;go_roundw
     case rel=>exact ⟨k+1,by omega,by go_num,hE',below_drewN hbr _⟩
     case measure=>simp [intOf];omega
    ·have hd:decide (f=g)=false:=by simp [hfg]
     simp only [hd,Bool.not_false] at hcmp
     have hE':Hid (l≠m):=by
      intro e;have h1:=HZ.out;rw [e,HY.out] at h1;exact hfg (by cases h1;rfl)
     go_wp2;go_quiet (fail)
     go_wp2;go_ret
     exact ⟨by simp [hE'.out],below_drewN hbr _⟩
   ·have hE':Hid (l=m):=by
     have h1:=hE.out;rw [List.take_of_length_le (by omega),List.take_of_length_le (by rw [<- HL.out];omega)] at h1
     exact h1
    go_wp2;go_ret
    exact ⟨by simp [hE'.out],hbr⟩
 ·have hne:l≠m:=fun e=>hlen (by rw [e])
  have hN:=Za hne;have hlb:((l.length:Int) == (m.length:Int))=false:=by simp;omega
  clear hne;go_enter Tryz.func12,Tryz.ntmps12
  go_wp2;go_ret
  exact ⟨by simp [hN.out],Below.refl _ _⟩
theorem take_gets {es:List En} {key:ByteArray} (hr:Zo es) (hk:∀ e r,es=e :: r->ZR e.k key=false):Gets es key (takeK es key).1.2 (takeK es key).1.1/\(∀ e ∈ (takeK es key).2,ZR key e.k=true)/\Zo (takeK es key).2/\∀ k v b,ZR key k=true->(Gets es k v b↔Gets (takeK es key).2 k v b):=by
 cases es with
 | nil=>exact ⟨.inr ⟨rfl,rfl,by simp⟩,by simp [takeK],hr,fun k v b _=>Iff.rfl⟩
 | cons e r =>
  unfold Zo at hr;rw [List.pairwise_cons] at hr;by_cases q:e.k=key
  ·have ht:takeK (e :: r) key=((true,e.v),r):=if_pos q;rw [ht];refine ⟨.inl ⟨rfl,e,by simp,q,rfl⟩,fun x hx=>by rw [<- q];exact hr.1 x hx,hr.2,fun k v b hkk=>?_⟩
   have hne:e.k≠k:=fun z=>by rw [q] at z;rw [z,Zr] at hkk;cases hkk
   unfold Gets;constructor
   ·rintro (⟨h1,x,hx,h2,h3⟩ | ⟨h1,h2,h3⟩)
    ·rcases List.mem_cons.1 hx with z | z
     ·rw [z] at h2;exact absurd h2 hne
     ·exact .inl ⟨h1,x,z,h2,h3⟩
    ·exact .inr ⟨h1,h2,fun x hx=>h3 x (by simp [hx])⟩
   ·rintro (⟨h1,x,hx,h2,h3⟩ | ⟨h1,h2,h3⟩)
    ·exact .inl ⟨h1,x,by simp [hx],h2,h3⟩
    ·refine .inr ⟨h1,h2,fun x hx=>?_⟩
     rcases List.mem_cons.1 hx with z | z
     ·rw [z];exact hne
     ·exact h3 x z
  ·have ht:takeK (e :: r) key=((false,⟨#[]⟩),e :: r):=if_neg q
   have hlt:ZR key e.k=true:=by
    cases z:ZR key e.k with
    | true=>rfl
    | false=>exact absurd (sLt_conn (hk e r rfl) z) q
   have hall:∀ x ∈ e :: r,ZR key x.k=true:=fun x hx=>by
    rcases List.mem_cons.1 hx with z | z
    ·rw [z];exact hlt
    ·exact ZQ hlt (hr.1 x z)
   rw [ht];refine ⟨.inr ⟨rfl,rfl,fun x hx z=>?_⟩,hall,List.pairwise_cons.2 hr,fun k v b _=>Iff.rfl⟩
   have:=hall x hx;rw [z,Zr] at this;cases this
theorem least_le {es fs:List En} {key:ByteArray} (h:leastK es fs=(key,true)):(∀ e r,es=e :: r->ZR e.k key=false)/\∀ e r,fs=e :: r->ZR e.k key=false:=by
 cases es with
 | nil=>cases fs with
  | nil=>cases h
  | cons f fs =>
   have:f.k=key:=by cases h;rfl
   exact ⟨(fun e r q=>by cases q),fun e r q=>by cases q;rw [this];exact Zr _⟩
 | cons e es=>cases fs with
  | nil =>
   have:e.k=key:=by cases h;rfl
   exact ⟨fun x r q=>(by cases q;rw [this];exact Zr _),fun x r q=>by cases q⟩
  | cons f fs =>
   simp only [leastK] at h;split at h
   ·rename_i hl
    have hk:f.k=key:=by cases h;rfl
    refine ⟨fun x r q=>?_,fun x r q=>by cases q;rw [hk];exact Zr _⟩
    cases q
    rw [<- hk];cases z:ZR e.k f.k with
    | false=>rfl
    | true =>
     have:=ZQ z hl;rw [Zr] at this;cases this
   ·rename_i hl
    have hk:e.k=key:=by cases h;rfl
    refine ⟨fun x r q=>(by cases q;rw [hk];exact Zr _),fun x r q=>?_⟩
    cases q
    rw [<- hk];simpa using hl
theorem OfR.is {es fs:List En} {cs:List Ch} (h:OfR es fs cs):Zo es->Zo fs->DiffC es fs cs:=by
 induction h with
 | done =>
  intro _ _;refine ⟨List.Pairwise.nil,fun c=>⟨fun q=>by simp at q,fun q=>?_⟩⟩
  obtain ⟨h1,h2,h3⟩:=q;rcases h1 with ⟨_,x,hx,_⟩ | ⟨a1,a2,_⟩
  ·simp at hx
  ·rcases h2 with ⟨_,x,hx,_⟩ | ⟨a3,a4,_⟩
   ·simp at hx
   ·exact absurd (by rw [a1,a2,a3,a4]) h3
 | @step es fs key cs hl hr ih =>
  intro r1 r2;obtain ⟨l1,l2⟩:=least_le hl;obtain ⟨g1,a1,s1,t1⟩:=take_gets r1 l1;obtain ⟨g2,a2,s2,t2⟩:=take_gets r2 l2;obtain ⟨i1,i2⟩:=ih s1 s2
  have hgt:∀ c ∈ cs,ZR key c.k=true:=fun c hc=>by
   obtain ⟨h1,h2,h3⟩:=(i2 c).1 hc;rcases h1 with ⟨_,x,hx,q,_⟩ | ⟨b1,b2,_⟩
   ·rw [<- q];exact a1 x hx
   ·rcases h2 with ⟨_,x,hx,q,_⟩ | ⟨b3,b4,_⟩
    ·rw [<- q];exact a2 x hx
    ·exact absurd (by rw [b1,b2,b3,b4]) h3
  have hiff:∀ c:Ch,ZR key c.k=true->(IsCh es fs c↔c ∈ cs):=fun c hc=>by
   rw [i2 c];unfold IsCh;rw [t1 _ _ _ hc,t2 _ _ _ hc]
  have hkey:∀ c:Ch,IsCh es fs c->c.k=key\/ZR key c.k=true:=fun c hc=>by
   by_cases q:c.k=key
   ·exact .inl q
   ·right
    have hin:∀ {l:List En},Zo l->(∀ e r,l=e :: r->ZR e.k key=false)->∀ x ∈ l,x.k=key\/ZR key x.k=true:=fun {l} hr hh x hx=>by
     cases l with
     | nil=>simp at hx
     | cons e r =>
      unfold Zo at hr;rw [List.pairwise_cons] at hr;have he:=hh e r rfl
      have hle:e.k=key\/ZR key e.k=true:=by
       cases z:ZR key e.k with
       | true=>exact .inr rfl
       | false=>exact .inl (sLt_conn he z)
      rcases List.mem_cons.1 hx with z | z
      ·rw [z];exact hle
      ·right
       rcases hle with y | y
       ·rw [<- y];exact hr.1 x z
       ·exact ZQ y (hr.1 x z)
    obtain ⟨h1,h2,h3⟩:=hc;rcases h1 with ⟨_,x,hx,z,_⟩ | ⟨b1,b2,_⟩
    ·rw [<- z];exact (hin r1 l1 x hx).resolve_left (by rw [z];exact q)
    ·rcases h2 with ⟨_,x,hx,z,_⟩ | ⟨b3,b4,_⟩
     ·rw [<- z];exact (hin r2 l2 x hx).resolve_left (by rw [z];exact q)
     ·exact absurd (by rw [b1,b2,b3,b4]) h3
  by_cases heq:(takeK es key).1=(takeK fs key).1
  ·rw [chOf,if_pos heq,List.nil_append];refine ⟨i1,fun c=>⟨fun q=>(hiff c (hgt c q)).2 q,fun q=>?_⟩⟩
   rcases hkey c q with z | z
   ·exfalso
    obtain ⟨h1,h2,h3⟩:=q;rw [z] at h1 h2;obtain ⟨e1,e2⟩:=Z7 r1 h1 g1;obtain ⟨e3,e4⟩:=Z7 r2 h2 g2;exact h3 (by rw [e1,e2,e3,e4];exact heq)
   ·exact (hiff c z).1 q
  ·rw [chOf,if_neg heq];refine ⟨?_,fun c=>?_⟩
   ·unfold Rise;rw [List.map_append,List.pairwise_append];refine ⟨by simp,i1,fun x hx y hy=>?_⟩
    simp only [List.map_cons,List.map_nil,List.mem_singleton] at hx;subst hx;obtain ⟨c,hc,rfl⟩:=List.mem_map.1 hy;exact hgt c hc
   ·rw [List.mem_append,List.mem_singleton];constructor
    ·rintro (rfl | q)
     ·exact ⟨g1,g2,heq⟩
     ·exact (hiff c (hgt c q)).2 q
    ·intro q;rcases hkey c q with z | z
     ·left
      obtain ⟨ck,chad,cwas,chas,cnow⟩:=c;simp only at z;subst z;obtain ⟨h1,h2,h3⟩:=q;obtain ⟨e1,e2⟩:=Z7 r1 h1 g1;obtain ⟨e3,e4⟩:=Z7 r2 h2 g2;simp only at e1 e2 e3 e4;rw [e1,e2,e3,e4]
     ·exact .inr ((hiff c z).1 q)
theorem of_one {a x y:ByteArray} {cs:List Ch} (hne:x≠y) (h:OfR [⟨a,x⟩] [⟨a,y⟩] cs):cs=[⟨a,true,x,true,y⟩]:=by
 refine DiffC.uniq (h.is (by simp [Zo]) (by simp [Zo])) ⟨by simp [Rise],fun c=>?_⟩
 rw [List.mem_singleton];constructor
 ·rintro rfl;exact ⟨.inl ⟨rfl,_,List.mem_singleton.2 rfl,rfl,rfl⟩,.inl ⟨rfl,_,List.mem_singleton.2 rfl,rfl,rfl⟩,fun q=>hne (by injection q)⟩
 ·rintro ⟨h1,h2,h3⟩;obtain ⟨ck,chad,cwas,chas,cnow⟩:=c;simp only at h1 h2 h3
  have key:ck=a:=by
   rcases h1 with ⟨_,e,he,q,_⟩ | ⟨a1,a2,_⟩
   ·rw [List.mem_singleton] at he;rw [he] at q;exact q.symm
   ·rcases h2 with ⟨_,e,he,q,_⟩ | ⟨a3,a4,_⟩
    ·rw [List.mem_singleton] at he;rw [he] at q;exact q.symm
    ·exact absurd (by rw [a1,a2,a3,a4]) h3
  subst key;obtain ⟨e1,e2⟩:=Z7 (es:=[⟨ck,x⟩]) (by simp [Zo]) h1 (.inl ⟨rfl,_,List.mem_singleton.2 rfl,rfl,rfl⟩)
  obtain ⟨e3,e4⟩:=Z7 (es:=[⟨ck,y⟩]) (by simp [Zo]) h2 (.inl ⟨rfl,_,List.mem_singleton.2 rfl,rfl,rfl⟩)
  rw [e1,e2,e3,e4]
theorem awake11 (w:World):Calls Tryz.prog 4 #[] w fun e w'=>e=.returned (.bool true)/\Below w.heap.size w w':=by
 obtain ⟨W0,hW0⟩:∃ W0,W0=(w.alloc (.cells #[.string ⟨#[97]⟩,.string ⟨#[49]⟩] 47)).alloc (.cells #[.string ⟨#[97]⟩,.string ⟨#[50]⟩] 47):=⟨_,rfl⟩;have b0:Below w.heap.size w W0:=by rw [hW0];exact ((Below.refl _ w).alloc (Nat.le_refl _) _).alloc (by simp) _
 have r1:RdEn W0 (some ⟨w.heap.size,0,none⟩) [⟨⟨#[97]⟩,⟨#[49]⟩⟩]:=by
  rw [hW0];exact (RdG.en.1 (rd_lit (c:=cEn) (k:=2) 47 w ⟨⟨#[97]⟩,⟨#[49]⟩⟩)).below ((Below.refl _ _).alloc (Nat.le_refl _) _)
 have r2:RdEn W0 (some ⟨w.heap.size+1,0,none⟩) [⟨⟨#[97]⟩,⟨#[50]⟩⟩]:=by
  rw [hW0];have:=RdG.en.1 (rd_lit (c:=cEn) (k:=2) 47 (w.alloc (.cells #[.string ⟨#[97]⟩,.string ⟨#[49]⟩] 47)) ⟨⟨#[97]⟩,⟨#[50]⟩⟩);rw [World.size_alloc] at this;exact this
 have C:=dof_any W0 _ _ 1 1 _ _ r1 r2 (by simp) (by simp) (by simp) (by simp) (by decide) (by decide)
 simp only [List.length_cons,List.length_nil,Nat.zero_add] at C;have HC:=Za C;have HB:=Za b0;clear C r1 r2 b0;go_enter Tryz.func4,Tryz.ntmps4
 go_wp2_with fail
 rw [<- hW0];clear hW0;refine HC.out.mono ?_;rintro e' w1 ⟨cs,va,vc,rfl,hof,row,b1⟩;obtain rfl:=of_one (by decide) hof
 obtain ⟨a',cp',hv',rd',_⟩:=ZV cCh_len row;injection hv' with e1 e2 e3
 subst e1 e3;obtain ⟨g,o,rfl,c0,c1,c2,c3,c4⟩:=rd'.ch (i:=0) rfl;simp only [Nat.zero_mul,Nat.add_zero] at c0 c1 c2 c3 c4;have HB2:=Za (HB.out.trans (b1.mono HB.out.size));clear hof row b1 rd' e2 HB HC;simp only [List.length_cons,List.length_nil,Nat.zero_add];go_wp2;go_ret
 exact ⟨rfl,HB2.out⟩
open Classical in
noncomputable def mapB (l:List En):Bool:=lightB l && decide (Z8 l=0)
theorem mapB_ok {l:List En} (h:mapB l=true):l.length<=60/\MapOk l/\Zo l:=by
 unfold mapB at h;rw [Bool.and_eq_true,decide_eq_true_eq] at h;have h2:=rightE_map h.2;have h1:=h.1;unfold lightB at h1;rw [Bool.and_eq_true,decide_eq_true_eq] at h1;exact ⟨h1.2,h2,riseE_iff.2 h2.rise⟩
theorem map11 (w:World) (x:EsA) (hx:OkEs w x):Calls Tryz.prog 5 #[.slice x.a x.l.length x.c] w fun e w'=>e=.returned (.bool (mapB x.l))/\Below w.heap.size w w':=by
 obtain ⟨a,c,es⟩:=x;simp only;have hml:maxLen<=9223372036854775807:=by decide
 have hbig:=hx.big;have hlen:=hx.len;simp only at hbig hlen;have C1:=light_any w a c es hx.rd (by omega) hx.sz
 have HC1:=Za C1;have HX:=Za hx;obtain ⟨n,hn⟩:∃ n,n=es.length:=⟨_,rfl⟩;have HN:=Za hn;rw [<- hn] at HC1 ⊢;clear hbig hlen hn hx C1;cases hl:lightB es with
 | false =>
  have hm:mapB es=false:=by unfold mapB;rw [hl];rfl
  rw [hl] at HC1;rw [hm];clear hl hm;go_enter Tryz.func5,Tryz.ntmps5
  go_wp2_with fail
  refine HC1.out.mono ?_;rintro e' w1 ⟨rfl,b1⟩;go_wp2;go_ret
  exact ⟨rfl,b1⟩
 | true =>
  have hn60:es.length<=60:=by
   have h1:=hl;unfold lightB at h1;rw [Bool.and_eq_true,decide_eq_true_eq] at h1;exact h1.2
  have C2:∀ W,Below w.heap.size w W->Calls Tryz.prog 17 #[.slice a n c] W (RrP es W):=fun W b=>by
   have:=rright_any W a c es (HX.out.rd.below b) (by omega) HX.out.sz
   rwa [<- HN.out] at this
  have HC2:=Za C2;have hm:mapB es=decide (Z8 es=0):=by unfold mapB;rw [hl];rfl
  rw [hl] at HC1;rw [hm];clear C2 hl hm;obtain ⟨r,hr⟩:∃ r,r=Z8 es:=⟨_,rfl⟩;unfold RrP at HC2;rw [<- hr] at HC2 ⊢;clear hr;go_enter Tryz.func5,Tryz.ntmps5
  go_wp2_with fail
  refine HC1.out.mono ?_;rintro e' w1 ⟨rfl,b1⟩;have HC2':=Za (HC2.out w1 b1);go_wp2_with fail
  refine HC2'.out.mono ?_;rintro e' w2 ⟨rfl,b2⟩;have HB:=Za (b1.trans (b2.mono b1.size));clear b1 b2;go_wp2;go_ret
  refine ⟨?_,HB.out⟩;by_cases q:r=0
  ·simp [q]
  ·simp [q]
end Go.Proofs.YteopalkiebfioaaGreat
namespace Apo
open Go Go.RowKit
open Go.MapKept
open Go.Maps (Keyed)
def kK (f:Ki):Lit:=.string (keyBytes [.string f.k.data.toList,.int .u64 (f.i:Int)])
def kidV (f:Ki):Value:=.agg #[.string f.k,.int .u64 (f.i:Int)]
def OkK (f:Ki):Prop:=f.k.size<=maxLen/\f.i < 18446744073709551616
structure KidKeys (P:Program) (k:TypeId):Prop where
 keyed:Keyed P k
 lit:∀ f,OkK f->keyOf P k (kidV f)=some (kK f)
theorem KidKeys.inj {P:Program} {k:TypeId} (K:KidKeys P k) {f g:Ki} (hf:OkK f) (hg:OkK g) (h:kK f=kK g):f=g:=by
 have:=K.keyed.inj (K.lit f hf) ((K.lit g hg).trans (by rw [h]))
 unfold kidV at this;simp only [Value.agg.injEq,Array.mk.injEq,List.cons.injEq,Value.string.injEq,Value.int.injEq,true_and,and_true] at this;obtain ⟨a,b⟩:=f;obtain ⟨c,d⟩:=g;simp only at this;obtain ⟨h1,h2⟩:=this;rw [h1];congr 1
 omega
theorem kK_key (f:Ki):WideAt.IsKeyLit (kK f):=trivial
structure MkD (D:DataW Value) (L:List Ki) (z:Value):Prop where
 has:∀ f,OkK f->(Maps.has D (kK f)=true↔f ∈ L)
 get:∀ f,OkK f->f ∈ L->∀ y,D.atKey (kK f) y=.held z
def Mk (P:Program) (k:TypeId) (w:World) (b c:Nat) (L:List Ki) (z:Value):Prop:=∃ D:DataW Value,w.ownsMap P k heldR b (Maps.size D) D/\MkD D L z/\Maps.size D<=c
section
variable {P:Program} {k t e:TypeId} {w w':World} {b c:Nat} {L:List Ki} {z:Value}
theorem Mk.lt (h:Mk P k w b c L z):b < w.heap.size:=by obtain ⟨D,h,_⟩:=h;exact h.lt
theorem Mk.onl {F:Nat->Prop} (h:Mk P k w b c L z) (o:Onl F w w') (hb:¬ F b):Mk P k w' b c L z:=by
 have hl:=h.lt;obtain ⟨D,⟨es,c,h1,h2⟩,m⟩:=h;exact ⟨D,⟨es,c,(o.block b hl hb).trans h1,h2⟩,m⟩
theorem Mk.below (h:Mk P k w b c L z) (o:Below w.heap.size w w'):Mk P k w' b c L z:=h.onl (F:=fun _=>False) (Onl.ofBelow o) id
theorem Mk.made (w:World) (P:Program) (k:TypeId) (z:Value):Mk P k (w.alloc (.map #[] 0)) w.heap.size 0 [] z :=
 ⟨.map [],World.ownsMap_made w P k heldR,⟨fun _ _=>⟨(fun h=>by cases h),(fun h=>by simp at h)⟩,(fun _ _ h=>by simp at h)⟩,by simp [Maps.size_eq]⟩
open Classical in
theorem Mk.look2 (K:KidKeys P k) (h:Mk P k w b c L z) (ht:P.underlying t=some (.map k e)) (hz:∀ W,(zeroValue e).run P W=.ok z W) {f:Ki} (hf:OkK f) :
  (Instr.lookup t (.map (some b)) (kidV f) true).run P w=.ok (.tuple #[z,.bool (decide (f ∈ L))]) w:=by
 obtain ⟨D,h,m,_⟩:=h;obtain ⟨v,ps,h1,h2⟩:=h.look_ok K.keyed ht (hz w) (zd:=.held z) (zp:=[]) rfl (K.lit f hf);have h3:DataW.held v=D.atKey (kK f) (.held z):=by simp [heldR] at h2;exact h2.1
 have hh:Maps.has D (kK f)=decide (f ∈ L):=by
  rw [Bool.eq_iff_iff];simp only [decide_eq_true_eq];exact m.has f hf
 rw [h1,hh];by_cases q:f ∈ L
 ·rw [m.get f hf q] at h3;cases h3
  rfl
 ·rw [Maps.atKey_of_not_has (by simpa [q] using hh)] at h3
  cases h3
  rfl
theorem MkD.put (K:KidKeys P k) {D:DataW Value} (m:MkD D L z) (hD:Maps.IsMap D) {f:Ki} (hf:OkK f):MkD (D.put (kK f) (.held z)) (f :: L) z:=by
 refine ⟨fun g hg=>?_,fun g hg hm y=>?_⟩
 ·by_cases q:g=f
  ·subst q;rw [Maps.has_put_same hD (kK_key _)];simp
  ·rw [Maps.has_put_other (fun e=>q (K.inj hg hf e)),m.has g hg]
   simp [q]
 ·by_cases q:g=f
  ·subst q;exact Maps.atKey_put_same hD (kK_key _) _ _
  ·rw [Maps.atKey_put_other (fun e=>q (K.inj hg hf e)),m.get g hg (by simpa [q] using hm)]
theorem Mk.store (K:KidKeys P k) (h:Mk P k w b c L z) (ht:P.underlying t=some (.map k e)) (hc:c < 1000000) {f:Ki} (hf:OkK f) :
  ∃ w',(Instr.mapUpdate t (.map (some b)) (kidV f) z).run P w=.ok () w'/\Mk P k w' b (c+1) (f :: L) z/\w.mapTurned w' b:=by
 obtain ⟨D,h,m,hl⟩:=h;obtain ⟨w',h1,h2,h3⟩:=h.store K.keyed ht (show Maps.size D < maxLen by unfold maxLen;omega) (K.lit f hf) (val:=z) (d:=.held z) (ps:=[]) rfl
 have hput:MkD (D.put (kK f) (.held z)) (f :: L) z:=m.put K h.isMap hf;refine ⟨w',h1,⟨_,?_,hput,?_⟩,h3⟩
 ·obtain ⟨es,c,q1,q2,q3,q4⟩:=h2;refine ⟨es,c,q1,q2,?_,q4⟩;rw [q4];simp [Maps.size,length_sorted]
 ·have ht:=h.tidy K.keyed;rw [Maps.size_put ht];split <;> omega
end
end Apo
namespace Go.Proofs.YteopalkiebfioaaGreat
open Go.RowKit Apo
def runC {α:Type} (p:α->Bool):List (List α) × List α->List α->List (List α) × List α
 | s,[]=>s
 | s,x :: l=>runC p (if p x=true then (s.1++[s.2++[x]],[]) else (s.1,s.2++[x])) l
def endC {α:Type} (s:List (List α) × List α):List (List α):=s.1++(if s.2.length=0 then [] else [s.2])
theorem runC_app {α:Type} (p:α->Bool):∀ (l m:List α) (s:List (List α) × List α),runC p s (l++m)=runC p (runC p s l) m
 | [],_,_=>rfl
 | _ :: l,m,_=>runC_app p l m _
theorem runC_pre {α:Type} (p:α->Bool):∀ (l:List α) (a:List (List α)) (s:List (List α) × List α),runC p (a++s.1,s.2) l=(a++(runC p s l).1,(runC p s l).2)
 | [],_,_=>rfl
 | x :: l,a,s=>by
  show runC p (if p x=true then (a++s.1++[s.2++[x]],[]) else (a++s.1,s.2++[x])) l=(a++(runC p (if p x=true then (s.1++[s.2++[x]],[]) else (s.1,s.2++[x])) l).1,(runC p (if p x=true then (s.1++[s.2++[x]],[]) else (s.1,s.2++[x])) l).2)
  split
  ·rw [<- runC_pre p l a (s.1++[s.2++[x]],[]),List.append_assoc]
  ·rw [<- runC_pre p l a (s.1,s.2++[x])]
theorem runC_cut {α:Type} (p:α->Bool) (l:List α):∀ k,k<=l.length->ZY p l k=runC p ([],[]) (l.take k)
 | 0,_=>by simp [ZY,runC]
 | k+1,hk=>by
  have h1:l[k]?=some (l[k]'(by omega)):=List.getElem?_eq_getElem _
  have h2:l.take (k+1)=l.take k++[l[k]'(by omega)]:=by rw [List.take_add_one,h1];rfl
  rw [cutK_step h1,h2,runC_app,<- runC_cut p l k (by omega)]
  rfl
theorem split_run {α:Type} (p:α->Bool) (l:List α):Ze p l=endC (runC p ([],[]) l):=by
 rw [cut_split,runC_cut p l l.length (Nat.le_refl _),List.take_length];rfl
def NearR {α:Type} (key:α->ByteArray) (L L':List α):Prop :=
 ∃ P M M' S,L=P++M++S/\L'=P++M'++S/\M.length<=2/\M'.length<=2/\(S=[]\/∃ x y,M.getLast?=some x/\M'.getLast?=some y/\key x=key y)
theorem run_begun {α:Type} (p:α->Bool):∀ (l:List α) (c:List α),(∀ x ∈ l,p x=false)->runC p ([],c) l=([],c++l)
 | [],c,_=>by simp [runC]
 | x :: l,c,h=>by
  show runC p (if p x=true then ([]++[c++[x]],[]) else ([],c++[x])) l=_
  rw [if_neg (by rw [h x (by simp)];simp),run_begun p l (c++[x]) (fun y hy=>h y (by simp [hy]))]
  simp
theorem first_end {α:Type} (p:α->Bool):∀ S:List α,(∀ x ∈ S,p x=false)\/∃ A z B,S=A++z :: B/\(∀ x ∈ A,p x=false)/\p z=true
 | []=>.inl (by simp)
 | x :: S=>by
  cases hx:p x with
  | true=>exact .inr ⟨[],x,S,rfl,by simp,hx⟩
  | false =>
   rcases first_end p S with h | ⟨A,z,B,h1,h2,h3⟩
   ·exact .inl (fun y hy=>by rcases List.mem_cons.1 hy with rfl | q;exact hx;exact h y q)
   ·exact .inr ⟨x :: A,z,B,by rw [h1];rfl,fun y hy=>by rcases List.mem_cons.1 hy with rfl | q;exact hx;exact h2 y q,h3⟩
theorem run_len {α:Type} (p:α->Bool):∀ (l:List α) (s:List (List α) × List α),(runC p s l).1.length<=s.1.length+l.length
 | [],_=>by simp [runC]
 | x :: l,s=>by
  have h:=run_len p l (if p x=true then (s.1++[s.2++[x]],[]) else (s.1,s.2++[x]))
  have h2:(if p x=true then (s.1++[s.2++[x]],[]) else (s.1,s.2++[x])).1.length<=s.1.length+1:=by split <;> simp
  show (runC p (if p x=true then (s.1++[s.2++[x]],[]) else (s.1,s.2++[x])) l).1.length<=_
  rw [List.length_cons];omega
theorem run_from {α:Type} (p:α->Bool) (R:List (List α)) (c l:List α):runC p (R,c) l=(R++(runC p ([],c) l).1,(runC p ([],c) l).2):=by
 have:=runC_pre p l R ([],c);simpa using this
theorem endC_pre {α:Type} (R A:List (List α)) (c:List α):endC (R++A,c)=R++endC (A,c):=by simp [endC]
theorem run_last {α:Type} (p:α->Bool) {M:List α} {m:α} (h:M.getLast?=some m) (c:List α) :
  (p m=true->∃ Q e,runC p ([],c) M=(Q++[e++[m]],[])/\Q.length+1<=M.length)/\(p m=false->∃ Q e,runC p ([],c) M=(Q,e++[m])/\Q.length+1<=M.length):=by
 obtain ⟨N,rfl⟩:=List.getLast?_eq_some_iff.1 h
 have hl:=run_len p N ([],c);rw [runC_app];generalize runC p ([],c) N=q at hl;obtain ⟨Q,d⟩:=q;simp only [List.length_nil,Nat.zero_add] at hl;constructor
 ·intro hm;refine ⟨Q,d,?_,by simp;omega⟩
  show (if p m=true then (Q++[d++[m]],[]) else (Q,d++[m]))=_
  rw [if_pos hm]
 ·intro hm;refine ⟨Q,d,?_,by simp;omega⟩
  show (if p m=true then (Q++[d++[m]],[]) else (Q,d++[m]))=_
  rw [if_neg (by rw [hm];simp)]
def keyRow {α:Type} (key:α->ByteArray) (r:List α):ByteArray:=match r.getLast? with
 | some x=>key x
 | none=>ByteArray.empty
theorem keyRow_snoc {α:Type} (key:α->ByteArray) (r:List α) (x:α):keyRow key (r++[x])=key x:=by simp [keyRow]
theorem run_end {α:Type} (p:α->Bool) (c M:List α) (h:M.length<=2):(endC (runC p ([],c) M)).length<=2:=by
 cases hq:M.getLast? with
 | none =>
  have:M=[]:=by simpa using hq
  subst this;unfold runC endC;simp only [List.nil_append];split <;> simp
 | some m =>
  obtain ⟨h1,h2⟩:=run_last p hq c;cases hm:p m with
  | true =>
   obtain ⟨Q,e,e1,e2⟩:=h1 hm;rw [e1];simp [endC]
   omega
  | false =>
   obtain ⟨Q,e,e1,e2⟩:=h2 hm;rw [e1];simp [endC]
   omega
theorem NearR.split {α:Type} {key:α->ByteArray} {p:α->Bool} (hp:∀ x y,key x=key y->p x=p y) {L L':List α} (h:NearR key L L'):NearR (keyRow key) (Ze p L) (Ze p L'):=by
 obtain ⟨P,M,M',S,rfl,rfl,hM,hM',hS⟩:=h
 have hsp:∀ X:List α,Ze p (P++X++S)=(runC p ([],[]) P).1++endC (runC p ([],(runC p ([],[]) P).2) (X++S)):=fun X=>by
  rw [split_run,List.append_assoc,runC_app];generalize runC p ([],[]) P=q;obtain ⟨R,c⟩:=q;rw [run_from,endC_pre]
 rw [hsp,hsp];generalize (runC p ([],[]) P).1=R;generalize (runC p ([],[]) P).2=c;rcases hS with rfl | ⟨x,y,hx,hy,hxy⟩
 ·rw [List.append_nil,List.append_nil];exact ⟨R,_,_,[],by simp,by simp,run_end p c M hM,run_end p c M' hM',.inl rfl⟩
 ·obtain ⟨a1,a2⟩:=run_last p hx c;obtain ⟨b1,b2⟩:=run_last p hy c;have hpe:=hp x y hxy;cases hpx:p x with
  | true =>
   obtain ⟨Q,e,e1,e2⟩:=a1 hpx;obtain ⟨Q',e',e1',e2'⟩:=b1 (by rw [<- hpe];exact hpx)
   rw [runC_app,runC_app,e1,e1',run_from p (Q++[e++[x]]),run_from p (Q'++[e'++[y]]),endC_pre,endC_pre];refine ⟨R,Q++[e++[x]],Q'++[e'++[y]],endC (runC p ([],[]) S),by simp,by simp,by simp;omega,by simp;omega,.inr ⟨e++[x],e'++[y],by simp,by simp,?_⟩⟩
   rw [keyRow_snoc,keyRow_snoc];exact hxy
  | false =>
   obtain ⟨Q,e,e1,e2⟩:=a2 hpx;obtain ⟨Q',e',e1',e2'⟩:=b2 (by rw [<- hpe];exact hpx)
   rw [runC_app,runC_app,e1,e1',run_from p Q,run_from p Q'];rcases first_end p S with hn | ⟨A,z,B,rfl,hA,hz⟩
   ·rw [run_begun p S _ hn,run_begun p S _ hn];refine ⟨R,endC (Q++[],e++[x]++S),endC (Q'++[],e'++[y]++S),[],by simp,by simp,?_,?_,.inl rfl⟩
    ·simp [endC];omega
    ·simp [endC];omega
   ·have hrun:∀ d:List α,runC p ([],d) (A++z :: B)=([d++A++[z]]++(runC p ([],[]) B).1,(runC p ([],[]) B).2):=fun d=>by
     rw [runC_app,run_begun p A d hA];show runC p (if p z=true then ([]++[d++A++[z]],[]) else ([],d++A++[z])) B=_
     rw [if_pos hz,List.nil_append,run_from]
    rw [hrun,hrun];simp only;rw [<- List.append_assoc,<- List.append_assoc,endC_pre,endC_pre];refine ⟨R,Q++[e++[x]++A++[z]],Q'++[e'++[y]++A++[z]],endC ((runC p ([],[]) B).1,(runC p ([],[]) B).2),by simp,by simp,by simp;omega,by simp;omega,.inr ⟨e++[x]++A++[z],e'++[y]++A++[z],by simp,by simp,?_⟩⟩
    rw [keyRow_snoc,keyRow_snoc]
theorem NearR.map {α β:Type} {key:α->ByteArray} {key':β->ByteArray} (f:α->β) (hf:∀ x,key' (f x)=key x) {L L':List α} (h:NearR key L L'):NearR key' (L.map f) (L'.map f):=by
 obtain ⟨P,M,M',S,rfl,rfl,hM,hM',hS⟩:=h;refine ⟨P.map f,M.map f,M'.map f,S.map f,by simp,by simp,by simpa using hM,by simpa using hM',?_⟩
 rcases hS with rfl | ⟨x,y,hx,hy,hxy⟩
 ·exact .inl rfl
 ·exact .inr ⟨f x,f y,by rw [List.getLast?_map,hx];rfl,by rw [List.getLast?_map,hy];rfl,by rw [hf,hf];exact hxy⟩
theorem NearR.count {α:Type} {key:α->ByteArray} (q:α->Bool) {L L':List α} (h:NearR key L L'):L'.countP q<=L.countP q+2:=by
 obtain ⟨P,M,M',S,rfl,rfl,hM,hM',_⟩:=h;simp only [List.countP_append];have:=List.countP_le_length (p:=q) (l:=M');omega
theorem NearR.len {α:Type} {key:α->ByteArray} {L L':List α} (h:NearR key L L'):L'.length<=L.length+2:=by
 obtain ⟨P,M,M',S,rfl,rfl,hM,hM',_⟩:=h;simp only [List.length_append];omega
end Go.Proofs.YteopalkiebfioaaGreat
