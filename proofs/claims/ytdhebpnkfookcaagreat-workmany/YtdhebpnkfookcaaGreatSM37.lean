import Derived.Lib.Bytealg
import Derived.Test.YtdhebpnkfookcaaGreatSM36
set_option maxRecDepth 100000
set_option maxHeartbeats 4000000
namespace Go.Proofs.YtdhebpnkfookcaaGreat
open Go.RowKit Apo
def cmpS (a b:ByteArray):Int:=Lib.compareBytes a.data.toList b.data.toList
theorem cb_lt:∀ x y:List UInt8,(Lib.compareBytes x y < 0↔Op.bytesLess x y=true)/\(Lib.compareBytes x y=0↔x=y)/\-1<=Lib.compareBytes x y/\Lib.compareBytes x y<=1
 | [],[]=>by simp [Lib.compareBytes,Op.bytesLess]
 | [],_ :: _=>by simp [Lib.compareBytes,Op.bytesLess]
 | _ :: _,[]=>by simp [Lib.compareBytes,Op.bytesLess]
 | a :: x,b :: y=>by
  have ih:=cb_lt x y;unfold Lib.compareBytes;by_cases h1:a < b
  ·rw [if_pos h1];refine ⟨by simp [Op.bytesLess,h1],⟨fun q=>by simp at q,fun q=>?_⟩,by omega,by omega⟩;have:a=b:=by injection q
   subst this;exact absurd h1 (UInt8.lt_irrefl a)
  ·rw [if_neg h1];by_cases h2:b < a
   ·rw [if_pos h2];have hne:a≠b:=fun q=>by subst q;exact UInt8.lt_irrefl a h2
    refine ⟨by simp [Op.bytesLess,h1,hne],⟨fun q=>by simp at q,fun q=>?_⟩,by omega,by omega⟩;injection q with q
    exact absurd q hne
   ·rw [if_neg h2]
    have hab:a=b:=by
     rw [UInt8.not_lt] at h1 h2;exact UInt8.le_antisymm h2 h1
    subst hab;refine ⟨?_,?_,ih.2.2.1,ih.2.2.2⟩
    ·rw [ih.1];simp [Op.bytesLess]
    ·rw [ih.2.1];simp
theorem cmpS_lt {a b:ByteArray}:cmpS a b < 0↔ZQ a b=true:=by
 unfold cmpS ZQ;rw [ByteArray.toList_eq,ByteArray.toList_eq];exact (cb_lt _ _).1
theorem cmpS_eq {a b:ByteArray}:cmpS a b=0↔a=b:=by
 unfold cmpS;rw [(cb_lt _ _).2.1];exact ⟨fun q=>ByteArray.ext (Array.ext' q),fun q=>by rw [q]⟩
theorem cmpstring_any (a b:ByteArray) (w:World):Calls Tryz.prog 119 #[.string a,.string b] w fun e w'=>e=.returned (.int .i64 (cmpS a b))/\w=w':=by
 go_enter Tryz.func119,Tryz.ntmps119
 go_wp2;rw [run_callFunc_extern Tryz.func169 (by kernel_rfl) (by kernel_rfl) (by kernel_rfl) (e:=Extern.BytealgCompare.compare) (by kernel_rfl),Lib.run_compareString];simp only [Result.andThen];rw [Oper.upon_value];go_wp2;go_ret
 exact ⟨rfl,rfl⟩
theorem scompare_any (a b:ByteArray) (w:World):Calls Tryz.prog 76 #[.string a,.string b] w fun e w'=>e=.returned (.int .i64 (cmpS a b))/\w=w':=by
 have C:=cmpstring_any a b w;go_enter Tryz.func76,Tryz.ntmps76
 go_wp2_with fail
 refine C.mono ?_;rintro e w2 ⟨rfl,rfl⟩;go_wp2;go_ret
 exact ⟨rfl,rfl⟩
theorem cl_Ki (k:ByteArray) (u:Nat) (key:ByteArray) (w:World):Calls Tryz.prog 78 #[.agg #[.string k,.int .u64 (u:Int)],.string key] w fun e w'=>e=.returned (.int .i64 (cmpS k key))/\Below w.heap.size w w':=by
 have b1:Below w.heap.size w (w.alloc (.cells #[.string k,.int .u64 (u:Int)] 128)):=(Below.refl _ w).alloc (Nat.le_refl _) _;have C:=scompare_any k key (w.alloc (.cells #[.string k,.int .u64 (u:Int)] 128));have HB:=Za b1;clear b1;go_enter Tryz.func78,Tryz.ntmps78
 go_wp2_with fail
 refine C.mono ?_;rintro e w2 ⟨rfl,rfl⟩;go_wp2;go_ret
 exact ⟨rfl,HB.out⟩
theorem en_Ki:∀ args w,(callFunc 78 args).run Tryz.prog w=.ok (.enter 78 args) w:=fun _ _=>by kernel_rfl
def AtKi (ks:List Ki) (key:ByteArray) (i:Nat):Prop:=i<=ks.length/\(∀ t k,t < i->ks[t]?=some k->ZQ k.k key=true)/\∀ t k,i<=t->ks[t]?=some k->ZQ k.k key=false
def BsKi (ks:List Ki) (key:ByteArray) (w:World) (e:Ending) (w':World):Prop:=∃ (i:Nat) (b:Bool),e=.returned (.tuple #[.int .i64 i,.bool b])/\AtKi ks key i/\(b=true↔∃ k,ks[i]?=some k/\k.k=key)/\Below w.heap.size w w'
theorem rs_Ki {ks:List Ki} (h:Rise (ks.map Ki.k)) {t u:Nat} {a b:Ki} (h1:ks[t]?=some a) (h2:ks[u]?=some b) (hlt:t < u):ZQ a.k b.k=true:=by
 have hu:=(List.getElem?_eq_some_iff.1 h2).1;have:=List.pairwise_iff_getElem.1 h t u (by simp;omega) (by simpa using hu) hlt;simp only [List.getElem_map] at this;rw [List.getElem?_eq_getElem (by omega)] at h1 h2;cases h1
 cases h2
 exact this
theorem bs_Ki (w:World) (a:Option Addr) (c:Nat) (ks:List Ki) (key:ByteArray) (h:RdKi w a ks) (hr:Rise (ks.map Ki.k)) (hl:ks.length<=1000000) :
  Calls Tryz.prog 77 #[.slice a ks.length c,.string key,.func (.func 78) #[] #[]] w (BsKi ks key w):=by
 obtain ⟨n,hn⟩:∃ n,n=ks.length:=⟨_,rfl⟩;have HN:=Za hn;have HR:=Za h;have HRI:=Za hr;have HEN:=Za en_Ki;rw [<- hn] at hl ⊢;clear h hn hr;go_enter Tryz.func77,Tryz.ntmps77
 go_wp2;go_loopw [9,10] (fun u v wr=>∃ i j:Nat,i<=j/\j<=n/\u=.int .i64 i/\v=.int .i64 j/\Hid (∀ t k,t < i->ks[t]?=some k->ZQ k.k key=true)/\Hid (∀ t k,j<=t->ks[t]?=some k->ZQ k.k key=false)/\Hid (Below w.heap.size w wr)) (fun u v _=>(intOf v).toNat - (intOf u).toNat)
 case atStart=>exact ⟨0,n,Nat.zero_le _,Nat.le_refl _,rfl,rfl,Za (fun t k ht=>absurd ht (by omega)),Za (fun t k ht hk=>absurd (List.getElem?_eq_some_iff.1 hk).1 (by have:=HN.out;omega)),Za (Below.refl _ _)⟩
 case round =>
  obtain ⟨i,j,hij,hjn,rfl,rfl,H1,H2,HB⟩:=hrel;by_cases hlt:i < j
  ·have hqi:i<=(i+j) / 2:=by omega
   have hqj:(i+j) / 2 < j:=by omega
   obtain ⟨⟨kk,ku⟩,hk⟩:∃ k,ks[(i+j) / 2]?=some k:=⟨ks[(i+j) / 2]'(by have:=HN.out;omega),List.getElem?_eq_getElem _⟩;obtain ⟨g,of,rfl,c1,c2⟩:=(HR.out.below HB.out) ((i+j) / 2) _ hk;simp only at c1 c2;have CC:=cl_Ki kk ku key wr;have HK:=Za hk;obtain ⟨cc,hcc⟩:∃ cc,cc=cmpS kk key:=⟨_,rfl⟩;rw [<- hcc] at CC;have HCC:=Za CC;have HCM:=Za hcc;clear CC hk hcc;by_cases hc:cc < 0
   ·have hcd:decide (cc < 0)=true:=decide_eq_true hc
    have HN1:Hid (∀ t k,t < (i+j) / 2+1->ks[t]?=some k->ZQ k.k key=true):=Za (fun t k ht hk=>by
     have hx:=cmpS_lt.1 (by rw [<- HCM.out];exact hc);by_cases z:t=(i+j) / 2
     ·subst z;rw [HK.out] at hk;cases hk
      exact hx
     ·exact ZL (rs_Ki HRI.out hk HK.out (by omega)) hx)
    clear hc H1 HCM;go_wp2_with fail
    refine HCC.out.mono ?_;rintro e w2 ⟨rfl,b2⟩;have HB2:=Za (HB.out.trans (b2.mono HB.out.size));clear b2 HB HCC;go_wp2;go_roundw
    case rel=>exact ⟨(i+j) / 2+1,j,by omega,by omega,by simp,rfl,HN1,H2,HB2⟩
    case measure=>simp [intOf];omega
   ·have hcd:decide (cc < 0)=false:=decide_eq_false hc
    have HN2:Hid (∀ t k,(i+j) / 2<=t->ks[t]?=some k->ZQ k.k key=false):=Za (fun t k ht hk=>by
     have hx:ZQ kk key=false:=by
      cases q:ZQ kk key with
      | false=>rfl
      | true=>exact absurd (by rw [HCM.out];exact cmpS_lt.2 q) hc
     by_cases z:t=(i+j) / 2
     ·subst z;rw [HK.out] at hk;cases hk
      exact hx
     ·cases q:ZQ k.k key with
      | false=>rfl
      | true =>
       have:=ZL (rs_Ki HRI.out HK.out hk (by omega)) q;simp only at this;rw [hx] at this;cases this)
    clear hc H2 HCM;go_wp2_with fail
    refine HCC.out.mono ?_;rintro e w2 ⟨rfl,b2⟩;have HB2:=Za (HB.out.trans (b2.mono HB.out.size));clear b2 HB HCC;go_wp2;go_roundw
    case rel=>exact ⟨i,(i+j) / 2,by omega,by omega,rfl,by simp,H1,HN2,HB2⟩
    case measure=>simp [intOf];omega
  ·obtain rfl:i=j:=by omega
   have HAT:Hid (AtKi ks key i):=Za ⟨by have:=HN.out;omega,H1.out,H2.out⟩;clear H1 H2;by_cases hin:i < n
   ·obtain ⟨⟨kk,ku⟩,hk⟩:∃ k,ks[i]?=some k:=⟨ks[i]'(by have:=HN.out;omega),List.getElem?_eq_getElem _⟩;obtain ⟨g,of,rfl,c1,c2⟩:=(HR.out.below HB.out) i _ hk;simp only at c1 c2;have CC:=cl_Ki kk ku key wr;obtain ⟨cc,hcc⟩:∃ cc,cc=cmpS kk key:=⟨_,rfl⟩;rw [<- hcc] at CC
    have HF:Hid (∀ w2,Below w.heap.size w w2->BsKi ks key w (.returned (.tuple #[.int .i64 i,.bool (cc == 0)])) w2):=Za (fun w2 hb=>by
     refine ⟨i,cc == 0,rfl,HAT.out,?_,hb⟩;rw [beq_iff_eq,hcc,cmpS_eq];constructor
     ·intro q;exact ⟨_,hk,q⟩
     ·rintro ⟨k,h1,h2⟩;rw [hk] at h1;cases h1
      exact h2)
    have HCC:=Za CC;clear CC hk hcc HAT;go_wp2_with fail
    refine HCC.out.mono ?_;rintro e w2 ⟨rfl,b2⟩;have HFF:=Za (HF.out w2 (HB.out.trans (b2.mono HB.out.size)));clear b2 HB HCC HF;go_wp2;refine bodyPost_ret (by simp [results,Tryz.results77,go_sem];rfl) rfl ?_;exact HFF.out
   ·have HF:Hid (BsKi ks key w (.returned (.tuple #[.int .i64 i,.bool false])) wr):=Za ⟨i,false,rfl,HAT.out,⟨fun q=>(by cases q),fun ⟨k,h1,_⟩=>absurd (List.getElem?_eq_some_iff.1 h1).1 (by have:=HN.out;omega)⟩,HB.out⟩;clear HAT;go_wp2;refine bodyPost_ret (by simp [results,Tryz.results77,go_sem];rfl) rfl ?_;exact HF.out
theorem cl_En (k:ByteArray) (u:ByteArray) (key:ByteArray) (w:World):Calls Tryz.prog 75 #[.agg #[.string k,.string u],.string key] w fun e w'=>e=.returned (.int .i64 (cmpS k key))/\Below w.heap.size w w':=by
 have b1:Below w.heap.size w (w.alloc (.cells #[.string k,.string u] 43)):=(Below.refl _ w).alloc (Nat.le_refl _) _;have C:=scompare_any k key (w.alloc (.cells #[.string k,.string u] 43));have HB:=Za b1;clear b1;go_enter Tryz.func75,Tryz.ntmps75
 go_wp2_with fail
 refine C.mono ?_;rintro e w2 ⟨rfl,rfl⟩;go_wp2;go_ret
 exact ⟨rfl,HB.out⟩
theorem en_En:∀ args w,(callFunc 75 args).run Tryz.prog w=.ok (.enter 75 args) w:=fun _ _=>by kernel_rfl
def AtEn (ks:List En) (key:ByteArray) (i:Nat):Prop:=i<=ks.length/\(∀ t k,t < i->ks[t]?=some k->ZQ k.k key=true)/\∀ t k,i<=t->ks[t]?=some k->ZQ k.k key=false
def BsEn (ks:List En) (key:ByteArray) (w:World) (e:Ending) (w':World):Prop:=∃ (i:Nat) (b:Bool),e=.returned (.tuple #[.int .i64 i,.bool b])/\AtEn ks key i/\(b=true↔∃ k,ks[i]?=some k/\k.k=key)/\Below w.heap.size w w'
theorem rs_En {ks:List En} (h:Rise (ks.map En.k)) {t u:Nat} {a b:En} (h1:ks[t]?=some a) (h2:ks[u]?=some b) (hlt:t < u):ZQ a.k b.k=true:=by
 have hu:=(List.getElem?_eq_some_iff.1 h2).1;have:=List.pairwise_iff_getElem.1 h t u (by simp;omega) (by simpa using hu) hlt;simp only [List.getElem_map] at this;rw [List.getElem?_eq_getElem (by omega)] at h1 h2;cases h1
 cases h2
 exact this
theorem bs_En (w:World) (a:Option Addr) (c:Nat) (ks:List En) (key:ByteArray) (h:RdEn w a ks) (hr:Rise (ks.map En.k)) (hl:ks.length<=1000000) :
  Calls Tryz.prog 74 #[.slice a ks.length c,.string key,.func (.func 75) #[] #[]] w (BsEn ks key w):=by
 obtain ⟨n,hn⟩:∃ n,n=ks.length:=⟨_,rfl⟩;have HN:=Za hn;have HR:=Za h;have HRI:=Za hr;have HEN:=Za en_En;rw [<- hn] at hl ⊢;clear h hn hr;go_enter Tryz.func74,Tryz.ntmps74
 go_wp2;go_loopw [9,10] (fun u v wr=>∃ i j:Nat,i<=j/\j<=n/\u=.int .i64 i/\v=.int .i64 j/\Hid (∀ t k,t < i->ks[t]?=some k->ZQ k.k key=true)/\Hid (∀ t k,j<=t->ks[t]?=some k->ZQ k.k key=false)/\Hid (Below w.heap.size w wr)) (fun u v _=>(intOf v).toNat - (intOf u).toNat)
 case atStart=>exact ⟨0,n,Nat.zero_le _,Nat.le_refl _,rfl,rfl,Za (fun t k ht=>absurd ht (by omega)),Za (fun t k ht hk=>absurd (List.getElem?_eq_some_iff.1 hk).1 (by have:=HN.out;omega)),Za (Below.refl _ _)⟩
 case round =>
  obtain ⟨i,j,hij,hjn,rfl,rfl,H1,H2,HB⟩:=hrel;by_cases hlt:i < j
  ·have hqi:i<=(i+j) / 2:=by omega
   have hqj:(i+j) / 2 < j:=by omega
   obtain ⟨⟨kk,ku⟩,hk⟩:∃ k,ks[(i+j) / 2]?=some k:=⟨ks[(i+j) / 2]'(by have:=HN.out;omega),List.getElem?_eq_getElem _⟩;obtain ⟨g,of,rfl,c1,c2⟩:=(HR.out.below HB.out) ((i+j) / 2) _ hk;simp only at c1 c2;have CC:=cl_En kk ku key wr;have HK:=Za hk;obtain ⟨cc,hcc⟩:∃ cc,cc=cmpS kk key:=⟨_,rfl⟩;rw [<- hcc] at CC;have HCC:=Za CC;have HCM:=Za hcc;clear CC hk hcc;by_cases hc:cc < 0
   ·have hcd:decide (cc < 0)=true:=decide_eq_true hc
    have HN1:Hid (∀ t k,t < (i+j) / 2+1->ks[t]?=some k->ZQ k.k key=true):=Za (fun t k ht hk=>by
     have hx:=cmpS_lt.1 (by rw [<- HCM.out];exact hc);by_cases z:t=(i+j) / 2
     ·subst z;rw [HK.out] at hk;cases hk
      exact hx
     ·exact ZL (rs_En HRI.out hk HK.out (by omega)) hx)
    clear hc H1 HCM;go_wp2_with fail
    refine HCC.out.mono ?_;rintro e w2 ⟨rfl,b2⟩;have HB2:=Za (HB.out.trans (b2.mono HB.out.size));clear b2 HB HCC;go_wp2;go_roundw
    case rel=>exact ⟨(i+j) / 2+1,j,by omega,by omega,by simp,rfl,HN1,H2,HB2⟩
    case measure=>simp [intOf];omega
   ·have hcd:decide (cc < 0)=false:=decide_eq_false hc
    have HN2:Hid (∀ t k,(i+j) / 2<=t->ks[t]?=some k->ZQ k.k key=false):=Za (fun t k ht hk=>by
     have hx:ZQ kk key=false:=by
      cases q:ZQ kk key with
      | false=>rfl
      | true=>exact absurd (by rw [HCM.out];exact cmpS_lt.2 q) hc
     by_cases z:t=(i+j) / 2
     ·subst z;rw [HK.out] at hk;cases hk
      exact hx
     ·cases q:ZQ k.k key with
      | false=>rfl
      | true =>
       have:=ZL (rs_En HRI.out HK.out hk (by omega)) q;simp only at this;rw [hx] at this;cases this)
    clear hc H2 HCM;go_wp2_with fail
    refine HCC.out.mono ?_;rintro e w2 ⟨rfl,b2⟩;have HB2:=Za (HB.out.trans (b2.mono HB.out.size));clear b2 HB HCC;go_wp2;go_roundw
    case rel=>exact ⟨i,(i+j) / 2,by omega,by omega,rfl,by simp,H1,HN2,HB2⟩
    case measure=>simp [intOf];omega
  ·obtain rfl:i=j:=by omega
   have HAT:Hid (AtEn ks key i):=Za ⟨by have:=HN.out;omega,H1.out,H2.out⟩;clear H1 H2;by_cases hin:i < n
   ·obtain ⟨⟨kk,ku⟩,hk⟩:∃ k,ks[i]?=some k:=⟨ks[i]'(by have:=HN.out;omega),List.getElem?_eq_getElem _⟩;obtain ⟨g,of,rfl,c1,c2⟩:=(HR.out.below HB.out) i _ hk;simp only at c1 c2;have CC:=cl_En kk ku key wr;obtain ⟨cc,hcc⟩:∃ cc,cc=cmpS kk key:=⟨_,rfl⟩;rw [<- hcc] at CC
    have HF:Hid (∀ w2,Below w.heap.size w w2->BsEn ks key w (.returned (.tuple #[.int .i64 i,.bool (cc == 0)])) w2):=Za (fun w2 hb=>by
     refine ⟨i,cc == 0,rfl,HAT.out,?_,hb⟩;rw [beq_iff_eq,hcc,cmpS_eq];constructor
     ·intro q;exact ⟨_,hk,q⟩
     ·rintro ⟨k,h1,h2⟩;rw [hk] at h1;cases h1
      exact h2)
    have HCC:=Za CC;clear CC hk hcc HAT;go_wp2_with fail
    refine HCC.out.mono ?_;rintro e w2 ⟨rfl,b2⟩;have HFF:=Za (HF.out w2 (HB.out.trans (b2.mono HB.out.size)));clear b2 HB HCC HF;go_wp2;refine bodyPost_ret (by simp [results,Tryz.results74,go_sem];rfl) rfl ?_;exact HFF.out
   ·have HF:Hid (BsEn ks key w (.returned (.tuple #[.int .i64 i,.bool false])) wr):=Za ⟨i,false,rfl,HAT.out,⟨fun q=>(by cases q),fun ⟨k,h1,_⟩=>absurd (List.getElem?_eq_some_iff.1 h1).1 (by have:=HN.out;omega)⟩,HB.out⟩;clear HAT;go_wp2;refine bodyPost_ret (by simp [results,Tryz.results74,go_sem];rfl) rfl ?_;exact HF.out
def Gets (es:List En) (key:ByteArray) (v:ByteArray) (b:Bool):Prop:=(b=true/\∃ e ∈ es,e.k=key/\e.v=v)\/(b=false/\v=⟨#[]⟩/\∀ e ∈ es,e.k≠key)
def Child (ks:List Ki) (key:ByteArray) (c:Nat):Prop:=(c=0/\∀ k ∈ ks,ZQ k.k key=true)\/∃ (i:Nat) (k:Ki),ks[i]?=some k/\c=k.i/\ZQ k.k key=false/\∀ t k',t < i->ks[t]?=some k'->ZQ k'.k key=true
def ChP (ks:List Ki) (key:ByteArray) (w:World) (e:Ending) (w':World):Prop:=∃ c:Nat,e=.returned (.int .u64 c)/\Child ks key c/\Below w.heap.size w w'
def VaP (es:List En) (key:ByteArray) (w:World) (e:Ending) (w':World):Prop:=∃ (v:ByteArray) (b:Bool),e=.returned (.tuple #[.string v,.bool b])/\Gets es key v b/\Below w.heap.size w w'
theorem child_any (w:World) (a:Option Addr) (c:Nat) (ks:List Ki) (key:ByteArray) (h:RdKi w a ks) (hr:Rise (ks.map Ki.k)) (hl:ks.length<=1000000) :
  Calls Tryz.prog 45 #[.slice a ks.length c,.string key] w (ChP ks key w):=by
 have C:=bs_Ki w a c ks key h hr hl;obtain ⟨n,hn⟩:∃ n,n=ks.length:=⟨_,rfl⟩;have HN:=Za hn;have HR:=Za h;have HC:=Za C;rw [<- hn] at HC hl ⊢;clear h hn hr C;go_enter Tryz.func45,Tryz.ntmps45
 go_wp2_with fail
 refine HC.out.mono ?_;rintro e w2 ⟨i,b,rfl,⟨a1,a2,a3⟩,_,b2⟩;rw [<- HN.out] at a1;by_cases hi:i=n
 ·have hd:((i:Int) == (n:Int))=true:=by simp;omega
  have HF:Hid (ChP ks key w (.returned (.int .u64 ((0:Nat):Int))) w2):=Za ⟨0,rfl,.inl ⟨rfl,fun k hk=>by
   obtain ⟨t,ht,e⟩:=List.mem_iff_getElem.1 hk;exact a2 t k (by have:=HN.out;omega) (by rw [List.getElem?_eq_getElem ht,e])⟩,b2⟩
  clear a1 a2 a3 b2 hi;go_wp2;go_ret
  exact HF.out
 ·have hd:((i:Int) == (n:Int))=false:=by simp;omega
  obtain ⟨⟨kk,ki⟩,hk⟩:∃ k,ks[i]?=some k:=⟨ks[i]'(by have:=HN.out;omega),List.getElem?_eq_getElem _⟩;obtain ⟨g,of,rfl,c1,c2⟩:=(HR.out.below b2) i _ hk;simp only at c1 c2;have hin:i < n:=by omega
  have HF:Hid (ChP ks key w (.returned (.int .u64 (ki:Int))) w2):=Za ⟨ki,rfl,.inr ⟨i,_,hk,rfl,a3 i _ (Nat.le_refl _) hk,a2⟩,b2⟩;clear a1 a2 a3 b2 hi hk;go_wp2;go_ret
  exact HF.out
theorem value_any (w:World) (a:Option Addr) (c:Nat) (es:List En) (key:ByteArray) (h:RdEn w a es) (hr:Rise (es.map En.k)) (hl:es.length<=1000000) :
  Calls Tryz.prog 44 #[.slice a es.length c,.string key] w (VaP es key w):=by
 have C:=bs_En w a c es key h hr hl;obtain ⟨n,hn⟩:∃ n,n=es.length:=⟨_,rfl⟩;have HN:=Za hn;have HR:=Za h;have HC:=Za C;have HRI:=Za hr;rw [<- hn] at HC hl ⊢;clear h hn hr C;go_enter Tryz.func44,Tryz.ntmps44
 go_wp2_with fail
 refine HC.out.mono ?_;rintro e w2 ⟨i,b,rfl,⟨a1,a2,a3⟩,hb,b2⟩;rw [<- HN.out] at a1;cases b with
 | false =>
  have HF:Hid (VaP es key w (.returned (.tuple #[.string ⟨#[]⟩,.bool false])) w2):=Za ⟨_,false,rfl,.inr ⟨rfl,rfl,fun e he q=>by
   obtain ⟨t,ht,e2⟩:=List.mem_iff_getElem.1 he;have het:es[t]?=some e:=by rw [List.getElem?_eq_getElem ht,e2]
   by_cases z:t < i
   ·have:=a2 t e z het;rw [q,ZM] at this;cases this
   ·by_cases z2:t=i
    ·subst z2;have:=hb.2 ⟨e,het,q⟩;cases this
    ·have hti:i < es.length:=by omega
     have h1:=a3 i _ (Nat.le_refl _) (List.getElem?_eq_getElem hti);have h2:=rs_En HRI.out (List.getElem?_eq_getElem hti) het (by omega);rw [q,h1] at h2;cases h2⟩,b2⟩
  clear a1 a2 a3 b2 hb;go_wp2;refine bodyPost_ret (by simp [results,Tryz.results44,go_sem];rfl) rfl ?_;exact HF.out
 | true =>
  obtain ⟨⟨kk,kv⟩,hk,hkk⟩:=hb.1 rfl;obtain ⟨g,of,rfl,c1,c2⟩:=(HR.out.below b2) i _ hk;simp only at c1 c2;have hin:i < n:=by have:=(List.getElem?_eq_some_iff.1 hk).1;have:=HN.out;omega
  have HF:Hid (VaP es key w (.returned (.tuple #[.string kv,.bool true])) w2):=Za ⟨_,true,rfl,.inl ⟨rfl,_,List.mem_of_getElem? hk,hkk,rfl⟩,b2⟩;clear a1 a2 a3 b2 hk hb hkk;go_wp2;refine bodyPost_ret (by simp [results,Tryz.results44,go_sem];rfl) rfl ?_;exact HF.out
theorem zero_unit:∀ W:World,(zeroValue 143).run Tryz.prog W=.ok (.agg #[]) W:=fun _=>by kernel_rfl
def AdP (w:World) (b:Nat) (M:Nat->Option Value) (i:Nat) (e:Ending) (w':World):Prop:=e=.returned (.bool (!(M i).isSome))/\Mp Tryz.prog 27 w' b (upd M i (some (.agg #[])))/\Onl (fun j=>j=b) w w'
theorem add_any {w:World} {b:Nat} {M:Nat->Option Value} (h:Mp Tryz.prog 27 w b M) (hM:∀ i v,M i=some v->v=.agg #[]) {L:List Nat} (hL:∀ i,M i≠none->i ∈ L) (hl:L.length < 1000000) (i:Nat) (hi:i < 18446744073709551616) :
  Calls Tryz.prog 42 #[.map (some b),.int .u64 i] w (AdP w b M i):=by
 have b1:Below w.heap.size w (w.alloc (.cells #[] 143)):=(Below.refl _ w).alloc (Nat.le_refl _) _;have R1:=h.look2 hk64 Tryz.underlying86 zero_unit hi;obtain ⟨w3,R2,m3,t3⟩:=(h.below b1).store hk64 Tryz.underlying86 hL (by unfold maxLen;omega) hi (.agg #[])
 have hv:(M i).getD (.agg #[])=.agg #[]:=by
  cases q:M i with
  | none=>rfl
  | some v=>exact hM i v q
 rw [hv] at R1;have HF:Hid (AdP w b M i (.returned (.bool (!(M i).isSome))) w3):=Za ⟨rfl,m3,(Onl.ofBelow b1).trans (turned_onl t3)⟩;obtain ⟨bb,hbb⟩:∃ bb,bb=(M i).isSome:=⟨_,rfl⟩;rw [<- hbb] at R1 HF;clear h hL m3 t3 hv hbb b1 hM;go_enter Tryz.func42,Tryz.ntmps42
 go_wp2;go_ret
 exact HF.out
def ent (ls:List (Nat × List En)):List En:=ls.flatMap (fun p=>p.2)
theorem ent_flat (lss:List (List (Nat × List En))):ent lss.flatten=(lss.map ent).flatten:=by
 induction lss with
 | nil=>rfl
 | cons l lss ih =>
  unfold ent at ih ⊢;simp [ih]
def Z1 (es:List En):Prop:=es.Pairwise (fun a b=>ZQ a.k b.k=true)
theorem riseE_iff {es:List En}:Z1 es↔Rise (es.map En.k):=by unfold Z1 Rise;rw [List.pairwise_map]
theorem node_leaf {n:Nd} (h:nodeE n=0) (h0:n.lv=0):n.es≠[]/\n.ks=[]:=by
 have:=(nodeE_ok h).2.2.2.2.1;rcases Bool.or_eq_true_iff.1 this with q | q
 ·unfold Nd.leaf at q;simp at q
  exact ⟨List.ne_nil_of_length_pos (by omega),List.eq_nil_of_length_eq_zero (by rw [q.2];rfl)⟩
 ·unfold Nd.inner at q;simp at q
  omega
theorem node_inner {n:Nd} (h:nodeE n=0) (h0:0 < n.lv):n.ks≠[]/\n.es=[]:=by
 have:=(nodeE_ok h).2.2.2.2.1;rcases Bool.or_eq_true_iff.1 this with q | q
 ·unfold Nd.leaf at q;simp at q
  omega
 ·unfold Nd.inner at q;simp at q
  exact ⟨List.ne_nil_of_length_pos (by omega),List.eq_nil_of_length_eq_zero (by rw [q.2];rfl)⟩
theorem node_rise {n:Nd} (h:nodeE n=0):Rise n.keys:=rise_of (fun i hi=>by
 have:=(badAt_ok ((nodeE_ok h).2.2.2.2.2 (i+1) hi)).1 (by omega);rw [show i+1 - 1=i by omega] at this;exact this)
theorem IsT.last {T:List (List Int)}:∀ {l id:Nat} {n:Nd} {ls:List (Nat × List En)},IsT T l id n ls->∃ e,(ent ls).getLast?=some e/\e.k=Zz n
 | 0,id,n,ls,h=>by
  obtain ⟨h1,h2,h3⟩:=h;obtain ⟨e1,e2⟩:=node_leaf h1.ok h2;subst h3;obtain ⟨e,q1,q2⟩:=lastK_lf e1;refine ⟨e,by simpa [ent] using q1,?_⟩;rw [<- q2];unfold Zz Nd.keys;rw [e2]
 | l+1,id,n,ls,h=>by
  obtain ⟨h1,h2,h3,ns,lss,h4,h5,h6,h7⟩:=h;obtain ⟨e1,e2⟩:=node_inner h1.ok (by omega);obtain ⟨k,q1,q2⟩:=lastK_kd (lv:=n.lv) e1;have hlen:0 < n.ks.length:=List.length_pos_iff.2 e1;have hk:n.ks[n.ks.length - 1]?=some k:=by rw [<- List.getLast?_eq_getElem?];exact q1
  obtain ⟨n',hn'⟩:∃ x,ns[n.ks.length - 1]?=some x:=⟨ns[n.ks.length - 1]'(by omega),List.getElem?_eq_getElem _⟩;obtain ⟨x,hx⟩:∃ x,lss[n.ks.length - 1]?=some x:=⟨lss[n.ks.length - 1]'(by omega),List.getElem?_eq_getElem _⟩;obtain ⟨c1,c2⟩:=h6 _ k n' x hk hn' hx;obtain ⟨e,d1,d2⟩:=IsT.last c2;refine ⟨e,?_,?_⟩
  ·have hxl:lss.getLast?=some x:=by rw [List.getLast?_eq_getElem?,h5];exact hx
   obtain ⟨ys,hys⟩:=List.getLast?_eq_some_iff.1 hxl
   rw [h7,ent_flat,hys];simp only [List.map_append,List.map_cons,List.map_nil,List.flatten_append,List.flatten_cons,List.flatten_nil,List.append_nil];rw [List.getLast?_append,d1];rfl
  ·rw [d2,<- c1,<- q2];unfold Zz Nd.keys;rw [e2]
theorem le_last {es:List En} (h:Z1 es) {e l:En} (he:e ∈ es) (hl:es.getLast?=some l):e=l\/ZQ e.k l.k=true:=by
 obtain ⟨ys,hys⟩:=List.getLast?_eq_some_iff.1 hl
 subst hys;rcases List.mem_append.1 he with q | q
 ·exact .inr ((List.pairwise_append.1 h).2.2 e q l (by simp))
 ·simp at q;exact .inl q
theorem IsT.step {T:List (List Int)} {l id c:Nat} {n:Nd} {ls:List (Nat × List En)} {key:ByteArray} (h:IsT T (l+1) id n ls) (hr:Z1 (ent ls)) (hc:Child n.ks key c) :
  (c=0/\∀ e ∈ ent ls,e.k≠key)\/∃ n' ls',IsT T l c n' ls'/\Z1 (ent ls')/\∀ v b,Gets (ent ls') key v b->Gets (ent ls) key v b:=by
 obtain ⟨h1,h2,h3,ns,lss,h4,h5,h6,h7⟩:=h
 have hsub:∀ (t:Nat) (k:Ki) (x:List (Nat × List En)),n.ks[t]?=some k->lss[t]?=some x->∃ n',k.k=Zz n'/\IsT T l k.i n' x:=fun t k x hk hx=>by
  have ht:=(List.getElem?_eq_some_iff.1 hk).1;obtain ⟨n',hn'⟩:∃ y,ns[t]?=some y:=⟨ns[t]'(by omega),List.getElem?_eq_getElem _⟩;exact ⟨n',h6 t k n' x hk hn' hx⟩
 rw [h7,ent_flat] at hr ⊢;obtain ⟨p1,p2⟩:=List.pairwise_flatten.1 hr;have hrx:∀ (t:Nat) (x:List (Nat × List En)),lss[t]?=some x->Z1 (ent x):=fun t x hx=>p1 _ (List.mem_map.2 ⟨x,List.mem_of_getElem? hx,rfl⟩)
 have hlow:∀ (t:Nat) (k:Ki) (x:List (Nat × List En)),n.ks[t]?=some k->lss[t]?=some x->ZQ k.k key=true->∀ e ∈ ent x,e.k≠key:=fun t k x hk hx hlt e he q=>by
  obtain ⟨n',c1,c2⟩:=hsub t k x hk hx;obtain ⟨la,d1,d2⟩:=c2.last
  have:ZQ e.k key=true:=by
   rcases le_last (hrx t x hx) he d1 with z | z
   ·rw [z,d2,<- c1];exact hlt
   ·exact ZL z (by rw [d2,<- c1];exact hlt)
  rw [q,ZM] at this;cases this
 have hmem:∀ e ∈ (lss.map ent).flatten,∃ t x,lss[t]?=some x/\e ∈ ent x:=fun e he=>by
  obtain ⟨y,hy,hey⟩:=List.mem_flatten.1 he;obtain ⟨x,hx,rfl⟩:=List.mem_map.1 hy;obtain ⟨t,ht,q⟩:=List.mem_iff_getElem.1 hx;exact ⟨t,x,by rw [List.getElem?_eq_getElem ht,q],hey⟩
 have hkid:∀ (t:Nat) (x:List (Nat × List En)),lss[t]?=some x->∃ k,n.ks[t]?=some k:=fun t x hx=>⟨n.ks[t]'(by have:=(List.getElem?_eq_some_iff.1 hx).1;omega),List.getElem?_eq_getElem _⟩
 rcases hc with ⟨rfl,hall⟩ | ⟨i,k,hk,rfl,hge,hlt⟩
 ·refine .inl ⟨rfl,fun e he=>?_⟩;obtain ⟨t,x,hx,hex⟩:=hmem e he;obtain ⟨k,hk⟩:=hkid t x hx;exact hlow t k x hk hx (hall k (List.mem_of_getElem? hk)) e hex
 ·obtain ⟨x,hx⟩:∃ x,lss[i]?=some x:=⟨lss[i]'(by have:=(List.getElem?_eq_some_iff.1 hk).1;omega),List.getElem?_eq_getElem _⟩;obtain ⟨n',c1,c2⟩:=hsub i k x hk hx;refine .inr ⟨n',x,c2,hrx i x hx,fun v b hg=>?_⟩;have hin:∀ e ∈ ent x,e ∈ (lss.map ent).flatten:=fun e he=>List.mem_flatten.2 ⟨_,List.mem_map.2 ⟨x,List.mem_of_getElem? hx,rfl⟩,he⟩
  rcases hg with ⟨q1,e,q2,q3⟩ | ⟨q1,q2,q3⟩
  ·exact .inl ⟨q1,e,hin e q2,q3⟩
  ·refine .inr ⟨q1,q2,fun e he=>?_⟩;obtain ⟨t,y,hy,hey⟩:=hmem e he;obtain ⟨k',hk'⟩:=hkid t y hy;rcases Nat.lt_trichotomy t i with z | z | z
   ·exact hlow t k' y hk' hy (hlt t k' z hk') e hey
   ·subst z;rw [hx] at hy;cases hy
    exact q3 e hey
   ·obtain ⟨la,d1,d2⟩:=c2.last;have hyl:=(List.getElem?_eq_some_iff.1 hy).1;have hR:=List.pairwise_iff_getElem.1 p2 i t (by simp;omega) (by simpa using hyl) z;simp only [List.getElem_map] at hR;have e1:lss[i]'(by omega)=x:=by have:=hx;rw [List.getElem?_eq_getElem (by omega)] at this;cases this;rfl
    have e2:lss[t]'hyl=y:=by have:=hy;rw [List.getElem?_eq_getElem hyl] at this;cases this;rfl
    have hlt2:=hR la (by rw [e1];exact List.mem_of_getLast? d1) e (by rw [e2];exact hey);intro q;rw [d2,<- c1,q,hge] at hlt2;cases hlt2
end Go.Proofs.YtdhebpnkfookcaaGreat
