import Derived.Test.YtlkboeajkgbnaaaGreatDoorC06
import Derived.Test.YtlkboeajkgbnaaaGreatDoorC13
set_option linter.all false
set_option maxHeartbeats 4000000
namespace Go.Proofs.YtlkboeajkgbnaaaGreatDoor
open Lib(hid)
set_option maxRecDepth 100000
set_option maxHeartbeats 16000000
namespace nm
open RowKit Go.Sort
abbrev Tab(w:World):Prop:=Lib.TabIs Tryz.prog w "internal/strconv.uint64pow10" .u64 Lib.pow10Tab
theorem gTab:Tryz.prog.globalNamed "internal/strconv.uint64pow10" = some 3:=by kernel_rfl
theorem tab_below{w w':World}(h:Tab w)(hb:Below w.heap.size w w'):Tab w':=by
 have h':w.var? Tryz.prog "internal/strconv.uint64pow10" = _:=h;have hlt:3<w.heap.size:=by
  rcases Nat.lt_or_ge 3 w.heap.size with h1 | h1
  ·exact h1
  ·unfold World.var? at h'
   simp only[gTab,Option.bind_some]at h';rw[Array.getElem?_eq_none h1]at h';cases h'
 exact var?_below hb gTab hlt h'
theorem at_below{W w':World}{a:Addr}{v:Value}(h:W.cell? a=some v)(hb:Below W.heap.size W w'):w'.cell? a=some v:=by
 rw[hb.cell (block_lt_of_cell h)];exact h
def markL(k:Int):List UInt8:=if k=1 then [46] else if k=2 then [36] else if k=3 then [64] else if k=4 then [40,41] else if k=6 then [37] else if k=7 then [35] else []
def copyL(c:Int):List UInt8:=if 0<c then 126 :: Lib.itoa c else []
def bodyL(d:Nd):List UInt8:=if d.kind=1∨d.kind=5∨d.kind=6 then d.name.data.toList else if d.kind=2∨d.kind=3∨d.kind=7 then Lib.itoa d.n else []
def cellL(c:Int):List UInt8:=if c=-1 then [] else 43 :: Lib.itoa c
def textL(d:Nd):List UInt8:=d.fn.data.toList++(copyL d.copy++(markL d.kind++(bodyL d++cellL d.cell)))
def txt(d:Nd):ByteArray:=if mayB d then⟨(textL d).toArray⟩ else⟨#[]⟩
def terr(d:Nd):Int:=if mayB d then 0 else 11
def TextPost(d:Nd)(w:World)(e:Ending)(w':World):Prop:=e=.returned (.tuple #[.string (txt d),.int .i64 (terr d)])∧Below w.heap.size w w'
theorem nameB_le(s:ByteArray)(h:dg.nameB s=true):s.size≤16:=by
 unfold dg.nameB at h;simp only[Bool.and_eq_true,decide_eq_true_eq]at h;omega
theorem empty_of(s:ByteArray)(h:s.toList=[]):s.size=0:=by
 rw[ByteArray.toList_eq]at h;have:=dg.size_list s;rw[h]at this
 simpa using this.symm
theorem beq_empty(s:ByteArray)(h:(s.toList==(ByteArray.mk #[]).toList)=true):s.size=0:=by
 apply empty_of
 rw[beq_iff_eq]at h;rw[h,ByteArray.toList_eq]
theorem may_sizes(d:Nd)(h:mayB d=true):d.fn.size≤16∧d.name.size≤16:=by
 obtain⟨kind,fn,copy,name,n,cell⟩:=d;unfold mayB at h;simp only[Bool.and_eq_true,decide_eq_true_eq]at h;obtain⟨⟨h1,h7⟩,hs,_,_,hw⟩:=h;rcases(by omega:kind=1∨kind=2∨kind=3∨kind=4∨kind=5∨kind=6∨kind=7)with rfl | rfl | rfl | rfl | rfl | rfl | rfl
 all_goals
  simp only[sameB,ownN,swB,Bool.and_eq_true]at hs hw;simp at hw;show fn.size≤16∧name.size≤16
 ·exact⟨nameB_le _ hw.1,nameB_le _ hw.2⟩
 ·exact⟨nameB_le _ hw.1,by have:=beq_empty name (by simpa using hs.2.2.2.1);omega⟩
 ·exact⟨nameB_le _ hw.1,by have:=beq_empty name (by simpa using hs.2.2.2.1);omega⟩
 ·exact⟨nameB_le _ hw.1,by have:=beq_empty name (by simpa using hs.2.2.2.1);omega⟩
 ·exact⟨by have:=beq_empty fn (by simpa using hs.2.1);omega,nameB_le _ hw⟩
 ·exact⟨nameB_le _ hw.1,nameB_le _ hw.2⟩
 ·exact⟨nameB_le _ hw.1,by have:=beq_empty name (by simpa using hs.2.2.2.1);omega⟩
theorem cntB_le{n l:Int}(h:cntB n l=true):l≤n∧n≤268435456:=by simpa[cntB] using h
theorem may_bounds(d:Nd)(h:mayB d=true):(0≤d.copy∧d.copy≤268435456)∧(-1≤d.cell∧d.cell≤268435456)∧1≤d.kind∧d.kind≤7:=by
 unfold mayB at h;simp only[Bool.and_eq_true,decide_eq_true_eq]at h;exact⟨cntB_le h.2.2.1,cntB_le h.2.2.2.1,h.1⟩
theorem may_n(d:Nd)(h:mayB d=true)(hk:d.kind=2∨d.kind=3∨d.kind=7):0≤d.n∧d.n≤268435456:=by
 unfold mayB at h;simp only[Bool.and_eq_true,decide_eq_true_eq]at h;have hw:=h.2.2.2.2;unfold swB at hw;rcases hk with hk | hk | hk
 all_goals
  rw[hk]at hw;simp at hw;have:=cntB_le hw.2;omega
theorem itoa_len(n:Int)(h0:0≤n)(h:n≤268435456):(Lib.itoa n).length≤20:=by
 obtain⟨u,rfl⟩:=Int.eq_ofNat_of_zero_le h0;rw[Lib.itoa_nonneg];exact dt.len_le u (by omega)
theorem mk_size(l:List UInt8):(ByteArray.mk l.toArray).size=l.length:=by simp[ByteArray.size]
theorem same_bytes{a b:ByteArray}(h:a.data.toList=b.data.toList):a=b:=ByteArray.ext (Array.ext' h)
def Six(d:Nd)(b:Nat)(w:World):Prop:=w.cell? ⟨b,0,none⟩=some (.int .i64 d.kind)∧w.cell? ⟨b,1,none⟩=some (.string d.fn)∧w.cell? ⟨b,2,none⟩=some (.int .i64 d.copy)∧w.cell? ⟨b,3,none⟩=some (.string d.name)∧w.cell? ⟨b,4,none⟩=some (.int .i64 d.n)∧w.cell? ⟨b,5,none⟩=some (.int .i64 d.cell)
theorem Six.on{d:Nd}{b:Nat}{w w':World}(h:Six d b w)(hb:Below w.heap.size w w'):Six d b w':=
 ⟨at_below h.1 hb,at_below h.2.1 hb,at_below h.2.2.1 hb,at_below h.2.2.2.1 hb,at_below h.2.2.2.2.1 hb,at_below h.2.2.2.2.2 hb⟩
theorem Six.new(d:Nd)(w:World)(t:TypeId):Six d w.heap.size (w.alloc (.cells d.cells t)):=by
 obtain⟨kind,fn,copy,name,n,cell⟩:=d;unfold Six Nd.cells;exact⟨by simp,by simp,by simp,by simp,by simp,by simp⟩
theorem textPost_mk{d:Nd}{w w':World}(hm:mayB d=true){s:ByteArray}(hs:s.data.toList=textL d)(hb:Below w.heap.size w w'):TextPost d w (.returned (.tuple #[.string s,.int .i64 0])) w':=by
 refine⟨?_,hb⟩;have e1:txt d=s:=by
  unfold txt;rw[if_pos hm];exact same_bytes (by rw[hs])
 have e2:terr d=0:=by unfold terr;rw[if_pos hm]
 rw[e1,e2]
theorem text_of(x:Int)(h0:0≤x)(h1:x≤268435456):∃T:ByteArray,T.data.toList=Lib.itoa x∧T.size≤20∧∀w,Tab w→Calls Tryz.prog 146 #[.int .i64 x] w fun e w'=>e=.returned (.string T)∧Below w.heap.size w w':=
 ⟨⟨(Lib.itoa x).toArray⟩,rfl,by rw[mk_size];exact itoa_len x h0 h1,fun w h=>dt.text_any x w (by omega) (by omega) h⟩
theorem text_A(kind:Int)(hq:kind=1∨kind=4∨kind=5∨kind=6)(hd:Held)(fn:ByteArray)(copy:Int)(name:ByteArray)(n cell:Int)(w:World)(hm:mayB ⟨kind,fn,copy,name,n,cell⟩=true)(htab:Tab w) :
 Calls Tryz.prog 120 #[Nd.val ⟨kind,fn,copy,name,n,cell⟩] w (TextPost ⟨kind,fn,copy,name,n,cell⟩ w):=by
 obtain⟨hsf,hsn⟩:=may_sizes _ hm;obtain⟨hcp,hce,_⟩:=may_bounds _ hm;have hsf1:fn.size≤16:=hsf;have hsn1:name.size≤16:=hsn;have hcp1:0≤copy∧copy≤268435456:=hcp;have hce1:-1≤cell∧cell≤268435456:=hce;clear hsf hsn hcp hce
 have Hmay:Hid (∀w,Calls Tryz.prog 145 #[.agg #[.int .i64 kind,.string fn,.int .i64 copy,.string name,.int .i64 n,.int .i64 cell]] w fun e w'=>e=.returned (.bool true)∧Below w.heap.size w w'):=hid (fun w=>by
  have:=may_any hd ⟨kind,fn,copy,name,n,cell⟩ w (by show name.size≤maxLen;unfold maxLen;omega) (by show fn.size≤maxLen;unfold maxLen;omega);rw[hm]at this
  exact this)
 have Hm:=hid hm;clear hm hd;obtain⟨Tc,eTc,sTc,hTc⟩:=text_of copy hcp1.1 hcp1.2;have eTc:=hid eTc;have hTc:=hid hTc;have Hnew:Hid (Six ⟨kind,fn,copy,name,n,cell⟩ w.heap.size (w.alloc (.cells #[.int .i64 kind,.string fn,.int .i64 copy,.string name,.int .i64 n,.int .i64 cell] 115))):=hid (Six.new ⟨kind,fn,copy,name,n,cell⟩ w _);have hb0:Below w.heap.size w (w.alloc (.cells #[.int .i64 kind,.string fn,.int .i64 copy,.string name,.int .i64 n,.int .i64 cell] 115)):=(Below.refl _ _).alloc (Nat.le_refl _) _;rcases hq with rfl | rfl | rfl | rfl
 all_goals
  have Htab:=hid htab;clear htab;unfold Nd.val Nd.cells;by_cases hl:cell=-1
  ·have hlb:(cell != -1)=false:=by rw[hl];rfl
   have Hl:=hid hl;clear hl;by_cases hc0:0<copy
   ·have Hc0:=hid hc0
    go_enter Tryz.func120,Tryz.ntmps120;go_wp2_with fail;refine(Hmay.out _).mono ?_;rintro e w1 ⟨rfl,b1⟩;have Hs1:=hid (Hnew.out.on b1);have hb1:=below_on hb0 b1;obtain⟨k0,k1,k2,k3,k4,k5⟩:=Hs1.out;clear b1;go_wp2_with fail;refine(hTc.out _ (tab_below Htab.out hb1)).mono ?_;rintro e w2 ⟨rfl,b2⟩;have Hs2:=hid (Hs1.out.on b2);have hb2:=below_on hb1 b2;clear k0 k1 k2 k3 k4 k5 b2;obtain⟨k0,k1,k2,k3,k4,k5⟩:=Hs2.out;go_wp2_with fail;go_ret2;refine textPost_mk Hm.out ?_ hb2;unfold textL copyL cellL;rw[if_pos Hc0.out,if_pos Hl.out];simp[markL,bodyL,eTc.out]
   ·have Hc0:=hid hc0
    go_enter Tryz.func120,Tryz.ntmps120;go_wp2_with fail;refine(Hmay.out _).mono ?_;rintro e w1 ⟨rfl,b1⟩;have Hs1:=hid (Hnew.out.on b1);have hb1:=below_on hb0 b1;obtain⟨k0,k1,k2,k3,k4,k5⟩:=Hs1.out;clear b1;go_wp2_with fail;go_ret2;refine textPost_mk Hm.out ?_ hb1;unfold textL copyL cellL;rw[if_neg (show ¬0<copy by have:=Hc0.out;omega),if_pos Hl.out];simp[markL,bodyL]
  ·have hlb:(cell != -1)=true:=by rw[bne_iff_ne];exact hl
   obtain⟨Tl,eTl,sTl,hTl⟩:=text_of cell (by omega) hce1.2;have eTl:=hid eTl;have hTl:=hid hTl;have Hl:=hid hl;clear hl;by_cases hc0:0<copy
   ·have Hc0:=hid hc0
    go_enter Tryz.func120,Tryz.ntmps120;go_wp2_with fail;refine(Hmay.out _).mono ?_;rintro e w1 ⟨rfl,b1⟩;have Hs1:=hid (Hnew.out.on b1);have hb1:=below_on hb0 b1;obtain⟨k0,k1,k2,k3,k4,k5⟩:=Hs1.out;clear b1;go_wp2_with fail;refine(hTc.out _ (tab_below Htab.out hb1)).mono ?_;rintro e w2 ⟨rfl,b2⟩;have Hs2:=hid (Hs1.out.on b2);have hb2:=below_on hb1 b2;clear k0 k1 k2 k3 k4 k5 b2;obtain⟨k0,k1,k2,k3,k4,k5⟩:=Hs2.out;go_wp2_with fail;refine(hTl.out _ (tab_below Htab.out hb2)).mono ?_;rintro e w3 ⟨rfl,b3⟩;have Hs3:=hid (Hs2.out.on b3);have hb3:=below_on hb2 b3;clear k0 k1 k2 k3 k4 k5 b3;obtain⟨k0,k1,k2,k3,k4,k5⟩:=Hs3.out;go_wp2_with fail;go_ret2;refine textPost_mk Hm.out ?_ hb3;unfold textL copyL cellL;rw[if_pos Hc0.out,if_neg Hl.out];simp[markL,bodyL,eTc.out,eTl.out]
   ·have Hc0:=hid hc0
    go_enter Tryz.func120,Tryz.ntmps120;go_wp2_with fail;refine(Hmay.out _).mono ?_;rintro e w1 ⟨rfl,b1⟩;have Hs1:=hid (Hnew.out.on b1);have hb1:=below_on hb0 b1;obtain⟨k0,k1,k2,k3,k4,k5⟩:=Hs1.out;clear b1;go_wp2_with fail;refine(hTl.out _ (tab_below Htab.out hb1)).mono ?_;rintro e w2 ⟨rfl,b2⟩;have Hs2:=hid (Hs1.out.on b2);have hb2:=below_on hb1 b2;clear k0 k1 k2 k3 k4 k5 b2;obtain⟨k0,k1,k2,k3,k4,k5⟩:=Hs2.out;go_wp2_with fail;go_ret2;refine textPost_mk Hm.out ?_ hb2;unfold textL copyL cellL;rw[if_neg (show ¬0<copy by have:=Hc0.out;omega),if_neg Hl.out];simp[markL,bodyL,eTl.out]
theorem text_1(hd:Held)(fn:ByteArray)(copy:Int)(name:ByteArray)(n cell:Int)(w:World)(hm:mayB ⟨1,fn,copy,name,n,cell⟩=true)(htab:Tab w) :
 Calls Tryz.prog 120 #[Nd.val ⟨1,fn,copy,name,n,cell⟩] w (TextPost ⟨1,fn,copy,name,n,cell⟩ w):=
 text_A 1 (by simp) hd fn copy name n cell w hm htab
theorem text_4(hd:Held)(fn:ByteArray)(copy:Int)(name:ByteArray)(n cell:Int)(w:World)(hm:mayB ⟨4,fn,copy,name,n,cell⟩=true)(htab:Tab w) :
 Calls Tryz.prog 120 #[Nd.val ⟨4,fn,copy,name,n,cell⟩] w (TextPost ⟨4,fn,copy,name,n,cell⟩ w):=
 text_A 4 (by simp) hd fn copy name n cell w hm htab
theorem text_5(hd:Held)(fn:ByteArray)(copy:Int)(name:ByteArray)(n cell:Int)(w:World)(hm:mayB ⟨5,fn,copy,name,n,cell⟩=true)(htab:Tab w) :
 Calls Tryz.prog 120 #[Nd.val ⟨5,fn,copy,name,n,cell⟩] w (TextPost ⟨5,fn,copy,name,n,cell⟩ w):=
 text_A 5 (by simp) hd fn copy name n cell w hm htab
theorem text_6(hd:Held)(fn:ByteArray)(copy:Int)(name:ByteArray)(n cell:Int)(w:World)(hm:mayB ⟨6,fn,copy,name,n,cell⟩=true)(htab:Tab w) :
 Calls Tryz.prog 120 #[Nd.val ⟨6,fn,copy,name,n,cell⟩] w (TextPost ⟨6,fn,copy,name,n,cell⟩ w):=
 text_A 6 (by simp) hd fn copy name n cell w hm htab
theorem text_B(kind:Int)(hq:kind=2∨kind=3∨kind=7)(hd:Held)(fn:ByteArray)(copy:Int)(name:ByteArray)(n cell:Int)(w:World)(hm:mayB ⟨kind,fn,copy,name,n,cell⟩=true)(htab:Tab w) :
 Calls Tryz.prog 120 #[Nd.val ⟨kind,fn,copy,name,n,cell⟩] w (TextPost ⟨kind,fn,copy,name,n,cell⟩ w):=by
 obtain⟨hsf,hsn⟩:=may_sizes _ hm;obtain⟨hcp,hce,_⟩:=may_bounds _ hm;have hn1:0≤n∧n≤268435456:=may_n _ hm hq;have hsf1:fn.size≤16:=hsf;have hsn1:name.size≤16:=hsn;have hcp1:0≤copy∧copy≤268435456:=hcp;have hce1:-1≤cell∧cell≤268435456:=hce;clear hsf hsn hcp hce
 have Hmay:Hid (∀w,Calls Tryz.prog 145 #[.agg #[.int .i64 kind,.string fn,.int .i64 copy,.string name,.int .i64 n,.int .i64 cell]] w fun e w'=>e=.returned (.bool true)∧Below w.heap.size w w'):=hid (fun w=>by
  have:=may_any hd ⟨kind,fn,copy,name,n,cell⟩ w (by show name.size≤maxLen;unfold maxLen;omega) (by show fn.size≤maxLen;unfold maxLen;omega);rw[hm]at this
  exact this)
 have Hm:=hid hm;clear hm hd;obtain⟨Tc,eTc,sTc,hTc⟩:=text_of copy hcp1.1 hcp1.2;have eTc:=hid eTc;have hTc:=hid hTc;obtain⟨Tn,eTn,sTn,hTn⟩:=text_of n hn1.1 hn1.2;have eTn:=hid eTn;have hTn:=hid hTn;have Hnew:Hid (Six ⟨kind,fn,copy,name,n,cell⟩ w.heap.size (w.alloc (.cells #[.int .i64 kind,.string fn,.int .i64 copy,.string name,.int .i64 n,.int .i64 cell] 115))):=hid (Six.new ⟨kind,fn,copy,name,n,cell⟩ w _);have hb0:Below w.heap.size w (w.alloc (.cells #[.int .i64 kind,.string fn,.int .i64 copy,.string name,.int .i64 n,.int .i64 cell] 115)):=(Below.refl _ _).alloc (Nat.le_refl _) _;rcases hq with rfl | rfl | rfl
 all_goals
  have Htab:=hid htab;clear htab;unfold Nd.val Nd.cells;by_cases hl:cell=-1
  ·have hlb:(cell != -1)=false:=by rw[hl];rfl
   have Hl:=hid hl;clear hl;by_cases hc0:0<copy
   ·have Hc0:=hid hc0
    go_enter Tryz.func120,Tryz.ntmps120;go_wp2_with fail;refine(Hmay.out _).mono ?_;rintro e w1 ⟨rfl,b1⟩;have Hs1:=hid (Hnew.out.on b1);have hb1:=below_on hb0 b1;obtain⟨k0,k1,k2,k3,k4,k5⟩:=Hs1.out;clear b1;go_wp2_with fail;refine(hTc.out _ (tab_below Htab.out hb1)).mono ?_;rintro e w2 ⟨rfl,b2⟩;have Hs2:=hid (Hs1.out.on b2);have hb2:=below_on hb1 b2;clear k0 k1 k2 k3 k4 k5 b2;obtain⟨k0,k1,k2,k3,k4,k5⟩:=Hs2.out;go_wp2_with fail;refine(hTn.out _ (tab_below Htab.out hb2)).mono ?_;rintro e w3 ⟨rfl,b3⟩;have Hs3:=hid (Hs2.out.on b3);have hb3:=below_on hb2 b3;clear k0 k1 k2 k3 k4 k5 b3;obtain⟨k0,k1,k2,k3,k4,k5⟩:=Hs3.out;go_wp2_with fail;go_ret2;refine textPost_mk Hm.out ?_ hb3;unfold textL copyL cellL;rw[if_pos Hc0.out,if_pos Hl.out];simp[markL,bodyL,eTc.out,eTn.out]
   ·have Hc0:=hid hc0
    go_enter Tryz.func120,Tryz.ntmps120;go_wp2_with fail;refine(Hmay.out _).mono ?_;rintro e w1 ⟨rfl,b1⟩;have Hs1:=hid (Hnew.out.on b1);have hb1:=below_on hb0 b1;obtain⟨k0,k1,k2,k3,k4,k5⟩:=Hs1.out;clear b1;go_wp2_with fail;refine(hTn.out _ (tab_below Htab.out hb1)).mono ?_;rintro e w2 ⟨rfl,b2⟩;have Hs2:=hid (Hs1.out.on b2);have hb2:=below_on hb1 b2;clear k0 k1 k2 k3 k4 k5 b2;obtain⟨k0,k1,k2,k3,k4,k5⟩:=Hs2.out;go_wp2_with fail;go_ret2;refine textPost_mk Hm.out ?_ hb2;unfold textL copyL cellL;rw[if_neg (show ¬0<copy by have:=Hc0.out;omega),if_pos Hl.out];simp[markL,bodyL,eTn.out]
  ·have hlb:(cell != -1)=true:=by rw[bne_iff_ne];exact hl
   obtain⟨Tl,eTl,sTl,hTl⟩:=text_of cell (by omega) hce1.2;have eTl:=hid eTl;have hTl:=hid hTl;have Hl:=hid hl;clear hl;by_cases hc0:0<copy
   ·have Hc0:=hid hc0
    go_enter Tryz.func120,Tryz.ntmps120;go_wp2_with fail;refine(Hmay.out _).mono ?_;rintro e w1 ⟨rfl,b1⟩;have Hs1:=hid (Hnew.out.on b1);have hb1:=below_on hb0 b1;obtain⟨k0,k1,k2,k3,k4,k5⟩:=Hs1.out;clear b1;go_wp2_with fail;refine(hTc.out _ (tab_below Htab.out hb1)).mono ?_;rintro e w2 ⟨rfl,b2⟩;have Hs2:=hid (Hs1.out.on b2);have hb2:=below_on hb1 b2;clear k0 k1 k2 k3 k4 k5 b2;obtain⟨k0,k1,k2,k3,k4,k5⟩:=Hs2.out;go_wp2_with fail;refine(hTn.out _ (tab_below Htab.out hb2)).mono ?_;rintro e w3 ⟨rfl,b3⟩;have Hs3:=hid (Hs2.out.on b3);have hb3:=below_on hb2 b3;clear k0 k1 k2 k3 k4 k5 b3;obtain⟨k0,k1,k2,k3,k4,k5⟩:=Hs3.out;go_wp2_with fail;refine(hTl.out _ (tab_below Htab.out hb3)).mono ?_;rintro e w4 ⟨rfl,b4⟩;have Hs4:=hid (Hs3.out.on b4);have hb4:=below_on hb3 b4;clear k0 k1 k2 k3 k4 k5 b4;obtain⟨k0,k1,k2,k3,k4,k5⟩:=Hs4.out;go_wp2_with fail;go_ret2;refine textPost_mk Hm.out ?_ hb4;unfold textL copyL cellL
    rw[if_pos Hc0.out,if_neg Hl.out];simp[markL,bodyL,eTc.out,eTn.out,eTl.out]
   ·have Hc0:=hid hc0
    go_enter Tryz.func120,Tryz.ntmps120;go_wp2_with fail;refine(Hmay.out _).mono ?_;rintro e w1 ⟨rfl,b1⟩;have Hs1:=hid (Hnew.out.on b1);have hb1:=below_on hb0 b1;obtain⟨k0,k1,k2,k3,k4,k5⟩:=Hs1.out;clear b1;go_wp2_with fail;refine(hTn.out _ (tab_below Htab.out hb1)).mono ?_;rintro e w2 ⟨rfl,b2⟩;have Hs2:=hid (Hs1.out.on b2);have hb2:=below_on hb1 b2;clear k0 k1 k2 k3 k4 k5 b2;obtain⟨k0,k1,k2,k3,k4,k5⟩:=Hs2.out;go_wp2_with fail;refine(hTl.out _ (tab_below Htab.out hb2)).mono ?_;rintro e w3 ⟨rfl,b3⟩;have Hs3:=hid (Hs2.out.on b3);have hb3:=below_on hb2 b3;clear k0 k1 k2 k3 k4 k5 b3;obtain⟨k0,k1,k2,k3,k4,k5⟩:=Hs3.out;go_wp2_with fail;go_ret2;refine textPost_mk Hm.out ?_ hb3;unfold textL copyL cellL;rw[if_neg (show ¬0<copy by have:=Hc0.out;omega),if_neg Hl.out];simp[markL,bodyL,eTn.out,eTl.out]
theorem text_2(hd:Held)(fn:ByteArray)(copy:Int)(name:ByteArray)(n cell:Int)(w:World)(hm:mayB ⟨2,fn,copy,name,n,cell⟩=true)(htab:Tab w) :
 Calls Tryz.prog 120 #[Nd.val ⟨2,fn,copy,name,n,cell⟩] w (TextPost ⟨2,fn,copy,name,n,cell⟩ w):=
 text_B 2 (by simp) hd fn copy name n cell w hm htab
theorem text_3(hd:Held)(fn:ByteArray)(copy:Int)(name:ByteArray)(n cell:Int)(w:World)(hm:mayB ⟨3,fn,copy,name,n,cell⟩=true)(htab:Tab w) :
 Calls Tryz.prog 120 #[Nd.val ⟨3,fn,copy,name,n,cell⟩] w (TextPost ⟨3,fn,copy,name,n,cell⟩ w):=
 text_B 3 (by simp) hd fn copy name n cell w hm htab
theorem text_7(hd:Held)(fn:ByteArray)(copy:Int)(name:ByteArray)(n cell:Int)(w:World)(hm:mayB ⟨7,fn,copy,name,n,cell⟩=true)(htab:Tab w) :
 Calls Tryz.prog 120 #[Nd.val ⟨7,fn,copy,name,n,cell⟩] w (TextPost ⟨7,fn,copy,name,n,cell⟩ w):=
 text_B 7 (by simp) hd fn copy name n cell w hm htab
theorem text_no(hd:Held)(d:Nd)(w:World)(hm:mayB d=false)(hsn:d.name.size≤maxLen)(hsf:d.fn.size≤maxLen) :
 Calls Tryz.prog 120 #[d.val] w (TextPost d w):=by
 have H:=hid (fun w=>may_any hd d w hsn hsf);rw[hm]at H;unfold BPost at H;have Hp:Hid (∀w',Below w.heap.size w w'→TextPost d w (.returned (.tuple #[.string ⟨#[]⟩,.int .i64 11])) w'):=hid fun w' hb=>⟨by unfold txt terr;rw[hm];rfl,hb⟩
 obtain⟨kind,fn,copy,name,n,cell⟩:=d;unfold Nd.val Nd.cells at H ⊢;clear hm hsn hsf hd;go_enter Tryz.func120,Tryz.ntmps120;go_wp2_with fail;refine(H.out _).mono ?_;rintro e w1 ⟨rfl,b1⟩;go_wp2_with fail;go_ret2;exact Hp.out _ (below_on ((Below.refl _ _).alloc (Nat.le_refl _) _) b1)
theorem text_any(hd:Held)(d:Nd)(w:World)(hsn:d.name.size≤maxLen)(hsf:d.fn.size≤maxLen)(htab:Tab w) :
 Calls Tryz.prog 120 #[d.val] w (TextPost d w):=by
 rcases hm:mayB d with _ | _
 ·exact text_no hd d w hm hsn hsf
 ·obtain⟨_,_,h1,h7⟩:=may_bounds d hm
  obtain⟨kind,fn,copy,name,n,cell⟩:=d;have h1':1≤kind:=h1;have h7':kind≤7:=h7;rcases(by omega:kind=1∨kind=2∨kind=3∨kind=4∨kind=5∨kind=6∨kind=7)with rfl | rfl | rfl | rfl | rfl | rfl | rfl
  ·exact text_1 hd _ _ _ _ _ w hm htab
  ·exact text_2 hd _ _ _ _ _ w hm htab
  ·exact text_3 hd _ _ _ _ _ w hm htab
  ·exact text_4 hd _ _ _ _ _ w hm htab
  ·exact text_5 hd _ _ _ _ _ w hm htab
  ·exact text_6 hd _ _ _ _ _ w hm htab
  ·exact text_7 hd _ _ _ _ _ w hm htab
def headI(s:ByteArray):Int:=((s.data.toList.headD 0).toNat:Int)
def kindS(s:ByteArray):Int:=
 if s.size=0 then 5
 else if headI s=46 then 1 else if headI s=36 then 2 else if headI s=64 then 3 else if headI s=40 then 4 else if headI s=37 then 6 else if headI s=35 then 7 else 5
theorem kind_any(s:ByteArray)(w:World)(hs:s.size≤maxLen):Calls Tryz.prog 119 #[.string s] w fun e w'=>e=.returned (.int .i64 (kindS s))∧w=w':=by
 unfold maxLen at hs;by_cases h0:s.size=0
 ·have he:s.toList=[]:=dg.empty_list s h0
  have Hk:Hid (kindS s=5):=hid (by unfold kindS;rw[if_pos h0]);clear h0;go_enter Tryz.func119,Tryz.ntmps119;go_wp2_with fail;go_ret;exact⟨by rw[Hk.out];rfl,rfl⟩
 ·have he:s.toList.isEmpty=false:=dg.not_empty s h0
  have hz:0<s.size:=by omega
  have hh:headI s=(s[0].toNat:Int):=by unfold headI;rw[dg.headD_zero s hz]
  have Hk:Hid (kindS s=(if(s[0].toNat:Int)=46 then 1 else if(s[0].toNat:Int)=36 then 2 else if(s[0].toNat:Int)=64 then 3 else if(s[0].toNat:Int)=40 then 4 else if(s[0].toNat:Int)=37 then 6 else if(s[0].toNat:Int)=35 then 7 else 5)):=hid (by unfold kindS;rw[if_neg h0,hh]);clear h0 hh;rcases(by omega:(s[0].toNat:Int)=46∨(s[0].toNat:Int)=36∨(s[0].toNat:Int)=64∨(s[0].toNat:Int)=40∨(s[0].toNat:Int)=37∨(s[0].toNat:Int)=35∨((s[0].toNat:Int)≠46∧(s[0].toNat:Int)≠36∧(s[0].toNat:Int)≠64∧(s[0].toNat:Int)≠40∧(s[0].toNat:Int)≠37∧(s[0].toNat:Int)≠35))with h | h | h | h | h | h | ⟨h1,h2,h3,h4,h5,h6⟩
  all_goals first
   | (have Hv:Hid (kindS s=5):=hid (by rw[Hk.out,if_neg h1,if_neg h2,if_neg h3,if_neg h4,if_neg h5,if_neg h6])
      have b1:=beq_eq_false_iff_ne.2 h1;have b2:=beq_eq_false_iff_ne.2 h2;have b3:=beq_eq_false_iff_ne.2 h3;have b4:=beq_eq_false_iff_ne.2 h4;have b5:=beq_eq_false_iff_ne.2 h5;have b6:=beq_eq_false_iff_ne.2 h6;clear h1 h2 h3 h4 h5 h6 Hk;go_enter Tryz.func119,Tryz.ntmps119;go_wp2_with fail;go_ret
      exact⟨by rw[Hv.out];rfl,rfl⟩)
   | (have hv:=Hk.out
      rw[h]at hv;have Hv:=hid hv;clear Hk hv;go_enter Tryz.func119,Tryz.ntmps119;go_wp2_with fail;go_ret
      exact⟨by rw[Hv.out];rfl,rfl⟩)
def behS(s:ByteArray)(mark:Int)(absent:Int):Int×ByteArray:=
 if s.size=0∨headI s≠mark then(absent,s)
 else if(dg.rd ((s.extract 1 s.size).extract 0 (dg.splN (s.extract 1 s.size)))).2=0 then
  ((dg.rd ((s.extract 1 s.size).extract 0 (dg.splN (s.extract 1 s.size)))).1,(s.extract 1 s.size).extract (dg.splN (s.extract 1 s.size)) (s.extract 1 s.size).size)
 else(absent,⟨#[]⟩)
def BehPost(s:ByteArray)(mark absent:Int)(w:World)(e:Ending)(w':World):Prop:=e=.returned (.tuple #[.int .i64 (behS s mark absent).1,.string (behS s mark absent).2])∧∃n,w'=w.drewN n
theorem ext_le(s:ByteArray)(a b:Nat):(s.extract a b).size≤s.size:=by simp;omega
theorem behind_any(s:ByteArray)(mark absent:Int)(w:World)(hs:s.size≤maxLen) :
 Calls Tryz.prog 118 #[.string s,.int .u8 mark,.int .i64 absent] w (BehPost s mark absent w):=by
 by_cases h0:s.size=0
 ·have he:s.toList=[]:=dg.empty_list s h0
  have Hb:Hid (behS s mark absent=(absent,s)):=hid (by unfold behS;rw[if_pos (Or.inl h0)]);clear h0;go_enter Tryz.func118,Tryz.ntmps118;go_wp2_with fail;go_ret2;exact⟨by rw[Hb.out];rfl,0,rfl⟩
 ·have he:s.toList.isEmpty=false:=dg.not_empty s h0
  have hz:0<s.size:=by omega
  have hh:headI s=(s[0].toNat:Int):=by unfold headI;rw[dg.headD_zero s hz]
  by_cases hmk:(s[0].toNat:Int)=mark
  ·have hne:((s[0].toNat:Int) != mark)=false:=by rw[hmk];simp
   have hb1:¬(s.size=0∨headI s≠mark):=by rintro(h | h);exact h0 h;exact h (by rw[hh];exact hmk)
   have hle1:=ext_le s 1 s.size;have hsp:=dg.splN_le (s.extract 1 s.size);have Hbe:Hid (behS s mark absent=if(dg.rd ((s.extract 1 s.size).extract 0 (dg.splN (s.extract 1 s.size)))).2=0 then((dg.rd ((s.extract 1 s.size).extract 0 (dg.splN (s.extract 1 s.size)))).1,(s.extract 1 s.size).extract (dg.splN (s.extract 1 s.size)) (s.extract 1 s.size).size) else(absent,⟨#[]⟩)):=hid (by unfold behS;rw[if_neg hb1]);have Hsp:=hid (fun w=>dg.split_any (s.extract 1 s.size) w (by omega));have Hrd:=hid (fun w=>dg.read_any ((s.extract 1 s.size).extract 0 (dg.splN (s.extract 1 s.size))) w (by have:=ext_le (s.extract 1 s.size) 0 (dg.splN (s.extract 1 s.size));omega));unfold dg.SplitPost at Hsp;generalize (dg.rd ((s.extract 1 s.size).extract 0 (dg.splN (s.extract 1 s.size)))).1=rv at *;generalize (dg.rd ((s.extract 1 s.size).extract 0 (dg.splN (s.extract 1 s.size)))).2=re at *;generalize (s.extract 1 s.size).extract 0 (dg.splN (s.extract 1 s.size))=t1 at *
   generalize (s.extract 1 s.size).extract (dg.splN (s.extract 1 s.size)) (s.extract 1 s.size).size=t2 at *;clear h0 hh hmk hb1 hsp hle1;unfold maxLen at hs;by_cases hre:re=0
   ·have Hb:Hid (behS s mark absent=(rv,t2)):=hid (by rw[Hbe.out,if_pos hre])
    have hreb:(re != 0)=false:=by rw[hre];rfl
    clear Hbe hre;go_enter Tryz.func118,Tryz.ntmps118;go_wp2_with fail;refine(Hsp.out _).mono ?_;rintro e w' ⟨rfl,q,rfl⟩;go_wp2_with fail;refine(Hrd.out _).mono ?_;rintro e w' ⟨rfl,rfl⟩;go_wp2_with fail;go_ret2;exact⟨by rw[Hb.out];rfl,q,rfl⟩
   ·have Hb:Hid (behS s mark absent=(absent,⟨#[]⟩)):=hid (by rw[Hbe.out,if_neg hre])
    have hreb:(re != 0)=true:=by rw[bne_iff_ne];exact hre
    clear Hbe hre;go_enter Tryz.func118,Tryz.ntmps118;go_wp2_with fail;refine(Hsp.out _).mono ?_;rintro e w' ⟨rfl,q,rfl⟩;go_wp2_with fail;refine(Hrd.out _).mono ?_;rintro e w' ⟨rfl,rfl⟩;go_wp2_with fail;go_ret2;exact⟨by rw[Hb.out];rfl,q,rfl⟩
  ·have hne:((s[0].toNat:Int) != mark)=true:=by rw[bne_iff_ne];exact hmk
   have Hb:Hid (behS s mark absent=(absent,s)):=hid (by unfold behS;rw[if_pos (Or.inr (by rw[hh];exact hmk))]);clear h0 hh hmk;unfold maxLen at hs;go_enter Tryz.func118,Tryz.ntmps118;go_wp2_with fail;go_ret2;exact⟨by rw[Hb.out];rfl,0,rfl⟩
def fn0(s:ByteArray):ByteArray:=s.extract 0 (dg.splN s)
def rest1(s:ByteArray):ByteArray:=s.extract (dg.splN s) s.size
def cp0(s:ByteArray):Int:=(behS (rest1 s) 126 0).1
def rest2(s:ByteArray):ByteArray:=(behS (rest1 s) 126 0).2
def tailS(s:ByteArray):ByteArray:=s.extract 1 s.size
def cellOf(r:ByteArray):Int:=(behS r 43 (-1)).1
def cand(s:ByteArray):Nd:=
 if kindS (rest2 s)=5 then⟨5,⟨#[]⟩,cp0 s,fn0 s,0,cellOf (rest2 s)⟩
 else if kindS (rest2 s)=1 then⟨1,fn0 s,cp0 s,fn0 (tailS (rest2 s)),0,cellOf (rest1 (tailS (rest2 s)))⟩
 else if kindS (rest2 s)=6 then⟨6,fn0 s,cp0 s,fn0 (tailS (rest2 s)),0,cellOf (rest1 (tailS (rest2 s)))⟩
 else if kindS (rest2 s)=4 then⟨4,fn0 s,cp0 s,⟨#[]⟩,0,cellOf ⟨#[]⟩⟩
 else⟨kindS (rest2 s),fn0 s,cp0 s,⟨#[]⟩,(behS (rest2 s) (headI (rest2 s)) 0).1,cellOf (behS (rest2 s) (headI (rest2 s)) 0).2⟩
def zeroN:Nd:=⟨0,⟨#[]⟩,0,⟨#[]⟩,0,0⟩
def readB(s:ByteArray):Bool:=mayB (cand s)&&((txt (cand s)).toList==s.toList)
def readN(s:ByteArray):Nd:=if readB s then cand s else zeroN
def readE(s:ByteArray):Int:=if readB s then 0 else 11
def ReadPost(s:ByteArray)(w:World)(e:Ending)(w':World):Prop:=e=.returned (.tuple #[(readN s).val,.int .i64 (readE s)])∧Below w.heap.size w w'
theorem frozen_below{W w':World}{a:Addr}(hl:a.block<W.heap.size)(h:W.frozen? a=false)(hb:Below W.heap.size W w'):w'.frozen? a=false:=by
 rw[hb.frozen hl];exact h
theorem call_abs{P:Program}{f:FuncId}{args:Array Value}{W:World}{post:Ending→World→Prop}(Q:World→Prop)(hQ:Q W)(h:∀W',Q W'→Calls P f args W' post):Calls P f args W post:=h W hQ
def Free(b:Nat)(w:World):Prop:=w.frozen? ⟨b,0,none⟩=false∧w.frozen? ⟨b,1,none⟩=false∧w.frozen? ⟨b,2,none⟩=false∧w.frozen? ⟨b,3,none⟩=false∧w.frozen? ⟨b,4,none⟩=false∧w.frozen? ⟨b,5,none⟩=false
theorem Free.on{b:Nat}{w w':World}(h:Free b w)(hl:b<w.heap.size)(hb:Below w.heap.size w w'):Free b w':=
 ⟨frozen_below hl h.1 hb,frozen_below hl h.2.1 hb,frozen_below hl h.2.2.1 hb,frozen_below hl h.2.2.2.1 hb,frozen_below hl h.2.2.2.2.1 hb,frozen_below hl h.2.2.2.2.2 hb⟩
theorem beh_le(s:ByteArray)(m a:Int):(behS s m a).2.size≤s.size:=by
 unfold behS;split
 ·exact Nat.le_refl _
 ·split
  ·exact Nat.le_trans (ext_le _ _ _) (ext_le _ _ _)
  ·exact Nat.zero_le _
theorem rest1_le(s:ByteArray):(rest1 s).size≤s.size:=ext_le _ _ _
theorem rest2_le(s:ByteArray):(rest2 s).size≤s.size:=Nat.le_trans (beh_le _ _ _) (rest1_le s)
theorem fn0_le(s:ByteArray):(fn0 s).size≤s.size:=ext_le _ _ _
theorem tailS_le(s:ByteArray):(tailS s).size≤s.size:=ext_le _ _ _
theorem split_of(s:ByteArray)(w:World)(hs:s.size≤maxLen):Calls Tryz.prog 117 #[.string s] w fun e w'=>e=.returned (.tuple #[.string (fn0 s),.string (rest1 s)])∧∃n,w'=w.drewN n:=dg.split_any s w hs
theorem beh1_of(s:ByteArray)(w:World)(hs:(rest1 s).size≤maxLen):Calls Tryz.prog 118 #[.string (rest1 s),.int .u8 126,.int .i64 0] w fun e w'=>e=.returned (.tuple #[.int .i64 (cp0 s),.string (rest2 s)])∧∃n,w'=w.drewN n:=behind_any (rest1 s) 126 0 w hs
theorem behc_all(r:ByteArray)(hs:r.size≤maxLen):∃t,∀w,Calls Tryz.prog 118 #[.string r,.int .u8 43,.int .i64 (-1)] w fun e w'=>e=.returned (.tuple #[.int .i64 (cellOf r),.string t])∧∃n,w'=w.drewN n:=⟨(behS r 43 (-1)).2,fun w=>behind_any r 43 (-1) w hs⟩
theorem readPost_yes{s:ByteArray}{d:Nd}{w w':World}(hc:cand s=d)(hm:mayB d=true)(ht:((txt d).toList==s.toList)=true)(hb:Below w.heap.size w w'):ReadPost s w (.returned (.tuple #[d.val,.int .i64 0])) w':=by
 have hr:readB s=true:=by unfold readB;rw[hc,hm,ht];rfl
 refine⟨?_,hb⟩;unfold readN readE;rw[hr,hc];rfl
theorem readPost_no{s:ByteArray}{d:Nd}{w w':World}(hc:cand s=d)(hm:mayB d=false∨((txt d).toList==s.toList)=false)(hb:Below w.heap.size w w'):ReadPost s w (.returned (.tuple #[zeroN.val,.int .i64 11])) w':=by
 have hr:readB s=false:=by unfold readB;rw[hc];rcases hm with h | h <;> rw[h] <;> simp
 refine⟨?_,hb⟩;unfold readN readE;rw[hr];rfl
theorem three_ways(d:Nd)(s:ByteArray):(mayB d=false∧terr d=11)∨(mayB d=true∧terr d=0∧((txt d).toList==s.toList)=false)∨(mayB d=true∧terr d=0∧((txt d).toList==s.toList)=true):=by
 unfold terr;rcases h:mayB d with _ | _
 ·exact Or.inl ⟨rfl,by simp⟩
 ·rcases h2:((txt d).toList==s.toList)with _ | _
  ·exact Or.inr (Or.inl ⟨rfl,by simp,rfl⟩)
  ·exact Or.inr (Or.inr ⟨rfl,by simp,rfl⟩)
theorem kind_pos{s:ByteArray}{k:Int}(h:kindS s=k)(hk:k≠5):0<s.size:=by
 rcases Nat.eq_zero_or_pos s.size with h0 | h0
 ·unfold kindS at h;rw[if_pos h0]at h;exact absurd h.symm hk
 ·exact h0
theorem split_tail(r:ByteArray)(w:World)(hs:r.size≤maxLen):Calls Tryz.prog 117 #[.string (r.extract 1 r.size)] w fun e w'=>e=.returned (.tuple #[.string (fn0 (tailS r)),.string (rest1 (tailS r))])∧∃n,w'=w.drewN n:=dg.split_any (tailS r) w (Nat.le_trans (tailS_le r) hs)
theorem beh_head(r:ByteArray)(hz:0<r.size)(w:World)(hs:r.size≤maxLen):Calls Tryz.prog 118 #[.string r,.int .u8 (r[0].toNat:Int),.int .i64 0] w fun e w'=>e=.returned (.tuple #[.int .i64 (behS r (headI r) 0).1,.string (behS r (headI r) 0).2])∧∃n,w'=w.drewN n:=by
 have hh:headI r=(r[0].toNat:Int):=by unfold headI;rw[dg.headD_zero r hz]
 rw[hh];exact behind_any r (r[0].toNat:Int) 0 w hs
theorem read_5(hd:Held)(s:ByteArray)(w:World)(hs:s.size≤maxLen)(htab:Tab w)(hk:kindS (rest2 s)=5):Calls Tryz.prog 97 #[.string s] w (ReadPost s w):=by
 have l1:=rest1_le s;have l2:=rest2_le s;have l0:=fn0_le s;obtain⟨r4,Hb2⟩:=behc_all (rest2 s) (by omega);have Hb2:=hid Hb2;have Hc:Hid (cand s=⟨5,⟨#[]⟩,cp0 s,fn0 s,0,cellOf (rest2 s)⟩):=hid (by unfold cand;rw[hk];first | rfl | simp);have Htx:=hid (fun w h=>text_any hd ⟨5,⟨#[]⟩,cp0 s,fn0 s,0,cellOf (rest2 s)⟩ w (by show(fn0 s:ByteArray).size≤maxLen;first | omega | exact Nat.zero_le _) (by show(⟨#[]⟩:ByteArray).size≤maxLen;first | omega | exact Nat.zero_le _) h);have Hways:=hid (three_ways ⟨5,⟨#[]⟩,cp0 s,fn0 s,0,cellOf (rest2 s)⟩ s);unfold TextPost Nd.val Nd.cells at Htx;have Hsp:=hid (fun w=>split_of s w hs);have Hb1:=hid (fun w=>beh1_of s w (by omega));have Hkd:=hid (fun w=>kind_any (rest2 s) w (by omega));rw[hk]at Hkd;have Htab:=hid htab;clear htab hk hd l0 l1 l2;unfold maxLen at hs;go_enter Tryz.func97,Tryz.ntmps97;go_wp2_with fail;refine(Hsp.out _).mono ?_;rintro e w' ⟨rfl,q1,rfl⟩;go_wp2_with fail
 refine(Hb1.out _).mono ?_;rintro e w' ⟨rfl,q2,rfl⟩;go_wp2_with fail;refine(Hkd.out _).mono ?_;rintro e w' ⟨rfl,rfl⟩;go_wp2_with fail;refine(Hb2.out _).mono ?_;rintro e w' ⟨rfl,r0,rfl⟩;go_wp2_with fail;refine call_abs (fun W'=>Below w.heap.size w W'∧Six ⟨5,⟨#[]⟩,cp0 s,fn0 s,0,cellOf (rest2 s)⟩ (w.heap.size+1) W'∧Six zeroN w.heap.size W'∧Free w.heap.size W'∧w.heap.size+1<W'.heap.size) ⟨?_,?_,?_,?_,?_⟩ ?_
 ·repeat (first | (with_reducible exact Below.refl _ _) | (with_reducible refine dt.below_drewN ?_ _) | (with_reducible refine Below.setCell ?_ (by simp) _) | (with_reducible refine Below.alloc ?_ (by simp) _))
 ·unfold Six;refine⟨?_,?_,?_,?_,?_,?_⟩ <;> go_simp
 ·unfold Six zeroN;refine⟨?_,?_,?_,?_,?_,?_⟩ <;> go_simp
 ·unfold Free;refine⟨?_,?_,?_,?_,?_,?_⟩ <;> go_simp
 ·simp
 rintro W4 ⟨hb4,hs4,hz4,hf4,hl4⟩;refine(Htx.out W4 (tab_below Htab.out hb4)).mono ?_;rintro e w5 ⟨rfl,b5⟩;have Hs5:=hid (hs4.on b5);have Hz5:=hid (hz4.on b5);have Hf5:=hid (hf4.on (by omega) b5);have hb5:=below_on hb4 b5;have hlt5:w.heap.size+1<w5.heap.size:=by have:=b5.size;omega
 clear b5 hb4 hs4 hz4 hf4 hl4;obtain⟨k0,k1,k2,k3,k4,k5⟩:=Hs5.out;unfold zeroN at Hz5;obtain⟨z0,z1,z2,z3,z4,z5⟩:=Hz5.out;obtain⟨f0,f1,f2,f3,f4,f5⟩:=Hf5.out;have H3:=Hways.out;have Hno:=hid (fun w'=>readPost_no (w:=w) (w':=w') Hc.out);have Hyes:=hid (fun w'=>readPost_yes (w:=w) (w':=w') Hc.out);unfold zeroN at Hno;unfold Nd.val Nd.cells at Hno Hyes;generalize mayB ⟨5,⟨#[]⟩,cp0 s,fn0 s,0,cellOf (rest2 s)⟩=mb at *;generalize terr ⟨5,⟨#[]⟩,cp0 s,fn0 s,0,cellOf (rest2 s)⟩=te at *;generalize txt ⟨5,⟨#[]⟩,cp0 s,fn0 s,0,cellOf (rest2 s)⟩=tt at *;clear Hc Hb2 Hsp Hb1 Hkd Htx Hways;rcases H3 with⟨hmb,rfl⟩ | ⟨hmb,rfl,htt⟩ | ⟨hmb,rfl,htt⟩
 ·have hno:=hid (fun w'=>Hno.out w' (Or.inl hmb))
  clear Hno Hyes hmb;go_wp2_with fail;refine bodyPost_ret (v:=.tuple #[.agg #[.int .i64 0,.string ⟨#[]⟩,.int .i64 0,.string ⟨#[]⟩,.int .i64 0,.int .i64 0],.int .i64 11]) ?_ rfl (hno.out _ ?_)
  ·simp only[results,Tryz.results97]
   clear hno;go_simp
  ·repeat (first | (with_reducible exact hb5) | (with_reducible refine Below.setCell ?_ (by simp) _))
 ·have hno:=hid (fun w'=>Hno.out w' (Or.inr htt))
  clear Hno Hyes hmb;go_wp2_with fail;refine bodyPost_ret (v:=.tuple #[.agg #[.int .i64 0,.string ⟨#[]⟩,.int .i64 0,.string ⟨#[]⟩,.int .i64 0,.int .i64 0],.int .i64 11]) ?_ rfl (hno.out _ ?_)
  ·simp only[results,Tryz.results97]
   clear hno;go_simp
  ·repeat (first | (with_reducible exact hb5) | (with_reducible refine Below.setCell ?_ (by simp) _))
 ·have hyes:=hid (fun w'=>Hyes.out w' hmb htt)
  clear Hno Hyes hmb;go_wp2_with fail;refine bodyPost_ret ?_ rfl (hyes.out _ ?_)
  ·simp only[results,Tryz.results97]
   clear hyes;go_simp
  ·repeat (first | (with_reducible exact hb5) | (with_reducible refine Below.setCell ?_ (by simp) _))
theorem read_1(hd:Held)(s:ByteArray)(w:World)(hs:s.size≤maxLen)(htab:Tab w)(hk:kindS (rest2 s)=1):Calls Tryz.prog 97 #[.string s] w (ReadPost s w):=by
 have l1:=rest1_le s;have l2:=rest2_le s;have l0:=fn0_le s;have hz:=kind_pos hk (by decide);have lt:=tailS_le (rest2 s);have lf:=fn0_le (tailS (rest2 s));have lr:=rest1_le (tailS (rest2 s));have Hst:=hid (fun w=>split_tail (rest2 s) w (by omega));obtain⟨r4,Hb2⟩:=behc_all (rest1 (tailS (rest2 s))) (by omega);have Hb2:=hid Hb2;clear lr;have Hc:Hid (cand s=⟨1,fn0 s,cp0 s,fn0 (tailS (rest2 s)),0,cellOf (rest1 (tailS (rest2 s)))⟩):=hid (by unfold cand;rw[hk];first | rfl | simp);have Htx:=hid (fun w h=>text_any hd ⟨1,fn0 s,cp0 s,fn0 (tailS (rest2 s)),0,cellOf (rest1 (tailS (rest2 s)))⟩ w (by show(fn0 (tailS (rest2 s)):ByteArray).size≤maxLen;first | omega | exact Nat.zero_le _) (by show(fn0 s:ByteArray).size≤maxLen;first | omega | exact Nat.zero_le _) h);have Hways:=hid (three_ways ⟨1,fn0 s,cp0 s,fn0 (tailS (rest2 s)),0,cellOf (rest1 (tailS (rest2 s)))⟩ s);unfold TextPost Nd.val Nd.cells at Htx
 have Hsp:=hid (fun w=>split_of s w hs);have Hb1:=hid (fun w=>beh1_of s w (by omega));have Hkd:=hid (fun w=>kind_any (rest2 s) w (by omega));rw[hk]at Hkd;have Htab:=hid htab;clear htab hk hd l0 l1 l2;unfold maxLen at hs;go_enter Tryz.func97,Tryz.ntmps97;go_wp2_with fail;refine(Hsp.out _).mono ?_;rintro e w' ⟨rfl,q1,rfl⟩;go_wp2_with fail;refine(Hb1.out _).mono ?_;rintro e w' ⟨rfl,q2,rfl⟩;go_wp2_with fail;refine(Hkd.out _).mono ?_;rintro e w' ⟨rfl,rfl⟩;go_wp2_with fail;refine(Hst.out _).mono ?_;rintro e w' ⟨rfl,r0,rfl⟩;go_wp2_with fail;refine(Hb2.out _).mono ?_;rintro e w' ⟨rfl,r1,rfl⟩;go_wp2_with fail;refine call_abs (fun W'=>Below w.heap.size w W'∧Six ⟨1,fn0 s,cp0 s,fn0 (tailS (rest2 s)),0,cellOf (rest1 (tailS (rest2 s)))⟩ (w.heap.size+1) W'∧Six zeroN w.heap.size W'∧Free w.heap.size W'∧w.heap.size+1<W'.heap.size) ⟨?_,?_,?_,?_,?_⟩ ?_
 ·repeat (first | (with_reducible exact Below.refl _ _) | (with_reducible refine dt.below_drewN ?_ _) | (with_reducible refine Below.setCell ?_ (by simp) _) | (with_reducible refine Below.alloc ?_ (by simp) _))
 ·unfold Six;refine⟨?_,?_,?_,?_,?_,?_⟩ <;> go_simp
 ·unfold Six zeroN;refine⟨?_,?_,?_,?_,?_,?_⟩ <;> go_simp
 ·unfold Free;refine⟨?_,?_,?_,?_,?_,?_⟩ <;> go_simp
 ·simp
 rintro W4 ⟨hb4,hs4,hz4,hf4,hl4⟩;refine(Htx.out W4 (tab_below Htab.out hb4)).mono ?_;rintro e w5 ⟨rfl,b5⟩;have Hs5:=hid (hs4.on b5);have Hz5:=hid (hz4.on b5);have Hf5:=hid (hf4.on (by omega) b5);have hb5:=below_on hb4 b5;have hlt5:w.heap.size+1<w5.heap.size:=by have:=b5.size;omega
 clear b5 hb4 hs4 hz4 hf4 hl4;obtain⟨k0,k1,k2,k3,k4,k5⟩:=Hs5.out;unfold zeroN at Hz5;obtain⟨z0,z1,z2,z3,z4,z5⟩:=Hz5.out;obtain⟨f0,f1,f2,f3,f4,f5⟩:=Hf5.out;have H3:=Hways.out;have Hno:=hid (fun w'=>readPost_no (w:=w) (w':=w') Hc.out);have Hyes:=hid (fun w'=>readPost_yes (w:=w) (w':=w') Hc.out);unfold zeroN at Hno;unfold Nd.val Nd.cells at Hno Hyes;generalize mayB ⟨1,fn0 s,cp0 s,fn0 (tailS (rest2 s)),0,cellOf (rest1 (tailS (rest2 s)))⟩=mb at *;generalize terr ⟨1,fn0 s,cp0 s,fn0 (tailS (rest2 s)),0,cellOf (rest1 (tailS (rest2 s)))⟩=te at *;generalize txt ⟨1,fn0 s,cp0 s,fn0 (tailS (rest2 s)),0,cellOf (rest1 (tailS (rest2 s)))⟩=tt at *;clear Hc Hb2 Hsp Hb1 Hkd Htx Hways;rcases H3 with⟨hmb,rfl⟩ | ⟨hmb,rfl,htt⟩ | ⟨hmb,rfl,htt⟩
 ·have hno:=hid (fun w'=>Hno.out w' (Or.inl hmb))
  clear Hno Hyes hmb;go_wp2_with fail;refine bodyPost_ret (v:=.tuple #[.agg #[.int .i64 0,.string ⟨#[]⟩,.int .i64 0,.string ⟨#[]⟩,.int .i64 0,.int .i64 0],.int .i64 11]) ?_ rfl (hno.out _ ?_)
  ·simp only[results,Tryz.results97]
   clear hno;go_simp
  ·repeat (first | (with_reducible exact hb5) | (with_reducible refine Below.setCell ?_ (by simp) _))
 ·have hno:=hid (fun w'=>Hno.out w' (Or.inr htt))
  clear Hno Hyes hmb;go_wp2_with fail;refine bodyPost_ret (v:=.tuple #[.agg #[.int .i64 0,.string ⟨#[]⟩,.int .i64 0,.string ⟨#[]⟩,.int .i64 0,.int .i64 0],.int .i64 11]) ?_ rfl (hno.out _ ?_)
  ·simp only[results,Tryz.results97]
   clear hno;go_simp
  ·repeat (first | (with_reducible exact hb5) | (with_reducible refine Below.setCell ?_ (by simp) _))
 ·have hyes:=hid (fun w'=>Hyes.out w' hmb htt)
  clear Hno Hyes hmb;go_wp2_with fail;refine bodyPost_ret ?_ rfl (hyes.out _ ?_)
  ·simp only[results,Tryz.results97]
   clear hyes;go_simp
  ·repeat (first | (with_reducible exact hb5) | (with_reducible refine Below.setCell ?_ (by simp) _))
theorem read_6(hd:Held)(s:ByteArray)(w:World)(hs:s.size≤maxLen)(htab:Tab w)(hk:kindS (rest2 s)=6):Calls Tryz.prog 97 #[.string s] w (ReadPost s w):=by
 have l1:=rest1_le s;have l2:=rest2_le s;have l0:=fn0_le s;have hz:=kind_pos hk (by decide);have lt:=tailS_le (rest2 s);have lf:=fn0_le (tailS (rest2 s));have lr:=rest1_le (tailS (rest2 s));have Hst:=hid (fun w=>split_tail (rest2 s) w (by omega));obtain⟨r4,Hb2⟩:=behc_all (rest1 (tailS (rest2 s))) (by omega);have Hb2:=hid Hb2;clear lr;have Hc:Hid (cand s=⟨6,fn0 s,cp0 s,fn0 (tailS (rest2 s)),0,cellOf (rest1 (tailS (rest2 s)))⟩):=hid (by unfold cand;rw[hk];first | rfl | simp);have Htx:=hid (fun w h=>text_any hd ⟨6,fn0 s,cp0 s,fn0 (tailS (rest2 s)),0,cellOf (rest1 (tailS (rest2 s)))⟩ w (by show(fn0 (tailS (rest2 s)):ByteArray).size≤maxLen;first | omega | exact Nat.zero_le _) (by show(fn0 s:ByteArray).size≤maxLen;first | omega | exact Nat.zero_le _) h);have Hways:=hid (three_ways ⟨6,fn0 s,cp0 s,fn0 (tailS (rest2 s)),0,cellOf (rest1 (tailS (rest2 s)))⟩ s);unfold TextPost Nd.val Nd.cells at Htx
 have Hsp:=hid (fun w=>split_of s w hs);have Hb1:=hid (fun w=>beh1_of s w (by omega));have Hkd:=hid (fun w=>kind_any (rest2 s) w (by omega));rw[hk]at Hkd;have Htab:=hid htab;clear htab hk hd l0 l1 l2;unfold maxLen at hs;go_enter Tryz.func97,Tryz.ntmps97;go_wp2_with fail;refine(Hsp.out _).mono ?_;rintro e w' ⟨rfl,q1,rfl⟩;go_wp2_with fail;refine(Hb1.out _).mono ?_;rintro e w' ⟨rfl,q2,rfl⟩;go_wp2_with fail;refine(Hkd.out _).mono ?_;rintro e w' ⟨rfl,rfl⟩;go_wp2_with fail;refine(Hst.out _).mono ?_;rintro e w' ⟨rfl,r0,rfl⟩;go_wp2_with fail;refine(Hb2.out _).mono ?_;rintro e w' ⟨rfl,r1,rfl⟩;go_wp2_with fail;refine call_abs (fun W'=>Below w.heap.size w W'∧Six ⟨6,fn0 s,cp0 s,fn0 (tailS (rest2 s)),0,cellOf (rest1 (tailS (rest2 s)))⟩ (w.heap.size+1) W'∧Six zeroN w.heap.size W'∧Free w.heap.size W'∧w.heap.size+1<W'.heap.size) ⟨?_,?_,?_,?_,?_⟩ ?_
 ·repeat (first | (with_reducible exact Below.refl _ _) | (with_reducible refine dt.below_drewN ?_ _) | (with_reducible refine Below.setCell ?_ (by simp) _) | (with_reducible refine Below.alloc ?_ (by simp) _))
 ·unfold Six;refine⟨?_,?_,?_,?_,?_,?_⟩ <;> go_simp
 ·unfold Six zeroN;refine⟨?_,?_,?_,?_,?_,?_⟩ <;> go_simp
 ·unfold Free;refine⟨?_,?_,?_,?_,?_,?_⟩ <;> go_simp
 ·simp
 rintro W4 ⟨hb4,hs4,hz4,hf4,hl4⟩;refine(Htx.out W4 (tab_below Htab.out hb4)).mono ?_;rintro e w5 ⟨rfl,b5⟩;have Hs5:=hid (hs4.on b5);have Hz5:=hid (hz4.on b5);have Hf5:=hid (hf4.on (by omega) b5);have hb5:=below_on hb4 b5;have hlt5:w.heap.size+1<w5.heap.size:=by have:=b5.size;omega
 clear b5 hb4 hs4 hz4 hf4 hl4;obtain⟨k0,k1,k2,k3,k4,k5⟩:=Hs5.out;unfold zeroN at Hz5;obtain⟨z0,z1,z2,z3,z4,z5⟩:=Hz5.out;obtain⟨f0,f1,f2,f3,f4,f5⟩:=Hf5.out;have H3:=Hways.out;have Hno:=hid (fun w'=>readPost_no (w:=w) (w':=w') Hc.out);have Hyes:=hid (fun w'=>readPost_yes (w:=w) (w':=w') Hc.out);unfold zeroN at Hno;unfold Nd.val Nd.cells at Hno Hyes;generalize mayB ⟨6,fn0 s,cp0 s,fn0 (tailS (rest2 s)),0,cellOf (rest1 (tailS (rest2 s)))⟩=mb at *;generalize terr ⟨6,fn0 s,cp0 s,fn0 (tailS (rest2 s)),0,cellOf (rest1 (tailS (rest2 s)))⟩=te at *;generalize txt ⟨6,fn0 s,cp0 s,fn0 (tailS (rest2 s)),0,cellOf (rest1 (tailS (rest2 s)))⟩=tt at *;clear Hc Hb2 Hsp Hb1 Hkd Htx Hways;rcases H3 with⟨hmb,rfl⟩ | ⟨hmb,rfl,htt⟩ | ⟨hmb,rfl,htt⟩
 ·have hno:=hid (fun w'=>Hno.out w' (Or.inl hmb))
  clear Hno Hyes hmb;go_wp2_with fail;refine bodyPost_ret (v:=.tuple #[.agg #[.int .i64 0,.string ⟨#[]⟩,.int .i64 0,.string ⟨#[]⟩,.int .i64 0,.int .i64 0],.int .i64 11]) ?_ rfl (hno.out _ ?_)
  ·simp only[results,Tryz.results97]
   clear hno;go_simp
  ·repeat (first | (with_reducible exact hb5) | (with_reducible refine Below.setCell ?_ (by simp) _))
 ·have hno:=hid (fun w'=>Hno.out w' (Or.inr htt))
  clear Hno Hyes hmb;go_wp2_with fail;refine bodyPost_ret (v:=.tuple #[.agg #[.int .i64 0,.string ⟨#[]⟩,.int .i64 0,.string ⟨#[]⟩,.int .i64 0,.int .i64 0],.int .i64 11]) ?_ rfl (hno.out _ ?_)
  ·simp only[results,Tryz.results97]
   clear hno;go_simp
  ·repeat (first | (with_reducible exact hb5) | (with_reducible refine Below.setCell ?_ (by simp) _))
 ·have hyes:=hid (fun w'=>Hyes.out w' hmb htt)
  clear Hno Hyes hmb;go_wp2_with fail;refine bodyPost_ret ?_ rfl (hyes.out _ ?_)
  ·simp only[results,Tryz.results97]
   clear hyes;go_simp
  ·repeat (first | (with_reducible exact hb5) | (with_reducible refine Below.setCell ?_ (by simp) _))
theorem read_4(hd:Held)(s:ByteArray)(w:World)(hs:s.size≤maxLen)(htab:Tab w)(hk:kindS (rest2 s)=4):Calls Tryz.prog 97 #[.string s] w (ReadPost s w):=by
 have l1:=rest1_le s;have l2:=rest2_le s;have l0:=fn0_le s;obtain⟨r4,Hb2⟩:=behc_all ⟨#[]⟩ (by exact Nat.zero_le _);have Hb2:=hid Hb2;have Hc:Hid (cand s=⟨4,fn0 s,cp0 s,⟨#[]⟩,0,cellOf ⟨#[]⟩⟩):=hid (by unfold cand;rw[hk];first | rfl | simp);have Htx:=hid (fun w h=>text_any hd ⟨4,fn0 s,cp0 s,⟨#[]⟩,0,cellOf ⟨#[]⟩⟩ w (by show(⟨#[]⟩:ByteArray).size≤maxLen;first | omega | exact Nat.zero_le _) (by show(fn0 s:ByteArray).size≤maxLen;first | omega | exact Nat.zero_le _) h);have Hways:=hid (three_ways ⟨4,fn0 s,cp0 s,⟨#[]⟩,0,cellOf ⟨#[]⟩⟩ s);unfold TextPost Nd.val Nd.cells at Htx;have Hsp:=hid (fun w=>split_of s w hs);have Hb1:=hid (fun w=>beh1_of s w (by omega));have Hkd:=hid (fun w=>kind_any (rest2 s) w (by omega));rw[hk]at Hkd;have Htab:=hid htab;clear htab hk hd l0 l1 l2;unfold maxLen at hs;go_enter Tryz.func97,Tryz.ntmps97;go_wp2_with fail;refine(Hsp.out _).mono ?_;rintro e w' ⟨rfl,q1,rfl⟩;go_wp2_with fail
 refine(Hb1.out _).mono ?_;rintro e w' ⟨rfl,q2,rfl⟩;go_wp2_with fail;refine(Hkd.out _).mono ?_;rintro e w' ⟨rfl,rfl⟩;go_wp2_with fail;refine(Hb2.out _).mono ?_;rintro e w' ⟨rfl,r0,rfl⟩;go_wp2_with fail;refine call_abs (fun W'=>Below w.heap.size w W'∧Six ⟨4,fn0 s,cp0 s,⟨#[]⟩,0,cellOf ⟨#[]⟩⟩ (w.heap.size+1) W'∧Six zeroN w.heap.size W'∧Free w.heap.size W'∧w.heap.size+1<W'.heap.size) ⟨?_,?_,?_,?_,?_⟩ ?_
 ·repeat (first | (with_reducible exact Below.refl _ _) | (with_reducible refine dt.below_drewN ?_ _) | (with_reducible refine Below.setCell ?_ (by simp) _) | (with_reducible refine Below.alloc ?_ (by simp) _))
 ·unfold Six;refine⟨?_,?_,?_,?_,?_,?_⟩ <;> go_simp
 ·unfold Six zeroN;refine⟨?_,?_,?_,?_,?_,?_⟩ <;> go_simp
 ·unfold Free;refine⟨?_,?_,?_,?_,?_,?_⟩ <;> go_simp
 ·simp
 rintro W4 ⟨hb4,hs4,hz4,hf4,hl4⟩;refine(Htx.out W4 (tab_below Htab.out hb4)).mono ?_;rintro e w5 ⟨rfl,b5⟩;have Hs5:=hid (hs4.on b5);have Hz5:=hid (hz4.on b5);have Hf5:=hid (hf4.on (by omega) b5);have hb5:=below_on hb4 b5;have hlt5:w.heap.size+1<w5.heap.size:=by have:=b5.size;omega
 clear b5 hb4 hs4 hz4 hf4 hl4;obtain⟨k0,k1,k2,k3,k4,k5⟩:=Hs5.out;unfold zeroN at Hz5;obtain⟨z0,z1,z2,z3,z4,z5⟩:=Hz5.out;obtain⟨f0,f1,f2,f3,f4,f5⟩:=Hf5.out;have H3:=Hways.out;have Hno:=hid (fun w'=>readPost_no (w:=w) (w':=w') Hc.out);have Hyes:=hid (fun w'=>readPost_yes (w:=w) (w':=w') Hc.out);unfold zeroN at Hno;unfold Nd.val Nd.cells at Hno Hyes;generalize mayB ⟨4,fn0 s,cp0 s,⟨#[]⟩,0,cellOf ⟨#[]⟩⟩=mb at *;generalize terr ⟨4,fn0 s,cp0 s,⟨#[]⟩,0,cellOf ⟨#[]⟩⟩=te at *;generalize txt ⟨4,fn0 s,cp0 s,⟨#[]⟩,0,cellOf ⟨#[]⟩⟩=tt at *;clear Hc Hb2 Hsp Hb1 Hkd Htx Hways;rcases H3 with⟨hmb,rfl⟩ | ⟨hmb,rfl,htt⟩ | ⟨hmb,rfl,htt⟩
 ·have hno:=hid (fun w'=>Hno.out w' (Or.inl hmb))
  clear Hno Hyes hmb;go_wp2_with fail;refine bodyPost_ret (v:=.tuple #[.agg #[.int .i64 0,.string ⟨#[]⟩,.int .i64 0,.string ⟨#[]⟩,.int .i64 0,.int .i64 0],.int .i64 11]) ?_ rfl (hno.out _ ?_)
  ·simp only[results,Tryz.results97]
   clear hno;go_simp
  ·repeat (first | (with_reducible exact hb5) | (with_reducible refine Below.setCell ?_ (by simp) _))
 ·have hno:=hid (fun w'=>Hno.out w' (Or.inr htt))
  clear Hno Hyes hmb;go_wp2_with fail;refine bodyPost_ret (v:=.tuple #[.agg #[.int .i64 0,.string ⟨#[]⟩,.int .i64 0,.string ⟨#[]⟩,.int .i64 0,.int .i64 0],.int .i64 11]) ?_ rfl (hno.out _ ?_)
  ·simp only[results,Tryz.results97]
   clear hno;go_simp
  ·repeat (first | (with_reducible exact hb5) | (with_reducible refine Below.setCell ?_ (by simp) _))
 ·have hyes:=hid (fun w'=>Hyes.out w' hmb htt)
  clear Hno Hyes hmb;go_wp2_with fail;refine bodyPost_ret ?_ rfl (hyes.out _ ?_)
  ·simp only[results,Tryz.results97]
   clear hyes;go_simp
  ·repeat (first | (with_reducible exact hb5) | (with_reducible refine Below.setCell ?_ (by simp) _))
theorem read_2(hd:Held)(s:ByteArray)(w:World)(hs:s.size≤maxLen)(htab:Tab w)(hk:kindS (rest2 s)=2):Calls Tryz.prog 97 #[.string s] w (ReadPost s w):=by
 have l1:=rest1_le s;have l2:=rest2_le s;have l0:=fn0_le s;have hz:=kind_pos hk (by decide);have Hst:=hid (fun w=>beh_head (rest2 s) hz w (by omega));obtain⟨r4,Hb2⟩:=behc_all (behS (rest2 s) (headI (rest2 s)) 0).2 (by have:=beh_le (rest2 s) (headI (rest2 s)) 0;omega);have Hb2:=hid Hb2;have Hc:Hid (cand s=⟨2,fn0 s,cp0 s,⟨#[]⟩,(behS (rest2 s) (headI (rest2 s)) 0).1,cellOf (behS (rest2 s) (headI (rest2 s)) 0).2⟩):=hid (by unfold cand;rw[hk];first | rfl | simp);have Htx:=hid (fun w h=>text_any hd ⟨2,fn0 s,cp0 s,⟨#[]⟩,(behS (rest2 s) (headI (rest2 s)) 0).1,cellOf (behS (rest2 s) (headI (rest2 s)) 0).2⟩ w (by show(⟨#[]⟩:ByteArray).size≤maxLen;first | omega | exact Nat.zero_le _) (by show(fn0 s:ByteArray).size≤maxLen;first | omega | exact Nat.zero_le _) h);have Hways:=hid (three_ways ⟨2,fn0 s,cp0 s,⟨#[]⟩,(behS (rest2 s) (headI (rest2 s)) 0).1,cellOf (behS (rest2 s) (headI (rest2 s)) 0).2⟩ s);unfold TextPost Nd.val Nd.cells at Htx
 have Hsp:=hid (fun w=>split_of s w hs);have Hb1:=hid (fun w=>beh1_of s w (by omega));have Hkd:=hid (fun w=>kind_any (rest2 s) w (by omega));rw[hk]at Hkd;have Htab:=hid htab;clear htab hk hd l0 l1 l2;unfold maxLen at hs;go_enter Tryz.func97,Tryz.ntmps97;go_wp2_with fail;refine(Hsp.out _).mono ?_;rintro e w' ⟨rfl,q1,rfl⟩;go_wp2_with fail;refine(Hb1.out _).mono ?_;rintro e w' ⟨rfl,q2,rfl⟩;go_wp2_with fail;refine(Hkd.out _).mono ?_;rintro e w' ⟨rfl,rfl⟩;go_wp2_with fail;refine(Hst.out _).mono ?_;rintro e w' ⟨rfl,r0,rfl⟩;go_wp2_with fail;refine(Hb2.out _).mono ?_;rintro e w' ⟨rfl,r1,rfl⟩;go_wp2_with fail;refine call_abs (fun W'=>Below w.heap.size w W'∧Six ⟨2,fn0 s,cp0 s,⟨#[]⟩,(behS (rest2 s) (headI (rest2 s)) 0).1,cellOf (behS (rest2 s) (headI (rest2 s)) 0).2⟩ (w.heap.size+1) W'∧Six zeroN w.heap.size W'∧Free w.heap.size W'∧w.heap.size+1<W'.heap.size) ⟨?_,?_,?_,?_,?_⟩ ?_
 ·repeat (first | (with_reducible exact Below.refl _ _) | (with_reducible refine dt.below_drewN ?_ _) | (with_reducible refine Below.setCell ?_ (by simp) _) | (with_reducible refine Below.alloc ?_ (by simp) _))
 ·unfold Six;refine⟨?_,?_,?_,?_,?_,?_⟩ <;> go_simp
 ·unfold Six zeroN;refine⟨?_,?_,?_,?_,?_,?_⟩ <;> go_simp
 ·unfold Free;refine⟨?_,?_,?_,?_,?_,?_⟩ <;> go_simp
 ·simp
 rintro W4 ⟨hb4,hs4,hz4,hf4,hl4⟩;refine(Htx.out W4 (tab_below Htab.out hb4)).mono ?_;rintro e w5 ⟨rfl,b5⟩;have Hs5:=hid (hs4.on b5);have Hz5:=hid (hz4.on b5);have Hf5:=hid (hf4.on (by omega) b5);have hb5:=below_on hb4 b5;have hlt5:w.heap.size+1<w5.heap.size:=by have:=b5.size;omega
 clear b5 hb4 hs4 hz4 hf4 hl4;obtain⟨k0,k1,k2,k3,k4,k5⟩:=Hs5.out;unfold zeroN at Hz5;obtain⟨z0,z1,z2,z3,z4,z5⟩:=Hz5.out;obtain⟨f0,f1,f2,f3,f4,f5⟩:=Hf5.out;have H3:=Hways.out;have Hno:=hid (fun w'=>readPost_no (w:=w) (w':=w') Hc.out);have Hyes:=hid (fun w'=>readPost_yes (w:=w) (w':=w') Hc.out);unfold zeroN at Hno;unfold Nd.val Nd.cells at Hno Hyes;generalize mayB ⟨2,fn0 s,cp0 s,⟨#[]⟩,(behS (rest2 s) (headI (rest2 s)) 0).1,cellOf (behS (rest2 s) (headI (rest2 s)) 0).2⟩=mb at *;generalize terr ⟨2,fn0 s,cp0 s,⟨#[]⟩,(behS (rest2 s) (headI (rest2 s)) 0).1,cellOf (behS (rest2 s) (headI (rest2 s)) 0).2⟩=te at *;generalize txt ⟨2,fn0 s,cp0 s,⟨#[]⟩,(behS (rest2 s) (headI (rest2 s)) 0).1,cellOf (behS (rest2 s) (headI (rest2 s)) 0).2⟩=tt at *;clear Hc Hb2 Hsp Hb1 Hkd Htx Hways;rcases H3 with⟨hmb,rfl⟩ | ⟨hmb,rfl,htt⟩ | ⟨hmb,rfl,htt⟩
 ·have hno:=hid (fun w'=>Hno.out w' (Or.inl hmb))
  clear Hno Hyes hmb;go_wp2_with fail;refine bodyPost_ret (v:=.tuple #[.agg #[.int .i64 0,.string ⟨#[]⟩,.int .i64 0,.string ⟨#[]⟩,.int .i64 0,.int .i64 0],.int .i64 11]) ?_ rfl (hno.out _ ?_)
  ·simp only[results,Tryz.results97]
   clear hno;go_simp
  ·repeat (first | (with_reducible exact hb5) | (with_reducible refine Below.setCell ?_ (by simp) _))
 ·have hno:=hid (fun w'=>Hno.out w' (Or.inr htt))
  clear Hno Hyes hmb;go_wp2_with fail;refine bodyPost_ret (v:=.tuple #[.agg #[.int .i64 0,.string ⟨#[]⟩,.int .i64 0,.string ⟨#[]⟩,.int .i64 0,.int .i64 0],.int .i64 11]) ?_ rfl (hno.out _ ?_)
  ·simp only[results,Tryz.results97]
   clear hno;go_simp
  ·repeat (first | (with_reducible exact hb5) | (with_reducible refine Below.setCell ?_ (by simp) _))
 ·have hyes:=hid (fun w'=>Hyes.out w' hmb htt)
  clear Hno Hyes hmb;go_wp2_with fail;refine bodyPost_ret ?_ rfl (hyes.out _ ?_)
  ·simp only[results,Tryz.results97]
   clear hyes;go_simp
  ·repeat (first | (with_reducible exact hb5) | (with_reducible refine Below.setCell ?_ (by simp) _))
theorem read_3(hd:Held)(s:ByteArray)(w:World)(hs:s.size≤maxLen)(htab:Tab w)(hk:kindS (rest2 s)=3):Calls Tryz.prog 97 #[.string s] w (ReadPost s w):=by
 have l1:=rest1_le s;have l2:=rest2_le s;have l0:=fn0_le s;have hz:=kind_pos hk (by decide);have Hst:=hid (fun w=>beh_head (rest2 s) hz w (by omega));obtain⟨r4,Hb2⟩:=behc_all (behS (rest2 s) (headI (rest2 s)) 0).2 (by have:=beh_le (rest2 s) (headI (rest2 s)) 0;omega);have Hb2:=hid Hb2;have Hc:Hid (cand s=⟨3,fn0 s,cp0 s,⟨#[]⟩,(behS (rest2 s) (headI (rest2 s)) 0).1,cellOf (behS (rest2 s) (headI (rest2 s)) 0).2⟩):=hid (by unfold cand;rw[hk];first | rfl | simp);have Htx:=hid (fun w h=>text_any hd ⟨3,fn0 s,cp0 s,⟨#[]⟩,(behS (rest2 s) (headI (rest2 s)) 0).1,cellOf (behS (rest2 s) (headI (rest2 s)) 0).2⟩ w (by show(⟨#[]⟩:ByteArray).size≤maxLen;first | omega | exact Nat.zero_le _) (by show(fn0 s:ByteArray).size≤maxLen;first | omega | exact Nat.zero_le _) h);have Hways:=hid (three_ways ⟨3,fn0 s,cp0 s,⟨#[]⟩,(behS (rest2 s) (headI (rest2 s)) 0).1,cellOf (behS (rest2 s) (headI (rest2 s)) 0).2⟩ s);unfold TextPost Nd.val Nd.cells at Htx
 have Hsp:=hid (fun w=>split_of s w hs);have Hb1:=hid (fun w=>beh1_of s w (by omega));have Hkd:=hid (fun w=>kind_any (rest2 s) w (by omega));rw[hk]at Hkd;have Htab:=hid htab;clear htab hk hd l0 l1 l2;unfold maxLen at hs;go_enter Tryz.func97,Tryz.ntmps97;go_wp2_with fail;refine(Hsp.out _).mono ?_;rintro e w' ⟨rfl,q1,rfl⟩;go_wp2_with fail;refine(Hb1.out _).mono ?_;rintro e w' ⟨rfl,q2,rfl⟩;go_wp2_with fail;refine(Hkd.out _).mono ?_;rintro e w' ⟨rfl,rfl⟩;go_wp2_with fail;refine(Hst.out _).mono ?_;rintro e w' ⟨rfl,r0,rfl⟩;go_wp2_with fail;refine(Hb2.out _).mono ?_;rintro e w' ⟨rfl,r1,rfl⟩;go_wp2_with fail;refine call_abs (fun W'=>Below w.heap.size w W'∧Six ⟨3,fn0 s,cp0 s,⟨#[]⟩,(behS (rest2 s) (headI (rest2 s)) 0).1,cellOf (behS (rest2 s) (headI (rest2 s)) 0).2⟩ (w.heap.size+1) W'∧Six zeroN w.heap.size W'∧Free w.heap.size W'∧w.heap.size+1<W'.heap.size) ⟨?_,?_,?_,?_,?_⟩ ?_
 ·repeat (first | (with_reducible exact Below.refl _ _) | (with_reducible refine dt.below_drewN ?_ _) | (with_reducible refine Below.setCell ?_ (by simp) _) | (with_reducible refine Below.alloc ?_ (by simp) _))
 ·unfold Six;refine⟨?_,?_,?_,?_,?_,?_⟩ <;> go_simp
 ·unfold Six zeroN;refine⟨?_,?_,?_,?_,?_,?_⟩ <;> go_simp
 ·unfold Free;refine⟨?_,?_,?_,?_,?_,?_⟩ <;> go_simp
 ·simp
 rintro W4 ⟨hb4,hs4,hz4,hf4,hl4⟩;refine(Htx.out W4 (tab_below Htab.out hb4)).mono ?_;rintro e w5 ⟨rfl,b5⟩;have Hs5:=hid (hs4.on b5);have Hz5:=hid (hz4.on b5);have Hf5:=hid (hf4.on (by omega) b5);have hb5:=below_on hb4 b5;have hlt5:w.heap.size+1<w5.heap.size:=by have:=b5.size;omega
 clear b5 hb4 hs4 hz4 hf4 hl4;obtain⟨k0,k1,k2,k3,k4,k5⟩:=Hs5.out;unfold zeroN at Hz5;obtain⟨z0,z1,z2,z3,z4,z5⟩:=Hz5.out;obtain⟨f0,f1,f2,f3,f4,f5⟩:=Hf5.out;have H3:=Hways.out;have Hno:=hid (fun w'=>readPost_no (w:=w) (w':=w') Hc.out);have Hyes:=hid (fun w'=>readPost_yes (w:=w) (w':=w') Hc.out);unfold zeroN at Hno;unfold Nd.val Nd.cells at Hno Hyes;generalize mayB ⟨3,fn0 s,cp0 s,⟨#[]⟩,(behS (rest2 s) (headI (rest2 s)) 0).1,cellOf (behS (rest2 s) (headI (rest2 s)) 0).2⟩=mb at *;generalize terr ⟨3,fn0 s,cp0 s,⟨#[]⟩,(behS (rest2 s) (headI (rest2 s)) 0).1,cellOf (behS (rest2 s) (headI (rest2 s)) 0).2⟩=te at *;generalize txt ⟨3,fn0 s,cp0 s,⟨#[]⟩,(behS (rest2 s) (headI (rest2 s)) 0).1,cellOf (behS (rest2 s) (headI (rest2 s)) 0).2⟩=tt at *;clear Hc Hb2 Hsp Hb1 Hkd Htx Hways;rcases H3 with⟨hmb,rfl⟩ | ⟨hmb,rfl,htt⟩ | ⟨hmb,rfl,htt⟩
 ·have hno:=hid (fun w'=>Hno.out w' (Or.inl hmb))
  clear Hno Hyes hmb;go_wp2_with fail;refine bodyPost_ret (v:=.tuple #[.agg #[.int .i64 0,.string ⟨#[]⟩,.int .i64 0,.string ⟨#[]⟩,.int .i64 0,.int .i64 0],.int .i64 11]) ?_ rfl (hno.out _ ?_)
  ·simp only[results,Tryz.results97]
   clear hno;go_simp
  ·repeat (first | (with_reducible exact hb5) | (with_reducible refine Below.setCell ?_ (by simp) _))
 ·have hno:=hid (fun w'=>Hno.out w' (Or.inr htt))
  clear Hno Hyes hmb;go_wp2_with fail;refine bodyPost_ret (v:=.tuple #[.agg #[.int .i64 0,.string ⟨#[]⟩,.int .i64 0,.string ⟨#[]⟩,.int .i64 0,.int .i64 0],.int .i64 11]) ?_ rfl (hno.out _ ?_)
  ·simp only[results,Tryz.results97]
   clear hno;go_simp
  ·repeat (first | (with_reducible exact hb5) | (with_reducible refine Below.setCell ?_ (by simp) _))
 ·have hyes:=hid (fun w'=>Hyes.out w' hmb htt)
  clear Hno Hyes hmb;go_wp2_with fail;refine bodyPost_ret ?_ rfl (hyes.out _ ?_)
  ·simp only[results,Tryz.results97]
   clear hyes;go_simp
  ·repeat (first | (with_reducible exact hb5) | (with_reducible refine Below.setCell ?_ (by simp) _))
theorem read_7(hd:Held)(s:ByteArray)(w:World)(hs:s.size≤maxLen)(htab:Tab w)(hk:kindS (rest2 s)=7):Calls Tryz.prog 97 #[.string s] w (ReadPost s w):=by
 have l1:=rest1_le s;have l2:=rest2_le s;have l0:=fn0_le s;have hz:=kind_pos hk (by decide);have Hst:=hid (fun w=>beh_head (rest2 s) hz w (by omega));obtain⟨r4,Hb2⟩:=behc_all (behS (rest2 s) (headI (rest2 s)) 0).2 (by have:=beh_le (rest2 s) (headI (rest2 s)) 0;omega);have Hb2:=hid Hb2;have Hc:Hid (cand s=⟨7,fn0 s,cp0 s,⟨#[]⟩,(behS (rest2 s) (headI (rest2 s)) 0).1,cellOf (behS (rest2 s) (headI (rest2 s)) 0).2⟩):=hid (by unfold cand;rw[hk];first | rfl | simp);have Htx:=hid (fun w h=>text_any hd ⟨7,fn0 s,cp0 s,⟨#[]⟩,(behS (rest2 s) (headI (rest2 s)) 0).1,cellOf (behS (rest2 s) (headI (rest2 s)) 0).2⟩ w (by show(⟨#[]⟩:ByteArray).size≤maxLen;first | omega | exact Nat.zero_le _) (by show(fn0 s:ByteArray).size≤maxLen;first | omega | exact Nat.zero_le _) h);have Hways:=hid (three_ways ⟨7,fn0 s,cp0 s,⟨#[]⟩,(behS (rest2 s) (headI (rest2 s)) 0).1,cellOf (behS (rest2 s) (headI (rest2 s)) 0).2⟩ s);unfold TextPost Nd.val Nd.cells at Htx
 have Hsp:=hid (fun w=>split_of s w hs);have Hb1:=hid (fun w=>beh1_of s w (by omega));have Hkd:=hid (fun w=>kind_any (rest2 s) w (by omega));rw[hk]at Hkd;have Htab:=hid htab;clear htab hk hd l0 l1 l2;unfold maxLen at hs;go_enter Tryz.func97,Tryz.ntmps97;go_wp2_with fail;refine(Hsp.out _).mono ?_;rintro e w' ⟨rfl,q1,rfl⟩;go_wp2_with fail;refine(Hb1.out _).mono ?_;rintro e w' ⟨rfl,q2,rfl⟩;go_wp2_with fail;refine(Hkd.out _).mono ?_;rintro e w' ⟨rfl,rfl⟩;go_wp2_with fail;refine(Hst.out _).mono ?_;rintro e w' ⟨rfl,r0,rfl⟩;go_wp2_with fail;refine(Hb2.out _).mono ?_;rintro e w' ⟨rfl,r1,rfl⟩;go_wp2_with fail;refine call_abs (fun W'=>Below w.heap.size w W'∧Six ⟨7,fn0 s,cp0 s,⟨#[]⟩,(behS (rest2 s) (headI (rest2 s)) 0).1,cellOf (behS (rest2 s) (headI (rest2 s)) 0).2⟩ (w.heap.size+1) W'∧Six zeroN w.heap.size W'∧Free w.heap.size W'∧w.heap.size+1<W'.heap.size) ⟨?_,?_,?_,?_,?_⟩ ?_
 ·repeat (first | (with_reducible exact Below.refl _ _) | (with_reducible refine dt.below_drewN ?_ _) | (with_reducible refine Below.setCell ?_ (by simp) _) | (with_reducible refine Below.alloc ?_ (by simp) _))
 ·unfold Six;refine⟨?_,?_,?_,?_,?_,?_⟩ <;> go_simp
 ·unfold Six zeroN;refine⟨?_,?_,?_,?_,?_,?_⟩ <;> go_simp
 ·unfold Free;refine⟨?_,?_,?_,?_,?_,?_⟩ <;> go_simp
 ·simp
 rintro W4 ⟨hb4,hs4,hz4,hf4,hl4⟩;refine(Htx.out W4 (tab_below Htab.out hb4)).mono ?_;rintro e w5 ⟨rfl,b5⟩;have Hs5:=hid (hs4.on b5);have Hz5:=hid (hz4.on b5);have Hf5:=hid (hf4.on (by omega) b5);have hb5:=below_on hb4 b5;have hlt5:w.heap.size+1<w5.heap.size:=by have:=b5.size;omega
 clear b5 hb4 hs4 hz4 hf4 hl4;obtain⟨k0,k1,k2,k3,k4,k5⟩:=Hs5.out;unfold zeroN at Hz5;obtain⟨z0,z1,z2,z3,z4,z5⟩:=Hz5.out;obtain⟨f0,f1,f2,f3,f4,f5⟩:=Hf5.out;have H3:=Hways.out;have Hno:=hid (fun w'=>readPost_no (w:=w) (w':=w') Hc.out);have Hyes:=hid (fun w'=>readPost_yes (w:=w) (w':=w') Hc.out);unfold zeroN at Hno;unfold Nd.val Nd.cells at Hno Hyes;generalize mayB ⟨7,fn0 s,cp0 s,⟨#[]⟩,(behS (rest2 s) (headI (rest2 s)) 0).1,cellOf (behS (rest2 s) (headI (rest2 s)) 0).2⟩=mb at *;generalize terr ⟨7,fn0 s,cp0 s,⟨#[]⟩,(behS (rest2 s) (headI (rest2 s)) 0).1,cellOf (behS (rest2 s) (headI (rest2 s)) 0).2⟩=te at *;generalize txt ⟨7,fn0 s,cp0 s,⟨#[]⟩,(behS (rest2 s) (headI (rest2 s)) 0).1,cellOf (behS (rest2 s) (headI (rest2 s)) 0).2⟩=tt at *;clear Hc Hb2 Hsp Hb1 Hkd Htx Hways;rcases H3 with⟨hmb,rfl⟩ | ⟨hmb,rfl,htt⟩ | ⟨hmb,rfl,htt⟩
 ·have hno:=hid (fun w'=>Hno.out w' (Or.inl hmb))
  clear Hno Hyes hmb;go_wp2_with fail;refine bodyPost_ret (v:=.tuple #[.agg #[.int .i64 0,.string ⟨#[]⟩,.int .i64 0,.string ⟨#[]⟩,.int .i64 0,.int .i64 0],.int .i64 11]) ?_ rfl (hno.out _ ?_)
  ·simp only[results,Tryz.results97]
   clear hno;go_simp
  ·repeat (first | (with_reducible exact hb5) | (with_reducible refine Below.setCell ?_ (by simp) _))
 ·have hno:=hid (fun w'=>Hno.out w' (Or.inr htt))
  clear Hno Hyes hmb;go_wp2_with fail;refine bodyPost_ret (v:=.tuple #[.agg #[.int .i64 0,.string ⟨#[]⟩,.int .i64 0,.string ⟨#[]⟩,.int .i64 0,.int .i64 0],.int .i64 11]) ?_ rfl (hno.out _ ?_)
  ·simp only[results,Tryz.results97]
   clear hno;go_simp
  ·repeat (first | (with_reducible exact hb5) | (with_reducible refine Below.setCell ?_ (by simp) _))
 ·have hyes:=hid (fun w'=>Hyes.out w' hmb htt)
  clear Hno Hyes hmb;go_wp2_with fail;refine bodyPost_ret ?_ rfl (hyes.out _ ?_)
  ·simp only[results,Tryz.results97]
   clear hyes;go_simp
  ·repeat (first | (with_reducible exact hb5) | (with_reducible refine Below.setCell ?_ (by simp) _))
theorem kindS_of(s:ByteArray):kindS s=1∨kindS s=2∨kindS s=3∨kindS s=4∨kindS s=5∨kindS s=6∨kindS s=7:=by
 unfold kindS
 repeat' split
 all_goals simp
theorem read_any(hd:Held)(s:ByteArray)(w:World)(hs:s.size≤maxLen)(htab:Tab w):Calls Tryz.prog 97 #[.string s] w (ReadPost s w):=by
 rcases kindS_of (rest2 s)with h | h | h | h | h | h | h
 ·exact read_1 hd s w hs htab h
 ·exact read_2 hd s w hs htab h
 ·exact read_3 hd s w hs htab h
 ·exact read_4 hd s w hs htab h
 ·exact read_5 hd s w hs htab h
 ·exact read_6 hd s w hs htab h
 ·exact read_7 hd s w hs htab h
end nm
namespace sy
open nm
def nodeB(s:ByteArray):Bool:=readB s&&(decide ((cand s).kind≤3)||decide (0≤(cand s).cell))
def placeB(s:ByteArray):Bool:=readB s&&(decide ((cand s).kind=4)||decide (0≤(cand s).cell))
def objB(s:ByteArray):Bool:=readB s&&(decide (5≤(cand s).kind)&&decide ((cand s).cell<0))
def funcB(s:ByteArray):Bool:=readB s&&decide ((cand s).kind=4)
def siteB(s:ByteArray):Bool:=readB s&&decide ((cand s).kind=3)
theorem site_node{s:ByteArray}(h:siteB s=true):nodeB s=true:=by
 unfold siteB at h;unfold nodeB;simp only[Bool.and_eq_true,decide_eq_true_eq]at h;rw[h.1,h.2];rfl
def ipB(s:ByteArray):Bool:=s.toList.all fun b=>b==105||b==112
def kindsB(s:ByteArray)(least most:Nat):Bool:=ipB s&&(decide (least≤s.size)&&decide (s.size≤most))
def tagB(s:ByteArray):Bool:=decide (1≤s.size)&&decide (s.size≤60)
structure Mk where
 at_:Int
 tag:ByteArray
structure SO where
 name:ByteArray
 kinds:ByteArray
 marks:List Mk
structure SF where
 name:ByteArray
 kinds:ByteArray
 ret:ByteArray
structure SC where
 op:Int
 a:ByteArray
 b:ByteArray
 k:Int
 tag:ByteArray
 args:List ByteArray
structure SS where
 objs:List SO
 fns:List SF
 cons:List SC
def mkGood(ms:List Mk)(n i:Nat)(m:Mk):Prop:=0≤m.at_∧m.at_<n∧tagB m.tag=true∧(∀q,i=q+1→∀p,ms[q]? = some p→p.at_≤m.at_)∧∀q,q<i→∀p,ms[q]? = some p→¬(p.at_=m.at_∧p.tag=m.tag)
def mksOk(ms:List Mk)(n k:Nat):Prop:=∀i m,i<k→ms[i]? = some m→mkGood ms n i m
open Classical in
noncomputable def objE(o:SO):Int:=if objB o.name=false then 11 else if kindsB o.kinds 1 64=false then 5 else if mksOk o.marks o.kinds.size o.marks.length then 0 else 3
def retB(s:ByteArray):Bool:=s.toList==[105]||(s.toList==[112]||s.toList==[118])
def fnE(f:SF):Int:=if funcB f.name=false then 11 else if kindsB f.kinds 0 6=false∨retB f.ret=false then 5 else 0
def cutAt(l:List UInt8):Option (List UInt8×List UInt8):=
 match l with
 | []=>none
 | b :: r=>if b=62 then some ([],r) else(cutAt r).map fun x=>(b :: x.1,x.2)
def argB(p:Bool)(s:ByteArray):Bool:=s.size==0||(p&&nodeB s)
def argsB:List UInt8→List ByteArray→Bool
 | _,[]=>true
 | [],_ :: _=>true
 | k :: ks,a :: r=>argB (k==112) a&&argsB ks r
def callB(tag:ByteArray)(args:List ByteArray):Bool:=
 match cutAt tag.toList with
 | none=>false
 | some (l,r)=>kindsB ⟨l.toArray⟩ 0 6&&((r==[]||(r==[105]||r==[112]))&&(decide (args.length=l.length+1)&&argsB ((if r=[112] then 112 else 0) :: l) args))
def rightB(c:SC):Bool:=
 if c.op=6 then decide (c.k=0)&&callB c.tag c.args
 else if c.op=5 then decide (0≤c.k)&&(decide (c.k≤64)&&(tagB c.tag&&decide (c.args.length=0)))
 else decide (c.k=0)&&(decide (c.tag.size=0)&&decide (c.args.length=0))
def namesB(c:SC):Bool:=(if c.op=6 then siteB c.a else nodeB c.a)&&(if c.op=1 then placeB c.b else nodeB c.b)
def conE(c:SC):Int:=if c.op<1∨6<c.op then 5 else if namesB c=false then 11 else if rightB c then 0 else 3
end sy
namespace nm
open RowKit Go.Sort
def ReadYes(s:ByteArray)(w:World)(e:Ending)(w':World):Prop:=e=.returned (.tuple #[(cand s).val,.int .i64 0])∧Below w.heap.size w w'
def ReadNo(w:World)(e:Ending)(w':World):Prop:=e=.returned (.tuple #[.agg #[.int .i64 0,.string ⟨#[]⟩,.int .i64 0,.string ⟨#[]⟩,.int .i64 0,.int .i64 0],.int .i64 11])∧Below w.heap.size w w'
theorem read_yes(hd:Held)(s:ByteArray)(w:World)(hs:s.size≤maxLen)(htab:Tab w)(h:readB s=true):Calls Tryz.prog 97 #[.string s] w (ReadYes s w):=by
 refine(read_any hd s w hs htab).mono ?_;rintro e w' ⟨rfl,hb⟩;refine⟨?_,hb⟩;unfold readN readE;rw[if_pos h,if_pos h]
theorem read_no(hd:Held)(s:ByteArray)(w:World)(hs:s.size≤maxLen)(htab:Tab w)(h:readB s=false):Calls Tryz.prog 97 #[.string s] w (ReadNo w):=by
 refine(read_any hd s w hs htab).mono ?_;rintro e w' ⟨rfl,hb⟩;refine⟨?_,hb⟩;unfold readN readE;rw[if_neg (by rw[h];decide),if_neg (by rw[h];decide)];rfl
theorem nil_beq(l:List UInt8):(l==(ByteArray.mk #[]).toList)=l.isEmpty:=by
 rw[dg.empty_list ⟨#[]⟩ rfl];cases l <;> rfl
theorem name_some(s:ByteArray)(h:s.toList.isEmpty=true):dg.nameB s=false:=by
 apply dg.nameB_no
 left;exact empty_of s (List.isEmpty_iff.1 h)
def mayF(k copy n cell:Int)(fE fN nE nN:Bool):Bool:=
 if k=5 then fE&&((copy==0)&&((n==0)&&(cntB copy 0&&(cntB cell (-1)&&nN))))
 else if k=6 then(n==0)&&(cntB copy 0&&(cntB cell (-1)&&(fN&&nN)))
 else if k=1 then(n==0)&&((cell==-1)&&(cntB copy 0&&(cntB cell (-1)&&(fN&&nN))))
 else if k=7 then nE&&(cntB copy 0&&(cntB cell (-1)&&(fN&&cntB n 1)))
 else if k=2 then nE&&((cell==-1)&&(cntB copy 0&&(cntB cell (-1)&&(fN&&cntB n 0))))
 else if k=3 then nE&&((cell==-1)&&(cntB copy 0&&(cntB cell (-1)&&(fN&&cntB n 1))))
 else nE&&((n==0)&&((cell==-1)&&(cntB copy 0&&(cntB cell (-1)&&(fN&&cntB n 0)))))
theorem mayB_eq(d:Nd)(h1:1≤d.kind)(h7:d.kind≤7):mayB d=mayF d.kind d.copy d.n d.cell d.fn.toList.isEmpty (dg.nameB d.fn) d.name.toList.isEmpty (dg.nameB d.name):=by
 obtain⟨kind,fn,copy,name,n,cell⟩:=d;have h1:1≤kind:=h1;have h7:kind≤7:=h7;rcases(by omega:kind=1∨kind=2∨kind=3∨kind=4∨kind=5∨kind=6∨kind=7)with rfl | rfl | rfl | rfl | rfl | rfl | rfl
 all_goals
  unfold mayB sameB ownN swB mayF;simp[Bool.and_assoc,nil_beq]
theorem rightF_eq(k copy n cell:Int)(fE fN nE nN:Bool)(h1:1≤k)(h7:k≤7)(hf:fE=true→fN=false)(hn:nE=true→nN=false) :
 rightF k copy n cell (rcB copy) (rcB n) (rcB cell) fE fN nE nN=mayF k copy n cell fE fN nE nN:=by
 rcases(by omega:k=1∨k=2∨k=3∨k=4∨k=5∨k=6∨k=7)with rfl | rfl | rfl | rfl | rfl | rfl | rfl
 all_goals
  unfold rightF mayF rcB cntB;cases fE <;> cases nE <;> cases fN <;> cases nN <;> simp at hf hn ⊢
 all_goals
  rw[Bool.eq_iff_iff];simp
  try omega
theorem right_may(d:Nd):rightB d=mayB d:=by
 by_cases hk:1≤d.kind∧d.kind≤7
 ·rw[mayB_eq d hk.1 hk.2]
  unfold rightB;exact rightF_eq _ _ _ _ _ _ _ _ hk.1 hk.2 (name_some _) (name_some _)
 ·unfold rightB rightF mayB
  rw[decide_eq_false hk];rfl
end nm
end Go.Proofs.YtlkboeajkgbnaaaGreatDoor
