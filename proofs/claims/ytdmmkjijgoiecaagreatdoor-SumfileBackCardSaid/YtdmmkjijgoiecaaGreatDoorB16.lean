import Derived.WalkSmall
import Derived.Test.YtdmmkjijgoiecaaGreatDoorB15
set_option linter.all false
set_option maxHeartbeats 4000000
namespace Go.Proofs.YtdmmkjijgoiecaaGreatDoor
open Lib(hid)
set_option maxRecDepth 100000
set_option maxHeartbeats 16000000
namespace nm
open RowKit Go.Sort
abbrev iE(w:World):Prop:=Lib.TabIs Tryz.prog w "internal/strconv.uint64pow10" .u64 Lib.pow10Tab
theorem aOr:Tryz.prog.globalNamed "internal/strconv.uint64pow10" = some 3:=by kernel_rfl
theorem bQ{w w':World}(h:iE w)(hb:Below w.heap.size w w'):iE w':=by
 have J:w.var? Tryz.prog "internal/strconv.uint64pow10" = _:=h;have Y:3<w.heap.size:=by
  rcases Nat.lt_or_ge 3 w.heap.size with h1 | h1
  ·exact h1
  ·unfold World.var? at J
   simp only[aOr,Option.bind_some]at J;rw[Array.getElem?_eq_none h1]at J;cases J
 exact var?_below hb aOr Y J
theorem tY{W w':World}{a:Addr}{v:Value}(h:W.cell? a=some v)(hb:Below W.heap.size W w'):w'.cell? a=some v:=by
 rw[hb.cell (block_lt_of_cell h)];exact h
def kZ(k:Int):List UInt8:=if k=1 then [46] else if k=2 then [36] else if k=3 then [64] else if k=4 then [40,41] else if k=6 then [37] else if k=7 then [35] else []
def gN(c:Int):List UInt8:=if 0<c then 126 :: Lib.itoa c else []
def kR(d:Nd):List UInt8:=if d.kind=1∨d.kind=5∨d.kind=6 then d.name.data.toList else if d.kind=2∨d.kind=3∨d.kind=7 then Lib.itoa d.n else []
def cellL(c:Int):List UInt8:=if c=-1 then [] else 43 :: Lib.itoa c
def jQ(d:Nd):List UInt8:=d.fn.data.toList++(gN d.copy++(kZ d.kind++(kR d++cellL d.cell)))
def txt(d:Nd):ByteArray:=if dY d then⟨(jQ d).toArray⟩ else⟨#[]⟩
def mV(d:Nd):Int:=if dY d then 0 else 11
def dG(d:Nd)(w:World)(e:Ending)(w':World):Prop:=e=.returned (.tuple #[.string (txt d),.int .i64 (mV d)])∧Below w.heap.size w w'
theorem lG(s:ByteArray)(h:dg.bZ s=true):s.size≤16:=by
 unfold dg.bZ at h;simp only[Bool.and_eq_true,bJ]at h;omega
theorem yZ(s:ByteArray)(h:s.toList=[]):s.size=0:=by
 rw[ByteArray.toList_eq]at h;have:=dg.cB s;rw[h]at this
 simpa using this.symm
theorem sV(s:ByteArray)(h:(s.toList==(ByteArray.mk #[]).toList)=true):s.size=0:=by
 apply yZ
 rw[beq_iff_eq]at h;rw[h,ByteArray.toList_eq]
theorem sJ(d:Nd)(h:dY d=true):d.fn.size≤16∧d.name.size≤16:=by
 obtain⟨kind,fn,copy,name,n,cell⟩:=d;unfold dY at h;simp only[Bool.and_eq_true,bJ]at h;obtain⟨⟨h1,Y⟩,hs,_,_,J⟩:=h
 rcases(by omega:kind=1∨kind=2∨kind=3∨kind=4∨kind=5∨kind=6∨kind=7)with rfl | rfl | rfl | rfl | rfl | rfl | rfl
 all_goals
  simp only[jR,bY,swB,Bool.and_eq_true]at hs J;simp at J
  show fn.size≤16∧name.size≤16
 ·exact⟨lG _ J.1,lG _ J.2⟩
 ·exact⟨lG _ J.1,by have:=sV name (by simpa using hs.2.2.2.1);omega⟩
 ·exact⟨lG _ J.1,by have:=sV name (by simpa using hs.2.2.2.1);omega⟩
 ·exact⟨lG _ J.1,by have:=sV name (by simpa using hs.2.2.2.1);omega⟩
 ·exact⟨by have:=sV fn (by simpa using hs.2.1);omega,lG _ J⟩
 ·exact⟨lG _ J.1,lG _ J.2⟩
 ·exact⟨lG _ J.1,by have:=sV name (by simpa using hs.2.2.2.1);omega⟩
theorem aDa{n l:Int}(h:fT n l=true):l≤n∧n≤268435456:=by simpa[fT] using h
theorem dU(d:Nd)(h:dY d=true):(0≤d.copy∧d.copy≤268435456)∧(-1≤d.cell∧d.cell≤268435456)∧1≤d.kind∧d.kind≤7:=by
 unfold dY at h;simp only[Bool.and_eq_true,bJ]at h;exact⟨aDa h.2.2.1,aDa h.2.2.2.1,h.1⟩
theorem aCj(d:Nd)(h:dY d=true)(J:d.kind=2∨d.kind=3∨d.kind=7):0≤d.n∧d.n≤268435456:=by
 unfold dY at h;simp only[Bool.and_eq_true,bJ]at h;have Y:=h.2.2.2.2;unfold swB at Y
 rcases J with J | J | J
 all_goals
  rw[J]at Y;simp at Y;have:=aDa Y.2;omega
theorem aDT(n:Int)(h0:0≤n)(h:n≤268435456):(Lib.itoa n).length≤20:=by
 obtain⟨u,rfl⟩:=Int.eq_ofNat_of_zero_le h0;rw[Lib.itoa_nonneg];exact dt.aFu u (by omega)
theorem aHh(l:List UInt8):(ByteArray.mk l.toArray).size=l.length:=by simp[ByteArray.size]
theorem fB{a b:ByteArray}(h:a.data.toList=b.data.toList):a=b:=ByteArray.ext (Array.ext' h)
def rA(d:Nd)(b:Nat)(w:World):Prop:=w.cell? ⟨b,0,none⟩=some (.int .i64 d.kind)∧w.cell? ⟨b,1,none⟩=some (.string d.fn)∧w.cell? ⟨b,2,none⟩=some (.int .i64 d.copy)∧w.cell? ⟨b,3,none⟩=some (.string d.name)∧w.cell? ⟨b,4,none⟩=some (.int .i64 d.n)∧w.cell? ⟨b,5,none⟩=some (.int .i64 d.cell)
theorem rA.on{d:Nd}{b:Nat}{w w':World}(h:rA d b w)(hb:Below w.heap.size w w'):rA d b w':=
 ⟨tY h.1 hb,tY h.2.1 hb,tY h.2.2.1 hb,tY h.2.2.2.1 hb,tY h.2.2.2.2.1 hb,tY h.2.2.2.2.2 hb⟩
theorem rA.new(d:Nd)(w:World)(t:TypeId):rA d w.heap.size (w.alloc (.cells d.cells t)):=by
 obtain⟨kind,fn,copy,name,n,cell⟩:=d;unfold rA Nd.cells;exact⟨by simp,by simp,by simp,by simp,by simp,by simp⟩
theorem dO{d:Nd}{w w':World}(J:dY d=true){s:ByteArray}(hs:s.data.toList=jQ d)(hb:Below w.heap.size w w'):dG d w (.returned (.tuple #[.string s,.int .i64 0])) w':=by
 refine⟨?_,hb⟩;have e1:txt d=s:=by
  unfold txt;rw[if_pos J];exact fB (by rw[hs])
 have Y:mV d=0:=by unfold mV;rw[if_pos J]
 rw[e1,Y]
theorem yY(x:Int)(h0:0≤x)(J:x≤268435456):∃T:ByteArray,T.data.toList=Lib.itoa x∧T.size≤20∧∀w,iE w→Calls Tryz.prog 236 #[.int .i64 x] w fun e w'=>e=.returned (.string T)∧Below w.heap.size w w':=
 ⟨⟨(Lib.itoa x).toArray⟩,rfl,by rw[aHh];exact aDT x h0 J,fun w h=>dt.gF x w (by omega) (by omega) h⟩
theorem aDF(kind:Int)(hq:kind=1∨kind=4∨kind=5∨kind=6)(hd:fP)(fn:ByteArray)(copy:Int)(name:ByteArray)(n cell:Int)(w:World)(hm:dY ⟨kind,fn,copy,name,n,cell⟩=true)(af:iE w) :
 Calls Tryz.prog 210 #[Nd.val ⟨kind,fn,copy,name,n,cell⟩] w (dG ⟨kind,fn,copy,name,n,cell⟩ w):=by
 obtain⟨am,ak⟩:=sJ _ hm;obtain⟨ai,aj,_⟩:=dU _ hm;have av:fn.size≤16:=am;have au:name.size≤16:=ak;have ag:0≤copy∧copy≤268435456:=ai;have ah:-1≤cell∧cell≤268435456:=aj;clear am ak ai aj
 have a1:Hid (∀w,Calls Tryz.prog 235 #[.agg #[.int .i64 kind,.string fn,.int .i64 copy,.string name,.int .i64 n,.int .i64 cell]] w fun e w'=>e=.returned (.bool true)∧Below w.heap.size w w'):=hid (fun w=>by
  have:=aDy hd ⟨kind,fn,copy,name,n,cell⟩ w (by show name.size≤maxLen;unfold maxLen;omega) (by show fn.size≤maxLen;unfold maxLen;omega)
  rw[hm]at this
  exact this)
 have Hm:=hid hm;clear hm hd;obtain⟨Tc,ae,aw,a8⟩:=yY copy ag.1 ag.2;have ae:=hid ae;have a8:=hid a8;have a2:Hid (rA ⟨kind,fn,copy,name,n,cell⟩ w.heap.size (w.alloc (.cells #[.int .i64 kind,.string fn,.int .i64 copy,.string name,.int .i64 n,.int .i64 cell] 175))):=hid (rA.new ⟨kind,fn,copy,name,n,cell⟩ w _);have a9:Below w.heap.size w (w.alloc (.cells #[.int .i64 kind,.string fn,.int .i64 copy,.string name,.int .i64 n,.int .i64 cell] 175)):=(Below.refl _ _).alloc (aY _) _
 rcases hq with rfl | rfl | rfl | rfl
 all_goals
  have a3:=hid af;clear af;unfold Nd.val Nd.cells
  by_cases hl:cell=-1
  ·have ao:(cell != -1)=false:=by rw[hl];rfl
   have Hl:=hid hl;clear hl
   by_cases a6:0<copy
   ·have a0:=hid a6
    go_enter Tryz.func210,Tryz.ntmps210;go_wp2_with fail;refine(a1.out _).mono ?_;rintro e w1 ⟨rfl,b1⟩;have J:=hid (a2.out.on b1);have Y:=bU a9 b1;obtain⟨k0,k1,k2,k3,k4,k5⟩:=J.out;clear b1;go_wp2_with fail;refine(a8.out _ (bQ a3.out Y)).mono ?_;rintro e w2 ⟨rfl,b2⟩;have a5:=hid (J.out.on b2);have a4:=bU Y b2;clear k0 k1 k2 k3 k4 k5 b2;obtain⟨k0,k1,k2,k3,k4,k5⟩:=a5.out;go_wp2_with fail
    go_ret2
    refine dO Hm.out ?_ a4;unfold jQ gN cellL;rw[if_pos a0.out,if_pos Hl.out];simp[kZ,kR,ae.out]
   ·have a0:=hid a6
    go_enter Tryz.func210,Tryz.ntmps210;go_wp2_with fail;refine(a1.out _).mono ?_;rintro e w1 ⟨rfl,b1⟩;have J:=hid (a2.out.on b1);have Y:=bU a9 b1;obtain⟨k0,k1,k2,k3,k4,k5⟩:=J.out;clear b1;go_wp2_with fail
    go_ret2
    refine dO Hm.out ?_ Y;unfold jQ gN cellL;rw[if_neg (show ¬0<copy by have:=a0.out;omega),if_pos Hl.out]
    simp[kZ,kR]
  ·have ao:(cell != -1)=true:=by rw[bne_iff_ne];exact hl
   obtain⟨Tl,aa,ax,a7⟩:=yY cell (by omega) ah.2
   have aa:=hid aa;have a7:=hid a7;have Hl:=hid hl;clear hl
   by_cases a6:0<copy
   ·have a0:=hid a6
    go_enter Tryz.func210,Tryz.ntmps210;go_wp2_with fail;refine(a1.out _).mono ?_;rintro e w1 ⟨rfl,b1⟩;have J:=hid (a2.out.on b1);have Y:=bU a9 b1;obtain⟨k0,k1,k2,k3,k4,k5⟩:=J.out;clear b1;go_wp2_with fail;refine(a8.out _ (bQ a3.out Y)).mono ?_;rintro e w2 ⟨rfl,b2⟩;have a5:=hid (J.out.on b2);have a4:=bU Y b2;clear k0 k1 k2 k3 k4 k5 b2;obtain⟨k0,k1,k2,k3,k4,k5⟩:=a5.out;go_wp2_with fail;refine(a7.out _ (bQ a3.out a4)).mono ?_;rintro e w3 ⟨rfl,b3⟩;have ap:=hid (a5.out.on b3);have ar:=bU a4 b3;clear k0 k1 k2 k3 k4 k5 b3;obtain⟨k0,k1,k2,k3,k4,k5⟩:=ap.out;go_wp2_with fail
    go_ret2
    refine dO Hm.out ?_ ar;unfold jQ gN cellL;rw[if_pos a0.out,if_neg Hl.out];simp[kZ,kR,ae.out,aa.out]
   ·have a0:=hid a6
    go_enter Tryz.func210,Tryz.ntmps210;go_wp2_with fail;refine(a1.out _).mono ?_;rintro e w1 ⟨rfl,b1⟩;have J:=hid (a2.out.on b1);have Y:=bU a9 b1;obtain⟨k0,k1,k2,k3,k4,k5⟩:=J.out;clear b1;go_wp2_with fail;refine(a7.out _ (bQ a3.out Y)).mono ?_;rintro e w2 ⟨rfl,b2⟩;have a5:=hid (J.out.on b2);have a4:=bU Y b2;clear k0 k1 k2 k3 k4 k5 b2;obtain⟨k0,k1,k2,k3,k4,k5⟩:=a5.out;go_wp2_with fail
    go_ret2
    refine dO Hm.out ?_ a4;unfold jQ gN cellL;rw[if_neg (show ¬0<copy by have:=a0.out;omega),if_neg Hl.out]
    simp[kZ,kR,aa.out]
theorem aOg(hd:fP)(fn:ByteArray)(copy:Int)(name:ByteArray)(n cell:Int)(w:World)(Y:dY ⟨1,fn,copy,name,n,cell⟩=true)(J:iE w) :
 Calls Tryz.prog 210 #[Nd.val ⟨1,fn,copy,name,n,cell⟩] w (dG ⟨1,fn,copy,name,n,cell⟩ w):=
 aDF 1 (by simp) hd fn copy name n cell w Y J
theorem aNx(hd:fP)(fn:ByteArray)(copy:Int)(name:ByteArray)(n cell:Int)(w:World)(Y:dY ⟨4,fn,copy,name,n,cell⟩=true)(J:iE w) :
 Calls Tryz.prog 210 #[Nd.val ⟨4,fn,copy,name,n,cell⟩] w (dG ⟨4,fn,copy,name,n,cell⟩ w):=
 aDF 4 (by simp) hd fn copy name n cell w Y J
theorem aNY(hd:fP)(fn:ByteArray)(copy:Int)(name:ByteArray)(n cell:Int)(w:World)(Y:dY ⟨5,fn,copy,name,n,cell⟩=true)(J:iE w) :
 Calls Tryz.prog 210 #[Nd.val ⟨5,fn,copy,name,n,cell⟩] w (dG ⟨5,fn,copy,name,n,cell⟩ w):=
 aDF 5 (by simp) hd fn copy name n cell w Y J
theorem aN1(hd:fP)(fn:ByteArray)(copy:Int)(name:ByteArray)(n cell:Int)(w:World)(Y:dY ⟨6,fn,copy,name,n,cell⟩=true)(J:iE w) :
 Calls Tryz.prog 210 #[Nd.val ⟨6,fn,copy,name,n,cell⟩] w (dG ⟨6,fn,copy,name,n,cell⟩ w):=
 aDF 6 (by simp) hd fn copy name n cell w Y J
theorem aF6(kind:Int)(hq:kind=2∨kind=3∨kind=7)(hd:fP)(fn:ByteArray)(copy:Int)(name:ByteArray)(n cell:Int)(w:World)(hm:dY ⟨kind,fn,copy,name,n,cell⟩=true)(aj:iE w) :
 Calls Tryz.prog 210 #[Nd.val ⟨kind,fn,copy,name,n,cell⟩] w (dG ⟨kind,fn,copy,name,n,cell⟩ w):=by
 obtain⟨av,au⟩:=sJ _ hm;obtain⟨ap,ar,_⟩:=dU _ hm;have am:0≤n∧n≤268435456:=aCj _ hm hq;have b5:fn.size≤16:=av;have az:name.size≤16:=au;have ak:0≤copy∧copy≤268435456:=ap;have ao:-1≤cell∧cell≤268435456:=ar;clear av au ap ar
 have a4:Hid (∀w,Calls Tryz.prog 235 #[.agg #[.int .i64 kind,.string fn,.int .i64 copy,.string name,.int .i64 n,.int .i64 cell]] w fun e w'=>e=.returned (.bool true)∧Below w.heap.size w w'):=hid (fun w=>by
  have:=aDy hd ⟨kind,fn,copy,name,n,cell⟩ w (by show name.size≤maxLen;unfold maxLen;omega) (by show fn.size≤maxLen;unfold maxLen;omega)
  rw[hm]at this
  exact this)
 have Hm:=hid hm;clear hm hd;obtain⟨Tc,ai,b7,af⟩:=yY copy ak.1 ak.2;have ai:=hid ai;have af:=hid af;obtain⟨Tn,a9,b6,a6⟩:=yY n am.1 am.2;have a9:=hid a9;have a6:=hid a6;have a5:Hid (rA ⟨kind,fn,copy,name,n,cell⟩ w.heap.size (w.alloc (.cells #[.int .i64 kind,.string fn,.int .i64 copy,.string name,.int .i64 n,.int .i64 cell] 175))):=hid (rA.new ⟨kind,fn,copy,name,n,cell⟩ w _);have ag:Below w.heap.size w (w.alloc (.cells #[.int .i64 kind,.string fn,.int .i64 copy,.string name,.int .i64 n,.int .i64 cell] 175)):=(Below.refl _ _).alloc (aY _) _
 rcases hq with rfl | rfl | rfl
 all_goals
  have J:=hid aj;clear aj;unfold Nd.val Nd.cells
  by_cases hl:cell=-1
  ·have ax:(cell != -1)=false:=by rw[hl];rfl
   have Hl:=hid hl;clear hl
   by_cases aa:0<copy
   ·have a3:=hid aa
    go_enter Tryz.func210,Tryz.ntmps210;go_wp2_with fail;refine(a4.out _).mono ?_;rintro e w1 ⟨rfl,b1⟩;have a0:=hid (a5.out.on b1);have Y:=bU ag b1;obtain⟨k0,k1,k2,k3,k4,k5⟩:=a0.out;clear b1;go_wp2_with fail;refine(af.out _ (bQ J.out Y)).mono ?_;rintro e w2 ⟨rfl,b2⟩;have a2:=hid (a0.out.on b2);have a1:=bU Y b2;clear k0 k1 k2 k3 k4 k5 b2;obtain⟨k0,k1,k2,k3,k4,k5⟩:=a2.out;go_wp2_with fail;refine(a6.out _ (bQ J.out a1)).mono ?_;rintro e w3 ⟨rfl,b3⟩;have a7:=hid (a2.out.on b3);have a8:=bU a1 b3;clear k0 k1 k2 k3 k4 k5 b3;obtain⟨k0,k1,k2,k3,k4,k5⟩:=a7.out;go_wp2_with fail
    go_ret2
    refine dO Hm.out ?_ a8;unfold jQ gN cellL;rw[if_pos a3.out,if_pos Hl.out];simp[kZ,kR,ai.out,a9.out]
   ·have a3:=hid aa
    go_enter Tryz.func210,Tryz.ntmps210;go_wp2_with fail;refine(a4.out _).mono ?_;rintro e w1 ⟨rfl,b1⟩;have a0:=hid (a5.out.on b1);have Y:=bU ag b1;obtain⟨k0,k1,k2,k3,k4,k5⟩:=a0.out;clear b1;go_wp2_with fail;refine(a6.out _ (bQ J.out Y)).mono ?_;rintro e w2 ⟨rfl,b2⟩;have a2:=hid (a0.out.on b2);have a1:=bU Y b2;clear k0 k1 k2 k3 k4 k5 b2;obtain⟨k0,k1,k2,k3,k4,k5⟩:=a2.out;go_wp2_with fail
    go_ret2
    refine dO Hm.out ?_ a1;unfold jQ gN cellL;rw[if_neg (show ¬0<copy by have:=a3.out;omega),if_pos Hl.out]
    simp[kZ,kR,a9.out]
  ·have ax:(cell != -1)=true:=by rw[bne_iff_ne];exact hl
   obtain⟨Tl,ah,b8,ae⟩:=yY cell (by omega) ao.2
   have ah:=hid ah;have ae:=hid ae;have Hl:=hid hl;clear hl
   by_cases aa:0<copy
   ·have a3:=hid aa
    go_enter Tryz.func210,Tryz.ntmps210;go_wp2_with fail;refine(a4.out _).mono ?_;rintro e w1 ⟨rfl,b1⟩;have a0:=hid (a5.out.on b1);have Y:=bU ag b1;obtain⟨k0,k1,k2,k3,k4,k5⟩:=a0.out;clear b1;go_wp2_with fail;refine(af.out _ (bQ J.out Y)).mono ?_;rintro e w2 ⟨rfl,b2⟩;have a2:=hid (a0.out.on b2);have a1:=bU Y b2;clear k0 k1 k2 k3 k4 k5 b2;obtain⟨k0,k1,k2,k3,k4,k5⟩:=a2.out;go_wp2_with fail;refine(a6.out _ (bQ J.out a1)).mono ?_;rintro e w3 ⟨rfl,b3⟩;have a7:=hid (a2.out.on b3);have a8:=bU a1 b3;clear k0 k1 k2 k3 k4 k5 b3;obtain⟨k0,k1,k2,k3,k4,k5⟩:=a7.out;go_wp2_with fail;refine(ae.out _ (bQ J.out a8)).mono ?_;rintro e w4 ⟨rfl,b4⟩;have aw:=hid (a7.out.on b4);have ay:=bU a8 b4;clear k0 k1 k2 k3 k4 k5 b4;obtain⟨k0,k1,k2,k3,k4,k5⟩:=aw.out;go_wp2_with fail
    go_ret2
    refine dO Hm.out ?_ ay;unfold jQ gN cellL;rw[if_pos a3.out,if_neg Hl.out];simp[kZ,kR,ai.out,a9.out,ah.out]
   ·have a3:=hid aa
    go_enter Tryz.func210,Tryz.ntmps210;go_wp2_with fail;refine(a4.out _).mono ?_;rintro e w1 ⟨rfl,b1⟩;have a0:=hid (a5.out.on b1);have Y:=bU ag b1;obtain⟨k0,k1,k2,k3,k4,k5⟩:=a0.out;clear b1;go_wp2_with fail;refine(a6.out _ (bQ J.out Y)).mono ?_;rintro e w2 ⟨rfl,b2⟩;have a2:=hid (a0.out.on b2);have a1:=bU Y b2;clear k0 k1 k2 k3 k4 k5 b2;obtain⟨k0,k1,k2,k3,k4,k5⟩:=a2.out;go_wp2_with fail;refine(ae.out _ (bQ J.out a1)).mono ?_;rintro e w3 ⟨rfl,b3⟩;have a7:=hid (a2.out.on b3);have a8:=bU a1 b3;clear k0 k1 k2 k3 k4 k5 b3;obtain⟨k0,k1,k2,k3,k4,k5⟩:=a7.out;go_wp2_with fail
    go_ret2
    refine dO Hm.out ?_ a8;unfold jQ gN cellL;rw[if_neg (show ¬0<copy by have:=a3.out;omega),if_neg Hl.out]
    simp[kZ,kR,a9.out,ah.out]
theorem aOc(hd:fP)(fn:ByteArray)(copy:Int)(name:ByteArray)(n cell:Int)(w:World)(Y:dY ⟨2,fn,copy,name,n,cell⟩=true)(J:iE w) :
 Calls Tryz.prog 210 #[Nd.val ⟨2,fn,copy,name,n,cell⟩] w (dG ⟨2,fn,copy,name,n,cell⟩ w):=
 aF6 2 (by simp) hd fn copy name n cell w Y J
theorem aNW(hd:fP)(fn:ByteArray)(copy:Int)(name:ByteArray)(n cell:Int)(w:World)(Y:dY ⟨3,fn,copy,name,n,cell⟩=true)(J:iE w) :
 Calls Tryz.prog 210 #[Nd.val ⟨3,fn,copy,name,n,cell⟩] w (dG ⟨3,fn,copy,name,n,cell⟩ w):=
 aF6 3 (by simp) hd fn copy name n cell w Y J
theorem aNw(hd:fP)(fn:ByteArray)(copy:Int)(name:ByteArray)(n cell:Int)(w:World)(Y:dY ⟨7,fn,copy,name,n,cell⟩=true)(J:iE w) :
 Calls Tryz.prog 210 #[Nd.val ⟨7,fn,copy,name,n,cell⟩] w (dG ⟨7,fn,copy,name,n,cell⟩ w):=
 aF6 7 (by simp) hd fn copy name n cell w Y J
open RowKit Go.Sort
theorem aLA(hd:fP)(d:Nd)(w:World)(hm:dY d=false)(J:d.name.size≤maxLen)(Y:d.fn.size≤maxLen) :
 Calls Tryz.prog 210 #[d.val] w (dG d w):=by
 have H:=hid (fun w=>aDy hd d w J Y)
 rw[hm]at H;unfold cZ at H;have Hp:Hid (∀w',Below w.heap.size w w'→dG d w (.returned (.tuple #[.string ⟨#[]⟩,.int .i64 11])) w'):=hid fun w' hb=>⟨by unfold txt mV;rw[hm];rfl,hb⟩
 obtain⟨kind,fn,copy,name,n,cell⟩:=d;unfold Nd.val Nd.cells at H ⊢;clear hm J Y hd;go_enter Tryz.func210,Tryz.ntmps210;go_wp2_with fail;refine(H.out _).mono ?_;rintro e w1 ⟨rfl,b1⟩;go_wp2_with fail
 go_ret2
 exact Hp.out _ (bU ((Below.refl _ _).alloc (aY _) _) b1)
theorem gF(hd:fP)(d:Nd)(w:World)(a0:d.name.size≤maxLen)(a1:d.fn.size≤maxLen)(J:iE w) :
 Calls Tryz.prog 210 #[d.val] w (dG d w):=by
 rcases Y:dY d with _ | _
 ·exact aLA hd d w Y a0 a1
 ·obtain⟨_,_,h1,h7⟩:=dU d Y
  obtain⟨kind,fn,copy,name,n,cell⟩:=d;have a3:1≤kind:=h1;have a2:kind≤7:=h7
  rcases(by omega:kind=1∨kind=2∨kind=3∨kind=4∨kind=5∨kind=6∨kind=7)with rfl | rfl | rfl | rfl | rfl | rfl | rfl
  ·exact aOg hd _ _ _ _ _ w Y J
  ·exact aOc hd _ _ _ _ _ w Y J
  ·exact aNW hd _ _ _ _ _ w Y J
  ·exact aNx hd _ _ _ _ _ w Y J
  ·exact aNY hd _ _ _ _ _ w Y J
  ·exact aN1 hd _ _ _ _ _ w Y J
  ·exact aNw hd _ _ _ _ _ w Y J
def bM(s:ByteArray):Int:=((s.data.toList.headD 0).toNat:Int)
def fF(s:ByteArray):Int:=
 if s.size=0 then 5
 else if bM s=46 then 1 else if bM s=36 then 2 else if bM s=64 then 3 else if bM s=40 then 4 else if bM s=37 then 6 else if bM s=35 then 7 else 5
theorem qL(s:ByteArray)(w:World)(hs:s.size≤maxLen):Calls Tryz.prog 213 #[.string s] w fun e w'=>e=.returned (.int .i64 (fF s))∧w=w':=by
 unfold maxLen at hs
 by_cases h0:s.size=0
 ·have he:s.toList=[]:=dg.fH s h0
  have J:Hid (fF s=5):=hid (by unfold fF;rw[if_pos h0])
  clear h0;go_enter Tryz.func213,Tryz.ntmps213;go_wp2_with fail;go_ret;exact⟨by rw[J.out];rfl,rfl⟩
 ·have he:s.toList.isEmpty=false:=dg.bV s h0
  have hz:0<s.size:=by omega
  have hh:bM s=(s[0].toNat:Int):=by unfold bM;rw[dg.bS s hz]
  have J:Hid (fF s=(if(s[0].toNat:Int)=46 then 1 else if(s[0].toNat:Int)=36 then 2 else if(s[0].toNat:Int)=64 then 3 else if(s[0].toNat:Int)=40 then 4 else if(s[0].toNat:Int)=37 then 6 else if(s[0].toNat:Int)=35 then 7 else 5)):=hid (by unfold fF;rw[if_neg h0,hh])
  clear h0 hh
  rcases(by omega:(s[0].toNat:Int)=46∨(s[0].toNat:Int)=36∨(s[0].toNat:Int)=64∨(s[0].toNat:Int)=40∨(s[0].toNat:Int)=37∨(s[0].toNat:Int)=35∨((s[0].toNat:Int)≠46∧(s[0].toNat:Int)≠36∧(s[0].toNat:Int)≠64∧(s[0].toNat:Int)≠40∧(s[0].toNat:Int)≠37∧(s[0].toNat:Int)≠35))with h | h | h | h | h | h | ⟨h1,h2,h3,h4,h5,h6⟩
  all_goals first
   | (have Y:Hid (fF s=5):=hid (by rw[J.out,if_neg h1,if_neg h2,if_neg h3,if_neg h4,if_neg h5,if_neg h6])
      have b1:=bI.2 h1;have b2:=bI.2 h2;have b3:=bI.2 h3;have b4:=bI.2 h4;have b5:=bI.2 h5;have b6:=bI.2 h6;clear h1 h2 h3 h4 h5 h6 J;go_enter Tryz.func213,Tryz.ntmps213;go_wp2_with fail;go_ret
      exact⟨by rw[Y.out];rfl,rfl⟩)
   | (have hv:=J.out
      rw[h]at hv;have Y:=hid hv;clear J hv;go_enter Tryz.func213,Tryz.ntmps213;go_wp2_with fail;go_ret
      exact⟨by rw[Y.out];rfl,rfl⟩)
def dZ(s:ByteArray)(mark:Int)(absent:Int):Int×ByteArray:=
 if s.size=0∨bM s≠mark then(absent,s)
 else if(dg.rd ((s.extract 1 s.size).extract 0 (dg.kI (s.extract 1 s.size)))).2=0 then
  ((dg.rd ((s.extract 1 s.size).extract 0 (dg.kI (s.extract 1 s.size)))).1,(s.extract 1 s.size).extract (dg.kI (s.extract 1 s.size)) (s.extract 1 s.size).size)
 else(absent,⟨#[]⟩)
def aLR(s:ByteArray)(mark absent:Int)(w:World)(e:Ending)(w':World):Prop:=e=.returned (.tuple #[.int .i64 (dZ s mark absent).1,.string (dZ s mark absent).2])∧∃n,w'=w.drewN n
theorem xU(s:ByteArray)(a b:Nat):(s.extract a b).size≤s.size:=by simp;omega
theorem mG(s:ByteArray)(mark absent:Int)(w:World)(hs:s.size≤maxLen) :
 Calls Tryz.prog 212 #[.string s,.int .u8 mark,.int .i64 absent] w (aLR s mark absent w):=by
 by_cases h0:s.size=0
 ·have he:s.toList=[]:=dg.fH s h0
  have Hb:Hid (dZ s mark absent=(absent,s)):=hid (by unfold dZ;rw[if_pos (Or.inl h0)])
  clear h0;go_enter Tryz.func212,Tryz.ntmps212;go_wp2_with fail
  go_ret2
  exact⟨by rw[Hb.out];rfl,0,rfl⟩
 ·have he:s.toList.isEmpty=false:=dg.bV s h0
  have hz:0<s.size:=by omega
  have hh:bM s=(s[0].toNat:Int):=by unfold bM;rw[dg.bS s hz]
  by_cases J:(s[0].toNat:Int)=mark
  ·have a7:((s[0].toNat:Int) != mark)=false:=by rw[J];simp
   have a5:¬(s.size=0∨bM s≠mark):=by rintro(h | h);exact h0 h;exact h (by rw[hh];exact J)
   have a4:=xU s 1 s.size;have a6:=dg.aLp (s.extract 1 s.size);have a0:Hid (dZ s mark absent=if(dg.rd ((s.extract 1 s.size).extract 0 (dg.kI (s.extract 1 s.size)))).2=0 then((dg.rd ((s.extract 1 s.size).extract 0 (dg.kI (s.extract 1 s.size)))).1,(s.extract 1 s.size).extract (dg.kI (s.extract 1 s.size)) (s.extract 1 s.size).size) else(absent,⟨#[]⟩)):=hid (by unfold dZ;rw[if_neg a5])
   have a1:=hid (fun w=>dg.aAg (s.extract 1 s.size) w (by omega))
   have a2:=hid (fun w=>dg.qI ((s.extract 1 s.size).extract 0 (dg.kI (s.extract 1 s.size))) w (by have:=xU (s.extract 1 s.size) 0 (dg.kI (s.extract 1 s.size));omega))
   unfold dg.xE at a1;generalize (dg.rd ((s.extract 1 s.size).extract 0 (dg.kI (s.extract 1 s.size)))).1=rv at *;generalize (dg.rd ((s.extract 1 s.size).extract 0 (dg.kI (s.extract 1 s.size)))).2=re at *;generalize (s.extract 1 s.size).extract 0 (dg.kI (s.extract 1 s.size))=t1 at *;generalize (s.extract 1 s.size).extract (dg.kI (s.extract 1 s.size)) (s.extract 1 s.size).size=t2 at *;clear h0 hh J a5 a6 a4;unfold maxLen at hs
   by_cases Y:re=0
   ·have Hb:Hid (dZ s mark absent=(rv,t2)):=hid (by rw[a0.out,if_pos Y])
    have a3:(re != 0)=false:=by rw[Y];rfl
    clear a0 Y;go_enter Tryz.func212,Tryz.ntmps212;go_wp2_with fail;refine(a1.out _).mono ?_;rintro e w' ⟨rfl,q,rfl⟩;go_wp2_with fail;refine(a2.out _).mono ?_;rintro e w' ⟨rfl,rfl⟩;go_wp2_with fail
    go_ret2
    exact⟨by rw[Hb.out];rfl,q,rfl⟩
   ·have Hb:Hid (dZ s mark absent=(absent,⟨#[]⟩)):=hid (by rw[a0.out,if_neg Y])
    have a3:(re != 0)=true:=by rw[bne_iff_ne];exact Y
    clear a0 Y;go_enter Tryz.func212,Tryz.ntmps212;go_wp2_with fail;refine(a1.out _).mono ?_;rintro e w' ⟨rfl,q,rfl⟩;go_wp2_with fail;refine(a2.out _).mono ?_;rintro e w' ⟨rfl,rfl⟩;go_wp2_with fail
    go_ret2
    exact⟨by rw[Hb.out];rfl,q,rfl⟩
  ·have a7:((s[0].toNat:Int) != mark)=true:=by rw[bne_iff_ne];exact J
   have Hb:Hid (dZ s mark absent=(absent,s)):=hid (by unfold dZ;rw[if_pos (Or.inr (by rw[hh];exact J))])
   clear h0 hh J;unfold maxLen at hs;go_enter Tryz.func212,Tryz.ntmps212;go_wp2_with fail
   go_ret2
   exact⟨by rw[Hb.out];rfl,0,rfl⟩
open RowKit Go.Sort
def fn0(s:ByteArray):ByteArray:=s.extract 0 (dg.kI s)
def bK(s:ByteArray):ByteArray:=s.extract (dg.kI s) s.size
def lU(s:ByteArray):Int:=(dZ (bK s) 126 0).1
def bN(s:ByteArray):ByteArray:=(dZ (bK s) 126 0).2
def bL(s:ByteArray):ByteArray:=s.extract 1 s.size
def cellOf(r:ByteArray):Int:=(dZ r 43 (-1)).1
def dW(s:ByteArray):Nd:=
 if fF (bN s)=5 then⟨5,⟨#[]⟩,lU s,fn0 s,0,cellOf (bN s)⟩
 else if fF (bN s)=1 then⟨1,fn0 s,lU s,fn0 (bL (bN s)),0,cellOf (bK (bL (bN s)))⟩
 else if fF (bN s)=6 then⟨6,fn0 s,lU s,fn0 (bL (bN s)),0,cellOf (bK (bL (bN s)))⟩
 else if fF (bN s)=4 then⟨4,fn0 s,lU s,⟨#[]⟩,0,cellOf ⟨#[]⟩⟩
 else⟨fF (bN s),fn0 s,lU s,⟨#[]⟩,(dZ (bN s) (bM (bN s)) 0).1,cellOf (dZ (bN s) (bM (bN s)) 0).2⟩
def gH:Nd:=⟨0,⟨#[]⟩,0,⟨#[]⟩,0,0⟩
def eZ(s:ByteArray):Bool:=dY (dW s)&&((txt (dW s)).toList==s.toList)
def yS(s:ByteArray):Nd:=if eZ s then dW s else gH
def zN(s:ByteArray):Int:=if eZ s then 0 else 11
def iA(s:ByteArray)(w:World)(e:Ending)(w':World):Prop:=e=.returned (.tuple #[(yS s).val,.int .i64 (zN s)])∧Below w.heap.size w w'
theorem jM{W w':World}{a:Addr}(hl:a.block<W.heap.size)(h:W.frozen? a=false)(hb:Below W.heap.size W w'):w'.frozen? a=false:=by
 rw[hb.frozen hl];exact h
theorem qG{P:Program}{f:FuncId}{args:Array Value}{W:World}{post:Ending→World→Prop}(Q:World→Prop)(Y:Q W)(h:∀J,Q J→Calls P f args J post):Calls P f args W post:=h W Y
def wG(b:Nat)(w:World):Prop:=w.frozen? ⟨b,0,none⟩=false∧w.frozen? ⟨b,1,none⟩=false∧w.frozen? ⟨b,2,none⟩=false∧w.frozen? ⟨b,3,none⟩=false∧w.frozen? ⟨b,4,none⟩=false∧w.frozen? ⟨b,5,none⟩=false
theorem wG.on{b:Nat}{w w':World}(h:wG b w)(hl:b<w.heap.size)(hb:Below w.heap.size w w'):wG b w':=
 ⟨jM hl h.1 hb,jM hl h.2.1 hb,jM hl h.2.2.1 hb,jM hl h.2.2.2.1 hb,jM hl h.2.2.2.2.1 hb,jM hl h.2.2.2.2.2 hb⟩
theorem aDv(s:ByteArray)(m a:Int):(dZ s m a).2.size≤s.size:=by
 unfold dZ;split
 ·exact aY _
 ·split
  ·exact aZ (xU _ _ _) (xU _ _ _)
  ·exact bA _
theorem dS(s:ByteArray):(bK s).size≤s.size:=xU _ _ _
theorem qP(s:ByteArray):(bN s).size≤s.size:=aZ (aDv _ _ _) (dS s)
theorem gW(s:ByteArray):(fn0 s).size≤s.size:=xU _ _ _
theorem fJ(s:ByteArray):(bL s).size≤s.size:=xU _ _ _
theorem qR(s:ByteArray)(w:World)(hs:s.size≤maxLen):Calls Tryz.prog 211 #[.string s] w fun e w'=>e=.returned (.tuple #[.string (fn0 s),.string (bK s)])∧∃n,w'=w.drewN n:=dg.aAg s w hs
theorem uL(s:ByteArray)(w:World)(hs:(bK s).size≤maxLen):Calls Tryz.prog 212 #[.string (bK s),.int .u8 126,.int .i64 0] w fun e w'=>e=.returned (.tuple #[.int .i64 (lU s),.string (bN s)])∧∃n,w'=w.drewN n:=mG (bK s) 126 0 w hs
theorem qM(r:ByteArray)(hs:r.size≤maxLen):∃t,∀w,Calls Tryz.prog 212 #[.string r,.int .u8 43,.int .i64 (-1)] w fun e w'=>e=.returned (.tuple #[.int .i64 (cellOf r),.string t])∧∃n,w'=w.drewN n:=⟨(dZ r 43 (-1)).2,fun w=>mG r 43 (-1) w hs⟩
theorem iH{s:ByteArray}{d:Nd}{w w':World}(hc:dW s=d)(J:dY d=true)(Y:((txt d).toList==s.toList)=true)(hb:Below w.heap.size w w'):iA s w (.returned (.tuple #[d.val,.int .i64 0])) w':=by
 have hr:eZ s=true:=by unfold eZ;rw[hc,J,Y];rfl
 refine⟨?_,hb⟩;unfold yS zN;rw[hr,hc];rfl
theorem jE{s:ByteArray}{d:Nd}{w w':World}(hc:dW s=d)(J:dY d=false∨((txt d).toList==s.toList)=false)(hb:Below w.heap.size w w'):iA s w (.returned (.tuple #[gH.val,.int .i64 11])) w':=by
 have hr:eZ s=false:=by unfold eZ;rw[hc];rcases J with h | h <;> rw[h] <;> simp
 refine⟨?_,hb⟩;unfold yS zN;rw[hr];rfl
theorem jI(d:Nd)(s:ByteArray):(dY d=false∧mV d=11)∨(dY d=true∧mV d=0∧((txt d).toList==s.toList)=false)∨(dY d=true∧mV d=0∧((txt d).toList==s.toList)=true):=by
 unfold mV
 rcases h:dY d with _ | _
 ·exact Or.inl ⟨rfl,by simp⟩
 ·rcases J:((txt d).toList==s.toList)with _ | _
  ·exact Or.inr (Or.inl ⟨rfl,by simp,rfl⟩)
  ·exact Or.inr (Or.inr ⟨rfl,by simp,rfl⟩)
theorem vS{s:ByteArray}{k:Int}(h:fF s=k)(J:k≠5):0<s.size:=by
 rcases Nat.eq_zero_or_pos s.size with h0 | h0
 ·unfold fF at h;rw[if_pos h0]at h;exact absurd h.symm J
 ·exact h0
theorem aBp(r:ByteArray)(w:World)(hs:r.size≤maxLen):Calls Tryz.prog 211 #[.string (r.extract 1 r.size)] w fun e w'=>e=.returned (.tuple #[.string (fn0 (bL r)),.string (bK (bL r))])∧∃n,w'=w.drewN n:=dg.aAg (bL r) w (aZ (fJ r) hs)
theorem aBE(r:ByteArray)(J:0<r.size)(w:World)(hs:r.size≤maxLen):Calls Tryz.prog 212 #[.string r,.int .u8 (r[0].toNat:Int),.int .i64 0] w fun e w'=>e=.returned (.tuple #[.int .i64 (dZ r (bM r) 0).1,.string (dZ r (bM r) 0).2])∧∃n,w'=w.drewN n:=by
 have Y:bM r=(r[0].toNat:Int):=by unfold bM;rw[dg.bS r J]
 rw[Y];exact mG r (r[0].toNat:Int) 0 w hs
theorem aNK(hd:fP)(s:ByteArray)(w:World)(hs:s.size≤maxLen)(a4:iE w)(hk:fF (bN s)=5):Calls Tryz.prog 190 #[.string s] w (iA s w):=by
 have l1:=dS s;have l2:=qP s;have l0:=gW s;obtain⟨r4,a3⟩:=qM (bN s) (by omega)
 have a3:=hid a3;have Hc:Hid (dW s=⟨5,⟨#[]⟩,lU s,fn0 s,0,cellOf (bN s)⟩):=hid (by unfold dW;rw[hk];first | rfl | simp)
 have a7:=hid (fun w h=>gF hd ⟨5,⟨#[]⟩,lU s,fn0 s,0,cellOf (bN s)⟩ w (by show(fn0 s:ByteArray).size≤maxLen;first | omega | exact bA _) (by show(⟨#[]⟩:ByteArray).size≤maxLen;first | omega | exact bA _) h)
 have a2:=hid (jI ⟨5,⟨#[]⟩,lU s,fn0 s,0,cellOf (bN s)⟩ s);unfold dG Nd.val Nd.cells at a7;have ae:=hid (fun w=>qR s w hs)
 have ah:=hid (fun w=>uL s w (by omega))
 have a6:=hid (fun w=>qL (bN s) w (by omega))
 rw[hk]at a6;have ag:=hid a4;clear a4 hk hd l0 l1 l2;unfold maxLen at hs;go_enter Tryz.func190,Tryz.ntmps190;go_wp2_with fail;refine(ae.out _).mono ?_;rintro e w' ⟨rfl,q1,rfl⟩;go_wp2_with fail;refine(ah.out _).mono ?_;rintro e w' ⟨rfl,q2,rfl⟩;go_wp2_with fail;refine(a6.out _).mono ?_;rintro e w' ⟨rfl,rfl⟩;go_wp2_with fail;refine(a3.out _).mono ?_;rintro e w' ⟨rfl,r0,rfl⟩;go_wp2_with fail;refine qG (fun W'=>Below w.heap.size w W'∧rA ⟨5,⟨#[]⟩,lU s,fn0 s,0,cellOf (bN s)⟩ (w.heap.size+1) W'∧rA gH w.heap.size W'∧wG w.heap.size W'∧w.heap.size+1<W'.heap.size) ⟨?_,?_,?_,?_,?_⟩ ?_
 ·repeat (first | (with_reducible exact Below.refl _ _) | (with_reducible refine dt.below_drewN ?_ _) | (with_reducible refine Below.setCell ?_ (by simp) _) | (with_reducible refine Below.alloc ?_ (by simp) _))
 ·unfold rA;refine⟨?_,?_,?_,?_,?_,?_⟩ <;> go_simp
 ·unfold rA gH;refine⟨?_,?_,?_,?_,?_,?_⟩ <;> go_simp
 ·unfold wG;refine⟨?_,?_,?_,?_,?_,?_⟩ <;> go_simp
 ·simp
 rintro W4 ⟨a8,ai,aj,af,am⟩;refine(a7.out W4 (bQ ag.out a8)).mono ?_;rintro e w5 ⟨rfl,b5⟩;have ao:=hid (ai.on b5);have ak:=hid (aj.on b5);have ap:=hid (af.on (by omega) b5)
 have aa:=bU a8 b5;have ar:w.heap.size+1<w5.heap.size:=by have:=b5.size;omega
 clear b5 a8 ai aj af am;obtain⟨k0,k1,k2,k3,k4,k5⟩:=ao.out;unfold gH at ak;obtain⟨z0,z1,z2,z3,z4,z5⟩:=ak.out;obtain⟨f0,f1,f2,f3,f4,f5⟩:=ap.out;have H3:=a2.out;have Y:=hid (fun w'=>jE (w:=w) (w':=w') Hc.out)
 have J:=hid (fun w'=>iH (w:=w) (w':=w') Hc.out)
 unfold gH at Y;unfold Nd.val Nd.cells at Y J;generalize dY ⟨5,⟨#[]⟩,lU s,fn0 s,0,cellOf (bN s)⟩=mb at *;generalize mV ⟨5,⟨#[]⟩,lU s,fn0 s,0,cellOf (bN s)⟩=te at *;generalize txt ⟨5,⟨#[]⟩,lU s,fn0 s,0,cellOf (bN s)⟩=tt at *;clear Hc a3 ae ah a6 a7 a2
 rcases H3 with⟨a0,rfl⟩ | ⟨a0,rfl,a9⟩ | ⟨a0,rfl,a9⟩
 ·have a1:=hid (fun w'=>Y.out w' (Or.inl a0))
  clear Y J a0;go_wp2_with fail;refine bodyPost_ret (v:=.tuple #[.agg #[.int .i64 0,.string ⟨#[]⟩,.int .i64 0,.string ⟨#[]⟩,.int .i64 0,.int .i64 0],.int .i64 11]) ?_ rfl (a1.out _ ?_)
  ·simp only[results,Tryz.results190]
   clear a1;go_simp
  ·repeat (first | (with_reducible exact aa) | (with_reducible refine Below.setCell ?_ (by simp) _))
 ·have a1:=hid (fun w'=>Y.out w' (Or.inr a9))
  clear Y J a0;go_wp2_with fail;refine bodyPost_ret (v:=.tuple #[.agg #[.int .i64 0,.string ⟨#[]⟩,.int .i64 0,.string ⟨#[]⟩,.int .i64 0,.int .i64 0],.int .i64 11]) ?_ rfl (a1.out _ ?_)
  ·simp only[results,Tryz.results190]
   clear a1;go_simp
  ·repeat (first | (with_reducible exact aa) | (with_reducible refine Below.setCell ?_ (by simp) _))
 ·have a5:=hid (fun w'=>J.out w' a0 a9)
  clear Y J a0;go_wp2_with fail;refine bodyPost_ret ?_ rfl (a5.out _ ?_)
  ·simp only[results,Tryz.results190]
   clear a5;go_simp
  ·repeat (first | (with_reducible exact aa) | (with_reducible refine Below.setCell ?_ (by simp) _))
theorem aNM(hd:fP)(s:ByteArray)(w:World)(hs:s.size≤maxLen)(a4:iE w)(hk:fF (bN s)=1):Calls Tryz.prog 190 #[.string s] w (iA s w):=by
 have l1:=dS s;have l2:=qP s;have l0:=gW s;have hz:=vS hk (by decide)
 have lt:=fJ (bN s);have lf:=gW (bL (bN s));have lr:=dS (bL (bN s));have ar:=hid (fun w=>aBp (bN s) w (by omega))
 obtain⟨r4,a3⟩:=qM (bK (bL (bN s))) (by omega)
 have a3:=hid a3;clear lr;have Hc:Hid (dW s=⟨1,fn0 s,lU s,fn0 (bL (bN s)),0,cellOf (bK (bL (bN s)))⟩):=hid (by unfold dW;rw[hk];first | rfl | simp)
 have a7:=hid (fun w h=>gF hd ⟨1,fn0 s,lU s,fn0 (bL (bN s)),0,cellOf (bK (bL (bN s)))⟩ w (by show(fn0 (bL (bN s)):ByteArray).size≤maxLen;first | omega | exact bA _) (by show(fn0 s:ByteArray).size≤maxLen;first | omega | exact bA _) h)
 have a2:=hid (jI ⟨1,fn0 s,lU s,fn0 (bL (bN s)),0,cellOf (bK (bL (bN s)))⟩ s);unfold dG Nd.val Nd.cells at a7;have ae:=hid (fun w=>qR s w hs)
 have ah:=hid (fun w=>uL s w (by omega))
 have a6:=hid (fun w=>qL (bN s) w (by omega))
 rw[hk]at a6;have ag:=hid a4;clear a4 hk hd l0 l1 l2;unfold maxLen at hs;go_enter Tryz.func190,Tryz.ntmps190;go_wp2_with fail;refine(ae.out _).mono ?_;rintro e w' ⟨rfl,q1,rfl⟩;go_wp2_with fail;refine(ah.out _).mono ?_;rintro e w' ⟨rfl,q2,rfl⟩;go_wp2_with fail;refine(a6.out _).mono ?_;rintro e w' ⟨rfl,rfl⟩;go_wp2_with fail;refine(ar.out _).mono ?_;rintro e w' ⟨rfl,r0,rfl⟩;go_wp2_with fail;refine(a3.out _).mono ?_;rintro e w' ⟨rfl,r1,rfl⟩;go_wp2_with fail;refine qG (fun W'=>Below w.heap.size w W'∧rA ⟨1,fn0 s,lU s,fn0 (bL (bN s)),0,cellOf (bK (bL (bN s)))⟩ (w.heap.size+1) W'∧rA gH w.heap.size W'∧wG w.heap.size W'∧w.heap.size+1<W'.heap.size) ⟨?_,?_,?_,?_,?_⟩ ?_
 ·repeat (first | (with_reducible exact Below.refl _ _) | (with_reducible refine dt.below_drewN ?_ _) | (with_reducible refine Below.setCell ?_ (by simp) _) | (with_reducible refine Below.alloc ?_ (by simp) _))
 ·unfold rA;refine⟨?_,?_,?_,?_,?_,?_⟩ <;> go_simp
 ·unfold rA gH;refine⟨?_,?_,?_,?_,?_,?_⟩ <;> go_simp
 ·unfold wG;refine⟨?_,?_,?_,?_,?_,?_⟩ <;> go_simp
 ·simp
 rintro W4 ⟨a8,ai,aj,af,am⟩;refine(a7.out W4 (bQ ag.out a8)).mono ?_;rintro e w5 ⟨rfl,b5⟩;have ao:=hid (ai.on b5);have ak:=hid (aj.on b5);have ap:=hid (af.on (by omega) b5)
 have aa:=bU a8 b5;have au:w.heap.size+1<w5.heap.size:=by have:=b5.size;omega
 clear b5 a8 ai aj af am;obtain⟨k0,k1,k2,k3,k4,k5⟩:=ao.out;unfold gH at ak;obtain⟨z0,z1,z2,z3,z4,z5⟩:=ak.out;obtain⟨f0,f1,f2,f3,f4,f5⟩:=ap.out;have H3:=a2.out;have Y:=hid (fun w'=>jE (w:=w) (w':=w') Hc.out)
 have J:=hid (fun w'=>iH (w:=w) (w':=w') Hc.out)
 unfold gH at Y;unfold Nd.val Nd.cells at Y J;generalize dY ⟨1,fn0 s,lU s,fn0 (bL (bN s)),0,cellOf (bK (bL (bN s)))⟩=mb at *;generalize mV ⟨1,fn0 s,lU s,fn0 (bL (bN s)),0,cellOf (bK (bL (bN s)))⟩=te at *;generalize txt ⟨1,fn0 s,lU s,fn0 (bL (bN s)),0,cellOf (bK (bL (bN s)))⟩=tt at *;clear Hc a3 ae ah a6 a7 a2
 rcases H3 with⟨a0,rfl⟩ | ⟨a0,rfl,a9⟩ | ⟨a0,rfl,a9⟩
 ·have a1:=hid (fun w'=>Y.out w' (Or.inl a0))
  clear Y J a0;go_wp2_with fail;refine bodyPost_ret (v:=.tuple #[.agg #[.int .i64 0,.string ⟨#[]⟩,.int .i64 0,.string ⟨#[]⟩,.int .i64 0,.int .i64 0],.int .i64 11]) ?_ rfl (a1.out _ ?_)
  ·simp only[results,Tryz.results190]
   clear a1;go_simp
  ·repeat (first | (with_reducible exact aa) | (with_reducible refine Below.setCell ?_ (by simp) _))
 ·have a1:=hid (fun w'=>Y.out w' (Or.inr a9))
  clear Y J a0;go_wp2_with fail;refine bodyPost_ret (v:=.tuple #[.agg #[.int .i64 0,.string ⟨#[]⟩,.int .i64 0,.string ⟨#[]⟩,.int .i64 0,.int .i64 0],.int .i64 11]) ?_ rfl (a1.out _ ?_)
  ·simp only[results,Tryz.results190]
   clear a1;go_simp
  ·repeat (first | (with_reducible exact aa) | (with_reducible refine Below.setCell ?_ (by simp) _))
 ·have a5:=hid (fun w'=>J.out w' a0 a9)
  clear Y J a0;go_wp2_with fail;refine bodyPost_ret ?_ rfl (a5.out _ ?_)
  ·simp only[results,Tryz.results190]
   clear a5;go_simp
  ·repeat (first | (with_reducible exact aa) | (with_reducible refine Below.setCell ?_ (by simp) _))
theorem aM6(hd:fP)(s:ByteArray)(w:World)(hs:s.size≤maxLen)(a4:iE w)(hk:fF (bN s)=6):Calls Tryz.prog 190 #[.string s] w (iA s w):=by
 have l1:=dS s;have l2:=qP s;have l0:=gW s;have hz:=vS hk (by decide)
 have lt:=fJ (bN s);have lf:=gW (bL (bN s));have lr:=dS (bL (bN s));have ar:=hid (fun w=>aBp (bN s) w (by omega))
 obtain⟨r4,a3⟩:=qM (bK (bL (bN s))) (by omega)
 have a3:=hid a3;clear lr;have Hc:Hid (dW s=⟨6,fn0 s,lU s,fn0 (bL (bN s)),0,cellOf (bK (bL (bN s)))⟩):=hid (by unfold dW;rw[hk];first | rfl | simp)
 have a7:=hid (fun w h=>gF hd ⟨6,fn0 s,lU s,fn0 (bL (bN s)),0,cellOf (bK (bL (bN s)))⟩ w (by show(fn0 (bL (bN s)):ByteArray).size≤maxLen;first | omega | exact bA _) (by show(fn0 s:ByteArray).size≤maxLen;first | omega | exact bA _) h)
 have a2:=hid (jI ⟨6,fn0 s,lU s,fn0 (bL (bN s)),0,cellOf (bK (bL (bN s)))⟩ s);unfold dG Nd.val Nd.cells at a7;have ae:=hid (fun w=>qR s w hs)
 have ah:=hid (fun w=>uL s w (by omega))
 have a6:=hid (fun w=>qL (bN s) w (by omega))
 rw[hk]at a6;have ag:=hid a4;clear a4 hk hd l0 l1 l2;unfold maxLen at hs;go_enter Tryz.func190,Tryz.ntmps190;go_wp2_with fail;refine(ae.out _).mono ?_;rintro e w' ⟨rfl,q1,rfl⟩;go_wp2_with fail;refine(ah.out _).mono ?_;rintro e w' ⟨rfl,q2,rfl⟩;go_wp2_with fail;refine(a6.out _).mono ?_;rintro e w' ⟨rfl,rfl⟩;go_wp2_with fail;refine(ar.out _).mono ?_;rintro e w' ⟨rfl,r0,rfl⟩;go_wp2_with fail;refine(a3.out _).mono ?_;rintro e w' ⟨rfl,r1,rfl⟩;go_wp2_with fail;refine qG (fun W'=>Below w.heap.size w W'∧rA ⟨6,fn0 s,lU s,fn0 (bL (bN s)),0,cellOf (bK (bL (bN s)))⟩ (w.heap.size+1) W'∧rA gH w.heap.size W'∧wG w.heap.size W'∧w.heap.size+1<W'.heap.size) ⟨?_,?_,?_,?_,?_⟩ ?_
 ·repeat (first | (with_reducible exact Below.refl _ _) | (with_reducible refine dt.below_drewN ?_ _) | (with_reducible refine Below.setCell ?_ (by simp) _) | (with_reducible refine Below.alloc ?_ (by simp) _))
 ·unfold rA;refine⟨?_,?_,?_,?_,?_,?_⟩ <;> go_simp
 ·unfold rA gH;refine⟨?_,?_,?_,?_,?_,?_⟩ <;> go_simp
 ·unfold wG;refine⟨?_,?_,?_,?_,?_,?_⟩ <;> go_simp
 ·simp
 rintro W4 ⟨a8,ai,aj,af,am⟩;refine(a7.out W4 (bQ ag.out a8)).mono ?_;rintro e w5 ⟨rfl,b5⟩;have ao:=hid (ai.on b5);have ak:=hid (aj.on b5);have ap:=hid (af.on (by omega) b5)
 have aa:=bU a8 b5;have au:w.heap.size+1<w5.heap.size:=by have:=b5.size;omega
 clear b5 a8 ai aj af am;obtain⟨k0,k1,k2,k3,k4,k5⟩:=ao.out;unfold gH at ak;obtain⟨z0,z1,z2,z3,z4,z5⟩:=ak.out;obtain⟨f0,f1,f2,f3,f4,f5⟩:=ap.out;have H3:=a2.out;have Y:=hid (fun w'=>jE (w:=w) (w':=w') Hc.out)
 have J:=hid (fun w'=>iH (w:=w) (w':=w') Hc.out)
 unfold gH at Y;unfold Nd.val Nd.cells at Y J;generalize dY ⟨6,fn0 s,lU s,fn0 (bL (bN s)),0,cellOf (bK (bL (bN s)))⟩=mb at *;generalize mV ⟨6,fn0 s,lU s,fn0 (bL (bN s)),0,cellOf (bK (bL (bN s)))⟩=te at *;generalize txt ⟨6,fn0 s,lU s,fn0 (bL (bN s)),0,cellOf (bK (bL (bN s)))⟩=tt at *;clear Hc a3 ae ah a6 a7 a2
 rcases H3 with⟨a0,rfl⟩ | ⟨a0,rfl,a9⟩ | ⟨a0,rfl,a9⟩
 ·have a1:=hid (fun w'=>Y.out w' (Or.inl a0))
  clear Y J a0;go_wp2_with fail;refine bodyPost_ret (v:=.tuple #[.agg #[.int .i64 0,.string ⟨#[]⟩,.int .i64 0,.string ⟨#[]⟩,.int .i64 0,.int .i64 0],.int .i64 11]) ?_ rfl (a1.out _ ?_)
  ·simp only[results,Tryz.results190]
   clear a1;go_simp
  ·repeat (first | (with_reducible exact aa) | (with_reducible refine Below.setCell ?_ (by simp) _))
 ·have a1:=hid (fun w'=>Y.out w' (Or.inr a9))
  clear Y J a0;go_wp2_with fail;refine bodyPost_ret (v:=.tuple #[.agg #[.int .i64 0,.string ⟨#[]⟩,.int .i64 0,.string ⟨#[]⟩,.int .i64 0,.int .i64 0],.int .i64 11]) ?_ rfl (a1.out _ ?_)
  ·simp only[results,Tryz.results190]
   clear a1;go_simp
  ·repeat (first | (with_reducible exact aa) | (with_reducible refine Below.setCell ?_ (by simp) _))
 ·have a5:=hid (fun w'=>J.out w' a0 a9)
  clear Y J a0;go_wp2_with fail;refine bodyPost_ret ?_ rfl (a5.out _ ?_)
  ·simp only[results,Tryz.results190]
   clear a5;go_simp
  ·repeat (first | (with_reducible exact aa) | (with_reducible refine Below.setCell ?_ (by simp) _))
theorem aNh(hd:fP)(s:ByteArray)(w:World)(hs:s.size≤maxLen)(a4:iE w)(hk:fF (bN s)=4):Calls Tryz.prog 190 #[.string s] w (iA s w):=by
 have l1:=dS s;have l2:=qP s;have l0:=gW s;obtain⟨r4,a3⟩:=qM ⟨#[]⟩ (by exact bA _)
 have a3:=hid a3;have Hc:Hid (dW s=⟨4,fn0 s,lU s,⟨#[]⟩,0,cellOf ⟨#[]⟩⟩):=hid (by unfold dW;rw[hk];first | rfl | simp)
 have a7:=hid (fun w h=>gF hd ⟨4,fn0 s,lU s,⟨#[]⟩,0,cellOf ⟨#[]⟩⟩ w (by show(⟨#[]⟩:ByteArray).size≤maxLen;first | omega | exact bA _) (by show(fn0 s:ByteArray).size≤maxLen;first | omega | exact bA _) h)
 have a2:=hid (jI ⟨4,fn0 s,lU s,⟨#[]⟩,0,cellOf ⟨#[]⟩⟩ s);unfold dG Nd.val Nd.cells at a7;have ae:=hid (fun w=>qR s w hs)
 have ah:=hid (fun w=>uL s w (by omega))
 have a6:=hid (fun w=>qL (bN s) w (by omega))
 rw[hk]at a6;have ag:=hid a4;clear a4 hk hd l0 l1 l2;unfold maxLen at hs;go_enter Tryz.func190,Tryz.ntmps190;go_wp2_with fail;refine(ae.out _).mono ?_;rintro e w' ⟨rfl,q1,rfl⟩;go_wp2_with fail;refine(ah.out _).mono ?_;rintro e w' ⟨rfl,q2,rfl⟩;go_wp2_with fail;refine(a6.out _).mono ?_;rintro e w' ⟨rfl,rfl⟩;go_wp2_with fail;refine(a3.out _).mono ?_;rintro e w' ⟨rfl,r0,rfl⟩;go_wp2_with fail;refine qG (fun W'=>Below w.heap.size w W'∧rA ⟨4,fn0 s,lU s,⟨#[]⟩,0,cellOf ⟨#[]⟩⟩ (w.heap.size+1) W'∧rA gH w.heap.size W'∧wG w.heap.size W'∧w.heap.size+1<W'.heap.size) ⟨?_,?_,?_,?_,?_⟩ ?_
 ·repeat (first | (with_reducible exact Below.refl _ _) | (with_reducible refine dt.below_drewN ?_ _) | (with_reducible refine Below.setCell ?_ (by simp) _) | (with_reducible refine Below.alloc ?_ (by simp) _))
 ·unfold rA;refine⟨?_,?_,?_,?_,?_,?_⟩ <;> go_simp
 ·unfold rA gH;refine⟨?_,?_,?_,?_,?_,?_⟩ <;> go_simp
 ·unfold wG;refine⟨?_,?_,?_,?_,?_,?_⟩ <;> go_simp
 ·simp
 rintro W4 ⟨a8,ai,aj,af,am⟩;refine(a7.out W4 (bQ ag.out a8)).mono ?_;rintro e w5 ⟨rfl,b5⟩;have ao:=hid (ai.on b5);have ak:=hid (aj.on b5);have ap:=hid (af.on (by omega) b5)
 have aa:=bU a8 b5;have ar:w.heap.size+1<w5.heap.size:=by have:=b5.size;omega
 clear b5 a8 ai aj af am;obtain⟨k0,k1,k2,k3,k4,k5⟩:=ao.out;unfold gH at ak;obtain⟨z0,z1,z2,z3,z4,z5⟩:=ak.out;obtain⟨f0,f1,f2,f3,f4,f5⟩:=ap.out;have H3:=a2.out;have Y:=hid (fun w'=>jE (w:=w) (w':=w') Hc.out)
 have J:=hid (fun w'=>iH (w:=w) (w':=w') Hc.out)
 unfold gH at Y;unfold Nd.val Nd.cells at Y J;generalize dY ⟨4,fn0 s,lU s,⟨#[]⟩,0,cellOf ⟨#[]⟩⟩=mb at *;generalize mV ⟨4,fn0 s,lU s,⟨#[]⟩,0,cellOf ⟨#[]⟩⟩=te at *;generalize txt ⟨4,fn0 s,lU s,⟨#[]⟩,0,cellOf ⟨#[]⟩⟩=tt at *;clear Hc a3 ae ah a6 a7 a2
 rcases H3 with⟨a0,rfl⟩ | ⟨a0,rfl,a9⟩ | ⟨a0,rfl,a9⟩
 ·have a1:=hid (fun w'=>Y.out w' (Or.inl a0))
  clear Y J a0;go_wp2_with fail;refine bodyPost_ret (v:=.tuple #[.agg #[.int .i64 0,.string ⟨#[]⟩,.int .i64 0,.string ⟨#[]⟩,.int .i64 0,.int .i64 0],.int .i64 11]) ?_ rfl (a1.out _ ?_)
  ·simp only[results,Tryz.results190]
   clear a1;go_simp
  ·repeat (first | (with_reducible exact aa) | (with_reducible refine Below.setCell ?_ (by simp) _))
 ·have a1:=hid (fun w'=>Y.out w' (Or.inr a9))
  clear Y J a0;go_wp2_with fail;refine bodyPost_ret (v:=.tuple #[.agg #[.int .i64 0,.string ⟨#[]⟩,.int .i64 0,.string ⟨#[]⟩,.int .i64 0,.int .i64 0],.int .i64 11]) ?_ rfl (a1.out _ ?_)
  ·simp only[results,Tryz.results190]
   clear a1;go_simp
  ·repeat (first | (with_reducible exact aa) | (with_reducible refine Below.setCell ?_ (by simp) _))
 ·have a5:=hid (fun w'=>J.out w' a0 a9)
  clear Y J a0;go_wp2_with fail;refine bodyPost_ret ?_ rfl (a5.out _ ?_)
  ·simp only[results,Tryz.results190]
   clear a5;go_simp
  ·repeat (first | (with_reducible exact aa) | (with_reducible refine Below.setCell ?_ (by simp) _))
theorem aOe(hd:fP)(s:ByteArray)(w:World)(hs:s.size≤maxLen)(a4:iE w)(hk:fF (bN s)=2):Calls Tryz.prog 190 #[.string s] w (iA s w):=by
 have l1:=dS s;have l2:=qP s;have l0:=gW s;have hz:=vS hk (by decide)
 have ar:=hid (fun w=>aBE (bN s) hz w (by omega))
 obtain⟨r4,a3⟩:=qM (dZ (bN s) (bM (bN s)) 0).2 (by have:=aDv (bN s) (bM (bN s)) 0;omega)
 have a3:=hid a3;have Hc:Hid (dW s=⟨2,fn0 s,lU s,⟨#[]⟩,(dZ (bN s) (bM (bN s)) 0).1,cellOf (dZ (bN s) (bM (bN s)) 0).2⟩):=hid (by unfold dW;rw[hk];first | rfl | simp)
 have a7:=hid (fun w h=>gF hd ⟨2,fn0 s,lU s,⟨#[]⟩,(dZ (bN s) (bM (bN s)) 0).1,cellOf (dZ (bN s) (bM (bN s)) 0).2⟩ w (by show(⟨#[]⟩:ByteArray).size≤maxLen;first | omega | exact bA _) (by show(fn0 s:ByteArray).size≤maxLen;first | omega | exact bA _) h)
 have a2:=hid (jI ⟨2,fn0 s,lU s,⟨#[]⟩,(dZ (bN s) (bM (bN s)) 0).1,cellOf (dZ (bN s) (bM (bN s)) 0).2⟩ s);unfold dG Nd.val Nd.cells at a7;have ae:=hid (fun w=>qR s w hs)
 have ah:=hid (fun w=>uL s w (by omega))
 have a6:=hid (fun w=>qL (bN s) w (by omega))
 rw[hk]at a6;have ag:=hid a4;clear a4 hk hd l0 l1 l2;unfold maxLen at hs;go_enter Tryz.func190,Tryz.ntmps190;go_wp2_with fail;refine(ae.out _).mono ?_;rintro e w' ⟨rfl,q1,rfl⟩;go_wp2_with fail;refine(ah.out _).mono ?_;rintro e w' ⟨rfl,q2,rfl⟩;go_wp2_with fail;refine(a6.out _).mono ?_;rintro e w' ⟨rfl,rfl⟩;go_wp2_with fail;refine(ar.out _).mono ?_;rintro e w' ⟨rfl,r0,rfl⟩;go_wp2_with fail;refine(a3.out _).mono ?_;rintro e w' ⟨rfl,r1,rfl⟩;go_wp2_with fail;refine qG (fun W'=>Below w.heap.size w W'∧rA ⟨2,fn0 s,lU s,⟨#[]⟩,(dZ (bN s) (bM (bN s)) 0).1,cellOf (dZ (bN s) (bM (bN s)) 0).2⟩ (w.heap.size+1) W'∧rA gH w.heap.size W'∧wG w.heap.size W'∧w.heap.size+1<W'.heap.size) ⟨?_,?_,?_,?_,?_⟩ ?_
 ·repeat (first | (with_reducible exact Below.refl _ _) | (with_reducible refine dt.below_drewN ?_ _) | (with_reducible refine Below.setCell ?_ (by simp) _) | (with_reducible refine Below.alloc ?_ (by simp) _))
 ·unfold rA;refine⟨?_,?_,?_,?_,?_,?_⟩ <;> go_simp
 ·unfold rA gH;refine⟨?_,?_,?_,?_,?_,?_⟩ <;> go_simp
 ·unfold wG;refine⟨?_,?_,?_,?_,?_,?_⟩ <;> go_simp
 ·simp
 rintro W4 ⟨a8,ai,aj,af,am⟩;refine(a7.out W4 (bQ ag.out a8)).mono ?_;rintro e w5 ⟨rfl,b5⟩;have ao:=hid (ai.on b5);have ak:=hid (aj.on b5);have ap:=hid (af.on (by omega) b5)
 have aa:=bU a8 b5;have au:w.heap.size+1<w5.heap.size:=by have:=b5.size;omega
 clear b5 a8 ai aj af am;obtain⟨k0,k1,k2,k3,k4,k5⟩:=ao.out;unfold gH at ak;obtain⟨z0,z1,z2,z3,z4,z5⟩:=ak.out;obtain⟨f0,f1,f2,f3,f4,f5⟩:=ap.out;have H3:=a2.out;have Y:=hid (fun w'=>jE (w:=w) (w':=w') Hc.out)
 have J:=hid (fun w'=>iH (w:=w) (w':=w') Hc.out)
 unfold gH at Y;unfold Nd.val Nd.cells at Y J;generalize dY ⟨2,fn0 s,lU s,⟨#[]⟩,(dZ (bN s) (bM (bN s)) 0).1,cellOf (dZ (bN s) (bM (bN s)) 0).2⟩=mb at *;generalize mV ⟨2,fn0 s,lU s,⟨#[]⟩,(dZ (bN s) (bM (bN s)) 0).1,cellOf (dZ (bN s) (bM (bN s)) 0).2⟩=te at *;generalize txt ⟨2,fn0 s,lU s,⟨#[]⟩,(dZ (bN s) (bM (bN s)) 0).1,cellOf (dZ (bN s) (bM (bN s)) 0).2⟩=tt at *;clear Hc a3 ae ah a6 a7 a2
 rcases H3 with⟨a0,rfl⟩ | ⟨a0,rfl,a9⟩ | ⟨a0,rfl,a9⟩
 ·have a1:=hid (fun w'=>Y.out w' (Or.inl a0))
  clear Y J a0;go_wp2_with fail;refine bodyPost_ret (v:=.tuple #[.agg #[.int .i64 0,.string ⟨#[]⟩,.int .i64 0,.string ⟨#[]⟩,.int .i64 0,.int .i64 0],.int .i64 11]) ?_ rfl (a1.out _ ?_)
  ·simp only[results,Tryz.results190]
   clear a1;go_simp
  ·repeat (first | (with_reducible exact aa) | (with_reducible refine Below.setCell ?_ (by simp) _))
 ·have a1:=hid (fun w'=>Y.out w' (Or.inr a9))
  clear Y J a0;go_wp2_with fail;refine bodyPost_ret (v:=.tuple #[.agg #[.int .i64 0,.string ⟨#[]⟩,.int .i64 0,.string ⟨#[]⟩,.int .i64 0,.int .i64 0],.int .i64 11]) ?_ rfl (a1.out _ ?_)
  ·simp only[results,Tryz.results190]
   clear a1;go_simp
  ·repeat (first | (with_reducible exact aa) | (with_reducible refine Below.setCell ?_ (by simp) _))
 ·have a5:=hid (fun w'=>J.out w' a0 a9)
  clear Y J a0;go_wp2_with fail;refine bodyPost_ret ?_ rfl (a5.out _ ?_)
  ·simp only[results,Tryz.results190]
   clear a5;go_simp
  ·repeat (first | (with_reducible exact aa) | (with_reducible refine Below.setCell ?_ (by simp) _))
theorem aN9(hd:fP)(s:ByteArray)(w:World)(hs:s.size≤maxLen)(a4:iE w)(hk:fF (bN s)=3):Calls Tryz.prog 190 #[.string s] w (iA s w):=by
 have l1:=dS s;have l2:=qP s;have l0:=gW s;have hz:=vS hk (by decide)
 have ar:=hid (fun w=>aBE (bN s) hz w (by omega))
 obtain⟨r4,a3⟩:=qM (dZ (bN s) (bM (bN s)) 0).2 (by have:=aDv (bN s) (bM (bN s)) 0;omega)
 have a3:=hid a3;have Hc:Hid (dW s=⟨3,fn0 s,lU s,⟨#[]⟩,(dZ (bN s) (bM (bN s)) 0).1,cellOf (dZ (bN s) (bM (bN s)) 0).2⟩):=hid (by unfold dW;rw[hk];first | rfl | simp)
 have a7:=hid (fun w h=>gF hd ⟨3,fn0 s,lU s,⟨#[]⟩,(dZ (bN s) (bM (bN s)) 0).1,cellOf (dZ (bN s) (bM (bN s)) 0).2⟩ w (by show(⟨#[]⟩:ByteArray).size≤maxLen;first | omega | exact bA _) (by show(fn0 s:ByteArray).size≤maxLen;first | omega | exact bA _) h)
 have a2:=hid (jI ⟨3,fn0 s,lU s,⟨#[]⟩,(dZ (bN s) (bM (bN s)) 0).1,cellOf (dZ (bN s) (bM (bN s)) 0).2⟩ s);unfold dG Nd.val Nd.cells at a7;have ae:=hid (fun w=>qR s w hs)
 have ah:=hid (fun w=>uL s w (by omega))
 have a6:=hid (fun w=>qL (bN s) w (by omega))
 rw[hk]at a6;have ag:=hid a4;clear a4 hk hd l0 l1 l2;unfold maxLen at hs;go_enter Tryz.func190,Tryz.ntmps190;go_wp2_with fail;refine(ae.out _).mono ?_;rintro e w' ⟨rfl,q1,rfl⟩;go_wp2_with fail;refine(ah.out _).mono ?_;rintro e w' ⟨rfl,q2,rfl⟩;go_wp2_with fail;refine(a6.out _).mono ?_;rintro e w' ⟨rfl,rfl⟩;go_wp2_with fail;refine(ar.out _).mono ?_;rintro e w' ⟨rfl,r0,rfl⟩;go_wp2_with fail;refine(a3.out _).mono ?_;rintro e w' ⟨rfl,r1,rfl⟩;go_wp2_with fail;refine qG (fun W'=>Below w.heap.size w W'∧rA ⟨3,fn0 s,lU s,⟨#[]⟩,(dZ (bN s) (bM (bN s)) 0).1,cellOf (dZ (bN s) (bM (bN s)) 0).2⟩ (w.heap.size+1) W'∧rA gH w.heap.size W'∧wG w.heap.size W'∧w.heap.size+1<W'.heap.size) ⟨?_,?_,?_,?_,?_⟩ ?_
 ·repeat (first | (with_reducible exact Below.refl _ _) | (with_reducible refine dt.below_drewN ?_ _) | (with_reducible refine Below.setCell ?_ (by simp) _) | (with_reducible refine Below.alloc ?_ (by simp) _))
 ·unfold rA;refine⟨?_,?_,?_,?_,?_,?_⟩ <;> go_simp
 ·unfold rA gH;refine⟨?_,?_,?_,?_,?_,?_⟩ <;> go_simp
 ·unfold wG;refine⟨?_,?_,?_,?_,?_,?_⟩ <;> go_simp
 ·simp
 rintro W4 ⟨a8,ai,aj,af,am⟩;refine(a7.out W4 (bQ ag.out a8)).mono ?_;rintro e w5 ⟨rfl,b5⟩;have ao:=hid (ai.on b5);have ak:=hid (aj.on b5);have ap:=hid (af.on (by omega) b5)
 have aa:=bU a8 b5;have au:w.heap.size+1<w5.heap.size:=by have:=b5.size;omega
 clear b5 a8 ai aj af am;obtain⟨k0,k1,k2,k3,k4,k5⟩:=ao.out;unfold gH at ak;obtain⟨z0,z1,z2,z3,z4,z5⟩:=ak.out;obtain⟨f0,f1,f2,f3,f4,f5⟩:=ap.out;have H3:=a2.out;have Y:=hid (fun w'=>jE (w:=w) (w':=w') Hc.out)
 have J:=hid (fun w'=>iH (w:=w) (w':=w') Hc.out)
 unfold gH at Y;unfold Nd.val Nd.cells at Y J;generalize dY ⟨3,fn0 s,lU s,⟨#[]⟩,(dZ (bN s) (bM (bN s)) 0).1,cellOf (dZ (bN s) (bM (bN s)) 0).2⟩=mb at *;generalize mV ⟨3,fn0 s,lU s,⟨#[]⟩,(dZ (bN s) (bM (bN s)) 0).1,cellOf (dZ (bN s) (bM (bN s)) 0).2⟩=te at *;generalize txt ⟨3,fn0 s,lU s,⟨#[]⟩,(dZ (bN s) (bM (bN s)) 0).1,cellOf (dZ (bN s) (bM (bN s)) 0).2⟩=tt at *;clear Hc a3 ae ah a6 a7 a2
 rcases H3 with⟨a0,rfl⟩ | ⟨a0,rfl,a9⟩ | ⟨a0,rfl,a9⟩
 ·have a1:=hid (fun w'=>Y.out w' (Or.inl a0))
  clear Y J a0;go_wp2_with fail;refine bodyPost_ret (v:=.tuple #[.agg #[.int .i64 0,.string ⟨#[]⟩,.int .i64 0,.string ⟨#[]⟩,.int .i64 0,.int .i64 0],.int .i64 11]) ?_ rfl (a1.out _ ?_)
  ·simp only[results,Tryz.results190]
   clear a1;go_simp
  ·repeat (first | (with_reducible exact aa) | (with_reducible refine Below.setCell ?_ (by simp) _))
 ·have a1:=hid (fun w'=>Y.out w' (Or.inr a9))
  clear Y J a0;go_wp2_with fail;refine bodyPost_ret (v:=.tuple #[.agg #[.int .i64 0,.string ⟨#[]⟩,.int .i64 0,.string ⟨#[]⟩,.int .i64 0,.int .i64 0],.int .i64 11]) ?_ rfl (a1.out _ ?_)
  ·simp only[results,Tryz.results190]
   clear a1;go_simp
  ·repeat (first | (with_reducible exact aa) | (with_reducible refine Below.setCell ?_ (by simp) _))
 ·have a5:=hid (fun w'=>J.out w' a0 a9)
  clear Y J a0;go_wp2_with fail;refine bodyPost_ret ?_ rfl (a5.out _ ?_)
  ·simp only[results,Tryz.results190]
   clear a5;go_simp
  ·repeat (first | (with_reducible exact aa) | (with_reducible refine Below.setCell ?_ (by simp) _))
theorem aN6(hd:fP)(s:ByteArray)(w:World)(hs:s.size≤maxLen)(a4:iE w)(hk:fF (bN s)=7):Calls Tryz.prog 190 #[.string s] w (iA s w):=by
 have l1:=dS s;have l2:=qP s;have l0:=gW s;have hz:=vS hk (by decide)
 have ar:=hid (fun w=>aBE (bN s) hz w (by omega))
 obtain⟨r4,a3⟩:=qM (dZ (bN s) (bM (bN s)) 0).2 (by have:=aDv (bN s) (bM (bN s)) 0;omega)
 have a3:=hid a3;have Hc:Hid (dW s=⟨7,fn0 s,lU s,⟨#[]⟩,(dZ (bN s) (bM (bN s)) 0).1,cellOf (dZ (bN s) (bM (bN s)) 0).2⟩):=hid (by unfold dW;rw[hk];first | rfl | simp)
 have a7:=hid (fun w h=>gF hd ⟨7,fn0 s,lU s,⟨#[]⟩,(dZ (bN s) (bM (bN s)) 0).1,cellOf (dZ (bN s) (bM (bN s)) 0).2⟩ w (by show(⟨#[]⟩:ByteArray).size≤maxLen;first | omega | exact bA _) (by show(fn0 s:ByteArray).size≤maxLen;first | omega | exact bA _) h)
 have a2:=hid (jI ⟨7,fn0 s,lU s,⟨#[]⟩,(dZ (bN s) (bM (bN s)) 0).1,cellOf (dZ (bN s) (bM (bN s)) 0).2⟩ s);unfold dG Nd.val Nd.cells at a7;have ae:=hid (fun w=>qR s w hs)
 have ah:=hid (fun w=>uL s w (by omega))
 have a6:=hid (fun w=>qL (bN s) w (by omega))
 rw[hk]at a6;have ag:=hid a4;clear a4 hk hd l0 l1 l2;unfold maxLen at hs;go_enter Tryz.func190,Tryz.ntmps190;go_wp2_with fail;refine(ae.out _).mono ?_;rintro e w' ⟨rfl,q1,rfl⟩;go_wp2_with fail;refine(ah.out _).mono ?_;rintro e w' ⟨rfl,q2,rfl⟩;go_wp2_with fail;refine(a6.out _).mono ?_;rintro e w' ⟨rfl,rfl⟩;go_wp2_with fail;refine(ar.out _).mono ?_;rintro e w' ⟨rfl,r0,rfl⟩;go_wp2_with fail;refine(a3.out _).mono ?_;rintro e w' ⟨rfl,r1,rfl⟩;go_wp2_with fail;refine qG (fun W'=>Below w.heap.size w W'∧rA ⟨7,fn0 s,lU s,⟨#[]⟩,(dZ (bN s) (bM (bN s)) 0).1,cellOf (dZ (bN s) (bM (bN s)) 0).2⟩ (w.heap.size+1) W'∧rA gH w.heap.size W'∧wG w.heap.size W'∧w.heap.size+1<W'.heap.size) ⟨?_,?_,?_,?_,?_⟩ ?_
 ·repeat (first | (with_reducible exact Below.refl _ _) | (with_reducible refine dt.below_drewN ?_ _) | (with_reducible refine Below.setCell ?_ (by simp) _) | (with_reducible refine Below.alloc ?_ (by simp) _))
 ·unfold rA;refine⟨?_,?_,?_,?_,?_,?_⟩ <;> go_simp
 ·unfold rA gH;refine⟨?_,?_,?_,?_,?_,?_⟩ <;> go_simp
 ·unfold wG;refine⟨?_,?_,?_,?_,?_,?_⟩ <;> go_simp
 ·simp
 rintro W4 ⟨a8,ai,aj,af,am⟩;refine(a7.out W4 (bQ ag.out a8)).mono ?_;rintro e w5 ⟨rfl,b5⟩;have ao:=hid (ai.on b5);have ak:=hid (aj.on b5);have ap:=hid (af.on (by omega) b5)
 have aa:=bU a8 b5;have au:w.heap.size+1<w5.heap.size:=by have:=b5.size;omega
 clear b5 a8 ai aj af am;obtain⟨k0,k1,k2,k3,k4,k5⟩:=ao.out;unfold gH at ak;obtain⟨z0,z1,z2,z3,z4,z5⟩:=ak.out;obtain⟨f0,f1,f2,f3,f4,f5⟩:=ap.out;have H3:=a2.out;have Y:=hid (fun w'=>jE (w:=w) (w':=w') Hc.out)
 have J:=hid (fun w'=>iH (w:=w) (w':=w') Hc.out)
 unfold gH at Y;unfold Nd.val Nd.cells at Y J;generalize dY ⟨7,fn0 s,lU s,⟨#[]⟩,(dZ (bN s) (bM (bN s)) 0).1,cellOf (dZ (bN s) (bM (bN s)) 0).2⟩=mb at *;generalize mV ⟨7,fn0 s,lU s,⟨#[]⟩,(dZ (bN s) (bM (bN s)) 0).1,cellOf (dZ (bN s) (bM (bN s)) 0).2⟩=te at *;generalize txt ⟨7,fn0 s,lU s,⟨#[]⟩,(dZ (bN s) (bM (bN s)) 0).1,cellOf (dZ (bN s) (bM (bN s)) 0).2⟩=tt at *;clear Hc a3 ae ah a6 a7 a2
 rcases H3 with⟨a0,rfl⟩ | ⟨a0,rfl,a9⟩ | ⟨a0,rfl,a9⟩
 ·have a1:=hid (fun w'=>Y.out w' (Or.inl a0))
  clear Y J a0;go_wp2_with fail;refine bodyPost_ret (v:=.tuple #[.agg #[.int .i64 0,.string ⟨#[]⟩,.int .i64 0,.string ⟨#[]⟩,.int .i64 0,.int .i64 0],.int .i64 11]) ?_ rfl (a1.out _ ?_)
  ·simp only[results,Tryz.results190]
   clear a1;go_simp
  ·repeat (first | (with_reducible exact aa) | (with_reducible refine Below.setCell ?_ (by simp) _))
 ·have a1:=hid (fun w'=>Y.out w' (Or.inr a9))
  clear Y J a0;go_wp2_with fail;refine bodyPost_ret (v:=.tuple #[.agg #[.int .i64 0,.string ⟨#[]⟩,.int .i64 0,.string ⟨#[]⟩,.int .i64 0,.int .i64 0],.int .i64 11]) ?_ rfl (a1.out _ ?_)
  ·simp only[results,Tryz.results190]
   clear a1;go_simp
  ·repeat (first | (with_reducible exact aa) | (with_reducible refine Below.setCell ?_ (by simp) _))
 ·have a5:=hid (fun w'=>J.out w' a0 a9)
  clear Y J a0;go_wp2_with fail;refine bodyPost_ret ?_ rfl (a5.out _ ?_)
  ·simp only[results,Tryz.results190]
   clear a5;go_simp
  ·repeat (first | (with_reducible exact aa) | (with_reducible refine Below.setCell ?_ (by simp) _))
theorem aIO(s:ByteArray):fF s=1∨fF s=2∨fF s=3∨fF s=4∨fF s=5∨fF s=6∨fF s=7:=by
 unfold fF
 repeat' split
 all_goals simp
theorem qI(hd:fP)(s:ByteArray)(w:World)(hs:s.size≤maxLen)(J:iE w):Calls Tryz.prog 190 #[.string s] w (iA s w):=by
 rcases aIO (bN s)with h | h | h | h | h | h | h
 ·exact aNM hd s w hs J h
 ·exact aOe hd s w hs J h
 ·exact aN9 hd s w hs J h
 ·exact aNh hd s w hs J h
 ·exact aNK hd s w hs J h
 ·exact aM6 hd s w hs J h
 ·exact aN6 hd s w hs J h
end nm
end Go.Proofs.YtdmmkjijgoiecaaGreatDoor
