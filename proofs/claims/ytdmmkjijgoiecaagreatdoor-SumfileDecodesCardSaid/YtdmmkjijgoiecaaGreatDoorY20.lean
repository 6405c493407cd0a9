import Derived.WalkSmall
import Derived.Test.YtdmmkjijgoiecaaGreatDoorY19
set_option linter.all false
set_option maxHeartbeats 4000000
namespace Go.Proofs.YtdmmkjijgoiecaaGreatDoor
open Lib(hid)
set_option maxRecDepth 100000
set_option maxHeartbeats 16000000
namespace nm
open RowKit Go.Sort
abbrev jI(w:World):Prop:=Lib.TabIs Tryz.prog w "internal/strconv.uint64pow10" .u64 Lib.pow10Tab
theorem aMB:Tryz.prog.globalNamed "internal/strconv.uint64pow10" = some 3:=by kernel_rfl
theorem bR{w w':World}(h:jI w)(hb:Below w.heap.size w w'):jI w':=by
 have J:w.var? Tryz.prog "internal/strconv.uint64pow10" = _:=h;have a0:3<w.heap.size:=by
  rcases Nat.lt_or_ge 3 w.heap.size with Y | Y
  ·exact Y
  ·unfold World.var? at J
   simp only[aMB,Option.bind_some]at J;rw[Array.getElem?_eq_none Y]at J;cases J
 exact var?_below hb aMB a0 J
theorem qG{W w':World}{a:Addr}{v:Value}(h:W.cell? a=some v)(hb:Below W.heap.size W w'):w'.cell? a=some v:=by
 rw[hb.cell (block_lt_of_cell h)];exact h
def kI(k:Int):List UInt8:=if k=1 then [46] else if k=2 then [36] else if k=3 then [64] else if k=4 then [40,41] else if k=6 then [37] else if k=7 then [35] else []
def gB(c:Int):List UInt8:=if 0<c then 126 :: Lib.itoa c else []
def kG(d:Nd):List UInt8:=if d.kind=1∨d.kind=5∨d.kind=6 then d.name.data.toList else if d.kind=2∨d.kind=3∨d.kind=7 then Lib.itoa d.n else []
def cellL(c:Int):List UInt8:=if c=-1 then [] else 43 :: Lib.itoa c
def jF(d:Nd):List UInt8:=d.fn.data.toList++(gB d.copy++(kI d.kind++(kG d++cellL d.cell)))
def txt(d:Nd):ByteArray:=if dY d then⟨(jF d).toArray⟩ else⟨#[]⟩
def lN(d:Nd):Int:=if dY d then 0 else 11
def dD(d:Nd)(w:World)(e:Ending)(w':World):Prop:=e=.returned (.tuple #[.string (txt d),.int .i64 (lN d)])∧Below w.heap.size w w'
theorem kT(s:ByteArray)(h:dg.bZ s=true):s.size≤16:=by
 unfold dg.bZ at h;simp only[Bool.and_eq_true,bJ]at h;omega
theorem xR(s:ByteArray)(h:s.toList=[]):s.size=0:=by
 rw[ByteArray.toList_eq]at h;have:=dg.cZ s;rw[h]at this
 simpa using this.symm
theorem qD(s:ByteArray)(h:(s.toList==(ByteArray.mk #[]).toList)=true):s.size=0:=by
 apply xR
 rw[beq_iff_eq]at h;rw[h,ByteArray.toList_eq]
theorem qV(d:Nd)(h:dY d=true):d.fn.size≤16∧d.name.size≤16:=by
 obtain⟨kind,fn,copy,name,n,cell⟩:=d;unfold dY at h;simp only[Bool.and_eq_true,bJ]at h;obtain⟨⟨h1,Y⟩,hs,_,_,J⟩:=h;rcases(by omega:kind=1∨kind=2∨kind=3∨kind=4∨kind=5∨kind=6∨kind=7)with rfl | rfl | rfl | rfl | rfl | rfl | rfl
 all_goals
  simp only[jD,bY,swB,Bool.and_eq_true]at hs J;simp at J;show fn.size≤16∧name.size≤16
 ·exact⟨kT _ J.1,kT _ J.2⟩
 ·exact⟨kT _ J.1,by have:=qD name (by simpa using hs.2.2.2.1);omega⟩
 ·exact⟨kT _ J.1,by have:=qD name (by simpa using hs.2.2.2.1);omega⟩
 ·exact⟨kT _ J.1,by have:=qD name (by simpa using hs.2.2.2.1);omega⟩
 ·exact⟨by have:=qD fn (by simpa using hs.2.1);omega,kT _ J⟩
 ·exact⟨kT _ J.1,kT _ J.2⟩
 ·exact⟨kT _ J.1,by have:=qD name (by simpa using hs.2.2.2.1);omega⟩
theorem aCh{n l:Int}(h:fK n l=true):l≤n∧n≤268435456:=by simpa[fK] using h
theorem dS(d:Nd)(h:dY d=true):(0≤d.copy∧d.copy≤268435456)∧(-1≤d.cell∧d.cell≤268435456)∧1≤d.kind∧d.kind≤7:=by
 unfold dY at h;simp only[Bool.and_eq_true,bJ]at h;exact⟨aCh h.2.2.1,aCh h.2.2.2.1,h.1⟩
theorem aBn(d:Nd)(h:dY d=true)(J:d.kind=2∨d.kind=3∨d.kind=7):0≤d.n∧d.n≤268435456:=by
 unfold dY at h;simp only[Bool.and_eq_true,bJ]at h;have Y:=h.2.2.2.2;unfold swB at Y;rcases J with J | J | J
 all_goals
  rw[J]at Y;simp at Y;have:=aCh Y.2;omega
theorem aDb(n:Int)(h0:0≤n)(h:n≤268435456):(Lib.itoa n).length≤20:=by
 obtain⟨u,rfl⟩:=Int.eq_ofNat_of_zero_le h0;rw[Lib.itoa_nonneg];exact dt.aDz u (by omega)
theorem aFd(l:List UInt8):(ByteArray.mk l.toArray).size=l.length:=by simp[ByteArray.size]
theorem eY{a b:ByteArray}(h:a.data.toList=b.data.toList):a=b:=ByteArray.ext (Array.ext' h)
def pI(d:Nd)(b:Nat)(w:World):Prop:=w.cell? ⟨b,0,none⟩=some (.int .i64 d.kind)∧w.cell? ⟨b,1,none⟩=some (.string d.fn)∧w.cell? ⟨b,2,none⟩=some (.int .i64 d.copy)∧w.cell? ⟨b,3,none⟩=some (.string d.name)∧w.cell? ⟨b,4,none⟩=some (.int .i64 d.n)∧w.cell? ⟨b,5,none⟩=some (.int .i64 d.cell)
theorem pI.on{d:Nd}{b:Nat}{w w':World}(h:pI d b w)(hb:Below w.heap.size w w'):pI d b w':=
 ⟨qG h.1 hb,qG h.2.1 hb,qG h.2.2.1 hb,qG h.2.2.2.1 hb,qG h.2.2.2.2.1 hb,qG h.2.2.2.2.2 hb⟩
theorem pI.new(d:Nd)(w:World)(t:TypeId):pI d w.heap.size (w.alloc (.cells d.cells t)):=by
 obtain⟨kind,fn,copy,name,n,cell⟩:=d;unfold pI Nd.cells;exact⟨by simp,by simp,by simp,by simp,by simp,by simp⟩
theorem dN{d:Nd}{w w':World}(J:dY d=true){s:ByteArray}(hs:s.data.toList=jF d)(hb:Below w.heap.size w w'):dD d w (.returned (.tuple #[.string s,.int .i64 0])) w':=by
 refine⟨?_,hb⟩;have Y:txt d=s:=by
  unfold txt;rw[if_pos J];exact eY (by rw[hs])
 have e2:lN d=0:=by unfold lN;rw[if_pos J]
 rw[Y,e2]
theorem wY(x:Int)(h0:0≤x)(J:x≤268435456):∃T:ByteArray,T.data.toList=Lib.itoa x∧T.size≤20∧∀w,jI w→Calls Tryz.prog 236 #[.int .i64 x] w fun e w'=>e=.returned (.string T)∧Below w.heap.size w w':=
 ⟨⟨(Lib.itoa x).toArray⟩,rfl,by rw[aFd];exact aDb x h0 J,fun w h=>dt.fT x w (by omega) (by omega) h⟩
theorem aBX(kind:Int)(hq:kind=1∨kind=4∨kind=5∨kind=6)(hd:gK)(fn:ByteArray)(copy:Int)(name:ByteArray)(n cell:Int)(w:World)(hm:dY ⟨kind,fn,copy,name,n,cell⟩=true)(ae:jI w) :
 Calls Tryz.prog 210 #[Nd.val ⟨kind,fn,copy,name,n,cell⟩] w (dD ⟨kind,fn,copy,name,n,cell⟩ w):=by
 obtain⟨ak,ah⟩:=qV _ hm;obtain⟨aj,ag,_⟩:=dS _ hm;have au:fn.size≤16:=ak;have ar:name.size≤16:=ah;have af:0≤copy∧copy≤268435456:=aj;have ai:-1≤cell∧cell≤268435456:=ag;clear ak ah aj ag
 have a2:Hid (∀w,Calls Tryz.prog 235 #[.agg #[.int .i64 kind,.string fn,.int .i64 copy,.string name,.int .i64 n,.int .i64 cell]] w fun e w'=>e=.returned (.bool true)∧Below w.heap.size w w'):=hid (fun w=>by
  have:=aB2 hd ⟨kind,fn,copy,name,n,cell⟩ w (by show name.size≤maxLen;unfold maxLen;omega) (by show fn.size≤maxLen;unfold maxLen;omega);rw[hm]at this
  exact this)
 have Hm:=hid hm;clear hm hd;obtain⟨Tc,a8,av,aa⟩:=wY copy af.1 af.2;have a8:=hid a8;have aa:=hid aa;have a3:Hid (pI ⟨kind,fn,copy,name,n,cell⟩ w.heap.size (w.alloc (.cells #[.int .i64 kind,.string fn,.int .i64 copy,.string name,.int .i64 n,.int .i64 cell] 175))):=hid (pI.new ⟨kind,fn,copy,name,n,cell⟩ w _);have a9:Below w.heap.size w (w.alloc (.cells #[.int .i64 kind,.string fn,.int .i64 copy,.string name,.int .i64 n,.int .i64 cell] 175)):=(Below.refl _ _).alloc (aY _) _;rcases hq with rfl | rfl | rfl | rfl
 all_goals
  have a1:=hid ae;clear ae;unfold Nd.val Nd.cells;by_cases hl:cell=-1
  ·have ap:(cell != -1)=false:=by rw[hl];rfl
   have Hl:=hid hl;clear hl;by_cases a6:0<copy
   ·have a0:=hid a6
    go_enter Tryz.func210,Tryz.ntmps210;go_wp2_with fail;refine(a2.out _).mono ?_;rintro e w1 ⟨rfl,b1⟩;have J:=hid (a3.out.on b1);have Y:=bT a9 b1;obtain⟨k0,k1,k2,k3,k4,k5⟩:=J.out;clear b1;go_wp2_with fail;refine(aa.out _ (bR a1.out Y)).mono ?_;rintro e w2 ⟨rfl,b2⟩;have a5:=hid (J.out.on b2);have a4:=bT Y b2;clear k0 k1 k2 k3 k4 k5 b2;obtain⟨k0,k1,k2,k3,k4,k5⟩:=a5.out;go_wp2_with fail;go_ret2;refine dN Hm.out ?_ a4;unfold jF gB cellL;rw[if_pos a0.out,if_pos Hl.out];simp[kI,kG,a8.out]
   ·have a0:=hid a6
    go_enter Tryz.func210,Tryz.ntmps210;go_wp2_with fail;refine(a2.out _).mono ?_;rintro e w1 ⟨rfl,b1⟩;have J:=hid (a3.out.on b1);have Y:=bT a9 b1;obtain⟨k0,k1,k2,k3,k4,k5⟩:=J.out;clear b1;go_wp2_with fail;go_ret2;refine dN Hm.out ?_ Y;unfold jF gB cellL;rw[if_neg (show ¬0<copy by have:=a0.out;omega),if_pos Hl.out];simp[kI,kG]
  ·have ap:(cell != -1)=true:=by rw[bne_iff_ne];exact hl
   obtain⟨Tl,a7,aw,ad⟩:=wY cell (by omega) ai.2;have a7:=hid a7;have ad:=hid ad;have Hl:=hid hl;clear hl;by_cases a6:0<copy
   ·have a0:=hid a6
    go_enter Tryz.func210,Tryz.ntmps210;go_wp2_with fail;refine(a2.out _).mono ?_;rintro e w1 ⟨rfl,b1⟩;have J:=hid (a3.out.on b1);have Y:=bT a9 b1;obtain⟨k0,k1,k2,k3,k4,k5⟩:=J.out;clear b1;go_wp2_with fail;refine(aa.out _ (bR a1.out Y)).mono ?_;rintro e w2 ⟨rfl,b2⟩;have a5:=hid (J.out.on b2);have a4:=bT Y b2;clear k0 k1 k2 k3 k4 k5 b2;obtain⟨k0,k1,k2,k3,k4,k5⟩:=a5.out;go_wp2_with fail;refine(ad.out _ (bR a1.out a4)).mono ?_;rintro e w3 ⟨rfl,b3⟩;have am:=hid (a5.out.on b3);have ao:=bT a4 b3;clear k0 k1 k2 k3 k4 k5 b3;obtain⟨k0,k1,k2,k3,k4,k5⟩:=am.out;go_wp2_with fail;go_ret2;refine dN Hm.out ?_ ao;unfold jF gB cellL;rw[if_pos a0.out,if_neg Hl.out];simp[kI,kG,a8.out,a7.out]
   ·have a0:=hid a6
    go_enter Tryz.func210,Tryz.ntmps210;go_wp2_with fail;refine(a2.out _).mono ?_;rintro e w1 ⟨rfl,b1⟩;have J:=hid (a3.out.on b1);have Y:=bT a9 b1;obtain⟨k0,k1,k2,k3,k4,k5⟩:=J.out;clear b1;go_wp2_with fail;refine(ad.out _ (bR a1.out Y)).mono ?_;rintro e w2 ⟨rfl,b2⟩;have a5:=hid (J.out.on b2);have a4:=bT Y b2;clear k0 k1 k2 k3 k4 k5 b2;obtain⟨k0,k1,k2,k3,k4,k5⟩:=a5.out;go_wp2_with fail;go_ret2;refine dN Hm.out ?_ a4;unfold jF gB cellL;rw[if_neg (show ¬0<copy by have:=a0.out;omega),if_neg Hl.out];simp[kI,kG,a7.out]
theorem aMm(hd:gK)(fn:ByteArray)(copy:Int)(name:ByteArray)(n cell:Int)(w:World)(Y:dY ⟨1,fn,copy,name,n,cell⟩=true)(J:jI w) :
 Calls Tryz.prog 210 #[Nd.val ⟨1,fn,copy,name,n,cell⟩] w (dD ⟨1,fn,copy,name,n,cell⟩ w):=
 aBX 1 (by simp) hd fn copy name n cell w Y J
theorem aL4(hd:gK)(fn:ByteArray)(copy:Int)(name:ByteArray)(n cell:Int)(w:World)(Y:dY ⟨4,fn,copy,name,n,cell⟩=true)(J:jI w) :
 Calls Tryz.prog 210 #[Nd.val ⟨4,fn,copy,name,n,cell⟩] w (dD ⟨4,fn,copy,name,n,cell⟩ w):=
 aBX 4 (by simp) hd fn copy name n cell w Y J
theorem aLh(hd:gK)(fn:ByteArray)(copy:Int)(name:ByteArray)(n cell:Int)(w:World)(Y:dY ⟨5,fn,copy,name,n,cell⟩=true)(J:jI w) :
 Calls Tryz.prog 210 #[Nd.val ⟨5,fn,copy,name,n,cell⟩] w (dD ⟨5,fn,copy,name,n,cell⟩ w):=
 aBX 5 (by simp) hd fn copy name n cell w Y J
theorem aLk(hd:gK)(fn:ByteArray)(copy:Int)(name:ByteArray)(n cell:Int)(w:World)(Y:dY ⟨6,fn,copy,name,n,cell⟩=true)(J:jI w) :
 Calls Tryz.prog 210 #[Nd.val ⟨6,fn,copy,name,n,cell⟩] w (dD ⟨6,fn,copy,name,n,cell⟩ w):=
 aBX 6 (by simp) hd fn copy name n cell w Y J
theorem aEr(kind:Int)(hq:kind=2∨kind=3∨kind=7)(hd:gK)(fn:ByteArray)(copy:Int)(name:ByteArray)(n cell:Int)(w:World)(hm:dY ⟨kind,fn,copy,name,n,cell⟩=true)(ai:jI w) :
 Calls Tryz.prog 210 #[Nd.val ⟨kind,fn,copy,name,n,cell⟩] w (dD ⟨kind,fn,copy,name,n,cell⟩ w):=by
 obtain⟨ar,am⟩:=qV _ hm;obtain⟨ap,ak,_⟩:=dS _ hm;have au:0≤n∧n≤268435456:=aBn _ hm hq;have az:fn.size≤16:=ar;have ay:name.size≤16:=am;have aj:0≤copy∧copy≤268435456:=ap;have ao:-1≤cell∧cell≤268435456:=ak;clear ar am ap ak
 have a4:Hid (∀w,Calls Tryz.prog 235 #[.agg #[.int .i64 kind,.string fn,.int .i64 copy,.string name,.int .i64 n,.int .i64 cell]] w fun e w'=>e=.returned (.bool true)∧Below w.heap.size w w'):=hid (fun w=>by
  have:=aB2 hd ⟨kind,fn,copy,name,n,cell⟩ w (by show name.size≤maxLen;unfold maxLen;omega) (by show fn.size≤maxLen;unfold maxLen;omega);rw[hm]at this
  exact this)
 have Hm:=hid hm;clear hm hd;obtain⟨Tc,ae,b6,ag⟩:=wY copy aj.1 aj.2;have ae:=hid ae;have ag:=hid ag;obtain⟨Tn,a8,b5,a9⟩:=wY n au.1 au.2;have a8:=hid a8;have a9:=hid a9;have a5:Hid (pI ⟨kind,fn,copy,name,n,cell⟩ w.heap.size (w.alloc (.cells #[.int .i64 kind,.string fn,.int .i64 copy,.string name,.int .i64 n,.int .i64 cell] 175))):=hid (pI.new ⟨kind,fn,copy,name,n,cell⟩ w _);have af:Below w.heap.size w (w.alloc (.cells #[.int .i64 kind,.string fn,.int .i64 copy,.string name,.int .i64 n,.int .i64 cell] 175)):=(Below.refl _ _).alloc (aY _) _;rcases hq with rfl | rfl | rfl
 all_goals
  have J:=hid ai;clear ai;unfold Nd.val Nd.cells;by_cases hl:cell=-1
  ·have aw:(cell != -1)=false:=by rw[hl];rfl
   have Hl:=hid hl;clear hl;by_cases aa:0<copy
   ·have a3:=hid aa
    go_enter Tryz.func210,Tryz.ntmps210;go_wp2_with fail;refine(a4.out _).mono ?_;rintro e w1 ⟨rfl,b1⟩;have Y:=hid (a5.out.on b1);have a0:=bT af b1;obtain⟨k0,k1,k2,k3,k4,k5⟩:=Y.out;clear b1;go_wp2_with fail;refine(ag.out _ (bR J.out a0)).mono ?_;rintro e w2 ⟨rfl,b2⟩;have a2:=hid (Y.out.on b2);have a1:=bT a0 b2;clear k0 k1 k2 k3 k4 k5 b2;obtain⟨k0,k1,k2,k3,k4,k5⟩:=a2.out;go_wp2_with fail;refine(a9.out _ (bR J.out a1)).mono ?_;rintro e w3 ⟨rfl,b3⟩;have a6:=hid (a2.out.on b3);have a7:=bT a1 b3;clear k0 k1 k2 k3 k4 k5 b3;obtain⟨k0,k1,k2,k3,k4,k5⟩:=a6.out;go_wp2_with fail;go_ret2;refine dN Hm.out ?_ a7;unfold jF gB cellL;rw[if_pos a3.out,if_pos Hl.out];simp[kI,kG,ae.out,a8.out]
   ·have a3:=hid aa
    go_enter Tryz.func210,Tryz.ntmps210;go_wp2_with fail;refine(a4.out _).mono ?_;rintro e w1 ⟨rfl,b1⟩;have Y:=hid (a5.out.on b1);have a0:=bT af b1;obtain⟨k0,k1,k2,k3,k4,k5⟩:=Y.out;clear b1;go_wp2_with fail;refine(a9.out _ (bR J.out a0)).mono ?_;rintro e w2 ⟨rfl,b2⟩;have a2:=hid (Y.out.on b2);have a1:=bT a0 b2;clear k0 k1 k2 k3 k4 k5 b2;obtain⟨k0,k1,k2,k3,k4,k5⟩:=a2.out;go_wp2_with fail;go_ret2;refine dN Hm.out ?_ a1;unfold jF gB cellL;rw[if_neg (show ¬0<copy by have:=a3.out;omega),if_pos Hl.out];simp[kI,kG,a8.out]
  ·have aw:(cell != -1)=true:=by rw[bne_iff_ne];exact hl
   obtain⟨Tl,ad,b7,ah⟩:=wY cell (by omega) ao.2;have ad:=hid ad;have ah:=hid ah;have Hl:=hid hl;clear hl;by_cases aa:0<copy
   ·have a3:=hid aa
    go_enter Tryz.func210,Tryz.ntmps210;go_wp2_with fail;refine(a4.out _).mono ?_;rintro e w1 ⟨rfl,b1⟩;have Y:=hid (a5.out.on b1);have a0:=bT af b1;obtain⟨k0,k1,k2,k3,k4,k5⟩:=Y.out;clear b1;go_wp2_with fail;refine(ag.out _ (bR J.out a0)).mono ?_;rintro e w2 ⟨rfl,b2⟩;have a2:=hid (Y.out.on b2);have a1:=bT a0 b2;clear k0 k1 k2 k3 k4 k5 b2;obtain⟨k0,k1,k2,k3,k4,k5⟩:=a2.out;go_wp2_with fail;refine(a9.out _ (bR J.out a1)).mono ?_;rintro e w3 ⟨rfl,b3⟩;have a6:=hid (a2.out.on b3);have a7:=bT a1 b3;clear k0 k1 k2 k3 k4 k5 b3;obtain⟨k0,k1,k2,k3,k4,k5⟩:=a6.out;go_wp2_with fail;refine(ah.out _ (bR J.out a7)).mono ?_;rintro e w4 ⟨rfl,b4⟩;have av:=hid (a6.out.on b4);have ax:=bT a7 b4;clear k0 k1 k2 k3 k4 k5 b4;obtain⟨k0,k1,k2,k3,k4,k5⟩:=av.out;go_wp2_with fail;go_ret2;refine dN Hm.out ?_ ax;unfold jF gB cellL
    rw[if_pos a3.out,if_neg Hl.out];simp[kI,kG,ae.out,a8.out,ad.out]
   ·have a3:=hid aa
    go_enter Tryz.func210,Tryz.ntmps210;go_wp2_with fail;refine(a4.out _).mono ?_;rintro e w1 ⟨rfl,b1⟩;have Y:=hid (a5.out.on b1);have a0:=bT af b1;obtain⟨k0,k1,k2,k3,k4,k5⟩:=Y.out;clear b1;go_wp2_with fail;refine(a9.out _ (bR J.out a0)).mono ?_;rintro e w2 ⟨rfl,b2⟩;have a2:=hid (Y.out.on b2);have a1:=bT a0 b2;clear k0 k1 k2 k3 k4 k5 b2;obtain⟨k0,k1,k2,k3,k4,k5⟩:=a2.out;go_wp2_with fail;refine(ah.out _ (bR J.out a1)).mono ?_;rintro e w3 ⟨rfl,b3⟩;have a6:=hid (a2.out.on b3);have a7:=bT a1 b3;clear k0 k1 k2 k3 k4 k5 b3;obtain⟨k0,k1,k2,k3,k4,k5⟩:=a6.out;go_wp2_with fail;go_ret2;refine dN Hm.out ?_ a7;unfold jF gB cellL;rw[if_neg (show ¬0<copy by have:=a3.out;omega),if_neg Hl.out];simp[kI,kG,a8.out,ad.out]
theorem aLT(hd:gK)(fn:ByteArray)(copy:Int)(name:ByteArray)(n cell:Int)(w:World)(Y:dY ⟨2,fn,copy,name,n,cell⟩=true)(J:jI w) :
 Calls Tryz.prog 210 #[Nd.val ⟨2,fn,copy,name,n,cell⟩] w (dD ⟨2,fn,copy,name,n,cell⟩ w):=
 aEr 2 (by simp) hd fn copy name n cell w Y J
theorem aLK(hd:gK)(fn:ByteArray)(copy:Int)(name:ByteArray)(n cell:Int)(w:World)(Y:dY ⟨3,fn,copy,name,n,cell⟩=true)(J:jI w) :
 Calls Tryz.prog 210 #[Nd.val ⟨3,fn,copy,name,n,cell⟩] w (dD ⟨3,fn,copy,name,n,cell⟩ w):=
 aEr 3 (by simp) hd fn copy name n cell w Y J
theorem aMe(hd:gK)(fn:ByteArray)(copy:Int)(name:ByteArray)(n cell:Int)(w:World)(Y:dY ⟨7,fn,copy,name,n,cell⟩=true)(J:jI w) :
 Calls Tryz.prog 210 #[Nd.val ⟨7,fn,copy,name,n,cell⟩] w (dD ⟨7,fn,copy,name,n,cell⟩ w):=
 aEr 7 (by simp) hd fn copy name n cell w Y J
theorem aJN(hd:gK)(d:Nd)(w:World)(hm:dY d=false)(Y:d.name.size≤maxLen)(J:d.fn.size≤maxLen) :
 Calls Tryz.prog 210 #[d.val] w (dD d w):=by
 have H:=hid (fun w=>aB2 hd d w Y J);rw[hm]at H;unfold dA at H;have Hp:Hid (∀w',Below w.heap.size w w'→dD d w (.returned (.tuple #[.string ⟨#[]⟩,.int .i64 11])) w'):=hid fun w' hb=>⟨by unfold txt lN;rw[hm];rfl,hb⟩
 obtain⟨kind,fn,copy,name,n,cell⟩:=d;unfold Nd.val Nd.cells at H ⊢;clear hm Y J hd;go_enter Tryz.func210,Tryz.ntmps210;go_wp2_with fail;refine(H.out _).mono ?_;rintro e w1 ⟨rfl,b1⟩;go_wp2_with fail;go_ret2;exact Hp.out _ (bT ((Below.refl _ _).alloc (aY _) _) b1)
theorem fT(hd:gK)(d:Nd)(w:World)(a1:d.name.size≤maxLen)(a0:d.fn.size≤maxLen)(J:jI w) :
 Calls Tryz.prog 210 #[d.val] w (dD d w):=by
 rcases Y:dY d with _ | _
 ·exact aJN hd d w Y a1 a0
 ·obtain⟨_,_,h1,h7⟩:=dS d Y
  obtain⟨kind,fn,copy,name,n,cell⟩:=d;have a2:1≤kind:=h1;have a3:kind≤7:=h7;rcases(by omega:kind=1∨kind=2∨kind=3∨kind=4∨kind=5∨kind=6∨kind=7)with rfl | rfl | rfl | rfl | rfl | rfl | rfl
  ·exact aMm hd _ _ _ _ _ w Y J
  ·exact aLT hd _ _ _ _ _ w Y J
  ·exact aLK hd _ _ _ _ _ w Y J
  ·exact aL4 hd _ _ _ _ _ w Y J
  ·exact aLh hd _ _ _ _ _ w Y J
  ·exact aLk hd _ _ _ _ _ w Y J
  ·exact aMe hd _ _ _ _ _ w Y J
def bM(s:ByteArray):Int:=((s.data.toList.headD 0).toNat:Int)
def fF(s:ByteArray):Int:=
 if s.size=0 then 5
 else if bM s=46 then 1 else if bM s=36 then 2 else if bM s=64 then 3 else if bM s=40 then 4 else if bM s=37 then 6 else if bM s=35 then 7 else 5
theorem nZ(s:ByteArray)(w:World)(hs:s.size≤maxLen):Calls Tryz.prog 213 #[.string s] w fun e w'=>e=.returned (.int .i64 (fF s))∧w=w':=by
 unfold maxLen at hs;by_cases h0:s.size=0
 ·have he:s.toList=[]:=dg.fC s h0
  have J:Hid (fF s=5):=hid (by unfold fF;rw[if_pos h0]);clear h0;go_enter Tryz.func213,Tryz.ntmps213;go_wp2_with fail;go_ret;exact⟨by rw[J.out];rfl,rfl⟩
 ·have he:s.toList.isEmpty=false:=dg.bU s h0
  have hz:0<s.size:=by omega
  have hh:bM s=(s[0].toNat:Int):=by unfold bM;rw[dg.bS s hz]
  have J:Hid (fF s=(if(s[0].toNat:Int)=46 then 1 else if(s[0].toNat:Int)=36 then 2 else if(s[0].toNat:Int)=64 then 3 else if(s[0].toNat:Int)=40 then 4 else if(s[0].toNat:Int)=37 then 6 else if(s[0].toNat:Int)=35 then 7 else 5)):=hid (by unfold fF;rw[if_neg h0,hh]);clear h0 hh;rcases(by omega:(s[0].toNat:Int)=46∨(s[0].toNat:Int)=36∨(s[0].toNat:Int)=64∨(s[0].toNat:Int)=40∨(s[0].toNat:Int)=37∨(s[0].toNat:Int)=35∨((s[0].toNat:Int)≠46∧(s[0].toNat:Int)≠36∧(s[0].toNat:Int)≠64∧(s[0].toNat:Int)≠40∧(s[0].toNat:Int)≠37∧(s[0].toNat:Int)≠35))with h | h | h | h | h | h | ⟨h1,Y,h3,h4,h5,h6⟩
  all_goals first
   | (have Hv:Hid (fF s=5):=hid (by rw[J.out,if_neg h1,if_neg Y,if_neg h3,if_neg h4,if_neg h5,if_neg h6])
      have b1:=bI.2 h1;have b2:=bI.2 Y;have b3:=bI.2 h3;have b4:=bI.2 h4;have b5:=bI.2 h5;have b6:=bI.2 h6;clear h1 Y h3 h4 h5 h6 J;go_enter Tryz.func213,Tryz.ntmps213;go_wp2_with fail;go_ret
      exact⟨by rw[Hv.out];rfl,rfl⟩)
   | (have hv:=J.out
      rw[h]at hv;have Hv:=hid hv;clear J hv;go_enter Tryz.func213,Tryz.ntmps213;go_wp2_with fail;go_ret
      exact⟨by rw[Hv.out];rfl,rfl⟩)
def dZ(s:ByteArray)(mark:Int)(absent:Int):Int×ByteArray:=
 if s.size=0∨bM s≠mark then(absent,s)
 else if(dg.rd ((s.extract 1 s.size).extract 0 (dg.jR (s.extract 1 s.size)))).2=0 then
  ((dg.rd ((s.extract 1 s.size).extract 0 (dg.jR (s.extract 1 s.size)))).1,(s.extract 1 s.size).extract (dg.jR (s.extract 1 s.size)) (s.extract 1 s.size).size)
 else(absent,⟨#[]⟩)
def aJO(s:ByteArray)(mark absent:Int)(w:World)(e:Ending)(w':World):Prop:=e=.returned (.tuple #[.int .i64 (dZ s mark absent).1,.string (dZ s mark absent).2])∧∃n,w'=w.drewN n
theorem wL(s:ByteArray)(a b:Nat):(s.extract a b).size≤s.size:=by simp;omega
theorem lH(s:ByteArray)(mark absent:Int)(w:World)(hs:s.size≤maxLen) :
 Calls Tryz.prog 212 #[.string s,.int .u8 mark,.int .i64 absent] w (aJO s mark absent w):=by
 by_cases h0:s.size=0
 ·have he:s.toList=[]:=dg.fC s h0
  have Hb:Hid (dZ s mark absent=(absent,s)):=hid (by unfold dZ;rw[if_pos (Or.inl h0)]);clear h0;go_enter Tryz.func212,Tryz.ntmps212;go_wp2_with fail;go_ret2;exact⟨by rw[Hb.out];rfl,0,rfl⟩
 ·have he:s.toList.isEmpty=false:=dg.bU s h0
  have hz:0<s.size:=by omega
  have hh:bM s=(s[0].toNat:Int):=by unfold bM;rw[dg.bS s hz]
  by_cases J:(s[0].toNat:Int)=mark
  ·have a6:((s[0].toNat:Int) != mark)=false:=by rw[J];simp
   have a5:¬(s.size=0∨bM s≠mark):=by rintro(h | h);exact h0 h;exact h (by rw[hh];exact J)
   have a3:=wL s 1 s.size;have a7:=dg.aJY (s.extract 1 s.size);have a0:Hid (dZ s mark absent=if(dg.rd ((s.extract 1 s.size).extract 0 (dg.jR (s.extract 1 s.size)))).2=0 then((dg.rd ((s.extract 1 s.size).extract 0 (dg.jR (s.extract 1 s.size)))).1,(s.extract 1 s.size).extract (dg.jR (s.extract 1 s.size)) (s.extract 1 s.size).size) else(absent,⟨#[]⟩)):=hid (by unfold dZ;rw[if_neg a5]);have a1:=hid (fun w=>dg.yD (s.extract 1 s.size) w (by omega));have a4:=hid (fun w=>dg.qA ((s.extract 1 s.size).extract 0 (dg.jR (s.extract 1 s.size))) w (by have:=wL (s.extract 1 s.size) 0 (dg.jR (s.extract 1 s.size));omega));unfold dg.uW at a1;generalize (dg.rd ((s.extract 1 s.size).extract 0 (dg.jR (s.extract 1 s.size)))).1=rv at *;generalize (dg.rd ((s.extract 1 s.size).extract 0 (dg.jR (s.extract 1 s.size)))).2=re at *;generalize (s.extract 1 s.size).extract 0 (dg.jR (s.extract 1 s.size))=t1 at *
   generalize (s.extract 1 s.size).extract (dg.jR (s.extract 1 s.size)) (s.extract 1 s.size).size=t2 at *;clear h0 hh J a5 a7 a3;unfold maxLen at hs;by_cases Y:re=0
   ·have Hb:Hid (dZ s mark absent=(rv,t2)):=hid (by rw[a0.out,if_pos Y])
    have a2:(re != 0)=false:=by rw[Y];rfl
    clear a0 Y;go_enter Tryz.func212,Tryz.ntmps212;go_wp2_with fail;refine(a1.out _).mono ?_;rintro e w' ⟨rfl,q,rfl⟩;go_wp2_with fail;refine(a4.out _).mono ?_;rintro e w' ⟨rfl,rfl⟩;go_wp2_with fail;go_ret2;exact⟨by rw[Hb.out];rfl,q,rfl⟩
   ·have Hb:Hid (dZ s mark absent=(absent,⟨#[]⟩)):=hid (by rw[a0.out,if_neg Y])
    have a2:(re != 0)=true:=by rw[bne_iff_ne];exact Y
    clear a0 Y;go_enter Tryz.func212,Tryz.ntmps212;go_wp2_with fail;refine(a1.out _).mono ?_;rintro e w' ⟨rfl,q,rfl⟩;go_wp2_with fail;refine(a4.out _).mono ?_;rintro e w' ⟨rfl,rfl⟩;go_wp2_with fail;go_ret2;exact⟨by rw[Hb.out];rfl,q,rfl⟩
  ·have a6:((s[0].toNat:Int) != mark)=true:=by rw[bne_iff_ne];exact J
   have Hb:Hid (dZ s mark absent=(absent,s)):=hid (by unfold dZ;rw[if_pos (Or.inr (by rw[hh];exact J))]);clear h0 hh J;unfold maxLen at hs;go_enter Tryz.func212,Tryz.ntmps212;go_wp2_with fail;go_ret2;exact⟨by rw[Hb.out];rfl,0,rfl⟩
def fn0(s:ByteArray):ByteArray:=s.extract 0 (dg.jR s)
def bK(s:ByteArray):ByteArray:=s.extract (dg.jR s) s.size
def kN(s:ByteArray):Int:=(dZ (bK s) 126 0).1
def bN(s:ByteArray):ByteArray:=(dZ (bK s) 126 0).2
def bL(s:ByteArray):ByteArray:=s.extract 1 s.size
def cellOf(r:ByteArray):Int:=(dZ r 43 (-1)).1
def dV(s:ByteArray):Nd:=
 if fF (bN s)=5 then⟨5,⟨#[]⟩,kN s,fn0 s,0,cellOf (bN s)⟩
 else if fF (bN s)=1 then⟨1,fn0 s,kN s,fn0 (bL (bN s)),0,cellOf (bK (bL (bN s)))⟩
 else if fF (bN s)=6 then⟨6,fn0 s,kN s,fn0 (bL (bN s)),0,cellOf (bK (bL (bN s)))⟩
 else if fF (bN s)=4 then⟨4,fn0 s,kN s,⟨#[]⟩,0,cellOf ⟨#[]⟩⟩
 else⟨fF (bN s),fn0 s,kN s,⟨#[]⟩,(dZ (bN s) (bM (bN s)) 0).1,cellOf (dZ (bN s) (bM (bN s)) 0).2⟩
def fU:Nd:=⟨0,⟨#[]⟩,0,⟨#[]⟩,0,0⟩
def eU(s:ByteArray):Bool:=dY (dV s)&&((txt (dV s)).toList==s.toList)
def wS(s:ByteArray):Nd:=if eU s then dV s else fU
def xE(s:ByteArray):Int:=if eU s then 0 else 11
def gL(s:ByteArray)(w:World)(e:Ending)(w':World):Prop:=e=.returned (.tuple #[(wS s).val,.int .i64 (xE s)])∧Below w.heap.size w w'
theorem iX{W w':World}{a:Addr}(hl:a.block<W.heap.size)(h:W.frozen? a=false)(hb:Below W.heap.size W w'):w'.frozen? a=false:=by
 rw[hb.frozen hl];exact h
theorem oI{P:Program}{f:FuncId}{args:Array Value}{W:World}{post:Ending→World→Prop}(Q:World→Prop)(Y:Q W)(h:∀J,Q J→Calls P f args J post):Calls P f args W post:=h W Y
def uE(b:Nat)(w:World):Prop:=w.frozen? ⟨b,0,none⟩=false∧w.frozen? ⟨b,1,none⟩=false∧w.frozen? ⟨b,2,none⟩=false∧w.frozen? ⟨b,3,none⟩=false∧w.frozen? ⟨b,4,none⟩=false∧w.frozen? ⟨b,5,none⟩=false
theorem uE.on{b:Nat}{w w':World}(h:uE b w)(hl:b<w.heap.size)(hb:Below w.heap.size w w'):uE b w':=
 ⟨iX hl h.1 hb,iX hl h.2.1 hb,iX hl h.2.2.1 hb,iX hl h.2.2.2.1 hb,iX hl h.2.2.2.2.1 hb,iX hl h.2.2.2.2.2 hb⟩
theorem aCb(s:ByteArray)(m a:Int):(dZ s m a).2.size≤s.size:=by
 unfold dZ;split
 ·exact aY _
 ·split
  ·exact aZ (wL _ _ _) (wL _ _ _)
  ·exact bA _
theorem dR(s:ByteArray):(bK s).size≤s.size:=wL _ _ _
theorem oN(s:ByteArray):(bN s).size≤s.size:=aZ (aCb _ _ _) (dR s)
theorem gJ(s:ByteArray):(fn0 s).size≤s.size:=wL _ _ _
theorem fJ(s:ByteArray):(bL s).size≤s.size:=wL _ _ _
theorem nY(s:ByteArray)(w:World)(hs:s.size≤maxLen):Calls Tryz.prog 211 #[.string s] w fun e w'=>e=.returned (.tuple #[.string (fn0 s),.string (bK s)])∧∃n,w'=w.drewN n:=dg.yD s w hs
theorem rJ(s:ByteArray)(w:World)(hs:(bK s).size≤maxLen):Calls Tryz.prog 212 #[.string (bK s),.int .u8 126,.int .i64 0] w fun e w'=>e=.returned (.tuple #[.int .i64 (kN s),.string (bN s)])∧∃n,w'=w.drewN n:=lH (bK s) 126 0 w hs
theorem oG(r:ByteArray)(hs:r.size≤maxLen):∃t,∀w,Calls Tryz.prog 212 #[.string r,.int .u8 43,.int .i64 (-1)] w fun e w'=>e=.returned (.tuple #[.int .i64 (cellOf r),.string t])∧∃n,w'=w.drewN n:=⟨(dZ r 43 (-1)).2,fun w=>lH r 43 (-1) w hs⟩
theorem iB{s:ByteArray}{d:Nd}{w w':World}(hc:dV s=d)(Y:dY d=true)(J:((txt d).toList==s.toList)=true)(hb:Below w.heap.size w w'):gL s w (.returned (.tuple #[d.val,.int .i64 0])) w':=by
 have hr:eU s=true:=by unfold eU;rw[hc,Y,J];rfl
 refine⟨?_,hb⟩;unfold wS xE;rw[hr,hc];rfl
theorem iP{s:ByteArray}{d:Nd}{w w':World}(hc:dV s=d)(J:dY d=false∨((txt d).toList==s.toList)=false)(hb:Below w.heap.size w w'):gL s w (.returned (.tuple #[fU.val,.int .i64 11])) w':=by
 have hr:eU s=false:=by unfold eU;rw[hc];rcases J with h | h <;> rw[h] <;> simp
 refine⟨?_,hb⟩;unfold wS xE;rw[hr];rfl
theorem iT(d:Nd)(s:ByteArray):(dY d=false∧lN d=11)∨(dY d=true∧lN d=0∧((txt d).toList==s.toList)=false)∨(dY d=true∧lN d=0∧((txt d).toList==s.toList)=true):=by
 unfold lN;rcases h:dY d with _ | _
 ·exact Or.inl ⟨rfl,by simp⟩
 ·rcases J:((txt d).toList==s.toList)with _ | _
  ·exact Or.inr (Or.inl ⟨rfl,by simp,rfl⟩)
  ·exact Or.inr (Or.inr ⟨rfl,by simp,rfl⟩)
theorem tJ{s:ByteArray}{k:Int}(h:fF s=k)(J:k≠5):0<s.size:=by
 rcases Nat.eq_zero_or_pos s.size with h0 | h0
 ·unfold fF at h;rw[if_pos h0]at h;exact absurd h.symm J
 ·exact h0
theorem aAu(r:ByteArray)(w:World)(hs:r.size≤maxLen):Calls Tryz.prog 211 #[.string (r.extract 1 r.size)] w fun e w'=>e=.returned (.tuple #[.string (fn0 (bL r)),.string (bK (bL r))])∧∃n,w'=w.drewN n:=dg.yD (bL r) w (aZ (fJ r) hs)
theorem aAH(r:ByteArray)(J:0<r.size)(w:World)(hs:r.size≤maxLen):Calls Tryz.prog 212 #[.string r,.int .u8 (r[0].toNat:Int),.int .i64 0] w fun e w'=>e=.returned (.tuple #[.int .i64 (dZ r (bM r) 0).1,.string (dZ r (bM r) 0).2])∧∃n,w'=w.drewN n:=by
 have Y:bM r=(r[0].toNat:Int):=by unfold bM;rw[dg.bS r J]
 rw[Y];exact lH r (r[0].toNat:Int) 0 w hs
theorem aLd(hd:gK)(s:ByteArray)(w:World)(hs:s.size≤maxLen)(a4:jI w)(hk:fF (bN s)=5):Calls Tryz.prog 190 #[.string s] w (gL s w):=by
 have l1:=dR s;have l2:=oN s;have l0:=gJ s;obtain⟨r4,a3⟩:=oG (bN s) (by omega);have a3:=hid a3;have Hc:Hid (dV s=⟨5,⟨#[]⟩,kN s,fn0 s,0,cellOf (bN s)⟩):=hid (by unfold dV;rw[hk];first | rfl | simp);have a9:=hid (fun w h=>fT hd ⟨5,⟨#[]⟩,kN s,fn0 s,0,cellOf (bN s)⟩ w (by show(fn0 s:ByteArray).size≤maxLen;first | omega | exact bA _) (by show(⟨#[]⟩:ByteArray).size≤maxLen;first | omega | exact bA _) h);have a2:=hid (iT ⟨5,⟨#[]⟩,kN s,fn0 s,0,cellOf (bN s)⟩ s);unfold dD Nd.val Nd.cells at a9;have ai:=hid (fun w=>nY s w hs);have ae:=hid (fun w=>rJ s w (by omega));have aa:=hid (fun w=>nZ (bN s) w (by omega));rw[hk]at aa;have ad:=hid a4;clear a4 hk hd l0 l1 l2;unfold maxLen at hs;go_enter Tryz.func190,Tryz.ntmps190;go_wp2_with fail;refine(ai.out _).mono ?_;rintro e w' ⟨rfl,q1,rfl⟩;go_wp2_with fail
 refine(ae.out _).mono ?_;rintro e w' ⟨rfl,q2,rfl⟩;go_wp2_with fail;refine(aa.out _).mono ?_;rintro e w' ⟨rfl,rfl⟩;go_wp2_with fail;refine(a3.out _).mono ?_;rintro e w' ⟨rfl,r0,rfl⟩;go_wp2_with fail;refine oI (fun W'=>Below w.heap.size w W'∧pI ⟨5,⟨#[]⟩,kN s,fn0 s,0,cellOf (bN s)⟩ (w.heap.size+1) W'∧pI fU w.heap.size W'∧uE w.heap.size W'∧w.heap.size+1<W'.heap.size) ⟨?_,?_,?_,?_,?_⟩ ?_
 ·repeat (first | (with_reducible exact Below.refl _ _) | (with_reducible refine dt.below_drewN ?_ _) | (with_reducible refine Below.setCell ?_ (by simp) _) | (with_reducible refine Below.alloc ?_ (by simp) _))
 ·unfold pI;refine⟨?_,?_,?_,?_,?_,?_⟩ <;> go_simp
 ·unfold pI fU;refine⟨?_,?_,?_,?_,?_,?_⟩ <;> go_simp
 ·unfold uE;refine⟨?_,?_,?_,?_,?_,?_⟩ <;> go_simp
 ·simp
 rintro W4 ⟨a8,aj,ag,af,ao⟩;refine(a9.out W4 (bR ad.out a8)).mono ?_;rintro e w5 ⟨rfl,b5⟩;have am:=hid (aj.on b5);have ah:=hid (ag.on b5);have ak:=hid (af.on (by omega) b5);have a6:=bT a8 b5;have ap:w.heap.size+1<w5.heap.size:=by have:=b5.size;omega
 clear b5 a8 aj ag af ao;obtain⟨k0,k1,k2,k3,k4,k5⟩:=am.out;unfold fU at ah;obtain⟨z0,z1,z2,z3,z4,z5⟩:=ah.out;obtain⟨f0,f1,f2,f3,f4,f5⟩:=ak.out;have H3:=a2.out;have Y:=hid (fun w'=>iP (w:=w) (w':=w') Hc.out);have J:=hid (fun w'=>iB (w:=w) (w':=w') Hc.out);unfold fU at Y;unfold Nd.val Nd.cells at Y J;generalize dY ⟨5,⟨#[]⟩,kN s,fn0 s,0,cellOf (bN s)⟩=mb at *;generalize lN ⟨5,⟨#[]⟩,kN s,fn0 s,0,cellOf (bN s)⟩=te at *;generalize txt ⟨5,⟨#[]⟩,kN s,fn0 s,0,cellOf (bN s)⟩=tt at *;clear Hc a3 ai ae aa a9 a2;rcases H3 with⟨a0,rfl⟩ | ⟨a0,rfl,a7⟩ | ⟨a0,rfl,a7⟩
 ·have a1:=hid (fun w'=>Y.out w' (Or.inl a0))
  clear Y J a0;go_wp2_with fail;refine bodyPost_ret (v:=.tuple #[.agg #[.int .i64 0,.string ⟨#[]⟩,.int .i64 0,.string ⟨#[]⟩,.int .i64 0,.int .i64 0],.int .i64 11]) ?_ rfl (a1.out _ ?_)
  ·simp only[results,Tryz.results190]
   clear a1;go_simp
  ·repeat (first | (with_reducible exact a6) | (with_reducible refine Below.setCell ?_ (by simp) _))
 ·have a1:=hid (fun w'=>Y.out w' (Or.inr a7))
  clear Y J a0;go_wp2_with fail;refine bodyPost_ret (v:=.tuple #[.agg #[.int .i64 0,.string ⟨#[]⟩,.int .i64 0,.string ⟨#[]⟩,.int .i64 0,.int .i64 0],.int .i64 11]) ?_ rfl (a1.out _ ?_)
  ·simp only[results,Tryz.results190]
   clear a1;go_simp
  ·repeat (first | (with_reducible exact a6) | (with_reducible refine Below.setCell ?_ (by simp) _))
 ·have a5:=hid (fun w'=>J.out w' a0 a7)
  clear Y J a0;go_wp2_with fail;refine bodyPost_ret ?_ rfl (a5.out _ ?_)
  ·simp only[results,Tryz.results190]
   clear a5;go_simp
  ·repeat (first | (with_reducible exact a6) | (with_reducible refine Below.setCell ?_ (by simp) _))
theorem aLN(hd:gK)(s:ByteArray)(w:World)(hs:s.size≤maxLen)(a4:jI w)(hk:fF (bN s)=1):Calls Tryz.prog 190 #[.string s] w (gL s w):=by
 have l1:=dR s;have l2:=oN s;have l0:=gJ s;have hz:=tJ hk (by decide);have lt:=fJ (bN s);have lf:=gJ (bL (bN s));have lr:=dR (bL (bN s));have ao:=hid (fun w=>aAu (bN s) w (by omega));obtain⟨r4,a3⟩:=oG (bK (bL (bN s))) (by omega);have a3:=hid a3;clear lr;have Hc:Hid (dV s=⟨1,fn0 s,kN s,fn0 (bL (bN s)),0,cellOf (bK (bL (bN s)))⟩):=hid (by unfold dV;rw[hk];first | rfl | simp);have a9:=hid (fun w h=>fT hd ⟨1,fn0 s,kN s,fn0 (bL (bN s)),0,cellOf (bK (bL (bN s)))⟩ w (by show(fn0 (bL (bN s)):ByteArray).size≤maxLen;first | omega | exact bA _) (by show(fn0 s:ByteArray).size≤maxLen;first | omega | exact bA _) h);have a2:=hid (iT ⟨1,fn0 s,kN s,fn0 (bL (bN s)),0,cellOf (bK (bL (bN s)))⟩ s);unfold dD Nd.val Nd.cells at a9
 have ai:=hid (fun w=>nY s w hs);have ae:=hid (fun w=>rJ s w (by omega));have aa:=hid (fun w=>nZ (bN s) w (by omega));rw[hk]at aa;have ad:=hid a4;clear a4 hk hd l0 l1 l2;unfold maxLen at hs;go_enter Tryz.func190,Tryz.ntmps190;go_wp2_with fail;refine(ai.out _).mono ?_;rintro e w' ⟨rfl,q1,rfl⟩;go_wp2_with fail;refine(ae.out _).mono ?_;rintro e w' ⟨rfl,q2,rfl⟩;go_wp2_with fail;refine(aa.out _).mono ?_;rintro e w' ⟨rfl,rfl⟩;go_wp2_with fail;refine(ao.out _).mono ?_;rintro e w' ⟨rfl,r0,rfl⟩;go_wp2_with fail;refine(a3.out _).mono ?_;rintro e w' ⟨rfl,r1,rfl⟩;go_wp2_with fail;refine oI (fun W'=>Below w.heap.size w W'∧pI ⟨1,fn0 s,kN s,fn0 (bL (bN s)),0,cellOf (bK (bL (bN s)))⟩ (w.heap.size+1) W'∧pI fU w.heap.size W'∧uE w.heap.size W'∧w.heap.size+1<W'.heap.size) ⟨?_,?_,?_,?_,?_⟩ ?_
 ·repeat (first | (with_reducible exact Below.refl _ _) | (with_reducible refine dt.below_drewN ?_ _) | (with_reducible refine Below.setCell ?_ (by simp) _) | (with_reducible refine Below.alloc ?_ (by simp) _))
 ·unfold pI;refine⟨?_,?_,?_,?_,?_,?_⟩ <;> go_simp
 ·unfold pI fU;refine⟨?_,?_,?_,?_,?_,?_⟩ <;> go_simp
 ·unfold uE;refine⟨?_,?_,?_,?_,?_,?_⟩ <;> go_simp
 ·simp
 rintro W4 ⟨a8,aj,ag,af,ap⟩;refine(a9.out W4 (bR ad.out a8)).mono ?_;rintro e w5 ⟨rfl,b5⟩;have am:=hid (aj.on b5);have ah:=hid (ag.on b5);have ak:=hid (af.on (by omega) b5);have a6:=bT a8 b5;have ar:w.heap.size+1<w5.heap.size:=by have:=b5.size;omega
 clear b5 a8 aj ag af ap;obtain⟨k0,k1,k2,k3,k4,k5⟩:=am.out;unfold fU at ah;obtain⟨z0,z1,z2,z3,z4,z5⟩:=ah.out;obtain⟨f0,f1,f2,f3,f4,f5⟩:=ak.out;have H3:=a2.out;have Y:=hid (fun w'=>iP (w:=w) (w':=w') Hc.out);have J:=hid (fun w'=>iB (w:=w) (w':=w') Hc.out);unfold fU at Y;unfold Nd.val Nd.cells at Y J;generalize dY ⟨1,fn0 s,kN s,fn0 (bL (bN s)),0,cellOf (bK (bL (bN s)))⟩=mb at *;generalize lN ⟨1,fn0 s,kN s,fn0 (bL (bN s)),0,cellOf (bK (bL (bN s)))⟩=te at *;generalize txt ⟨1,fn0 s,kN s,fn0 (bL (bN s)),0,cellOf (bK (bL (bN s)))⟩=tt at *;clear Hc a3 ai ae aa a9 a2;rcases H3 with⟨a0,rfl⟩ | ⟨a0,rfl,a7⟩ | ⟨a0,rfl,a7⟩
 ·have a1:=hid (fun w'=>Y.out w' (Or.inl a0))
  clear Y J a0;go_wp2_with fail;refine bodyPost_ret (v:=.tuple #[.agg #[.int .i64 0,.string ⟨#[]⟩,.int .i64 0,.string ⟨#[]⟩,.int .i64 0,.int .i64 0],.int .i64 11]) ?_ rfl (a1.out _ ?_)
  ·simp only[results,Tryz.results190]
   clear a1;go_simp
  ·repeat (first | (with_reducible exact a6) | (with_reducible refine Below.setCell ?_ (by simp) _))
 ·have a1:=hid (fun w'=>Y.out w' (Or.inr a7))
  clear Y J a0;go_wp2_with fail;refine bodyPost_ret (v:=.tuple #[.agg #[.int .i64 0,.string ⟨#[]⟩,.int .i64 0,.string ⟨#[]⟩,.int .i64 0,.int .i64 0],.int .i64 11]) ?_ rfl (a1.out _ ?_)
  ·simp only[results,Tryz.results190]
   clear a1;go_simp
  ·repeat (first | (with_reducible exact a6) | (with_reducible refine Below.setCell ?_ (by simp) _))
 ·have a5:=hid (fun w'=>J.out w' a0 a7)
  clear Y J a0;go_wp2_with fail;refine bodyPost_ret ?_ rfl (a5.out _ ?_)
  ·simp only[results,Tryz.results190]
   clear a5;go_simp
  ·repeat (first | (with_reducible exact a6) | (with_reducible refine Below.setCell ?_ (by simp) _))
theorem aLV(hd:gK)(s:ByteArray)(w:World)(hs:s.size≤maxLen)(a4:jI w)(hk:fF (bN s)=6):Calls Tryz.prog 190 #[.string s] w (gL s w):=by
 have l1:=dR s;have l2:=oN s;have l0:=gJ s;have hz:=tJ hk (by decide);have lt:=fJ (bN s);have lf:=gJ (bL (bN s));have lr:=dR (bL (bN s));have ao:=hid (fun w=>aAu (bN s) w (by omega));obtain⟨r4,a3⟩:=oG (bK (bL (bN s))) (by omega);have a3:=hid a3;clear lr;have Hc:Hid (dV s=⟨6,fn0 s,kN s,fn0 (bL (bN s)),0,cellOf (bK (bL (bN s)))⟩):=hid (by unfold dV;rw[hk];first | rfl | simp);have a9:=hid (fun w h=>fT hd ⟨6,fn0 s,kN s,fn0 (bL (bN s)),0,cellOf (bK (bL (bN s)))⟩ w (by show(fn0 (bL (bN s)):ByteArray).size≤maxLen;first | omega | exact bA _) (by show(fn0 s:ByteArray).size≤maxLen;first | omega | exact bA _) h);have a2:=hid (iT ⟨6,fn0 s,kN s,fn0 (bL (bN s)),0,cellOf (bK (bL (bN s)))⟩ s);unfold dD Nd.val Nd.cells at a9
 have ai:=hid (fun w=>nY s w hs);have ae:=hid (fun w=>rJ s w (by omega));have aa:=hid (fun w=>nZ (bN s) w (by omega));rw[hk]at aa;have ad:=hid a4;clear a4 hk hd l0 l1 l2;unfold maxLen at hs;go_enter Tryz.func190,Tryz.ntmps190;go_wp2_with fail;refine(ai.out _).mono ?_;rintro e w' ⟨rfl,q1,rfl⟩;go_wp2_with fail;refine(ae.out _).mono ?_;rintro e w' ⟨rfl,q2,rfl⟩;go_wp2_with fail;refine(aa.out _).mono ?_;rintro e w' ⟨rfl,rfl⟩;go_wp2_with fail;refine(ao.out _).mono ?_;rintro e w' ⟨rfl,r0,rfl⟩;go_wp2_with fail;refine(a3.out _).mono ?_;rintro e w' ⟨rfl,r1,rfl⟩;go_wp2_with fail;refine oI (fun W'=>Below w.heap.size w W'∧pI ⟨6,fn0 s,kN s,fn0 (bL (bN s)),0,cellOf (bK (bL (bN s)))⟩ (w.heap.size+1) W'∧pI fU w.heap.size W'∧uE w.heap.size W'∧w.heap.size+1<W'.heap.size) ⟨?_,?_,?_,?_,?_⟩ ?_
 ·repeat (first | (with_reducible exact Below.refl _ _) | (with_reducible refine dt.below_drewN ?_ _) | (with_reducible refine Below.setCell ?_ (by simp) _) | (with_reducible refine Below.alloc ?_ (by simp) _))
 ·unfold pI;refine⟨?_,?_,?_,?_,?_,?_⟩ <;> go_simp
 ·unfold pI fU;refine⟨?_,?_,?_,?_,?_,?_⟩ <;> go_simp
 ·unfold uE;refine⟨?_,?_,?_,?_,?_,?_⟩ <;> go_simp
 ·simp
 rintro W4 ⟨a8,aj,ag,af,ap⟩;refine(a9.out W4 (bR ad.out a8)).mono ?_;rintro e w5 ⟨rfl,b5⟩;have am:=hid (aj.on b5);have ah:=hid (ag.on b5);have ak:=hid (af.on (by omega) b5);have a6:=bT a8 b5;have ar:w.heap.size+1<w5.heap.size:=by have:=b5.size;omega
 clear b5 a8 aj ag af ap;obtain⟨k0,k1,k2,k3,k4,k5⟩:=am.out;unfold fU at ah;obtain⟨z0,z1,z2,z3,z4,z5⟩:=ah.out;obtain⟨f0,f1,f2,f3,f4,f5⟩:=ak.out;have H3:=a2.out;have Y:=hid (fun w'=>iP (w:=w) (w':=w') Hc.out);have J:=hid (fun w'=>iB (w:=w) (w':=w') Hc.out);unfold fU at Y;unfold Nd.val Nd.cells at Y J;generalize dY ⟨6,fn0 s,kN s,fn0 (bL (bN s)),0,cellOf (bK (bL (bN s)))⟩=mb at *;generalize lN ⟨6,fn0 s,kN s,fn0 (bL (bN s)),0,cellOf (bK (bL (bN s)))⟩=te at *;generalize txt ⟨6,fn0 s,kN s,fn0 (bL (bN s)),0,cellOf (bK (bL (bN s)))⟩=tt at *;clear Hc a3 ai ae aa a9 a2;rcases H3 with⟨a0,rfl⟩ | ⟨a0,rfl,a7⟩ | ⟨a0,rfl,a7⟩
 ·have a1:=hid (fun w'=>Y.out w' (Or.inl a0))
  clear Y J a0;go_wp2_with fail;refine bodyPost_ret (v:=.tuple #[.agg #[.int .i64 0,.string ⟨#[]⟩,.int .i64 0,.string ⟨#[]⟩,.int .i64 0,.int .i64 0],.int .i64 11]) ?_ rfl (a1.out _ ?_)
  ·simp only[results,Tryz.results190]
   clear a1;go_simp
  ·repeat (first | (with_reducible exact a6) | (with_reducible refine Below.setCell ?_ (by simp) _))
 ·have a1:=hid (fun w'=>Y.out w' (Or.inr a7))
  clear Y J a0;go_wp2_with fail;refine bodyPost_ret (v:=.tuple #[.agg #[.int .i64 0,.string ⟨#[]⟩,.int .i64 0,.string ⟨#[]⟩,.int .i64 0,.int .i64 0],.int .i64 11]) ?_ rfl (a1.out _ ?_)
  ·simp only[results,Tryz.results190]
   clear a1;go_simp
  ·repeat (first | (with_reducible exact a6) | (with_reducible refine Below.setCell ?_ (by simp) _))
 ·have a5:=hid (fun w'=>J.out w' a0 a7)
  clear Y J a0;go_wp2_with fail;refine bodyPost_ret ?_ rfl (a5.out _ ?_)
  ·simp only[results,Tryz.results190]
   clear a5;go_simp
  ·repeat (first | (with_reducible exact a6) | (with_reducible refine Below.setCell ?_ (by simp) _))
theorem aLf(hd:gK)(s:ByteArray)(w:World)(hs:s.size≤maxLen)(a4:jI w)(hk:fF (bN s)=4):Calls Tryz.prog 190 #[.string s] w (gL s w):=by
 have l1:=dR s;have l2:=oN s;have l0:=gJ s;obtain⟨r4,a3⟩:=oG ⟨#[]⟩ (by exact bA _);have a3:=hid a3;have Hc:Hid (dV s=⟨4,fn0 s,kN s,⟨#[]⟩,0,cellOf ⟨#[]⟩⟩):=hid (by unfold dV;rw[hk];first | rfl | simp);have a9:=hid (fun w h=>fT hd ⟨4,fn0 s,kN s,⟨#[]⟩,0,cellOf ⟨#[]⟩⟩ w (by show(⟨#[]⟩:ByteArray).size≤maxLen;first | omega | exact bA _) (by show(fn0 s:ByteArray).size≤maxLen;first | omega | exact bA _) h);have a2:=hid (iT ⟨4,fn0 s,kN s,⟨#[]⟩,0,cellOf ⟨#[]⟩⟩ s);unfold dD Nd.val Nd.cells at a9;have ai:=hid (fun w=>nY s w hs);have ae:=hid (fun w=>rJ s w (by omega));have aa:=hid (fun w=>nZ (bN s) w (by omega));rw[hk]at aa;have ad:=hid a4;clear a4 hk hd l0 l1 l2;unfold maxLen at hs;go_enter Tryz.func190,Tryz.ntmps190;go_wp2_with fail;refine(ai.out _).mono ?_;rintro e w' ⟨rfl,q1,rfl⟩;go_wp2_with fail
 refine(ae.out _).mono ?_;rintro e w' ⟨rfl,q2,rfl⟩;go_wp2_with fail;refine(aa.out _).mono ?_;rintro e w' ⟨rfl,rfl⟩;go_wp2_with fail;refine(a3.out _).mono ?_;rintro e w' ⟨rfl,r0,rfl⟩;go_wp2_with fail;refine oI (fun W'=>Below w.heap.size w W'∧pI ⟨4,fn0 s,kN s,⟨#[]⟩,0,cellOf ⟨#[]⟩⟩ (w.heap.size+1) W'∧pI fU w.heap.size W'∧uE w.heap.size W'∧w.heap.size+1<W'.heap.size) ⟨?_,?_,?_,?_,?_⟩ ?_
 ·repeat (first | (with_reducible exact Below.refl _ _) | (with_reducible refine dt.below_drewN ?_ _) | (with_reducible refine Below.setCell ?_ (by simp) _) | (with_reducible refine Below.alloc ?_ (by simp) _))
 ·unfold pI;refine⟨?_,?_,?_,?_,?_,?_⟩ <;> go_simp
 ·unfold pI fU;refine⟨?_,?_,?_,?_,?_,?_⟩ <;> go_simp
 ·unfold uE;refine⟨?_,?_,?_,?_,?_,?_⟩ <;> go_simp
 ·simp
 rintro W4 ⟨a8,aj,ag,af,ao⟩;refine(a9.out W4 (bR ad.out a8)).mono ?_;rintro e w5 ⟨rfl,b5⟩;have am:=hid (aj.on b5);have ah:=hid (ag.on b5);have ak:=hid (af.on (by omega) b5);have a6:=bT a8 b5;have ap:w.heap.size+1<w5.heap.size:=by have:=b5.size;omega
 clear b5 a8 aj ag af ao;obtain⟨k0,k1,k2,k3,k4,k5⟩:=am.out;unfold fU at ah;obtain⟨z0,z1,z2,z3,z4,z5⟩:=ah.out;obtain⟨f0,f1,f2,f3,f4,f5⟩:=ak.out;have H3:=a2.out;have Y:=hid (fun w'=>iP (w:=w) (w':=w') Hc.out);have J:=hid (fun w'=>iB (w:=w) (w':=w') Hc.out);unfold fU at Y;unfold Nd.val Nd.cells at Y J;generalize dY ⟨4,fn0 s,kN s,⟨#[]⟩,0,cellOf ⟨#[]⟩⟩=mb at *;generalize lN ⟨4,fn0 s,kN s,⟨#[]⟩,0,cellOf ⟨#[]⟩⟩=te at *;generalize txt ⟨4,fn0 s,kN s,⟨#[]⟩,0,cellOf ⟨#[]⟩⟩=tt at *;clear Hc a3 ai ae aa a9 a2;rcases H3 with⟨a0,rfl⟩ | ⟨a0,rfl,a7⟩ | ⟨a0,rfl,a7⟩
 ·have a1:=hid (fun w'=>Y.out w' (Or.inl a0))
  clear Y J a0;go_wp2_with fail;refine bodyPost_ret (v:=.tuple #[.agg #[.int .i64 0,.string ⟨#[]⟩,.int .i64 0,.string ⟨#[]⟩,.int .i64 0,.int .i64 0],.int .i64 11]) ?_ rfl (a1.out _ ?_)
  ·simp only[results,Tryz.results190]
   clear a1;go_simp
  ·repeat (first | (with_reducible exact a6) | (with_reducible refine Below.setCell ?_ (by simp) _))
 ·have a1:=hid (fun w'=>Y.out w' (Or.inr a7))
  clear Y J a0;go_wp2_with fail;refine bodyPost_ret (v:=.tuple #[.agg #[.int .i64 0,.string ⟨#[]⟩,.int .i64 0,.string ⟨#[]⟩,.int .i64 0,.int .i64 0],.int .i64 11]) ?_ rfl (a1.out _ ?_)
  ·simp only[results,Tryz.results190]
   clear a1;go_simp
  ·repeat (first | (with_reducible exact a6) | (with_reducible refine Below.setCell ?_ (by simp) _))
 ·have a5:=hid (fun w'=>J.out w' a0 a7)
  clear Y J a0;go_wp2_with fail;refine bodyPost_ret ?_ rfl (a5.out _ ?_)
  ·simp only[results,Tryz.results190]
   clear a5;go_simp
  ·repeat (first | (with_reducible exact a6) | (with_reducible refine Below.setCell ?_ (by simp) _))
theorem aL9(hd:gK)(s:ByteArray)(w:World)(hs:s.size≤maxLen)(a4:jI w)(hk:fF (bN s)=2):Calls Tryz.prog 190 #[.string s] w (gL s w):=by
 have l1:=dR s;have l2:=oN s;have l0:=gJ s;have hz:=tJ hk (by decide);have ao:=hid (fun w=>aAH (bN s) hz w (by omega));obtain⟨r4,a3⟩:=oG (dZ (bN s) (bM (bN s)) 0).2 (by have:=aCb (bN s) (bM (bN s)) 0;omega);have a3:=hid a3;have Hc:Hid (dV s=⟨2,fn0 s,kN s,⟨#[]⟩,(dZ (bN s) (bM (bN s)) 0).1,cellOf (dZ (bN s) (bM (bN s)) 0).2⟩):=hid (by unfold dV;rw[hk];first | rfl | simp);have a9:=hid (fun w h=>fT hd ⟨2,fn0 s,kN s,⟨#[]⟩,(dZ (bN s) (bM (bN s)) 0).1,cellOf (dZ (bN s) (bM (bN s)) 0).2⟩ w (by show(⟨#[]⟩:ByteArray).size≤maxLen;first | omega | exact bA _) (by show(fn0 s:ByteArray).size≤maxLen;first | omega | exact bA _) h);have a2:=hid (iT ⟨2,fn0 s,kN s,⟨#[]⟩,(dZ (bN s) (bM (bN s)) 0).1,cellOf (dZ (bN s) (bM (bN s)) 0).2⟩ s);unfold dD Nd.val Nd.cells at a9
 have ai:=hid (fun w=>nY s w hs);have ae:=hid (fun w=>rJ s w (by omega));have aa:=hid (fun w=>nZ (bN s) w (by omega));rw[hk]at aa;have ad:=hid a4;clear a4 hk hd l0 l1 l2;unfold maxLen at hs;go_enter Tryz.func190,Tryz.ntmps190;go_wp2_with fail;refine(ai.out _).mono ?_;rintro e w' ⟨rfl,q1,rfl⟩;go_wp2_with fail;refine(ae.out _).mono ?_;rintro e w' ⟨rfl,q2,rfl⟩;go_wp2_with fail;refine(aa.out _).mono ?_;rintro e w' ⟨rfl,rfl⟩;go_wp2_with fail;refine(ao.out _).mono ?_;rintro e w' ⟨rfl,r0,rfl⟩;go_wp2_with fail;refine(a3.out _).mono ?_;rintro e w' ⟨rfl,r1,rfl⟩;go_wp2_with fail;refine oI (fun W'=>Below w.heap.size w W'∧pI ⟨2,fn0 s,kN s,⟨#[]⟩,(dZ (bN s) (bM (bN s)) 0).1,cellOf (dZ (bN s) (bM (bN s)) 0).2⟩ (w.heap.size+1) W'∧pI fU w.heap.size W'∧uE w.heap.size W'∧w.heap.size+1<W'.heap.size) ⟨?_,?_,?_,?_,?_⟩ ?_
 ·repeat (first | (with_reducible exact Below.refl _ _) | (with_reducible refine dt.below_drewN ?_ _) | (with_reducible refine Below.setCell ?_ (by simp) _) | (with_reducible refine Below.alloc ?_ (by simp) _))
 ·unfold pI;refine⟨?_,?_,?_,?_,?_,?_⟩ <;> go_simp
 ·unfold pI fU;refine⟨?_,?_,?_,?_,?_,?_⟩ <;> go_simp
 ·unfold uE;refine⟨?_,?_,?_,?_,?_,?_⟩ <;> go_simp
 ·simp
 rintro W4 ⟨a8,aj,ag,af,ap⟩;refine(a9.out W4 (bR ad.out a8)).mono ?_;rintro e w5 ⟨rfl,b5⟩;have am:=hid (aj.on b5);have ah:=hid (ag.on b5);have ak:=hid (af.on (by omega) b5);have a6:=bT a8 b5;have ar:w.heap.size+1<w5.heap.size:=by have:=b5.size;omega
 clear b5 a8 aj ag af ap;obtain⟨k0,k1,k2,k3,k4,k5⟩:=am.out;unfold fU at ah;obtain⟨z0,z1,z2,z3,z4,z5⟩:=ah.out;obtain⟨f0,f1,f2,f3,f4,f5⟩:=ak.out;have H3:=a2.out;have Y:=hid (fun w'=>iP (w:=w) (w':=w') Hc.out);have J:=hid (fun w'=>iB (w:=w) (w':=w') Hc.out);unfold fU at Y;unfold Nd.val Nd.cells at Y J;generalize dY ⟨2,fn0 s,kN s,⟨#[]⟩,(dZ (bN s) (bM (bN s)) 0).1,cellOf (dZ (bN s) (bM (bN s)) 0).2⟩=mb at *;generalize lN ⟨2,fn0 s,kN s,⟨#[]⟩,(dZ (bN s) (bM (bN s)) 0).1,cellOf (dZ (bN s) (bM (bN s)) 0).2⟩=te at *;generalize txt ⟨2,fn0 s,kN s,⟨#[]⟩,(dZ (bN s) (bM (bN s)) 0).1,cellOf (dZ (bN s) (bM (bN s)) 0).2⟩=tt at *;clear Hc a3 ai ae aa a9 a2;rcases H3 with⟨a0,rfl⟩ | ⟨a0,rfl,a7⟩ | ⟨a0,rfl,a7⟩
 ·have a1:=hid (fun w'=>Y.out w' (Or.inl a0))
  clear Y J a0;go_wp2_with fail;refine bodyPost_ret (v:=.tuple #[.agg #[.int .i64 0,.string ⟨#[]⟩,.int .i64 0,.string ⟨#[]⟩,.int .i64 0,.int .i64 0],.int .i64 11]) ?_ rfl (a1.out _ ?_)
  ·simp only[results,Tryz.results190]
   clear a1;go_simp
  ·repeat (first | (with_reducible exact a6) | (with_reducible refine Below.setCell ?_ (by simp) _))
 ·have a1:=hid (fun w'=>Y.out w' (Or.inr a7))
  clear Y J a0;go_wp2_with fail;refine bodyPost_ret (v:=.tuple #[.agg #[.int .i64 0,.string ⟨#[]⟩,.int .i64 0,.string ⟨#[]⟩,.int .i64 0,.int .i64 0],.int .i64 11]) ?_ rfl (a1.out _ ?_)
  ·simp only[results,Tryz.results190]
   clear a1;go_simp
  ·repeat (first | (with_reducible exact a6) | (with_reducible refine Below.setCell ?_ (by simp) _))
 ·have a5:=hid (fun w'=>J.out w' a0 a7)
  clear Y J a0;go_wp2_with fail;refine bodyPost_ret ?_ rfl (a5.out _ ?_)
  ·simp only[results,Tryz.results190]
   clear a5;go_simp
  ·repeat (first | (with_reducible exact a6) | (with_reducible refine Below.setCell ?_ (by simp) _))
theorem aLv(hd:gK)(s:ByteArray)(w:World)(hs:s.size≤maxLen)(a4:jI w)(hk:fF (bN s)=3):Calls Tryz.prog 190 #[.string s] w (gL s w):=by
 have l1:=dR s;have l2:=oN s;have l0:=gJ s;have hz:=tJ hk (by decide);have ao:=hid (fun w=>aAH (bN s) hz w (by omega));obtain⟨r4,a3⟩:=oG (dZ (bN s) (bM (bN s)) 0).2 (by have:=aCb (bN s) (bM (bN s)) 0;omega);have a3:=hid a3;have Hc:Hid (dV s=⟨3,fn0 s,kN s,⟨#[]⟩,(dZ (bN s) (bM (bN s)) 0).1,cellOf (dZ (bN s) (bM (bN s)) 0).2⟩):=hid (by unfold dV;rw[hk];first | rfl | simp);have a9:=hid (fun w h=>fT hd ⟨3,fn0 s,kN s,⟨#[]⟩,(dZ (bN s) (bM (bN s)) 0).1,cellOf (dZ (bN s) (bM (bN s)) 0).2⟩ w (by show(⟨#[]⟩:ByteArray).size≤maxLen;first | omega | exact bA _) (by show(fn0 s:ByteArray).size≤maxLen;first | omega | exact bA _) h);have a2:=hid (iT ⟨3,fn0 s,kN s,⟨#[]⟩,(dZ (bN s) (bM (bN s)) 0).1,cellOf (dZ (bN s) (bM (bN s)) 0).2⟩ s);unfold dD Nd.val Nd.cells at a9
 have ai:=hid (fun w=>nY s w hs);have ae:=hid (fun w=>rJ s w (by omega));have aa:=hid (fun w=>nZ (bN s) w (by omega));rw[hk]at aa;have ad:=hid a4;clear a4 hk hd l0 l1 l2;unfold maxLen at hs;go_enter Tryz.func190,Tryz.ntmps190;go_wp2_with fail;refine(ai.out _).mono ?_;rintro e w' ⟨rfl,q1,rfl⟩;go_wp2_with fail;refine(ae.out _).mono ?_;rintro e w' ⟨rfl,q2,rfl⟩;go_wp2_with fail;refine(aa.out _).mono ?_;rintro e w' ⟨rfl,rfl⟩;go_wp2_with fail;refine(ao.out _).mono ?_;rintro e w' ⟨rfl,r0,rfl⟩;go_wp2_with fail;refine(a3.out _).mono ?_;rintro e w' ⟨rfl,r1,rfl⟩;go_wp2_with fail;refine oI (fun W'=>Below w.heap.size w W'∧pI ⟨3,fn0 s,kN s,⟨#[]⟩,(dZ (bN s) (bM (bN s)) 0).1,cellOf (dZ (bN s) (bM (bN s)) 0).2⟩ (w.heap.size+1) W'∧pI fU w.heap.size W'∧uE w.heap.size W'∧w.heap.size+1<W'.heap.size) ⟨?_,?_,?_,?_,?_⟩ ?_
 ·repeat (first | (with_reducible exact Below.refl _ _) | (with_reducible refine dt.below_drewN ?_ _) | (with_reducible refine Below.setCell ?_ (by simp) _) | (with_reducible refine Below.alloc ?_ (by simp) _))
 ·unfold pI;refine⟨?_,?_,?_,?_,?_,?_⟩ <;> go_simp
 ·unfold pI fU;refine⟨?_,?_,?_,?_,?_,?_⟩ <;> go_simp
 ·unfold uE;refine⟨?_,?_,?_,?_,?_,?_⟩ <;> go_simp
 ·simp
 rintro W4 ⟨a8,aj,ag,af,ap⟩;refine(a9.out W4 (bR ad.out a8)).mono ?_;rintro e w5 ⟨rfl,b5⟩;have am:=hid (aj.on b5);have ah:=hid (ag.on b5);have ak:=hid (af.on (by omega) b5);have a6:=bT a8 b5;have ar:w.heap.size+1<w5.heap.size:=by have:=b5.size;omega
 clear b5 a8 aj ag af ap;obtain⟨k0,k1,k2,k3,k4,k5⟩:=am.out;unfold fU at ah;obtain⟨z0,z1,z2,z3,z4,z5⟩:=ah.out;obtain⟨f0,f1,f2,f3,f4,f5⟩:=ak.out;have H3:=a2.out;have Y:=hid (fun w'=>iP (w:=w) (w':=w') Hc.out);have J:=hid (fun w'=>iB (w:=w) (w':=w') Hc.out);unfold fU at Y;unfold Nd.val Nd.cells at Y J;generalize dY ⟨3,fn0 s,kN s,⟨#[]⟩,(dZ (bN s) (bM (bN s)) 0).1,cellOf (dZ (bN s) (bM (bN s)) 0).2⟩=mb at *;generalize lN ⟨3,fn0 s,kN s,⟨#[]⟩,(dZ (bN s) (bM (bN s)) 0).1,cellOf (dZ (bN s) (bM (bN s)) 0).2⟩=te at *;generalize txt ⟨3,fn0 s,kN s,⟨#[]⟩,(dZ (bN s) (bM (bN s)) 0).1,cellOf (dZ (bN s) (bM (bN s)) 0).2⟩=tt at *;clear Hc a3 ai ae aa a9 a2;rcases H3 with⟨a0,rfl⟩ | ⟨a0,rfl,a7⟩ | ⟨a0,rfl,a7⟩
 ·have a1:=hid (fun w'=>Y.out w' (Or.inl a0))
  clear Y J a0;go_wp2_with fail;refine bodyPost_ret (v:=.tuple #[.agg #[.int .i64 0,.string ⟨#[]⟩,.int .i64 0,.string ⟨#[]⟩,.int .i64 0,.int .i64 0],.int .i64 11]) ?_ rfl (a1.out _ ?_)
  ·simp only[results,Tryz.results190]
   clear a1;go_simp
  ·repeat (first | (with_reducible exact a6) | (with_reducible refine Below.setCell ?_ (by simp) _))
 ·have a1:=hid (fun w'=>Y.out w' (Or.inr a7))
  clear Y J a0;go_wp2_with fail;refine bodyPost_ret (v:=.tuple #[.agg #[.int .i64 0,.string ⟨#[]⟩,.int .i64 0,.string ⟨#[]⟩,.int .i64 0,.int .i64 0],.int .i64 11]) ?_ rfl (a1.out _ ?_)
  ·simp only[results,Tryz.results190]
   clear a1;go_simp
  ·repeat (first | (with_reducible exact a6) | (with_reducible refine Below.setCell ?_ (by simp) _))
 ·have a5:=hid (fun w'=>J.out w' a0 a7)
  clear Y J a0;go_wp2_with fail;refine bodyPost_ret ?_ rfl (a5.out _ ?_)
  ·simp only[results,Tryz.results190]
   clear a5;go_simp
  ·repeat (first | (with_reducible exact a6) | (with_reducible refine Below.setCell ?_ (by simp) _))
theorem aLw(hd:gK)(s:ByteArray)(w:World)(hs:s.size≤maxLen)(a4:jI w)(hk:fF (bN s)=7):Calls Tryz.prog 190 #[.string s] w (gL s w):=by
 have l1:=dR s;have l2:=oN s;have l0:=gJ s;have hz:=tJ hk (by decide);have ao:=hid (fun w=>aAH (bN s) hz w (by omega));obtain⟨r4,a3⟩:=oG (dZ (bN s) (bM (bN s)) 0).2 (by have:=aCb (bN s) (bM (bN s)) 0;omega);have a3:=hid a3;have Hc:Hid (dV s=⟨7,fn0 s,kN s,⟨#[]⟩,(dZ (bN s) (bM (bN s)) 0).1,cellOf (dZ (bN s) (bM (bN s)) 0).2⟩):=hid (by unfold dV;rw[hk];first | rfl | simp);have a9:=hid (fun w h=>fT hd ⟨7,fn0 s,kN s,⟨#[]⟩,(dZ (bN s) (bM (bN s)) 0).1,cellOf (dZ (bN s) (bM (bN s)) 0).2⟩ w (by show(⟨#[]⟩:ByteArray).size≤maxLen;first | omega | exact bA _) (by show(fn0 s:ByteArray).size≤maxLen;first | omega | exact bA _) h);have a2:=hid (iT ⟨7,fn0 s,kN s,⟨#[]⟩,(dZ (bN s) (bM (bN s)) 0).1,cellOf (dZ (bN s) (bM (bN s)) 0).2⟩ s);unfold dD Nd.val Nd.cells at a9
 have ai:=hid (fun w=>nY s w hs);have ae:=hid (fun w=>rJ s w (by omega));have aa:=hid (fun w=>nZ (bN s) w (by omega));rw[hk]at aa;have ad:=hid a4;clear a4 hk hd l0 l1 l2;unfold maxLen at hs;go_enter Tryz.func190,Tryz.ntmps190;go_wp2_with fail;refine(ai.out _).mono ?_;rintro e w' ⟨rfl,q1,rfl⟩;go_wp2_with fail;refine(ae.out _).mono ?_;rintro e w' ⟨rfl,q2,rfl⟩;go_wp2_with fail;refine(aa.out _).mono ?_;rintro e w' ⟨rfl,rfl⟩;go_wp2_with fail;refine(ao.out _).mono ?_;rintro e w' ⟨rfl,r0,rfl⟩;go_wp2_with fail;refine(a3.out _).mono ?_;rintro e w' ⟨rfl,r1,rfl⟩;go_wp2_with fail;refine oI (fun W'=>Below w.heap.size w W'∧pI ⟨7,fn0 s,kN s,⟨#[]⟩,(dZ (bN s) (bM (bN s)) 0).1,cellOf (dZ (bN s) (bM (bN s)) 0).2⟩ (w.heap.size+1) W'∧pI fU w.heap.size W'∧uE w.heap.size W'∧w.heap.size+1<W'.heap.size) ⟨?_,?_,?_,?_,?_⟩ ?_
 ·repeat (first | (with_reducible exact Below.refl _ _) | (with_reducible refine dt.below_drewN ?_ _) | (with_reducible refine Below.setCell ?_ (by simp) _) | (with_reducible refine Below.alloc ?_ (by simp) _))
 ·unfold pI;refine⟨?_,?_,?_,?_,?_,?_⟩ <;> go_simp
 ·unfold pI fU;refine⟨?_,?_,?_,?_,?_,?_⟩ <;> go_simp
 ·unfold uE;refine⟨?_,?_,?_,?_,?_,?_⟩ <;> go_simp
 ·simp
 rintro W4 ⟨a8,aj,ag,af,ap⟩;refine(a9.out W4 (bR ad.out a8)).mono ?_;rintro e w5 ⟨rfl,b5⟩;have am:=hid (aj.on b5);have ah:=hid (ag.on b5);have ak:=hid (af.on (by omega) b5);have a6:=bT a8 b5;have ar:w.heap.size+1<w5.heap.size:=by have:=b5.size;omega
 clear b5 a8 aj ag af ap;obtain⟨k0,k1,k2,k3,k4,k5⟩:=am.out;unfold fU at ah;obtain⟨z0,z1,z2,z3,z4,z5⟩:=ah.out;obtain⟨f0,f1,f2,f3,f4,f5⟩:=ak.out;have H3:=a2.out;have Y:=hid (fun w'=>iP (w:=w) (w':=w') Hc.out);have J:=hid (fun w'=>iB (w:=w) (w':=w') Hc.out);unfold fU at Y;unfold Nd.val Nd.cells at Y J;generalize dY ⟨7,fn0 s,kN s,⟨#[]⟩,(dZ (bN s) (bM (bN s)) 0).1,cellOf (dZ (bN s) (bM (bN s)) 0).2⟩=mb at *;generalize lN ⟨7,fn0 s,kN s,⟨#[]⟩,(dZ (bN s) (bM (bN s)) 0).1,cellOf (dZ (bN s) (bM (bN s)) 0).2⟩=te at *;generalize txt ⟨7,fn0 s,kN s,⟨#[]⟩,(dZ (bN s) (bM (bN s)) 0).1,cellOf (dZ (bN s) (bM (bN s)) 0).2⟩=tt at *;clear Hc a3 ai ae aa a9 a2;rcases H3 with⟨a0,rfl⟩ | ⟨a0,rfl,a7⟩ | ⟨a0,rfl,a7⟩
 ·have a1:=hid (fun w'=>Y.out w' (Or.inl a0))
  clear Y J a0;go_wp2_with fail;refine bodyPost_ret (v:=.tuple #[.agg #[.int .i64 0,.string ⟨#[]⟩,.int .i64 0,.string ⟨#[]⟩,.int .i64 0,.int .i64 0],.int .i64 11]) ?_ rfl (a1.out _ ?_)
  ·simp only[results,Tryz.results190]
   clear a1;go_simp
  ·repeat (first | (with_reducible exact a6) | (with_reducible refine Below.setCell ?_ (by simp) _))
 ·have a1:=hid (fun w'=>Y.out w' (Or.inr a7))
  clear Y J a0;go_wp2_with fail;refine bodyPost_ret (v:=.tuple #[.agg #[.int .i64 0,.string ⟨#[]⟩,.int .i64 0,.string ⟨#[]⟩,.int .i64 0,.int .i64 0],.int .i64 11]) ?_ rfl (a1.out _ ?_)
  ·simp only[results,Tryz.results190]
   clear a1;go_simp
  ·repeat (first | (with_reducible exact a6) | (with_reducible refine Below.setCell ?_ (by simp) _))
 ·have a5:=hid (fun w'=>J.out w' a0 a7)
  clear Y J a0;go_wp2_with fail;refine bodyPost_ret ?_ rfl (a5.out _ ?_)
  ·simp only[results,Tryz.results190]
   clear a5;go_simp
  ·repeat (first | (with_reducible exact a6) | (with_reducible refine Below.setCell ?_ (by simp) _))
theorem aIu(s:ByteArray):fF s=1∨fF s=2∨fF s=3∨fF s=4∨fF s=5∨fF s=6∨fF s=7:=by
 unfold fF
 repeat' split
 all_goals simp
theorem qA(hd:gK)(s:ByteArray)(w:World)(hs:s.size≤maxLen)(J:jI w):Calls Tryz.prog 190 #[.string s] w (gL s w):=by
 rcases aIu (bN s)with h | h | h | h | h | h | h
 ·exact aLN hd s w hs J h
 ·exact aL9 hd s w hs J h
 ·exact aLv hd s w hs J h
 ·exact aLf hd s w hs J h
 ·exact aLd hd s w hs J h
 ·exact aLV hd s w hs J h
 ·exact aLw hd s w hs J h
end nm
end Go.Proofs.YtdmmkjijgoiecaaGreatDoor
