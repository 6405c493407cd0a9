import Derived.Test.YtdmmkjijgoiecaaGreatDoorB16
set_option linter.all false
set_option maxHeartbeats 4000000
namespace Go.Proofs.YtdmmkjijgoiecaaGreatDoor
open Lib(hid)
set_option maxRecDepth 100000
set_option maxHeartbeats 1000000
namespace nm
open RowKit Go.Sort
abbrev bO(c:Int)(b:Bool):Prop:=Hid (∀w,Calls Tryz.prog 214 #[.int .i64 c] w fun e w'=>e=.returned (.bool b)∧w=w')
abbrev dM(c:ByteArray)(b:Bool):Prop:=Hid (∀w,Calls Tryz.prog 56 #[.string c] w fun e w'=>e=.returned (.bool b)∧w=w')
def lY(s:ByteArray)(w:World)(e:Ending)(w':World):Prop:=e=.returned (.tuple #[(dW s).val,.int .i64 0])∧Below w.heap.size w w'
def kJ(w:World)(e:Ending)(w':World):Prop:=e=.returned (.tuple #[.agg #[.int .i64 0,.string ⟨#[]⟩,.int .i64 0,.string ⟨#[]⟩,.int .i64 0,.int .i64 0],.int .i64 11])∧Below w.heap.size w w'
theorem aJj(hd:fP)(s:ByteArray)(w:World)(hs:s.size≤maxLen)(J:iE w)(h:eZ s=true):Calls Tryz.prog 190 #[.string s] w (lY s w):=by
 refine(qI hd s w hs J).mono ?_;rintro e w' ⟨rfl,hb⟩;refine⟨?_,hb⟩;unfold yS zN;rw[if_pos h,if_pos h]
theorem aMp(hd:fP)(s:ByteArray)(w:World)(hs:s.size≤maxLen)(J:iE w)(h:eZ s=false):Calls Tryz.prog 190 #[.string s] w (kJ w):=by
 refine(qI hd s w hs J).mono ?_;rintro e w' ⟨rfl,hb⟩;refine⟨?_,hb⟩;unfold yS zN;rw[if_neg (by rw[h];decide),if_neg (by rw[h];decide)]
 rfl
open RowKit Go.Sort
def eD(n:Int):Bool:=decide (0≤n∧n≤268435456)
theorem yF(n:Int)(w:World):Calls Tryz.prog 214 #[.int .i64 n] w fun e w'=>e=.returned (.bool (eD n))∧w=w':=by
 by_cases h0:0≤n
 ·have J:decide (n<0)=false:=by simp;omega
  have Y:Hid (eD n=decide (n≤268435456)):=hid (by unfold eD;simp[h0])
  go_enter Tryz.func214,Tryz.ntmps214;go_wp2_with fail;go_ret;exact⟨by rw[Y.out];rfl,rfl⟩
 ·have Y:Hid (eD n=false):=hid (by unfold eD;simp[h0])
  have J:decide (n<0)=true:=by simp;omega
  go_enter Tryz.func214,Tryz.ntmps214;go_wp2_with fail;go_ret;exact⟨by rw[Y.out];rfl,rfl⟩
def dQ(b:Bool)(w:World)(e:Ending)(w':World):Prop:=e=.returned (.bool b)∧Below w.heap.size w w'
theorem aFo(kind:Int)(fn:ByteArray)(copy:Int)(name:ByteArray)(n cell:Int)(w:World)(h:¬(1≤kind∧kind≤7)) :
 Calls Tryz.prog 196 #[Nd.val ⟨kind,fn,copy,name,n,cell⟩] w (dQ false w):=by
 unfold Nd.val Nd.cells
 by_cases Y:kind<1
 ·clear h
  go_enter Tryz.func196,Tryz.ntmps196;go_wp2_with fail;go_ret;exact⟨rfl,(Below.refl _ _).alloc (aY _) _⟩
 ·have J:7<kind:=by omega
  clear h;go_enter Tryz.func196,Tryz.ntmps196;go_wp2_with fail;go_ret;exact⟨rfl,(Below.refl _ _).alloc (aY _) _⟩
def dN(k copy n cell:Int)(c1 c2 c3 fE Y nE J:Bool):Bool:=
 (decide (1≤k∧k≤7)&&(c1&&(c2&&((cell==-1)||c3)))) &&
 ((!(((k==5) != fE)||((!fE&&!Y)||((k==5)&&(copy != 0))))) &&
 ((!(((k==1||(k==5||k==6)) != !nE)||((k==1||(k==5||k==6))&&!J))) &&
 ((!((!(k==2||(k==3||k==7))&&(n != 0))||((n==0)&&(k==3||k==7)))) &&
 (decide (5≤k)||(cell==-1)))))
def bP(d:Nd):Bool:=dN d.kind d.copy d.n d.cell (eD d.copy) (eD d.n) (eD d.cell) d.fn.toList.isEmpty (dg.bZ d.fn) d.name.toList.isEmpty (dg.bZ d.name)
theorem aFv(kind:Int)(fn:ByteArray)(copy:Int)(name:ByteArray)(n cell:Int)(w:World)(h1:1≤kind)(h7:kind≤7)(J:bO (copy) false)(Y:eD copy=false) :
 Calls Tryz.prog 196 #[Nd.val ⟨kind,fn,copy,name,n,cell⟩] w (dQ (bP ⟨kind,fn,copy,name,n,cell⟩) w):=by
 have a0:decide (kind<1)=false:=aB (by omega)
 have a1:decide (7<kind)=false:=aB (by omega)
 have Hv:Hid (bP ⟨kind,fn,copy,name,n,cell⟩=false):=hid (by unfold bP;simp only[Y];unfold dN;simp)
 unfold Nd.val Nd.cells;clear h1 h7;go_enter Tryz.func196,Tryz.ntmps196;go_wp2_with fail
 repeat (first | (with_reducible refine(J.out _).mono ?_;rintro e w' ⟨rfl,rfl⟩;go_wp2_with fail))
 go_ret;exact⟨by rw[Hv.out];try rfl,(Below.refl _ _).alloc (aY _) _⟩
theorem aLH(kind:Int)(fn:ByteArray)(copy:Int)(name:ByteArray)(n cell:Int)(w:World)(h1:1≤kind)(h7:kind≤7)(a0:bO (copy) true)(J:bO (n) false)(Y:eD n=false) :
 Calls Tryz.prog 196 #[Nd.val ⟨kind,fn,copy,name,n,cell⟩] w (dQ (bP ⟨kind,fn,copy,name,n,cell⟩) w):=by
 have a1:decide (kind<1)=false:=aB (by omega)
 have a2:decide (7<kind)=false:=aB (by omega)
 have Hv:Hid (bP ⟨kind,fn,copy,name,n,cell⟩=false):=hid (by unfold bP;simp only[Y];unfold dN;simp)
 unfold Nd.val Nd.cells;clear h1 h7;go_enter Tryz.func196,Tryz.ntmps196;go_wp2_with fail
 repeat ((first | with_reducible refine(a0.out _).mono ?_ | with_reducible refine(J.out _).mono ?_);rintro e w' ⟨rfl,rfl⟩;go_wp2_with fail)
 go_ret;exact⟨by rw[Hv.out];try rfl,(Below.refl _ _).alloc (aY _) _⟩
theorem aFF(kind:Int)(fn:ByteArray)(copy:Int)(name:ByteArray)(n cell:Int)(w:World)(h1:1≤kind)(h7:kind≤7)(a1:bO (copy) true)(Y:bO (n) true)(J:bO (cell) false)(a2:eD cell=false)(a0:(cell==-1)=false)(a3:(cell != -1)=true) :
 Calls Tryz.prog 196 #[Nd.val ⟨kind,fn,copy,name,n,cell⟩] w (dQ (bP ⟨kind,fn,copy,name,n,cell⟩) w):=by
 have a4:decide (kind<1)=false:=aB (by omega)
 have a5:decide (7<kind)=false:=aB (by omega)
 have Hv:Hid (bP ⟨kind,fn,copy,name,n,cell⟩=false):=hid (by unfold bP;simp only[a2];unfold dN;simp only[a0];simp)
 unfold Nd.val Nd.cells;clear h1 h7;go_enter Tryz.func196,Tryz.ntmps196;go_wp2_with fail
 repeat ((first | with_reducible refine(a1.out _).mono ?_ | with_reducible refine(Y.out _).mono ?_ | with_reducible refine(J.out _).mono ?_);rintro e w' ⟨rfl,rfl⟩;go_wp2_with fail)
 go_ret;exact⟨by rw[Hv.out];try rfl,(Below.refl _ _).alloc (aY _) _⟩
theorem dF{x:Int}{b:Bool}(h:eD x=b):bO x b:=hid fun w=>by rw[←h];exact yF x w
theorem dJ{x:ByteArray}{b:Bool}(hs:x.size≤maxLen)(h:dg.bZ x=b):dM x b:=hid fun w=>by rw[←h];exact dg.aCP x w hs
open RowKit Go.Sort
theorem aAs(kind:Int)(hk:kind=1∨kind=6)(fn name:ByteArray)(copy:Int)(n:Int)(cell:Int)(w:World)(a2:bO (copy) true)(aa:eD (copy)=true)(Y:bO (n) true)(a3:eD (n)=true)(a4:(cell==-1)=false)(a5:(cell != -1)=true)(J:bO (cell) true)(a9:eD cell=true)(hf:fn.toList.isEmpty=false)(a1:dM fn true)(a6:dg.bZ fn=true)(hn:name.toList.isEmpty=false)(a0:dM name true)(a8:dg.bZ name=true)(ae:(n==0)=false)(a7:(n != 0)=true) :
 Calls Tryz.prog 196 #[Nd.val ⟨kind,fn,copy,name,n,cell⟩] w (dQ (bP ⟨kind,fn,copy,name,n,cell⟩) w):=by
 have Hv:Hid (bP ⟨kind,fn,copy,name,n,cell⟩=false):=hid (by rcases hk with rfl | rfl <;> (unfold bP;simp only[*];unfold dN;simp only[*];simp))
 rcases hk with rfl | rfl
 all_goals
  unfold Nd.val Nd.cells;go_enter Tryz.func196,Tryz.ntmps196;go_wp2_with fail
  repeat ((first | with_reducible refine(a2.out _).mono ?_ | with_reducible refine(Y.out _).mono ?_ | with_reducible refine(J.out _).mono ?_ | with_reducible refine(a1.out _).mono ?_ | with_reducible refine(a0.out _).mono ?_);rintro e w' ⟨rfl,rfl⟩;go_wp2_with fail)
  go_ret;exact⟨by rw[Hv.out];try rfl,(Below.refl _ _).alloc (aY _) _⟩
theorem vV(kind:Int)(hk:kind=2∨kind=3∨kind=4)(fn name:ByteArray)(copy:Int)(n:Int)(cell:Int)(w:World)(a1:bO (copy) true)(a8:eD (copy)=true)(Y:bO (n) true)(a2:eD (n)=true)(a3:(cell==-1)=false)(a4:(cell != -1)=true)(J:bO (cell) true)(a7:eD cell=true)(hf:fn.toList.isEmpty=false)(a0:dM fn true)(a5:dg.bZ fn=true)(hn:name.toList.isEmpty=true)(a9:(n==0)=false)(a6:(n != 0)=true) :
 Calls Tryz.prog 196 #[Nd.val ⟨kind,fn,copy,name,n,cell⟩] w (dQ (bP ⟨kind,fn,copy,name,n,cell⟩) w):=by
 have Hv:Hid (bP ⟨kind,fn,copy,name,n,cell⟩=false):=hid (by rcases hk with rfl | rfl | rfl <;> (unfold bP;simp only[*];unfold dN;simp only[*];simp))
 rcases hk with rfl | rfl | rfl
 all_goals
  unfold Nd.val Nd.cells;go_enter Tryz.func196,Tryz.ntmps196;go_wp2_with fail
  repeat ((first | with_reducible refine(a1.out _).mono ?_ | with_reducible refine(Y.out _).mono ?_ | with_reducible refine(J.out _).mono ?_ | with_reducible refine(a0.out _).mono ?_);rintro e w' ⟨rfl,rfl⟩;go_wp2_with fail)
  go_ret;exact⟨by rw[Hv.out];try rfl,(Below.refl _ _).alloc (aY _) _⟩
theorem aBg(kind:Int)(hk:kind=1∨kind=6)(fn name:ByteArray)(copy:Int)(n:Int)(cell:Int)(w:World)(a1:bO (copy) true)(a7:eD (copy)=true)(Y:bO (n) true)(a2:eD (n)=true)(a3:(cell==-1)=false)(a4:(cell != -1)=true)(J:bO (cell) true)(a6:eD cell=true)(hf:fn.toList.isEmpty=false)(a0:dM fn true)(a5:dg.bZ fn=true)(hn:name.toList.isEmpty=true) :
 Calls Tryz.prog 196 #[Nd.val ⟨kind,fn,copy,name,n,cell⟩] w (dQ (bP ⟨kind,fn,copy,name,n,cell⟩) w):=by
 have Hv:Hid (bP ⟨kind,fn,copy,name,n,cell⟩=false):=hid (by rcases hk with rfl | rfl <;> (unfold bP;simp only[*];unfold dN;simp only[*];simp))
 rcases hk with rfl | rfl
 all_goals
  unfold Nd.val Nd.cells;go_enter Tryz.func196,Tryz.ntmps196;go_wp2_with fail
  repeat ((first | with_reducible refine(a1.out _).mono ?_ | with_reducible refine(Y.out _).mono ?_ | with_reducible refine(J.out _).mono ?_ | with_reducible refine(a0.out _).mono ?_);rintro e w' ⟨rfl,rfl⟩;go_wp2_with fail)
  go_ret;exact⟨by rw[Hv.out];try rfl,(Below.refl _ _).alloc (aY _) _⟩
theorem kV(kind:Int)(hk:kind=1∨kind=2∨kind=3∨kind=4∨kind=6∨kind=7)(fn name:ByteArray)(copy:Int)(n:Int)(cell:Int)(w:World)(a1:bO (copy) true)(a7:eD (copy)=true)(Y:bO (n) true)(a2:eD (n)=true)(a3:(cell==-1)=false)(a4:(cell != -1)=true)(J:bO (cell) true)(a6:eD cell=true)(hf:fn.toList.isEmpty=false)(a0:dM fn false)(a5:dg.bZ fn=false) :
 Calls Tryz.prog 196 #[Nd.val ⟨kind,fn,copy,name,n,cell⟩] w (dQ (bP ⟨kind,fn,copy,name,n,cell⟩) w):=by
 have Hv:Hid (bP ⟨kind,fn,copy,name,n,cell⟩=false):=hid (by rcases hk with rfl | rfl | rfl | rfl | rfl | rfl <;> (unfold bP;simp only[*];unfold dN;simp only[*];simp))
 rcases hk with rfl | rfl | rfl | rfl | rfl | rfl
 all_goals
  unfold Nd.val Nd.cells;go_enter Tryz.func196,Tryz.ntmps196;go_wp2_with fail
  repeat ((first | with_reducible refine(a1.out _).mono ?_ | with_reducible refine(Y.out _).mono ?_ | with_reducible refine(J.out _).mono ?_ | with_reducible refine(a0.out _).mono ?_);rintro e w' ⟨rfl,rfl⟩;go_wp2_with fail)
  go_ret;exact⟨by rw[Hv.out];try rfl,(Below.refl _ _).alloc (aY _) _⟩
theorem aEC(fn name:ByteArray)(copy:Int)(n:Int)(cell:Int)(w:World)(a0:bO (copy) true)(a5:eD (copy)=true)(J:bO (n) true)(a1:eD (n)=true)(a2:(cell==-1)=false)(a3:(cell != -1)=true)(Y:bO (cell) true)(a4:eD cell=true)(hf:fn.toList.isEmpty=true)(a6:(copy != 0)=true) :
 Calls Tryz.prog 196 #[Nd.val ⟨5,fn,copy,name,n,cell⟩] w (dQ (bP ⟨5,fn,copy,name,n,cell⟩) w):=by
 have Hv:Hid (bP ⟨5,fn,copy,name,n,cell⟩=false):=hid (by unfold bP;simp only[*];unfold dN;simp only[*];simp)
 unfold Nd.val Nd.cells;go_enter Tryz.func196,Tryz.ntmps196;go_wp2_with fail
 repeat ((first | with_reducible refine(a0.out _).mono ?_ | with_reducible refine(J.out _).mono ?_ | with_reducible refine(Y.out _).mono ?_);rintro e w' ⟨rfl,rfl⟩;go_wp2_with fail)
 go_ret;exact⟨by rw[Hv.out];try rfl,(Below.refl _ _).alloc (aY _) _⟩
theorem aFb(fn name:ByteArray)(copy:Int)(n:Int)(cell:Int)(w:World)(a0:bO (copy) true)(a5:eD (copy)=true)(J:bO (n) true)(a1:eD (n)=true)(a2:(cell==-1)=false)(a3:(cell != -1)=true)(Y:bO (cell) true)(a4:eD cell=true)(hf:fn.toList.isEmpty=false) :
 Calls Tryz.prog 196 #[Nd.val ⟨5,fn,copy,name,n,cell⟩] w (dQ (bP ⟨5,fn,copy,name,n,cell⟩) w):=by
 have Hv:Hid (bP ⟨5,fn,copy,name,n,cell⟩=false):=hid (by unfold bP;simp only[*];unfold dN;simp only[*];simp)
 unfold Nd.val Nd.cells;go_enter Tryz.func196,Tryz.ntmps196;go_wp2_with fail
 repeat ((first | with_reducible refine(a0.out _).mono ?_ | with_reducible refine(J.out _).mono ?_ | with_reducible refine(Y.out _).mono ?_);rintro e w' ⟨rfl,rfl⟩;go_wp2_with fail)
 go_ret;exact⟨by rw[Hv.out];try rfl,(Below.refl _ _).alloc (aY _) _⟩
theorem aBT(kind:Int)(hk:kind=1∨kind=6)(fn name:ByteArray)(copy:Int)(n:Int)(w:World)(a0:bO (copy) true)(a3:eD (copy)=true)(J:bO (n) true)(a1:eD (n)=true)(hf:fn.toList.isEmpty=false)(Y:dM fn true)(a2:dg.bZ fn=true)(hn:name.toList.isEmpty=true) :
 Calls Tryz.prog 196 #[Nd.val ⟨kind,fn,copy,name,n,-1⟩] w (dQ (bP ⟨kind,fn,copy,name,n,-1⟩) w):=by
 have Hv:Hid (bP ⟨kind,fn,copy,name,n,-1⟩=false):=hid (by rcases hk with rfl | rfl <;> (unfold bP;simp only[*];unfold dN;simp))
 rcases hk with rfl | rfl
 all_goals
  unfold Nd.val Nd.cells;go_enter Tryz.func196,Tryz.ntmps196;go_wp2_with fail
  repeat ((first | with_reducible refine(a0.out _).mono ?_ | with_reducible refine(J.out _).mono ?_ | with_reducible refine(Y.out _).mono ?_);rintro e w' ⟨rfl,rfl⟩;go_wp2_with fail)
  go_ret;exact⟨by rw[Hv.out];try rfl,(Below.refl _ _).alloc (aY _) _⟩
theorem kP(kind:Int)(hk:kind=1∨kind=2∨kind=3∨kind=4∨kind=6∨kind=7)(fn name:ByteArray)(copy:Int)(n:Int)(w:World)(a0:bO (copy) true)(a3:eD (copy)=true)(J:bO (n) true)(a1:eD (n)=true)(hf:fn.toList.isEmpty=false)(Y:dM fn false)(a2:dg.bZ fn=false) :
 Calls Tryz.prog 196 #[Nd.val ⟨kind,fn,copy,name,n,-1⟩] w (dQ (bP ⟨kind,fn,copy,name,n,-1⟩) w):=by
 have Hv:Hid (bP ⟨kind,fn,copy,name,n,-1⟩=false):=hid (by rcases hk with rfl | rfl | rfl | rfl | rfl | rfl <;> (unfold bP;simp only[*];unfold dN;simp))
 rcases hk with rfl | rfl | rfl | rfl | rfl | rfl
 all_goals
  unfold Nd.val Nd.cells;go_enter Tryz.func196,Tryz.ntmps196;go_wp2_with fail
  repeat ((first | with_reducible refine(a0.out _).mono ?_ | with_reducible refine(J.out _).mono ?_ | with_reducible refine(Y.out _).mono ?_);rintro e w' ⟨rfl,rfl⟩;go_wp2_with fail)
  go_ret;exact⟨by rw[Hv.out];try rfl,(Below.refl _ _).alloc (aY _) _⟩
theorem aGr(fn name:ByteArray)(copy:Int)(n:Int)(w:World)(Y:bO (copy) true)(a1:eD (copy)=true)(J:bO (n) true)(a0:eD (n)=true)(hf:fn.toList.isEmpty=false) :
 Calls Tryz.prog 196 #[Nd.val ⟨5,fn,copy,name,n,-1⟩] w (dQ (bP ⟨5,fn,copy,name,n,-1⟩) w):=by
 have Hv:Hid (bP ⟨5,fn,copy,name,n,-1⟩=false):=hid (by unfold bP;simp only[*];unfold dN;simp)
 unfold Nd.val Nd.cells;go_enter Tryz.func196,Tryz.ntmps196;go_wp2_with fail
 repeat ((first | with_reducible refine(Y.out _).mono ?_ | with_reducible refine(J.out _).mono ?_);rintro e w' ⟨rfl,rfl⟩;go_wp2_with fail)
 go_ret;exact⟨by rw[Hv.out];try rfl,(Below.refl _ _).alloc (aY _) _⟩
open RowKit Go.Sort
theorem aAD(kind:Int)(hk:kind=1∨kind=6)(fn name:ByteArray)(copy:Int)(n:Int)(cell:Int)(w:World)(a2:bO (copy) true)(a9:eD (copy)=true)(Y:bO (n) true)(a3:eD (n)=true)(a4:(cell==-1)=false)(a5:(cell != -1)=true)(J:bO (cell) true)(a8:eD cell=true)(hf:fn.toList.isEmpty=false)(a1:dM fn true)(a6:dg.bZ fn=true)(hn:name.toList.isEmpty=false)(a0:dM name false)(a7:dg.bZ name=false) :
 Calls Tryz.prog 196 #[Nd.val ⟨kind,fn,copy,name,n,cell⟩] w (dQ (bP ⟨kind,fn,copy,name,n,cell⟩) w):=by
 have Hv:Hid (bP ⟨kind,fn,copy,name,n,cell⟩=false):=hid (by rcases hk with rfl | rfl <;> (unfold bP;simp only[*];unfold dN;simp only[*];simp))
 rcases hk with rfl | rfl
 all_goals
  unfold Nd.val Nd.cells;go_enter Tryz.func196,Tryz.ntmps196;go_wp2_with fail
  repeat ((first | with_reducible refine(a2.out _).mono ?_ | with_reducible refine(Y.out _).mono ?_ | with_reducible refine(J.out _).mono ?_ | with_reducible refine(a1.out _).mono ?_ | with_reducible refine(a0.out _).mono ?_);rintro e w' ⟨rfl,rfl⟩;go_wp2_with fail)
  go_ret;exact⟨by rw[Hv.out];try rfl,(Below.refl _ _).alloc (aY _) _⟩
theorem aEE(fn name:ByteArray)(copy:Int)(n:Int)(cell:Int)(w:World)(a1:bO (copy) true)(a8:eD (copy)=true)(Y:bO (n) true)(a2:eD (n)=true)(a3:(cell==-1)=false)(a4:(cell != -1)=true)(J:bO (cell) true)(a7:eD cell=true)(hf:fn.toList.isEmpty=false)(a0:dM fn true)(a5:dg.bZ fn=true)(hn:name.toList.isEmpty=true)(a9:(n==0)=false)(a6:(n != 0)=true) :
 Calls Tryz.prog 196 #[Nd.val ⟨7,fn,copy,name,n,cell⟩] w (dQ (bP ⟨7,fn,copy,name,n,cell⟩) w):=by
 have Hv:Hid (bP ⟨7,fn,copy,name,n,cell⟩=true):=hid (by unfold bP;simp only[*];unfold dN;simp only[*];simp)
 unfold Nd.val Nd.cells;go_enter Tryz.func196,Tryz.ntmps196;go_wp2_with fail
 repeat ((first | with_reducible refine(a1.out _).mono ?_ | with_reducible refine(Y.out _).mono ?_ | with_reducible refine(J.out _).mono ?_ | with_reducible refine(a0.out _).mono ?_);rintro e w' ⟨rfl,rfl⟩;go_wp2_with fail)
 go_ret;exact⟨by rw[Hv.out];try rfl,(Below.refl _ _).alloc (aY _) _⟩
theorem rR(kind:Int)(hk:kind=2∨kind=3∨kind=4∨kind=7)(fn name:ByteArray)(copy:Int)(cell:Int)(w:World)(a1:bO (copy) true)(a7:eD (copy)=true)(Y:bO (0) true)(a2:eD (0)=true)(a3:(cell==-1)=false)(a4:(cell != -1)=true)(J:bO (cell) true)(a6:eD cell=true)(hf:fn.toList.isEmpty=false)(a0:dM fn true)(a5:dg.bZ fn=true)(hn:name.toList.isEmpty=true) :
 Calls Tryz.prog 196 #[Nd.val ⟨kind,fn,copy,name,0,cell⟩] w (dQ (bP ⟨kind,fn,copy,name,0,cell⟩) w):=by
 have Hv:Hid (bP ⟨kind,fn,copy,name,0,cell⟩=false):=hid (by rcases hk with rfl | rfl | rfl | rfl <;> (unfold bP;simp only[*];unfold dN;simp only[*];simp))
 rcases hk with rfl | rfl | rfl | rfl
 all_goals
  unfold Nd.val Nd.cells;go_enter Tryz.func196,Tryz.ntmps196;go_wp2_with fail
  repeat ((first | with_reducible refine(a1.out _).mono ?_ | with_reducible refine(Y.out _).mono ?_ | with_reducible refine(J.out _).mono ?_ | with_reducible refine(a0.out _).mono ?_);rintro e w' ⟨rfl,rfl⟩;go_wp2_with fail)
  go_ret;exact⟨by rw[Hv.out];try rfl,(Below.refl _ _).alloc (aY _) _⟩
theorem aEM(fn name:ByteArray)(cell:Int)(w:World)(a1:bO (0) true)(a7:eD (0)=true)(J:bO (0) true)(a2:eD (0)=true)(a3:(cell==-1)=false)(a4:(cell != -1)=true)(Y:bO (cell) true)(a6:eD cell=true)(hf:fn.toList.isEmpty=true)(hn:name.toList.isEmpty=false)(a0:dM name true)(a5:dg.bZ name=true) :
 Calls Tryz.prog 196 #[Nd.val ⟨5,fn,0,name,0,cell⟩] w (dQ (bP ⟨5,fn,0,name,0,cell⟩) w):=by
 have Hv:Hid (bP ⟨5,fn,0,name,0,cell⟩=true):=hid (by unfold bP;simp only[*];unfold dN;simp only[*];simp)
 unfold Nd.val Nd.cells;go_enter Tryz.func196,Tryz.ntmps196;go_wp2_with fail
 repeat ((first | with_reducible refine(a1.out _).mono ?_ | with_reducible refine(J.out _).mono ?_ | with_reducible refine(Y.out _).mono ?_ | with_reducible refine(a0.out _).mono ?_);rintro e w' ⟨rfl,rfl⟩;go_wp2_with fail)
 go_ret;exact⟨by rw[Hv.out];try rfl,(Below.refl _ _).alloc (aY _) _⟩
theorem aFi(fn name:ByteArray)(n:Int)(cell:Int)(w:World)(a0:bO (0) true)(a5:eD (0)=true)(J:bO (n) true)(a1:eD (n)=true)(a2:(cell==-1)=false)(a3:(cell != -1)=true)(Y:bO (cell) true)(a4:eD cell=true)(hf:fn.toList.isEmpty=true)(hn:name.toList.isEmpty=true) :
 Calls Tryz.prog 196 #[Nd.val ⟨5,fn,0,name,n,cell⟩] w (dQ (bP ⟨5,fn,0,name,n,cell⟩) w):=by
 have Hv:Hid (bP ⟨5,fn,0,name,n,cell⟩=false):=hid (by unfold bP;simp only[*];unfold dN;simp only[*];simp)
 unfold Nd.val Nd.cells;go_enter Tryz.func196,Tryz.ntmps196;go_wp2_with fail
 repeat ((first | with_reducible refine(a0.out _).mono ?_ | with_reducible refine(J.out _).mono ?_ | with_reducible refine(Y.out _).mono ?_);rintro e w' ⟨rfl,rfl⟩;go_wp2_with fail)
 go_ret;exact⟨by rw[Hv.out];try rfl,(Below.refl _ _).alloc (aY _) _⟩
theorem mJ(kind:Int)(hk:kind=1∨kind=2∨kind=3∨kind=4∨kind=6∨kind=7)(fn name:ByteArray)(copy:Int)(n:Int)(cell:Int)(w:World)(a0:bO (copy) true)(a5:eD (copy)=true)(J:bO (n) true)(a1:eD (n)=true)(a2:(cell==-1)=false)(a3:(cell != -1)=true)(Y:bO (cell) true)(a4:eD cell=true)(hf:fn.toList.isEmpty=true) :
 Calls Tryz.prog 196 #[Nd.val ⟨kind,fn,copy,name,n,cell⟩] w (dQ (bP ⟨kind,fn,copy,name,n,cell⟩) w):=by
 have Hv:Hid (bP ⟨kind,fn,copy,name,n,cell⟩=false):=hid (by rcases hk with rfl | rfl | rfl | rfl | rfl | rfl <;> (unfold bP;simp only[*];unfold dN;simp only[*];simp))
 rcases hk with rfl | rfl | rfl | rfl | rfl | rfl
 all_goals
  unfold Nd.val Nd.cells;go_enter Tryz.func196,Tryz.ntmps196;go_wp2_with fail
  repeat ((first | with_reducible refine(a0.out _).mono ?_ | with_reducible refine(J.out _).mono ?_ | with_reducible refine(Y.out _).mono ?_);rintro e w' ⟨rfl,rfl⟩;go_wp2_with fail)
  go_ret;exact⟨by rw[Hv.out];try rfl,(Below.refl _ _).alloc (aY _) _⟩
theorem aAC(kind:Int)(hk:kind=3∨kind=7)(fn name:ByteArray)(copy:Int)(w:World)(a0:bO (copy) true)(a3:eD (copy)=true)(J:bO (0) true)(a1:eD (0)=true)(hf:fn.toList.isEmpty=false)(Y:dM fn true)(a2:dg.bZ fn=true)(hn:name.toList.isEmpty=true) :
 Calls Tryz.prog 196 #[Nd.val ⟨kind,fn,copy,name,0,-1⟩] w (dQ (bP ⟨kind,fn,copy,name,0,-1⟩) w):=by
 have Hv:Hid (bP ⟨kind,fn,copy,name,0,-1⟩=false):=hid (by rcases hk with rfl | rfl <;> (unfold bP;simp only[*];unfold dN;simp))
 rcases hk with rfl | rfl
 all_goals
  unfold Nd.val Nd.cells;go_enter Tryz.func196,Tryz.ntmps196;go_wp2_with fail
  repeat ((first | with_reducible refine(a0.out _).mono ?_ | with_reducible refine(J.out _).mono ?_ | with_reducible refine(Y.out _).mono ?_);rintro e w' ⟨rfl,rfl⟩;go_wp2_with fail)
  go_ret;exact⟨by rw[Hv.out];try rfl,(Below.refl _ _).alloc (aY _) _⟩
theorem aDJ(fn name:ByteArray) (w:World)(a0:bO (0) true)(a3:eD (0)=true)(J:bO (0) true)(a1:eD (0)=true)(hf:fn.toList.isEmpty=true)(hn:name.toList.isEmpty=false)(Y:dM name true)(a2:dg.bZ name=true) :
 Calls Tryz.prog 196 #[Nd.val ⟨5,fn,0,name,0,-1⟩] w (dQ (bP ⟨5,fn,0,name,0,-1⟩) w):=by
 have Hv:Hid (bP ⟨5,fn,0,name,0,-1⟩=true):=hid (by unfold bP;simp only[*];unfold dN;simp)
 unfold Nd.val Nd.cells;go_enter Tryz.func196,Tryz.ntmps196;go_wp2_with fail
 repeat ((first | with_reducible refine(a0.out _).mono ?_ | with_reducible refine(J.out _).mono ?_ | with_reducible refine(Y.out _).mono ?_);rintro e w' ⟨rfl,rfl⟩;go_wp2_with fail)
 go_ret;exact⟨by rw[Hv.out];try rfl,(Below.refl _ _).alloc (aY _) _⟩
theorem mX(kind:Int)(hk:kind=1∨kind=2∨kind=3∨kind=4∨kind=6∨kind=7)(fn name:ByteArray)(copy:Int)(n:Int)(w:World)(Y:bO (copy) true)(a1:eD (copy)=true)(J:bO (n) true)(a0:eD (n)=true)(hf:fn.toList.isEmpty=true) :
 Calls Tryz.prog 196 #[Nd.val ⟨kind,fn,copy,name,n,-1⟩] w (dQ (bP ⟨kind,fn,copy,name,n,-1⟩) w):=by
 have Hv:Hid (bP ⟨kind,fn,copy,name,n,-1⟩=false):=hid (by rcases hk with rfl | rfl | rfl | rfl | rfl | rfl <;> (unfold bP;simp only[*];unfold dN;simp))
 rcases hk with rfl | rfl | rfl | rfl | rfl | rfl
 all_goals
  unfold Nd.val Nd.cells;go_enter Tryz.func196,Tryz.ntmps196;go_wp2_with fail
  repeat ((first | with_reducible refine(Y.out _).mono ?_ | with_reducible refine(J.out _).mono ?_);rintro e w' ⟨rfl,rfl⟩;go_wp2_with fail)
  go_ret;exact⟨by rw[Hv.out];try rfl,(Below.refl _ _).alloc (aY _) _⟩
open RowKit Go.Sort
theorem aDI(fn name:ByteArray)(copy:Int)(cell:Int)(w:World)(a2:bO (copy) true)(a9:eD (copy)=true)(J:bO (0) true)(a3:eD (0)=true)(a4:(cell==-1)=false)(a5:(cell != -1)=true)(Y:bO (cell) true)(a8:eD cell=true)(hf:fn.toList.isEmpty=false)(a1:dM fn true)(a6:dg.bZ fn=true)(hn:name.toList.isEmpty=false)(a0:dM name true)(a7:dg.bZ name=true) :
 Calls Tryz.prog 196 #[Nd.val ⟨1,fn,copy,name,0,cell⟩] w (dQ (bP ⟨1,fn,copy,name,0,cell⟩) w):=by
 have Hv:Hid (bP ⟨1,fn,copy,name,0,cell⟩=false):=hid (by unfold bP;simp only[*];unfold dN;simp only[*];simp)
 unfold Nd.val Nd.cells;go_enter Tryz.func196,Tryz.ntmps196;go_wp2_with fail
 repeat ((first | with_reducible refine(a2.out _).mono ?_ | with_reducible refine(J.out _).mono ?_ | with_reducible refine(Y.out _).mono ?_ | with_reducible refine(a1.out _).mono ?_ | with_reducible refine(a0.out _).mono ?_);rintro e w' ⟨rfl,rfl⟩;go_wp2_with fail)
 go_ret;exact⟨by rw[Hv.out];try rfl,(Below.refl _ _).alloc (aY _) _⟩
theorem aEQ(fn name:ByteArray)(n:Int)(cell:Int)(w:World)(a1:bO (0) true)(a8:eD (0)=true)(J:bO (n) true)(a2:eD (n)=true)(a3:(cell==-1)=false)(a4:(cell != -1)=true)(Y:bO (cell) true)(a7:eD cell=true)(hf:fn.toList.isEmpty=true)(hn:name.toList.isEmpty=false)(a0:dM name true)(a6:dg.bZ name=true)(a9:(n==0)=false)(a5:(n != 0)=true) :
 Calls Tryz.prog 196 #[Nd.val ⟨5,fn,0,name,n,cell⟩] w (dQ (bP ⟨5,fn,0,name,n,cell⟩) w):=by
 have Hv:Hid (bP ⟨5,fn,0,name,n,cell⟩=false):=hid (by unfold bP;simp only[*];unfold dN;simp only[*];simp)
 unfold Nd.val Nd.cells;go_enter Tryz.func196,Tryz.ntmps196;go_wp2_with fail
 repeat ((first | with_reducible refine(a1.out _).mono ?_ | with_reducible refine(J.out _).mono ?_ | with_reducible refine(Y.out _).mono ?_ | with_reducible refine(a0.out _).mono ?_);rintro e w' ⟨rfl,rfl⟩;go_wp2_with fail)
 go_ret;exact⟨by rw[Hv.out];try rfl,(Below.refl _ _).alloc (aY _) _⟩
theorem aEp(fn name:ByteArray)(n:Int)(cell:Int)(w:World)(a1:bO (0) true)(a7:eD (0)=true)(J:bO (n) true)(a2:eD (n)=true)(a3:(cell==-1)=false)(a4:(cell != -1)=true)(Y:bO (cell) true)(a6:eD cell=true)(hf:fn.toList.isEmpty=true)(hn:name.toList.isEmpty=false)(a0:dM name false)(a5:dg.bZ name=false) :
 Calls Tryz.prog 196 #[Nd.val ⟨5,fn,0,name,n,cell⟩] w (dQ (bP ⟨5,fn,0,name,n,cell⟩) w):=by
 have Hv:Hid (bP ⟨5,fn,0,name,n,cell⟩=false):=hid (by unfold bP;simp only[*];unfold dN;simp only[*];simp)
 unfold Nd.val Nd.cells;go_enter Tryz.func196,Tryz.ntmps196;go_wp2_with fail
 repeat ((first | with_reducible refine(a1.out _).mono ?_ | with_reducible refine(J.out _).mono ?_ | with_reducible refine(Y.out _).mono ?_ | with_reducible refine(a0.out _).mono ?_);rintro e w' ⟨rfl,rfl⟩;go_wp2_with fail)
 go_ret;exact⟨by rw[Hv.out];try rfl,(Below.refl _ _).alloc (aY _) _⟩
theorem aAA(kind:Int)(hk:kind=1∨kind=6)(fn name:ByteArray)(copy:Int)(n:Int)(w:World)(a1:bO (copy) true)(a5:eD (copy)=true)(J:bO (n) true)(a2:eD (n)=true)(hf:fn.toList.isEmpty=false)(a0:dM fn true)(a3:dg.bZ fn=true)(hn:name.toList.isEmpty=false)(Y:dM name false)(a4:dg.bZ name=false) :
 Calls Tryz.prog 196 #[Nd.val ⟨kind,fn,copy,name,n,-1⟩] w (dQ (bP ⟨kind,fn,copy,name,n,-1⟩) w):=by
 have Hv:Hid (bP ⟨kind,fn,copy,name,n,-1⟩=false):=hid (by rcases hk with rfl | rfl <;> (unfold bP;simp only[*];unfold dN;simp))
 rcases hk with rfl | rfl
 all_goals
  unfold Nd.val Nd.cells;go_enter Tryz.func196,Tryz.ntmps196;go_wp2_with fail
  repeat ((first | with_reducible refine(a1.out _).mono ?_ | with_reducible refine(J.out _).mono ?_ | with_reducible refine(a0.out _).mono ?_ | with_reducible refine(Y.out _).mono ?_);rintro e w' ⟨rfl,rfl⟩;go_wp2_with fail)
  go_ret;exact⟨by rw[Hv.out];try rfl,(Below.refl _ _).alloc (aY _) _⟩
theorem aDL(fn name:ByteArray)(copy:Int)(n:Int)(w:World)(a0:bO (copy) true)(a4:eD (copy)=true)(J:bO (n) true)(a1:eD (n)=true)(hf:fn.toList.isEmpty=false)(Y:dM fn true)(a2:dg.bZ fn=true)(hn:name.toList.isEmpty=true)(a5:(n==0)=false)(a3:(n != 0)=true) :
 Calls Tryz.prog 196 #[Nd.val ⟨4,fn,copy,name,n,-1⟩] w (dQ (bP ⟨4,fn,copy,name,n,-1⟩) w):=by
 have Hv:Hid (bP ⟨4,fn,copy,name,n,-1⟩=false):=hid (by unfold bP;simp only[*];unfold dN;simp only[*];simp)
 unfold Nd.val Nd.cells;go_enter Tryz.func196,Tryz.ntmps196;go_wp2_with fail
 repeat ((first | with_reducible refine(a0.out _).mono ?_ | with_reducible refine(J.out _).mono ?_ | with_reducible refine(Y.out _).mono ?_);rintro e w' ⟨rfl,rfl⟩;go_wp2_with fail)
 go_ret;exact⟨by rw[Hv.out];try rfl,(Below.refl _ _).alloc (aY _) _⟩
theorem aEb(fn name:ByteArray)(n:Int)(w:World)(a0:bO (0) true)(a4:eD (0)=true)(J:bO (n) true)(a1:eD (n)=true)(hf:fn.toList.isEmpty=true)(hn:name.toList.isEmpty=false)(Y:dM name true)(a3:dg.bZ name=true)(a5:(n==0)=false)(a2:(n != 0)=true) :
 Calls Tryz.prog 196 #[Nd.val ⟨5,fn,0,name,n,-1⟩] w (dQ (bP ⟨5,fn,0,name,n,-1⟩) w):=by
 have Hv:Hid (bP ⟨5,fn,0,name,n,-1⟩=false):=hid (by unfold bP;simp only[*];unfold dN;simp only[*];simp)
 unfold Nd.val Nd.cells;go_enter Tryz.func196,Tryz.ntmps196;go_wp2_with fail
 repeat ((first | with_reducible refine(a0.out _).mono ?_ | with_reducible refine(J.out _).mono ?_ | with_reducible refine(Y.out _).mono ?_);rintro e w' ⟨rfl,rfl⟩;go_wp2_with fail)
 go_ret;exact⟨by rw[Hv.out];try rfl,(Below.refl _ _).alloc (aY _) _⟩
theorem aAy(kind:Int)(hk:kind=2∨kind=4)(fn name:ByteArray)(copy:Int)(w:World)(a0:bO (copy) true)(a3:eD (copy)=true)(J:bO (0) true)(a1:eD (0)=true)(hf:fn.toList.isEmpty=false)(Y:dM fn true)(a2:dg.bZ fn=true)(hn:name.toList.isEmpty=true) :
 Calls Tryz.prog 196 #[Nd.val ⟨kind,fn,copy,name,0,-1⟩] w (dQ (bP ⟨kind,fn,copy,name,0,-1⟩) w):=by
 have Hv:Hid (bP ⟨kind,fn,copy,name,0,-1⟩=true):=hid (by rcases hk with rfl | rfl <;> (unfold bP;simp only[*];unfold dN;simp))
 rcases hk with rfl | rfl
 all_goals
  unfold Nd.val Nd.cells;go_enter Tryz.func196,Tryz.ntmps196;go_wp2_with fail
  repeat ((first | with_reducible refine(a0.out _).mono ?_ | with_reducible refine(J.out _).mono ?_ | with_reducible refine(Y.out _).mono ?_);rintro e w' ⟨rfl,rfl⟩;go_wp2_with fail)
  go_ret;exact⟨by rw[Hv.out];try rfl,(Below.refl _ _).alloc (aY _) _⟩
theorem aE2(fn name:ByteArray)(copy:Int)(n:Int)(w:World)(Y:bO (copy) true)(a1:eD (copy)=true)(J:bO (n) true)(a0:eD (n)=true)(hf:fn.toList.isEmpty=true)(a2:(copy != 0)=true) :
 Calls Tryz.prog 196 #[Nd.val ⟨5,fn,copy,name,n,-1⟩] w (dQ (bP ⟨5,fn,copy,name,n,-1⟩) w):=by
 have Hv:Hid (bP ⟨5,fn,copy,name,n,-1⟩=false):=hid (by unfold bP;simp only[*];unfold dN;simp only[*];simp)
 unfold Nd.val Nd.cells;go_enter Tryz.func196,Tryz.ntmps196;go_wp2_with fail
 repeat ((first | with_reducible refine(Y.out _).mono ?_ | with_reducible refine(J.out _).mono ?_);rintro e w' ⟨rfl,rfl⟩;go_wp2_with fail)
 go_ret;exact⟨by rw[Hv.out];try rfl,(Below.refl _ _).alloc (aY _) _⟩
open RowKit Go.Sort
theorem aEa(fn name:ByteArray)(copy:Int)(cell:Int)(w:World)(a2:bO (copy) true)(a9:eD (copy)=true)(J:bO (0) true)(a3:eD (0)=true)(a4:(cell==-1)=false)(a5:(cell != -1)=true)(Y:bO (cell) true)(a8:eD cell=true)(hf:fn.toList.isEmpty=false)(a1:dM fn true)(a6:dg.bZ fn=true)(hn:name.toList.isEmpty=false)(a0:dM name true)(a7:dg.bZ name=true) :
 Calls Tryz.prog 196 #[Nd.val ⟨6,fn,copy,name,0,cell⟩] w (dQ (bP ⟨6,fn,copy,name,0,cell⟩) w):=by
 have Hv:Hid (bP ⟨6,fn,copy,name,0,cell⟩=true):=hid (by unfold bP;simp only[*];unfold dN;simp only[*];simp)
 unfold Nd.val Nd.cells;go_enter Tryz.func196,Tryz.ntmps196;go_wp2_with fail
 repeat ((first | with_reducible refine(a2.out _).mono ?_ | with_reducible refine(J.out _).mono ?_ | with_reducible refine(Y.out _).mono ?_ | with_reducible refine(a1.out _).mono ?_ | with_reducible refine(a0.out _).mono ?_);rintro e w' ⟨rfl,rfl⟩;go_wp2_with fail)
 go_ret;exact⟨by rw[Hv.out];try rfl,(Below.refl _ _).alloc (aY _) _⟩
theorem uG(kind:Int)(hk:kind=2∨kind=3∨kind=4∨kind=7)(fn name:ByteArray)(copy:Int)(n:Int)(cell:Int)(w:World)(a1:bO (copy) true)(a7:eD (copy)=true)(Y:bO (n) true)(a2:eD (n)=true)(a3:(cell==-1)=false)(a4:(cell != -1)=true)(J:bO (cell) true)(a6:eD cell=true)(hf:fn.toList.isEmpty=false)(a0:dM fn true)(a5:dg.bZ fn=true)(hn:name.toList.isEmpty=false) :
 Calls Tryz.prog 196 #[Nd.val ⟨kind,fn,copy,name,n,cell⟩] w (dQ (bP ⟨kind,fn,copy,name,n,cell⟩) w):=by
 have Hv:Hid (bP ⟨kind,fn,copy,name,n,cell⟩=false):=hid (by rcases hk with rfl | rfl | rfl | rfl <;> (unfold bP;simp only[*];unfold dN;simp only[*];simp))
 rcases hk with rfl | rfl | rfl | rfl
 all_goals
  unfold Nd.val Nd.cells;go_enter Tryz.func196,Tryz.ntmps196;go_wp2_with fail
  repeat ((first | with_reducible refine(a1.out _).mono ?_ | with_reducible refine(Y.out _).mono ?_ | with_reducible refine(J.out _).mono ?_ | with_reducible refine(a0.out _).mono ?_);rintro e w' ⟨rfl,rfl⟩;go_wp2_with fail)
  go_ret;exact⟨by rw[Hv.out];try rfl,(Below.refl _ _).alloc (aY _) _⟩
theorem aAE(kind:Int)(hk:kind=1∨kind=6)(fn name:ByteArray)(copy:Int)(n:Int)(w:World)(a1:bO (copy) true)(a6:eD (copy)=true)(J:bO (n) true)(a2:eD (n)=true)(hf:fn.toList.isEmpty=false)(a0:dM fn true)(a3:dg.bZ fn=true)(hn:name.toList.isEmpty=false)(Y:dM name true)(a5:dg.bZ name=true)(a7:(n==0)=false)(a4:(n != 0)=true) :
 Calls Tryz.prog 196 #[Nd.val ⟨kind,fn,copy,name,n,-1⟩] w (dQ (bP ⟨kind,fn,copy,name,n,-1⟩) w):=by
 have Hv:Hid (bP ⟨kind,fn,copy,name,n,-1⟩=false):=hid (by rcases hk with rfl | rfl <;> (unfold bP;simp only[*];unfold dN;simp only[*];simp))
 rcases hk with rfl | rfl
 all_goals
  unfold Nd.val Nd.cells;go_enter Tryz.func196,Tryz.ntmps196;go_wp2_with fail
  repeat ((first | with_reducible refine(a1.out _).mono ?_ | with_reducible refine(J.out _).mono ?_ | with_reducible refine(a0.out _).mono ?_ | with_reducible refine(Y.out _).mono ?_);rintro e w' ⟨rfl,rfl⟩;go_wp2_with fail)
  go_ret;exact⟨by rw[Hv.out];try rfl,(Below.refl _ _).alloc (aY _) _⟩
theorem aAB(kind:Int)(hk:kind=1∨kind=6)(fn name:ByteArray)(copy:Int)(w:World)(a1:bO (copy) true)(a5:eD (copy)=true)(J:bO (0) true)(a2:eD (0)=true)(hf:fn.toList.isEmpty=false)(a0:dM fn true)(a3:dg.bZ fn=true)(hn:name.toList.isEmpty=false)(Y:dM name true)(a4:dg.bZ name=true) :
 Calls Tryz.prog 196 #[Nd.val ⟨kind,fn,copy,name,0,-1⟩] w (dQ (bP ⟨kind,fn,copy,name,0,-1⟩) w):=by
 have Hv:Hid (bP ⟨kind,fn,copy,name,0,-1⟩=true):=hid (by rcases hk with rfl | rfl <;> (unfold bP;simp only[*];unfold dN;simp))
 rcases hk with rfl | rfl
 all_goals
  unfold Nd.val Nd.cells;go_enter Tryz.func196,Tryz.ntmps196;go_wp2_with fail
  repeat ((first | with_reducible refine(a1.out _).mono ?_ | with_reducible refine(J.out _).mono ?_ | with_reducible refine(a0.out _).mono ?_ | with_reducible refine(Y.out _).mono ?_);rintro e w' ⟨rfl,rfl⟩;go_wp2_with fail)
  go_ret;exact⟨by rw[Hv.out];try rfl,(Below.refl _ _).alloc (aY _) _⟩
theorem wM(kind:Int)(hk:kind=2∨kind=3∨kind=7)(fn name:ByteArray)(copy:Int)(n:Int)(w:World)(a0:bO (copy) true)(a4:eD (copy)=true)(J:bO (n) true)(a1:eD (n)=true)(hf:fn.toList.isEmpty=false)(Y:dM fn true)(a2:dg.bZ fn=true)(hn:name.toList.isEmpty=true)(a5:(n==0)=false)(a3:(n != 0)=true) :
 Calls Tryz.prog 196 #[Nd.val ⟨kind,fn,copy,name,n,-1⟩] w (dQ (bP ⟨kind,fn,copy,name,n,-1⟩) w):=by
 have Hv:Hid (bP ⟨kind,fn,copy,name,n,-1⟩=true):=hid (by rcases hk with rfl | rfl | rfl <;> (unfold bP;simp only[*];unfold dN;simp only[*];simp))
 rcases hk with rfl | rfl | rfl
 all_goals
  unfold Nd.val Nd.cells;go_enter Tryz.func196,Tryz.ntmps196;go_wp2_with fail
  repeat ((first | with_reducible refine(a0.out _).mono ?_ | with_reducible refine(J.out _).mono ?_ | with_reducible refine(Y.out _).mono ?_);rintro e w' ⟨rfl,rfl⟩;go_wp2_with fail)
  go_ret;exact⟨by rw[Hv.out];try rfl,(Below.refl _ _).alloc (aY _) _⟩
theorem uR(kind:Int)(hk:kind=2∨kind=3∨kind=4∨kind=7)(fn name:ByteArray)(copy:Int)(n:Int)(w:World)(a0:bO (copy) true)(a3:eD (copy)=true)(J:bO (n) true)(a1:eD (n)=true)(hf:fn.toList.isEmpty=false)(Y:dM fn true)(a2:dg.bZ fn=true)(hn:name.toList.isEmpty=false) :
 Calls Tryz.prog 196 #[Nd.val ⟨kind,fn,copy,name,n,-1⟩] w (dQ (bP ⟨kind,fn,copy,name,n,-1⟩) w):=by
 have Hv:Hid (bP ⟨kind,fn,copy,name,n,-1⟩=false):=hid (by rcases hk with rfl | rfl | rfl | rfl <;> (unfold bP;simp only[*];unfold dN;simp))
 rcases hk with rfl | rfl | rfl | rfl
 all_goals
  unfold Nd.val Nd.cells;go_enter Tryz.func196,Tryz.ntmps196;go_wp2_with fail
  repeat ((first | with_reducible refine(a0.out _).mono ?_ | with_reducible refine(J.out _).mono ?_ | with_reducible refine(Y.out _).mono ?_);rintro e w' ⟨rfl,rfl⟩;go_wp2_with fail)
  go_ret;exact⟨by rw[Hv.out];try rfl,(Below.refl _ _).alloc (aY _) _⟩
theorem aDM(fn name:ByteArray)(n:Int)(w:World)(a0:bO (0) true)(a3:eD (0)=true)(J:bO (n) true)(a1:eD (n)=true)(hf:fn.toList.isEmpty=true)(hn:name.toList.isEmpty=false)(Y:dM name false)(a2:dg.bZ name=false) :
 Calls Tryz.prog 196 #[Nd.val ⟨5,fn,0,name,n,-1⟩] w (dQ (bP ⟨5,fn,0,name,n,-1⟩) w):=by
 have Hv:Hid (bP ⟨5,fn,0,name,n,-1⟩=false):=hid (by unfold bP;simp only[*];unfold dN;simp)
 unfold Nd.val Nd.cells;go_enter Tryz.func196,Tryz.ntmps196;go_wp2_with fail
 repeat ((first | with_reducible refine(a0.out _).mono ?_ | with_reducible refine(J.out _).mono ?_ | with_reducible refine(Y.out _).mono ?_);rintro e w' ⟨rfl,rfl⟩;go_wp2_with fail)
 go_ret;exact⟨by rw[Hv.out];try rfl,(Below.refl _ _).alloc (aY _) _⟩
theorem aFP(fn name:ByteArray)(n:Int)(w:World)(Y:bO (0) true)(a1:eD (0)=true)(J:bO (n) true)(a0:eD (n)=true)(hf:fn.toList.isEmpty=true)(hn:name.toList.isEmpty=true) :
 Calls Tryz.prog 196 #[Nd.val ⟨5,fn,0,name,n,-1⟩] w (dQ (bP ⟨5,fn,0,name,n,-1⟩) w):=by
 have Hv:Hid (bP ⟨5,fn,0,name,n,-1⟩=false):=hid (by unfold bP;simp only[*];unfold dN;simp)
 unfold Nd.val Nd.cells;go_enter Tryz.func196,Tryz.ntmps196;go_wp2_with fail
 repeat ((first | with_reducible refine(Y.out _).mono ?_ | with_reducible refine(J.out _).mono ?_);rintro e w' ⟨rfl,rfl⟩;go_wp2_with fail)
 go_ret;exact⟨by rw[Hv.out];try rfl,(Below.refl _ _).alloc (aY _) _⟩
open RowKit Go.Sort
end nm
end Go.Proofs.YtdmmkjijgoiecaaGreatDoor
