import Derived.Test.YtdmmkjijgoiecaaGreatDoorY20
set_option linter.all false
set_option maxHeartbeats 4000000
namespace Go.Proofs.YtdmmkjijgoiecaaGreatDoor
open Lib(hid)
set_option maxRecDepth 100000
namespace nm
open RowKit Go.Sort
abbrev bO(c:Int)(b:Bool):Prop:=Hid (∀w,Calls Tryz.prog 214 #[.int .i64 c] w fun e w'=>e=.returned (.bool b)∧w=w')
abbrev dK(c:ByteArray)(b:Bool):Prop:=Hid (∀w,Calls Tryz.prog 56 #[.string c] w fun e w'=>e=.returned (.bool b)∧w=w')
def kP(s:ByteArray)(w:World)(e:Ending)(w':World):Prop:=e=.returned (.tuple #[(dV s).val,.int .i64 0])∧Below w.heap.size w w'
def jS(w:World)(e:Ending)(w':World):Prop:=e=.returned (.tuple #[.agg #[.int .i64 0,.string ⟨#[]⟩,.int .i64 0,.string ⟨#[]⟩,.int .i64 0,.int .i64 0],.int .i64 11])∧Below w.heap.size w w'
theorem aIQ(hd:gK)(s:ByteArray)(w:World)(hs:s.size≤maxLen)(J:jI w)(h:eU s=true):Calls Tryz.prog 190 #[.string s] w (kP s w):=by
 refine(qA hd s w hs J).mono ?_;rintro e w' ⟨rfl,hb⟩;refine⟨?_,hb⟩;unfold wS xE;rw[if_pos h,if_pos h]
theorem aKK(hd:gK)(s:ByteArray)(w:World)(hs:s.size≤maxLen)(J:jI w)(h:eU s=false):Calls Tryz.prog 190 #[.string s] w (jS w):=by
 refine(qA hd s w hs J).mono ?_;rintro e w' ⟨rfl,hb⟩;refine⟨?_,hb⟩;unfold wS xE;rw[if_neg (by rw[h];decide),if_neg (by rw[h];decide)];rfl
def eG(n:Int):Bool:=decide (0≤n∧n≤268435456)
theorem wK(n:Int)(w:World):Calls Tryz.prog 214 #[.int .i64 n] w fun e w'=>e=.returned (.bool (eG n))∧w=w':=by
 by_cases h0:0≤n
 ·have J:decide (n<0)=false:=by simp;omega
  have Y:Hid (eG n=decide (n≤268435456)):=hid (by unfold eG;simp[h0]);go_enter Tryz.func214,Tryz.ntmps214;go_wp2_with fail;go_ret;exact⟨by rw[Y.out];rfl,rfl⟩
 ·have Y:Hid (eG n=false):=hid (by unfold eG;simp[h0])
  have J:decide (n<0)=true:=by simp;omega
  go_enter Tryz.func214,Tryz.ntmps214;go_wp2_with fail;go_ret;exact⟨by rw[Y.out];rfl,rfl⟩
def dP(b:Bool)(w:World)(e:Ending)(w':World):Prop:=e=.returned (.bool b)∧Below w.heap.size w w'
theorem aEf(kind:Int)(fn:ByteArray)(copy:Int)(name:ByteArray)(n cell:Int)(w:World)(h:¬(1≤kind∧kind≤7)) :
 Calls Tryz.prog 196 #[Nd.val ⟨kind,fn,copy,name,n,cell⟩] w (dP false w):=by
 unfold Nd.val Nd.cells;by_cases Y:kind<1
 ·clear h
  go_enter Tryz.func196,Tryz.ntmps196;go_wp2_with fail;go_ret;exact⟨rfl,(Below.refl _ _).alloc (aY _) _⟩
 ·have J:7<kind:=by omega
  clear h;go_enter Tryz.func196,Tryz.ntmps196;go_wp2_with fail;go_ret;exact⟨rfl,(Below.refl _ _).alloc (aY _) _⟩
def dL(k copy n cell:Int)(c1 c2 c3 fE J nE Y:Bool):Bool:=
 (decide (1≤k∧k≤7)&&(c1&&(c2&&((cell==-1)||c3)))) &&
 ((!(((k==5) != fE)||((!fE&&!J)||((k==5)&&(copy != 0))))) &&
 ((!(((k==1||(k==5||k==6)) != !nE)||((k==1||(k==5||k==6))&&!Y))) &&
 ((!((!(k==2||(k==3||k==7))&&(n != 0))||((n==0)&&(k==3||k==7)))) &&
 (decide (5≤k)||(cell==-1)))))
def bP(d:Nd):Bool:=dL d.kind d.copy d.n d.cell (eG d.copy) (eG d.n) (eG d.cell) d.fn.toList.isEmpty (dg.bZ d.fn) d.name.toList.isEmpty (dg.bZ d.name)
theorem aDB(kind:Int)(fn:ByteArray)(copy:Int)(name:ByteArray)(n cell:Int)(w:World)(h1:1≤kind)(h7:kind≤7)(Y:bO (copy) false)(J:eG copy=false) :
 Calls Tryz.prog 196 #[Nd.val ⟨kind,fn,copy,name,n,cell⟩] w (dP (bP ⟨kind,fn,copy,name,n,cell⟩) w):=by
 have a0:decide (kind<1)=false:=aB (by omega);have a1:decide (7<kind)=false:=aB (by omega);have Hv:Hid (bP ⟨kind,fn,copy,name,n,cell⟩=false):=hid (by unfold bP;simp only[J];unfold dL;simp);unfold Nd.val Nd.cells;clear h1 h7;go_enter Tryz.func196,Tryz.ntmps196;go_wp2_with fail
 repeat (first | (with_reducible refine(Y.out _).mono ?_;rintro e w' ⟨rfl,rfl⟩;go_wp2_with fail))
 go_ret;exact⟨by rw[Hv.out];try rfl,(Below.refl _ _).alloc (aY _) _⟩
theorem aKz(kind:Int)(fn:ByteArray)(copy:Int)(name:ByteArray)(n cell:Int)(w:World)(h1:1≤kind)(h7:kind≤7)(Y:bO (copy) true)(J:bO (n) false)(a0:eG n=false) :
 Calls Tryz.prog 196 #[Nd.val ⟨kind,fn,copy,name,n,cell⟩] w (dP (bP ⟨kind,fn,copy,name,n,cell⟩) w):=by
 have a1:decide (kind<1)=false:=aB (by omega);have a2:decide (7<kind)=false:=aB (by omega);have Hv:Hid (bP ⟨kind,fn,copy,name,n,cell⟩=false):=hid (by unfold bP;simp only[a0];unfold dL;simp);unfold Nd.val Nd.cells;clear h1 h7;go_enter Tryz.func196,Tryz.ntmps196;go_wp2_with fail
 repeat ((first | with_reducible refine(Y.out _).mono ?_ | with_reducible refine(J.out _).mono ?_);rintro e w' ⟨rfl,rfl⟩;go_wp2_with fail)
 go_ret;exact⟨by rw[Hv.out];try rfl,(Below.refl _ _).alloc (aY _) _⟩
theorem aEe(kind:Int)(fn:ByteArray)(copy:Int)(name:ByteArray)(n cell:Int)(w:World)(h1:1≤kind)(h7:kind≤7)(a1:bO (copy) true)(Y:bO (n) true)(a0:bO (cell) false)(J:eG cell=false)(a2:(cell==-1)=false)(a3:(cell != -1)=true) :
 Calls Tryz.prog 196 #[Nd.val ⟨kind,fn,copy,name,n,cell⟩] w (dP (bP ⟨kind,fn,copy,name,n,cell⟩) w):=by
 have a4:decide (kind<1)=false:=aB (by omega);have a5:decide (7<kind)=false:=aB (by omega);have Hv:Hid (bP ⟨kind,fn,copy,name,n,cell⟩=false):=hid (by unfold bP;simp only[J];unfold dL;simp only[a2];simp);unfold Nd.val Nd.cells;clear h1 h7;go_enter Tryz.func196,Tryz.ntmps196;go_wp2_with fail
 repeat ((first | with_reducible refine(a1.out _).mono ?_ | with_reducible refine(Y.out _).mono ?_ | with_reducible refine(a0.out _).mono ?_);rintro e w' ⟨rfl,rfl⟩;go_wp2_with fail)
 go_ret;exact⟨by rw[Hv.out];try rfl,(Below.refl _ _).alloc (aY _) _⟩
theorem dC{x:Int}{b:Bool}(h:eG x=b):bO x b:=hid fun w=>by rw[←h];exact wK x w
theorem dI{x:ByteArray}{b:Bool}(hs:x.size≤maxLen)(h:dg.bZ x=b):dK x b:=hid fun w=>by rw[←h];exact dg.aBx x w hs
theorem yZ(kind:Int)(hk:kind=1∨kind=6)(fn name:ByteArray)(copy:Int)(n:Int)(cell:Int)(w:World)(a2:bO (copy) true)(a6:eG (copy)=true)(Y:bO (n) true)(a7:eG (n)=true)(a8:(cell==-1)=false)(a5:(cell != -1)=true)(a0:bO (cell) true)(a4:eG cell=true)(hf:fn.toList.isEmpty=false)(J:dK fn true)(a9:dg.bZ fn=true)(hn:name.toList.isEmpty=false)(a1:dK name true)(ad:dg.bZ name=true)(aa:(n==0)=false)(a3:(n != 0)=true) :
 Calls Tryz.prog 196 #[Nd.val ⟨kind,fn,copy,name,n,cell⟩] w (dP (bP ⟨kind,fn,copy,name,n,cell⟩) w):=by
 have Hv:Hid (bP ⟨kind,fn,copy,name,n,cell⟩=false):=hid (by rcases hk with rfl | rfl <;> (unfold bP;simp only[*];unfold dL;simp only[*];simp));rcases hk with rfl | rfl
 all_goals
  unfold Nd.val Nd.cells;go_enter Tryz.func196,Tryz.ntmps196;go_wp2_with fail
  repeat ((first | with_reducible refine(a2.out _).mono ?_ | with_reducible refine(Y.out _).mono ?_ | with_reducible refine(a0.out _).mono ?_ | with_reducible refine(J.out _).mono ?_ | with_reducible refine(a1.out _).mono ?_);rintro e w' ⟨rfl,rfl⟩;go_wp2_with fail)
  go_ret;exact⟨by rw[Hv.out];try rfl,(Below.refl _ _).alloc (aY _) _⟩
theorem tH(kind:Int)(hk:kind=2∨kind=3∨kind=4)(fn name:ByteArray)(copy:Int)(n:Int)(cell:Int)(w:World)(a1:bO (copy) true)(a5:eG (copy)=true)(Y:bO (n) true)(a6:eG (n)=true)(a7:(cell==-1)=false)(a4:(cell != -1)=true)(a0:bO (cell) true)(a3:eG cell=true)(hf:fn.toList.isEmpty=false)(J:dK fn true)(a8:dg.bZ fn=true)(hn:name.toList.isEmpty=true)(a9:(n==0)=false)(a2:(n != 0)=true) :
 Calls Tryz.prog 196 #[Nd.val ⟨kind,fn,copy,name,n,cell⟩] w (dP (bP ⟨kind,fn,copy,name,n,cell⟩) w):=by
 have Hv:Hid (bP ⟨kind,fn,copy,name,n,cell⟩=false):=hid (by rcases hk with rfl | rfl | rfl <;> (unfold bP;simp only[*];unfold dL;simp only[*];simp));rcases hk with rfl | rfl | rfl
 all_goals
  unfold Nd.val Nd.cells;go_enter Tryz.func196,Tryz.ntmps196;go_wp2_with fail
  repeat ((first | with_reducible refine(a1.out _).mono ?_ | with_reducible refine(Y.out _).mono ?_ | with_reducible refine(a0.out _).mono ?_ | with_reducible refine(J.out _).mono ?_);rintro e w' ⟨rfl,rfl⟩;go_wp2_with fail)
  go_ret;exact⟨by rw[Hv.out];try rfl,(Below.refl _ _).alloc (aY _) _⟩
theorem aAd(kind:Int)(hk:kind=1∨kind=6)(fn name:ByteArray)(copy:Int)(n:Int)(cell:Int)(w:World)(a1:bO (copy) true)(a4:eG (copy)=true)(Y:bO (n) true)(a5:eG (n)=true)(a6:(cell==-1)=false)(a3:(cell != -1)=true)(a0:bO (cell) true)(a2:eG cell=true)(hf:fn.toList.isEmpty=false)(J:dK fn true)(a7:dg.bZ fn=true)(hn:name.toList.isEmpty=true) :
 Calls Tryz.prog 196 #[Nd.val ⟨kind,fn,copy,name,n,cell⟩] w (dP (bP ⟨kind,fn,copy,name,n,cell⟩) w):=by
 have Hv:Hid (bP ⟨kind,fn,copy,name,n,cell⟩=false):=hid (by rcases hk with rfl | rfl <;> (unfold bP;simp only[*];unfold dL;simp only[*];simp));rcases hk with rfl | rfl
 all_goals
  unfold Nd.val Nd.cells;go_enter Tryz.func196,Tryz.ntmps196;go_wp2_with fail
  repeat ((first | with_reducible refine(a1.out _).mono ?_ | with_reducible refine(Y.out _).mono ?_ | with_reducible refine(a0.out _).mono ?_ | with_reducible refine(J.out _).mono ?_);rintro e w' ⟨rfl,rfl⟩;go_wp2_with fail)
  go_ret;exact⟨by rw[Hv.out];try rfl,(Below.refl _ _).alloc (aY _) _⟩
theorem jV(kind:Int)(hk:kind=1∨kind=2∨kind=3∨kind=4∨kind=6∨kind=7)(fn name:ByteArray)(copy:Int)(n:Int)(cell:Int)(w:World)(a1:bO (copy) true)(a4:eG (copy)=true)(Y:bO (n) true)(a5:eG (n)=true)(a6:(cell==-1)=false)(a3:(cell != -1)=true)(a0:bO (cell) true)(a2:eG cell=true)(hf:fn.toList.isEmpty=false)(J:dK fn false)(a7:dg.bZ fn=false) :
 Calls Tryz.prog 196 #[Nd.val ⟨kind,fn,copy,name,n,cell⟩] w (dP (bP ⟨kind,fn,copy,name,n,cell⟩) w):=by
 have Hv:Hid (bP ⟨kind,fn,copy,name,n,cell⟩=false):=hid (by rcases hk with rfl | rfl | rfl | rfl | rfl | rfl <;> (unfold bP;simp only[*];unfold dL;simp only[*];simp));rcases hk with rfl | rfl | rfl | rfl | rfl | rfl
 all_goals
  unfold Nd.val Nd.cells;go_enter Tryz.func196,Tryz.ntmps196;go_wp2_with fail
  repeat ((first | with_reducible refine(a1.out _).mono ?_ | with_reducible refine(Y.out _).mono ?_ | with_reducible refine(a0.out _).mono ?_ | with_reducible refine(J.out _).mono ?_);rintro e w' ⟨rfl,rfl⟩;go_wp2_with fail)
  go_ret;exact⟨by rw[Hv.out];try rfl,(Below.refl _ _).alloc (aY _) _⟩
theorem aCE(fn name:ByteArray)(copy:Int)(n:Int)(cell:Int)(w:World)(a0:bO (copy) true)(a3:eG (copy)=true)(J:bO (n) true)(a4:eG (n)=true)(a5:(cell==-1)=false)(a2:(cell != -1)=true)(Y:bO (cell) true)(a1:eG cell=true)(hf:fn.toList.isEmpty=true)(a6:(copy != 0)=true) :
 Calls Tryz.prog 196 #[Nd.val ⟨5,fn,copy,name,n,cell⟩] w (dP (bP ⟨5,fn,copy,name,n,cell⟩) w):=by
 have Hv:Hid (bP ⟨5,fn,copy,name,n,cell⟩=false):=hid (by unfold bP;simp only[*];unfold dL;simp only[*];simp);unfold Nd.val Nd.cells;go_enter Tryz.func196,Tryz.ntmps196;go_wp2_with fail
 repeat ((first | with_reducible refine(a0.out _).mono ?_ | with_reducible refine(J.out _).mono ?_ | with_reducible refine(Y.out _).mono ?_);rintro e w' ⟨rfl,rfl⟩;go_wp2_with fail)
 go_ret;exact⟨by rw[Hv.out];try rfl,(Below.refl _ _).alloc (aY _) _⟩
theorem aED(fn name:ByteArray)(copy:Int)(n:Int)(cell:Int)(w:World)(a0:bO (copy) true)(a3:eG (copy)=true)(J:bO (n) true)(a4:eG (n)=true)(a5:(cell==-1)=false)(a2:(cell != -1)=true)(Y:bO (cell) true)(a1:eG cell=true)(hf:fn.toList.isEmpty=false) :
 Calls Tryz.prog 196 #[Nd.val ⟨5,fn,copy,name,n,cell⟩] w (dP (bP ⟨5,fn,copy,name,n,cell⟩) w):=by
 have Hv:Hid (bP ⟨5,fn,copy,name,n,cell⟩=false):=hid (by unfold bP;simp only[*];unfold dL;simp only[*];simp);unfold Nd.val Nd.cells;go_enter Tryz.func196,Tryz.ntmps196;go_wp2_with fail
 repeat ((first | with_reducible refine(a0.out _).mono ?_ | with_reducible refine(J.out _).mono ?_ | with_reducible refine(Y.out _).mono ?_);rintro e w' ⟨rfl,rfl⟩;go_wp2_with fail)
 go_ret;exact⟨by rw[Hv.out];try rfl,(Below.refl _ _).alloc (aY _) _⟩
theorem aAt(kind:Int)(hk:kind=1∨kind=6)(fn name:ByteArray)(copy:Int)(n:Int)(w:World)(a0:bO (copy) true)(a1:eG (copy)=true)(Y:bO (n) true)(a2:eG (n)=true)(hf:fn.toList.isEmpty=false)(J:dK fn true)(a3:dg.bZ fn=true)(hn:name.toList.isEmpty=true) :
 Calls Tryz.prog 196 #[Nd.val ⟨kind,fn,copy,name,n,-1⟩] w (dP (bP ⟨kind,fn,copy,name,n,-1⟩) w):=by
 have Hv:Hid (bP ⟨kind,fn,copy,name,n,-1⟩=false):=hid (by rcases hk with rfl | rfl <;> (unfold bP;simp only[*];unfold dL;simp));rcases hk with rfl | rfl
 all_goals
  unfold Nd.val Nd.cells;go_enter Tryz.func196,Tryz.ntmps196;go_wp2_with fail
  repeat ((first | with_reducible refine(a0.out _).mono ?_ | with_reducible refine(Y.out _).mono ?_ | with_reducible refine(J.out _).mono ?_);rintro e w' ⟨rfl,rfl⟩;go_wp2_with fail)
  go_ret;exact⟨by rw[Hv.out];try rfl,(Below.refl _ _).alloc (aY _) _⟩
theorem kC(kind:Int)(hk:kind=1∨kind=2∨kind=3∨kind=4∨kind=6∨kind=7)(fn name:ByteArray)(copy:Int)(n:Int)(w:World)(a0:bO (copy) true)(a1:eG (copy)=true)(Y:bO (n) true)(a2:eG (n)=true)(hf:fn.toList.isEmpty=false)(J:dK fn false)(a3:dg.bZ fn=false) :
 Calls Tryz.prog 196 #[Nd.val ⟨kind,fn,copy,name,n,-1⟩] w (dP (bP ⟨kind,fn,copy,name,n,-1⟩) w):=by
 have Hv:Hid (bP ⟨kind,fn,copy,name,n,-1⟩=false):=hid (by rcases hk with rfl | rfl | rfl | rfl | rfl | rfl <;> (unfold bP;simp only[*];unfold dL;simp));rcases hk with rfl | rfl | rfl | rfl | rfl | rfl
 all_goals
  unfold Nd.val Nd.cells;go_enter Tryz.func196,Tryz.ntmps196;go_wp2_with fail
  repeat ((first | with_reducible refine(a0.out _).mono ?_ | with_reducible refine(Y.out _).mono ?_ | with_reducible refine(J.out _).mono ?_);rintro e w' ⟨rfl,rfl⟩;go_wp2_with fail)
  go_ret;exact⟨by rw[Hv.out];try rfl,(Below.refl _ _).alloc (aY _) _⟩
theorem aDK(fn name:ByteArray)(copy:Int)(n:Int)(w:World)(Y:bO (copy) true)(a0:eG (copy)=true)(J:bO (n) true)(a1:eG (n)=true)(hf:fn.toList.isEmpty=false) :
 Calls Tryz.prog 196 #[Nd.val ⟨5,fn,copy,name,n,-1⟩] w (dP (bP ⟨5,fn,copy,name,n,-1⟩) w):=by
 have Hv:Hid (bP ⟨5,fn,copy,name,n,-1⟩=false):=hid (by unfold bP;simp only[*];unfold dL;simp);unfold Nd.val Nd.cells;go_enter Tryz.func196,Tryz.ntmps196;go_wp2_with fail
 repeat ((first | with_reducible refine(Y.out _).mono ?_ | with_reducible refine(J.out _).mono ?_);rintro e w' ⟨rfl,rfl⟩;go_wp2_with fail)
 go_ret;exact⟨by rw[Hv.out];try rfl,(Below.refl _ _).alloc (aY _) _⟩
theorem yU(kind:Int)(hk:kind=1∨kind=6)(fn name:ByteArray)(copy:Int)(n:Int)(cell:Int)(w:World)(a2:bO (copy) true)(a5:eG (copy)=true)(Y:bO (n) true)(a6:eG (n)=true)(a7:(cell==-1)=false)(a4:(cell != -1)=true)(a0:bO (cell) true)(a3:eG cell=true)(hf:fn.toList.isEmpty=false)(J:dK fn true)(a8:dg.bZ fn=true)(hn:name.toList.isEmpty=false)(a1:dK name false)(a9:dg.bZ name=false) :
 Calls Tryz.prog 196 #[Nd.val ⟨kind,fn,copy,name,n,cell⟩] w (dP (bP ⟨kind,fn,copy,name,n,cell⟩) w):=by
 have Hv:Hid (bP ⟨kind,fn,copy,name,n,cell⟩=false):=hid (by rcases hk with rfl | rfl <;> (unfold bP;simp only[*];unfold dL;simp only[*];simp));rcases hk with rfl | rfl
 all_goals
  unfold Nd.val Nd.cells;go_enter Tryz.func196,Tryz.ntmps196;go_wp2_with fail
  repeat ((first | with_reducible refine(a2.out _).mono ?_ | with_reducible refine(Y.out _).mono ?_ | with_reducible refine(a0.out _).mono ?_ | with_reducible refine(J.out _).mono ?_ | with_reducible refine(a1.out _).mono ?_);rintro e w' ⟨rfl,rfl⟩;go_wp2_with fail)
  go_ret;exact⟨by rw[Hv.out];try rfl,(Below.refl _ _).alloc (aY _) _⟩
theorem aCo(fn name:ByteArray)(copy:Int)(n:Int)(cell:Int)(w:World)(a1:bO (copy) true)(a5:eG (copy)=true)(Y:bO (n) true)(a6:eG (n)=true)(a7:(cell==-1)=false)(a4:(cell != -1)=true)(a0:bO (cell) true)(a3:eG cell=true)(hf:fn.toList.isEmpty=false)(J:dK fn true)(a8:dg.bZ fn=true)(hn:name.toList.isEmpty=true)(a9:(n==0)=false)(a2:(n != 0)=true) :
 Calls Tryz.prog 196 #[Nd.val ⟨7,fn,copy,name,n,cell⟩] w (dP (bP ⟨7,fn,copy,name,n,cell⟩) w):=by
 have Hv:Hid (bP ⟨7,fn,copy,name,n,cell⟩=true):=hid (by unfold bP;simp only[*];unfold dL;simp only[*];simp);unfold Nd.val Nd.cells;go_enter Tryz.func196,Tryz.ntmps196;go_wp2_with fail
 repeat ((first | with_reducible refine(a1.out _).mono ?_ | with_reducible refine(Y.out _).mono ?_ | with_reducible refine(a0.out _).mono ?_ | with_reducible refine(J.out _).mono ?_);rintro e w' ⟨rfl,rfl⟩;go_wp2_with fail)
 go_ret;exact⟨by rw[Hv.out];try rfl,(Below.refl _ _).alloc (aY _) _⟩
theorem oQ(kind:Int)(hk:kind=2∨kind=3∨kind=4∨kind=7)(fn name:ByteArray)(copy:Int)(cell:Int)(w:World)(a1:bO (copy) true)(a4:eG (copy)=true)(Y:bO (0) true)(a5:eG (0)=true)(a6:(cell==-1)=false)(a3:(cell != -1)=true)(a0:bO (cell) true)(a2:eG cell=true)(hf:fn.toList.isEmpty=false)(J:dK fn true)(a7:dg.bZ fn=true)(hn:name.toList.isEmpty=true) :
 Calls Tryz.prog 196 #[Nd.val ⟨kind,fn,copy,name,0,cell⟩] w (dP (bP ⟨kind,fn,copy,name,0,cell⟩) w):=by
 have Hv:Hid (bP ⟨kind,fn,copy,name,0,cell⟩=false):=hid (by rcases hk with rfl | rfl | rfl | rfl <;> (unfold bP;simp only[*];unfold dL;simp only[*];simp));rcases hk with rfl | rfl | rfl | rfl
 all_goals
  unfold Nd.val Nd.cells;go_enter Tryz.func196,Tryz.ntmps196;go_wp2_with fail
  repeat ((first | with_reducible refine(a1.out _).mono ?_ | with_reducible refine(Y.out _).mono ?_ | with_reducible refine(a0.out _).mono ?_ | with_reducible refine(J.out _).mono ?_);rintro e w' ⟨rfl,rfl⟩;go_wp2_with fail)
  go_ret;exact⟨by rw[Hv.out];try rfl,(Below.refl _ _).alloc (aY _) _⟩
theorem aCI(fn name:ByteArray)(cell:Int)(w:World)(a1:bO (0) true)(a4:eG (0)=true)(J:bO (0) true)(a5:eG (0)=true)(a6:(cell==-1)=false)(a3:(cell != -1)=true)(Y:bO (cell) true)(a2:eG cell=true)(hf:fn.toList.isEmpty=true)(hn:name.toList.isEmpty=false)(a0:dK name true)(a7:dg.bZ name=true) :
 Calls Tryz.prog 196 #[Nd.val ⟨5,fn,0,name,0,cell⟩] w (dP (bP ⟨5,fn,0,name,0,cell⟩) w):=by
 have Hv:Hid (bP ⟨5,fn,0,name,0,cell⟩=true):=hid (by unfold bP;simp only[*];unfold dL;simp only[*];simp);unfold Nd.val Nd.cells;go_enter Tryz.func196,Tryz.ntmps196;go_wp2_with fail
 repeat ((first | with_reducible refine(a1.out _).mono ?_ | with_reducible refine(J.out _).mono ?_ | with_reducible refine(Y.out _).mono ?_ | with_reducible refine(a0.out _).mono ?_);rintro e w' ⟨rfl,rfl⟩;go_wp2_with fail)
 go_ret;exact⟨by rw[Hv.out];try rfl,(Below.refl _ _).alloc (aY _) _⟩
theorem aD2(fn name:ByteArray)(n:Int)(cell:Int)(w:World)(a0:bO (0) true)(a3:eG (0)=true)(J:bO (n) true)(a4:eG (n)=true)(a5:(cell==-1)=false)(a2:(cell != -1)=true)(Y:bO (cell) true)(a1:eG cell=true)(hf:fn.toList.isEmpty=true)(hn:name.toList.isEmpty=true) :
 Calls Tryz.prog 196 #[Nd.val ⟨5,fn,0,name,n,cell⟩] w (dP (bP ⟨5,fn,0,name,n,cell⟩) w):=by
 have Hv:Hid (bP ⟨5,fn,0,name,n,cell⟩=false):=hid (by unfold bP;simp only[*];unfold dL;simp only[*];simp);unfold Nd.val Nd.cells;go_enter Tryz.func196,Tryz.ntmps196;go_wp2_with fail
 repeat ((first | with_reducible refine(a0.out _).mono ?_ | with_reducible refine(J.out _).mono ?_ | with_reducible refine(Y.out _).mono ?_);rintro e w' ⟨rfl,rfl⟩;go_wp2_with fail)
 go_ret;exact⟨by rw[Hv.out];try rfl,(Below.refl _ _).alloc (aY _) _⟩
theorem lM(kind:Int)(hk:kind=1∨kind=2∨kind=3∨kind=4∨kind=6∨kind=7)(fn name:ByteArray)(copy:Int)(n:Int)(cell:Int)(w:World)(a0:bO (copy) true)(a3:eG (copy)=true)(J:bO (n) true)(a4:eG (n)=true)(a5:(cell==-1)=false)(a2:(cell != -1)=true)(Y:bO (cell) true)(a1:eG cell=true)(hf:fn.toList.isEmpty=true) :
 Calls Tryz.prog 196 #[Nd.val ⟨kind,fn,copy,name,n,cell⟩] w (dP (bP ⟨kind,fn,copy,name,n,cell⟩) w):=by
 have Hv:Hid (bP ⟨kind,fn,copy,name,n,cell⟩=false):=hid (by rcases hk with rfl | rfl | rfl | rfl | rfl | rfl <;> (unfold bP;simp only[*];unfold dL;simp only[*];simp));rcases hk with rfl | rfl | rfl | rfl | rfl | rfl
 all_goals
  unfold Nd.val Nd.cells;go_enter Tryz.func196,Tryz.ntmps196;go_wp2_with fail
  repeat ((first | with_reducible refine(a0.out _).mono ?_ | with_reducible refine(J.out _).mono ?_ | with_reducible refine(Y.out _).mono ?_);rintro e w' ⟨rfl,rfl⟩;go_wp2_with fail)
  go_ret;exact⟨by rw[Hv.out];try rfl,(Below.refl _ _).alloc (aY _) _⟩
theorem yY(kind:Int)(hk:kind=3∨kind=7)(fn name:ByteArray)(copy:Int)(w:World)(a0:bO (copy) true)(a1:eG (copy)=true)(Y:bO (0) true)(a2:eG (0)=true)(hf:fn.toList.isEmpty=false)(J:dK fn true)(a3:dg.bZ fn=true)(hn:name.toList.isEmpty=true) :
 Calls Tryz.prog 196 #[Nd.val ⟨kind,fn,copy,name,0,-1⟩] w (dP (bP ⟨kind,fn,copy,name,0,-1⟩) w):=by
 have Hv:Hid (bP ⟨kind,fn,copy,name,0,-1⟩=false):=hid (by rcases hk with rfl | rfl <;> (unfold bP;simp only[*];unfold dL;simp));rcases hk with rfl | rfl
 all_goals
  unfold Nd.val Nd.cells;go_enter Tryz.func196,Tryz.ntmps196;go_wp2_with fail
  repeat ((first | with_reducible refine(a0.out _).mono ?_ | with_reducible refine(Y.out _).mono ?_ | with_reducible refine(J.out _).mono ?_);rintro e w' ⟨rfl,rfl⟩;go_wp2_with fail)
  go_ret;exact⟨by rw[Hv.out];try rfl,(Below.refl _ _).alloc (aY _) _⟩
theorem aCw(fn name:ByteArray) (w:World)(a0:bO (0) true)(a1:eG (0)=true)(J:bO (0) true)(a2:eG (0)=true)(hf:fn.toList.isEmpty=true)(hn:name.toList.isEmpty=false)(Y:dK name true)(a3:dg.bZ name=true) :
 Calls Tryz.prog 196 #[Nd.val ⟨5,fn,0,name,0,-1⟩] w (dP (bP ⟨5,fn,0,name,0,-1⟩) w):=by
 have Hv:Hid (bP ⟨5,fn,0,name,0,-1⟩=true):=hid (by unfold bP;simp only[*];unfold dL;simp);unfold Nd.val Nd.cells;go_enter Tryz.func196,Tryz.ntmps196;go_wp2_with fail
 repeat ((first | with_reducible refine(a0.out _).mono ?_ | with_reducible refine(J.out _).mono ?_ | with_reducible refine(Y.out _).mono ?_);rintro e w' ⟨rfl,rfl⟩;go_wp2_with fail)
 go_ret;exact⟨by rw[Hv.out];try rfl,(Below.refl _ _).alloc (aY _) _⟩
theorem lT(kind:Int)(hk:kind=1∨kind=2∨kind=3∨kind=4∨kind=6∨kind=7)(fn name:ByteArray)(copy:Int)(n:Int)(w:World)(Y:bO (copy) true)(a0:eG (copy)=true)(J:bO (n) true)(a1:eG (n)=true)(hf:fn.toList.isEmpty=true) :
 Calls Tryz.prog 196 #[Nd.val ⟨kind,fn,copy,name,n,-1⟩] w (dP (bP ⟨kind,fn,copy,name,n,-1⟩) w):=by
 have Hv:Hid (bP ⟨kind,fn,copy,name,n,-1⟩=false):=hid (by rcases hk with rfl | rfl | rfl | rfl | rfl | rfl <;> (unfold bP;simp only[*];unfold dL;simp));rcases hk with rfl | rfl | rfl | rfl | rfl | rfl
 all_goals
  unfold Nd.val Nd.cells;go_enter Tryz.func196,Tryz.ntmps196;go_wp2_with fail
  repeat ((first | with_reducible refine(Y.out _).mono ?_ | with_reducible refine(J.out _).mono ?_);rintro e w' ⟨rfl,rfl⟩;go_wp2_with fail)
  go_ret;exact⟨by rw[Hv.out];try rfl,(Below.refl _ _).alloc (aY _) _⟩
theorem aCG(fn name:ByteArray)(copy:Int)(cell:Int)(w:World)(a2:bO (copy) true)(a5:eG (copy)=true)(Y:bO (0) true)(a6:eG (0)=true)(a7:(cell==-1)=false)(a4:(cell != -1)=true)(a0:bO (cell) true)(a3:eG cell=true)(hf:fn.toList.isEmpty=false)(J:dK fn true)(a8:dg.bZ fn=true)(hn:name.toList.isEmpty=false)(a1:dK name true)(a9:dg.bZ name=true) :
 Calls Tryz.prog 196 #[Nd.val ⟨1,fn,copy,name,0,cell⟩] w (dP (bP ⟨1,fn,copy,name,0,cell⟩) w):=by
 have Hv:Hid (bP ⟨1,fn,copy,name,0,cell⟩=false):=hid (by unfold bP;simp only[*];unfold dL;simp only[*];simp);unfold Nd.val Nd.cells;go_enter Tryz.func196,Tryz.ntmps196;go_wp2_with fail
 repeat ((first | with_reducible refine(a2.out _).mono ?_ | with_reducible refine(Y.out _).mono ?_ | with_reducible refine(a0.out _).mono ?_ | with_reducible refine(J.out _).mono ?_ | with_reducible refine(a1.out _).mono ?_);rintro e w' ⟨rfl,rfl⟩;go_wp2_with fail)
 go_ret;exact⟨by rw[Hv.out];try rfl,(Below.refl _ _).alloc (aY _) _⟩
theorem aC6(fn name:ByteArray)(n:Int)(cell:Int)(w:World)(a1:bO (0) true)(a5:eG (0)=true)(J:bO (n) true)(a6:eG (n)=true)(a7:(cell==-1)=false)(a4:(cell != -1)=true)(Y:bO (cell) true)(a3:eG cell=true)(hf:fn.toList.isEmpty=true)(hn:name.toList.isEmpty=false)(a0:dK name true)(a9:dg.bZ name=true)(a8:(n==0)=false)(a2:(n != 0)=true) :
 Calls Tryz.prog 196 #[Nd.val ⟨5,fn,0,name,n,cell⟩] w (dP (bP ⟨5,fn,0,name,n,cell⟩) w):=by
 have Hv:Hid (bP ⟨5,fn,0,name,n,cell⟩=false):=hid (by unfold bP;simp only[*];unfold dL;simp only[*];simp);unfold Nd.val Nd.cells;go_enter Tryz.func196,Tryz.ntmps196;go_wp2_with fail
 repeat ((first | with_reducible refine(a1.out _).mono ?_ | with_reducible refine(J.out _).mono ?_ | with_reducible refine(Y.out _).mono ?_ | with_reducible refine(a0.out _).mono ?_);rintro e w' ⟨rfl,rfl⟩;go_wp2_with fail)
 go_ret;exact⟨by rw[Hv.out];try rfl,(Below.refl _ _).alloc (aY _) _⟩
theorem aCs(fn name:ByteArray)(n:Int)(cell:Int)(w:World)(a1:bO (0) true)(a4:eG (0)=true)(J:bO (n) true)(a5:eG (n)=true)(a6:(cell==-1)=false)(a3:(cell != -1)=true)(Y:bO (cell) true)(a2:eG cell=true)(hf:fn.toList.isEmpty=true)(hn:name.toList.isEmpty=false)(a0:dK name false)(a7:dg.bZ name=false) :
 Calls Tryz.prog 196 #[Nd.val ⟨5,fn,0,name,n,cell⟩] w (dP (bP ⟨5,fn,0,name,n,cell⟩) w):=by
 have Hv:Hid (bP ⟨5,fn,0,name,n,cell⟩=false):=hid (by unfold bP;simp only[*];unfold dL;simp only[*];simp);unfold Nd.val Nd.cells;go_enter Tryz.func196,Tryz.ntmps196;go_wp2_with fail
 repeat ((first | with_reducible refine(a1.out _).mono ?_ | with_reducible refine(J.out _).mono ?_ | with_reducible refine(Y.out _).mono ?_ | with_reducible refine(a0.out _).mono ?_);rintro e w' ⟨rfl,rfl⟩;go_wp2_with fail)
 go_ret;exact⟨by rw[Hv.out];try rfl,(Below.refl _ _).alloc (aY _) _⟩
theorem yV(kind:Int)(hk:kind=1∨kind=6)(fn name:ByteArray)(copy:Int)(n:Int)(w:World)(a1:bO (copy) true)(a2:eG (copy)=true)(Y:bO (n) true)(a3:eG (n)=true)(hf:fn.toList.isEmpty=false)(J:dK fn true)(a4:dg.bZ fn=true)(hn:name.toList.isEmpty=false)(a0:dK name false)(a5:dg.bZ name=false) :
 Calls Tryz.prog 196 #[Nd.val ⟨kind,fn,copy,name,n,-1⟩] w (dP (bP ⟨kind,fn,copy,name,n,-1⟩) w):=by
 have Hv:Hid (bP ⟨kind,fn,copy,name,n,-1⟩=false):=hid (by rcases hk with rfl | rfl <;> (unfold bP;simp only[*];unfold dL;simp));rcases hk with rfl | rfl
 all_goals
  unfold Nd.val Nd.cells;go_enter Tryz.func196,Tryz.ntmps196;go_wp2_with fail
  repeat ((first | with_reducible refine(a1.out _).mono ?_ | with_reducible refine(Y.out _).mono ?_ | with_reducible refine(J.out _).mono ?_ | with_reducible refine(a0.out _).mono ?_);rintro e w' ⟨rfl,rfl⟩;go_wp2_with fail)
  go_ret;exact⟨by rw[Hv.out];try rfl,(Below.refl _ _).alloc (aY _) _⟩
theorem aC1(fn name:ByteArray)(copy:Int)(n:Int)(w:World)(a0:bO (copy) true)(a2:eG (copy)=true)(Y:bO (n) true)(a3:eG (n)=true)(hf:fn.toList.isEmpty=false)(J:dK fn true)(a4:dg.bZ fn=true)(hn:name.toList.isEmpty=true)(a5:(n==0)=false)(a1:(n != 0)=true) :
 Calls Tryz.prog 196 #[Nd.val ⟨4,fn,copy,name,n,-1⟩] w (dP (bP ⟨4,fn,copy,name,n,-1⟩) w):=by
 have Hv:Hid (bP ⟨4,fn,copy,name,n,-1⟩=false):=hid (by unfold bP;simp only[*];unfold dL;simp only[*];simp);unfold Nd.val Nd.cells;go_enter Tryz.func196,Tryz.ntmps196;go_wp2_with fail
 repeat ((first | with_reducible refine(a0.out _).mono ?_ | with_reducible refine(Y.out _).mono ?_ | with_reducible refine(J.out _).mono ?_);rintro e w' ⟨rfl,rfl⟩;go_wp2_with fail)
 go_ret;exact⟨by rw[Hv.out];try rfl,(Below.refl _ _).alloc (aY _) _⟩
theorem aDl(fn name:ByteArray)(n:Int)(w:World)(a0:bO (0) true)(a2:eG (0)=true)(J:bO (n) true)(a3:eG (n)=true)(hf:fn.toList.isEmpty=true)(hn:name.toList.isEmpty=false)(Y:dK name true)(a5:dg.bZ name=true)(a4:(n==0)=false)(a1:(n != 0)=true) :
 Calls Tryz.prog 196 #[Nd.val ⟨5,fn,0,name,n,-1⟩] w (dP (bP ⟨5,fn,0,name,n,-1⟩) w):=by
 have Hv:Hid (bP ⟨5,fn,0,name,n,-1⟩=false):=hid (by unfold bP;simp only[*];unfold dL;simp only[*];simp);unfold Nd.val Nd.cells;go_enter Tryz.func196,Tryz.ntmps196;go_wp2_with fail
 repeat ((first | with_reducible refine(a0.out _).mono ?_ | with_reducible refine(J.out _).mono ?_ | with_reducible refine(Y.out _).mono ?_);rintro e w' ⟨rfl,rfl⟩;go_wp2_with fail)
 go_ret;exact⟨by rw[Hv.out];try rfl,(Below.refl _ _).alloc (aY _) _⟩
theorem yQ(kind:Int)(hk:kind=2∨kind=4)(fn name:ByteArray)(copy:Int)(w:World)(a0:bO (copy) true)(a1:eG (copy)=true)(Y:bO (0) true)(a2:eG (0)=true)(hf:fn.toList.isEmpty=false)(J:dK fn true)(a3:dg.bZ fn=true)(hn:name.toList.isEmpty=true) :
 Calls Tryz.prog 196 #[Nd.val ⟨kind,fn,copy,name,0,-1⟩] w (dP (bP ⟨kind,fn,copy,name,0,-1⟩) w):=by
 have Hv:Hid (bP ⟨kind,fn,copy,name,0,-1⟩=true):=hid (by rcases hk with rfl | rfl <;> (unfold bP;simp only[*];unfold dL;simp));rcases hk with rfl | rfl
 all_goals
  unfold Nd.val Nd.cells;go_enter Tryz.func196,Tryz.ntmps196;go_wp2_with fail
  repeat ((first | with_reducible refine(a0.out _).mono ?_ | with_reducible refine(Y.out _).mono ?_ | with_reducible refine(J.out _).mono ?_);rintro e w' ⟨rfl,rfl⟩;go_wp2_with fail)
  go_ret;exact⟨by rw[Hv.out];try rfl,(Below.refl _ _).alloc (aY _) _⟩
theorem aCO(fn name:ByteArray)(copy:Int)(n:Int)(w:World)(Y:bO (copy) true)(a0:eG (copy)=true)(J:bO (n) true)(a1:eG (n)=true)(hf:fn.toList.isEmpty=true)(a2:(copy != 0)=true) :
 Calls Tryz.prog 196 #[Nd.val ⟨5,fn,copy,name,n,-1⟩] w (dP (bP ⟨5,fn,copy,name,n,-1⟩) w):=by
 have Hv:Hid (bP ⟨5,fn,copy,name,n,-1⟩=false):=hid (by unfold bP;simp only[*];unfold dL;simp only[*];simp);unfold Nd.val Nd.cells;go_enter Tryz.func196,Tryz.ntmps196;go_wp2_with fail
 repeat ((first | with_reducible refine(Y.out _).mono ?_ | with_reducible refine(J.out _).mono ?_);rintro e w' ⟨rfl,rfl⟩;go_wp2_with fail)
 go_ret;exact⟨by rw[Hv.out];try rfl,(Below.refl _ _).alloc (aY _) _⟩
theorem aCt(fn name:ByteArray)(copy:Int)(cell:Int)(w:World)(a2:bO (copy) true)(a5:eG (copy)=true)(Y:bO (0) true)(a6:eG (0)=true)(a7:(cell==-1)=false)(a4:(cell != -1)=true)(a0:bO (cell) true)(a3:eG cell=true)(hf:fn.toList.isEmpty=false)(J:dK fn true)(a8:dg.bZ fn=true)(hn:name.toList.isEmpty=false)(a1:dK name true)(a9:dg.bZ name=true) :
 Calls Tryz.prog 196 #[Nd.val ⟨6,fn,copy,name,0,cell⟩] w (dP (bP ⟨6,fn,copy,name,0,cell⟩) w):=by
 have Hv:Hid (bP ⟨6,fn,copy,name,0,cell⟩=true):=hid (by unfold bP;simp only[*];unfold dL;simp only[*];simp);unfold Nd.val Nd.cells;go_enter Tryz.func196,Tryz.ntmps196;go_wp2_with fail
 repeat ((first | with_reducible refine(a2.out _).mono ?_ | with_reducible refine(Y.out _).mono ?_ | with_reducible refine(a0.out _).mono ?_ | with_reducible refine(J.out _).mono ?_ | with_reducible refine(a1.out _).mono ?_);rintro e w' ⟨rfl,rfl⟩;go_wp2_with fail)
 go_ret;exact⟨by rw[Hv.out];try rfl,(Below.refl _ _).alloc (aY _) _⟩
theorem sD(kind:Int)(hk:kind=2∨kind=3∨kind=4∨kind=7)(fn name:ByteArray)(copy:Int)(n:Int)(cell:Int)(w:World)(a1:bO (copy) true)(a4:eG (copy)=true)(Y:bO (n) true)(a5:eG (n)=true)(a6:(cell==-1)=false)(a3:(cell != -1)=true)(a0:bO (cell) true)(a2:eG cell=true)(hf:fn.toList.isEmpty=false)(J:dK fn true)(a7:dg.bZ fn=true)(hn:name.toList.isEmpty=false) :
 Calls Tryz.prog 196 #[Nd.val ⟨kind,fn,copy,name,n,cell⟩] w (dP (bP ⟨kind,fn,copy,name,n,cell⟩) w):=by
 have Hv:Hid (bP ⟨kind,fn,copy,name,n,cell⟩=false):=hid (by rcases hk with rfl | rfl | rfl | rfl <;> (unfold bP;simp only[*];unfold dL;simp only[*];simp));rcases hk with rfl | rfl | rfl | rfl
 all_goals
  unfold Nd.val Nd.cells;go_enter Tryz.func196,Tryz.ntmps196;go_wp2_with fail
  repeat ((first | with_reducible refine(a1.out _).mono ?_ | with_reducible refine(Y.out _).mono ?_ | with_reducible refine(a0.out _).mono ?_ | with_reducible refine(J.out _).mono ?_);rintro e w' ⟨rfl,rfl⟩;go_wp2_with fail)
  go_ret;exact⟨by rw[Hv.out];try rfl,(Below.refl _ _).alloc (aY _) _⟩
theorem yT(kind:Int)(hk:kind=1∨kind=6)(fn name:ByteArray)(copy:Int)(n:Int)(w:World)(a1:bO (copy) true)(a3:eG (copy)=true)(Y:bO (n) true)(a4:eG (n)=true)(hf:fn.toList.isEmpty=false)(J:dK fn true)(a5:dg.bZ fn=true)(hn:name.toList.isEmpty=false)(a0:dK name true)(a7:dg.bZ name=true)(a6:(n==0)=false)(a2:(n != 0)=true) :
 Calls Tryz.prog 196 #[Nd.val ⟨kind,fn,copy,name,n,-1⟩] w (dP (bP ⟨kind,fn,copy,name,n,-1⟩) w):=by
 have Hv:Hid (bP ⟨kind,fn,copy,name,n,-1⟩=false):=hid (by rcases hk with rfl | rfl <;> (unfold bP;simp only[*];unfold dL;simp only[*];simp));rcases hk with rfl | rfl
 all_goals
  unfold Nd.val Nd.cells;go_enter Tryz.func196,Tryz.ntmps196;go_wp2_with fail
  repeat ((first | with_reducible refine(a1.out _).mono ?_ | with_reducible refine(Y.out _).mono ?_ | with_reducible refine(J.out _).mono ?_ | with_reducible refine(a0.out _).mono ?_);rintro e w' ⟨rfl,rfl⟩;go_wp2_with fail)
  go_ret;exact⟨by rw[Hv.out];try rfl,(Below.refl _ _).alloc (aY _) _⟩
theorem zB(kind:Int)(hk:kind=1∨kind=6)(fn name:ByteArray)(copy:Int)(w:World)(a1:bO (copy) true)(a2:eG (copy)=true)(Y:bO (0) true)(a3:eG (0)=true)(hf:fn.toList.isEmpty=false)(J:dK fn true)(a4:dg.bZ fn=true)(hn:name.toList.isEmpty=false)(a0:dK name true)(a5:dg.bZ name=true) :
 Calls Tryz.prog 196 #[Nd.val ⟨kind,fn,copy,name,0,-1⟩] w (dP (bP ⟨kind,fn,copy,name,0,-1⟩) w):=by
 have Hv:Hid (bP ⟨kind,fn,copy,name,0,-1⟩=true):=hid (by rcases hk with rfl | rfl <;> (unfold bP;simp only[*];unfold dL;simp));rcases hk with rfl | rfl
 all_goals
  unfold Nd.val Nd.cells;go_enter Tryz.func196,Tryz.ntmps196;go_wp2_with fail
  repeat ((first | with_reducible refine(a1.out _).mono ?_ | with_reducible refine(Y.out _).mono ?_ | with_reducible refine(J.out _).mono ?_ | with_reducible refine(a0.out _).mono ?_);rintro e w' ⟨rfl,rfl⟩;go_wp2_with fail)
  go_ret;exact⟨by rw[Hv.out];try rfl,(Below.refl _ _).alloc (aY _) _⟩
theorem uT(kind:Int)(hk:kind=2∨kind=3∨kind=7)(fn name:ByteArray)(copy:Int)(n:Int)(w:World)(a0:bO (copy) true)(a2:eG (copy)=true)(Y:bO (n) true)(a3:eG (n)=true)(hf:fn.toList.isEmpty=false)(J:dK fn true)(a4:dg.bZ fn=true)(hn:name.toList.isEmpty=true)(a5:(n==0)=false)(a1:(n != 0)=true) :
 Calls Tryz.prog 196 #[Nd.val ⟨kind,fn,copy,name,n,-1⟩] w (dP (bP ⟨kind,fn,copy,name,n,-1⟩) w):=by
 have Hv:Hid (bP ⟨kind,fn,copy,name,n,-1⟩=true):=hid (by rcases hk with rfl | rfl | rfl <;> (unfold bP;simp only[*];unfold dL;simp only[*];simp));rcases hk with rfl | rfl | rfl
 all_goals
  unfold Nd.val Nd.cells;go_enter Tryz.func196,Tryz.ntmps196;go_wp2_with fail
  repeat ((first | with_reducible refine(a0.out _).mono ?_ | with_reducible refine(Y.out _).mono ?_ | with_reducible refine(J.out _).mono ?_);rintro e w' ⟨rfl,rfl⟩;go_wp2_with fail)
  go_ret;exact⟨by rw[Hv.out];try rfl,(Below.refl _ _).alloc (aY _) _⟩
theorem rW(kind:Int)(hk:kind=2∨kind=3∨kind=4∨kind=7)(fn name:ByteArray)(copy:Int)(n:Int)(w:World)(a0:bO (copy) true)(a1:eG (copy)=true)(Y:bO (n) true)(a2:eG (n)=true)(hf:fn.toList.isEmpty=false)(J:dK fn true)(a3:dg.bZ fn=true)(hn:name.toList.isEmpty=false) :
 Calls Tryz.prog 196 #[Nd.val ⟨kind,fn,copy,name,n,-1⟩] w (dP (bP ⟨kind,fn,copy,name,n,-1⟩) w):=by
 have Hv:Hid (bP ⟨kind,fn,copy,name,n,-1⟩=false):=hid (by rcases hk with rfl | rfl | rfl | rfl <;> (unfold bP;simp only[*];unfold dL;simp));rcases hk with rfl | rfl | rfl | rfl
 all_goals
  unfold Nd.val Nd.cells;go_enter Tryz.func196,Tryz.ntmps196;go_wp2_with fail
  repeat ((first | with_reducible refine(a0.out _).mono ?_ | with_reducible refine(Y.out _).mono ?_ | with_reducible refine(J.out _).mono ?_);rintro e w' ⟨rfl,rfl⟩;go_wp2_with fail)
  go_ret;exact⟨by rw[Hv.out];try rfl,(Below.refl _ _).alloc (aY _) _⟩
theorem aDy(fn name:ByteArray)(n:Int)(w:World)(a0:bO (0) true)(a1:eG (0)=true)(J:bO (n) true)(a2:eG (n)=true)(hf:fn.toList.isEmpty=true)(hn:name.toList.isEmpty=false)(Y:dK name false)(a3:dg.bZ name=false) :
 Calls Tryz.prog 196 #[Nd.val ⟨5,fn,0,name,n,-1⟩] w (dP (bP ⟨5,fn,0,name,n,-1⟩) w):=by
 have Hv:Hid (bP ⟨5,fn,0,name,n,-1⟩=false):=hid (by unfold bP;simp only[*];unfold dL;simp);unfold Nd.val Nd.cells;go_enter Tryz.func196,Tryz.ntmps196;go_wp2_with fail
 repeat ((first | with_reducible refine(a0.out _).mono ?_ | with_reducible refine(J.out _).mono ?_ | with_reducible refine(Y.out _).mono ?_);rintro e w' ⟨rfl,rfl⟩;go_wp2_with fail)
 go_ret;exact⟨by rw[Hv.out];try rfl,(Below.refl _ _).alloc (aY _) _⟩
theorem aEw(fn name:ByteArray)(n:Int)(w:World)(Y:bO (0) true)(a0:eG (0)=true)(J:bO (n) true)(a1:eG (n)=true)(hf:fn.toList.isEmpty=true)(hn:name.toList.isEmpty=true) :
 Calls Tryz.prog 196 #[Nd.val ⟨5,fn,0,name,n,-1⟩] w (dP (bP ⟨5,fn,0,name,n,-1⟩) w):=by
 have Hv:Hid (bP ⟨5,fn,0,name,n,-1⟩=false):=hid (by unfold bP;simp only[*];unfold dL;simp);unfold Nd.val Nd.cells;go_enter Tryz.func196,Tryz.ntmps196;go_wp2_with fail
 repeat ((first | with_reducible refine(Y.out _).mono ?_ | with_reducible refine(J.out _).mono ?_);rintro e w' ⟨rfl,rfl⟩;go_wp2_with fail)
 go_ret;exact⟨by rw[Hv.out];try rfl,(Below.refl _ _).alloc (aY _) _⟩
end nm
end Go.Proofs.YtdmmkjijgoiecaaGreatDoor
