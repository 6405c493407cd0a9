import Derived.Lib.QuietBelow
import Derived.WalkSmall
import Derived.Test.YtlkboeajkgbnaaaGreatDoorC05
set_option linter.all false
set_option maxHeartbeats 4000000
namespace Go.Proofs.YtlkboeajkgbnaaaGreatDoor
open Lib(hid)
set_option maxRecDepth 100000
namespace nm
open RowKit Go.Sort
abbrev Q152iNm8(c:Int)(b:Bool):Prop:=Hid (∀w,Calls Tryz.prog 152 #[.int .i64 c] w fun e w'=>e=.returned (.bool b)∧w=w')
abbrev Q46sNm8(c:ByteArray)(b:Bool):Prop:=Hid (∀w,Calls Tryz.prog 46 #[.string c] w fun e w'=>e=.returned (.bool b)∧w=w')
def rcB(n:Int):Bool:=decide (0≤n∧n≤268435456)
theorem rcount_any(n:Int)(w:World):Calls Tryz.prog 152 #[.int .i64 n] w fun e w'=>e=.returned (.bool (rcB n))∧w=w':=by
 by_cases h0:0≤n
 ·have h0':decide (n<0)=false:=by simp;omega
  have Hv:Hid (rcB n=decide (n≤268435456)):=hid (by unfold rcB;simp[h0]);go_enter Tryz.func152,Tryz.ntmps152;go_wp2_with fail;go_ret;exact⟨by rw[Hv.out];rfl,rfl⟩
 ·have Hv:Hid (rcB n=false):=hid (by unfold rcB;simp[h0])
  have h0':decide (n<0)=true:=by simp;omega
  go_enter Tryz.func152,Tryz.ntmps152;go_wp2_with fail;go_ret;exact⟨by rw[Hv.out];rfl,rfl⟩
def RPost(b:Bool)(w:World)(e:Ending)(w':World):Prop:=e=.returned (.bool b)∧Below w.heap.size w w'
theorem right_kind(kind:Int)(fn:ByteArray)(copy:Int)(name:ByteArray)(n cell:Int)(w:World)(h:¬(1≤kind∧kind≤7)) :
 Calls Tryz.prog 133 #[Nd.val ⟨kind,fn,copy,name,n,cell⟩] w (RPost false w):=by
 unfold Nd.val Nd.cells;by_cases h1:kind<1
 ·clear h
  go_enter Tryz.func133,Tryz.ntmps133;go_wp2_with fail;go_ret;exact⟨rfl,(Below.refl _ _).alloc (Nat.le_refl _) _⟩
 ·have h2:7<kind:=by omega
  clear h;go_enter Tryz.func133,Tryz.ntmps133;go_wp2_with fail;go_ret;exact⟨rfl,(Below.refl _ _).alloc (Nat.le_refl _) _⟩
def rightF(k copy n cell:Int)(c1 c2 c3 fE fN nE nN:Bool):Bool:=
 (decide (1≤k∧k≤7)&&(c1&&(c2&&((cell==-1)||c3)))) &&
 ((!(((k==5) != fE)||((!fE&&!fN)||((k==5)&&(copy != 0))))) &&
 ((!(((k==1||(k==5||k==6)) != !nE)||((k==1||(k==5||k==6))&&!nN))) &&
 ((!((!(k==2||(k==3||k==7))&&(n != 0))||((n==0)&&(k==3||k==7)))) &&
 (decide (5≤k)||(cell==-1)))))
def rightB(d:Nd):Bool:=rightF d.kind d.copy d.n d.cell (rcB d.copy) (rcB d.n) (rcB d.cell) d.fn.toList.isEmpty (dg.nameB d.fn) d.name.toList.isEmpty (dg.nameB d.name)
theorem right_copy(kind:Int)(fn:ByteArray)(copy:Int)(name:ByteArray)(n cell:Int)(w:World)(h1:1≤kind)(h7:kind≤7)(Hc1:Q152iNm8 (copy) false)(hc1:rcB copy=false) :
 Calls Tryz.prog 133 #[Nd.val ⟨kind,fn,copy,name,n,cell⟩] w (RPost (rightB ⟨kind,fn,copy,name,n,cell⟩) w):=by
 have hk1:decide (kind<1)=false:=decide_eq_false (by omega);have hk7:decide (7<kind)=false:=decide_eq_false (by omega);have Hv:Hid (rightB ⟨kind,fn,copy,name,n,cell⟩=false):=hid (by unfold rightB;simp only[hc1];unfold rightF;simp);unfold Nd.val Nd.cells;clear h1 h7;go_enter Tryz.func133,Tryz.ntmps133;go_wp2_with fail
 repeat (first | (with_reducible refine(Hc1.out _).mono ?_;rintro e w' ⟨rfl,rfl⟩;go_wp2_with fail))
 go_ret;exact⟨by rw[Hv.out];try rfl,(Below.refl _ _).alloc (Nat.le_refl _) _⟩
theorem right_n(kind:Int)(fn:ByteArray)(copy:Int)(name:ByteArray)(n cell:Int)(w:World)(h1:1≤kind)(h7:kind≤7)(Hc1:Q152iNm8 (copy) true)(Hc2:Q152iNm8 (n) false)(hc2:rcB n=false) :
 Calls Tryz.prog 133 #[Nd.val ⟨kind,fn,copy,name,n,cell⟩] w (RPost (rightB ⟨kind,fn,copy,name,n,cell⟩) w):=by
 have hk1:decide (kind<1)=false:=decide_eq_false (by omega);have hk7:decide (7<kind)=false:=decide_eq_false (by omega);have Hv:Hid (rightB ⟨kind,fn,copy,name,n,cell⟩=false):=hid (by unfold rightB;simp only[hc2];unfold rightF;simp);unfold Nd.val Nd.cells;clear h1 h7;go_enter Tryz.func133,Tryz.ntmps133;go_wp2_with fail
 repeat ((first | with_reducible refine(Hc1.out _).mono ?_ | with_reducible refine(Hc2.out _).mono ?_);rintro e w' ⟨rfl,rfl⟩;go_wp2_with fail)
 go_ret;exact⟨by rw[Hv.out];try rfl,(Below.refl _ _).alloc (Nat.le_refl _) _⟩
theorem right_cell(kind:Int)(fn:ByteArray)(copy:Int)(name:ByteArray)(n cell:Int)(w:World)(h1:1≤kind)(h7:kind≤7)(Hc1:Q152iNm8 (copy) true)(Hc2:Q152iNm8 (n) true)(Hc3:Q152iNm8 (cell) false)(hc3:rcB cell=false)(hz3:(cell==-1)=false)(hz4:(cell != -1)=true) :
 Calls Tryz.prog 133 #[Nd.val ⟨kind,fn,copy,name,n,cell⟩] w (RPost (rightB ⟨kind,fn,copy,name,n,cell⟩) w):=by
 have hk1:decide (kind<1)=false:=decide_eq_false (by omega);have hk7:decide (7<kind)=false:=decide_eq_false (by omega);have Hv:Hid (rightB ⟨kind,fn,copy,name,n,cell⟩=false):=hid (by unfold rightB;simp only[hc3];unfold rightF;simp only[hz3];simp);unfold Nd.val Nd.cells;clear h1 h7;go_enter Tryz.func133,Tryz.ntmps133;go_wp2_with fail
 repeat ((first | with_reducible refine(Hc1.out _).mono ?_ | with_reducible refine(Hc2.out _).mono ?_ | with_reducible refine(Hc3.out _).mono ?_);rintro e w' ⟨rfl,rfl⟩;go_wp2_with fail)
 go_ret;exact⟨by rw[Hv.out];try rfl,(Below.refl _ _).alloc (Nat.le_refl _) _⟩
theorem cnt_val{x:Int}{b:Bool}(h:rcB x=b):Q152iNm8 x b:=hid fun w=>by rw[←h];exact rcount_any x w
theorem nam_val{x:ByteArray}{b:Bool}(hs:x.size≤maxLen)(h:dg.nameB x=b):Q46sNm8 x b:=hid fun w=>by rw[←h];exact dg.rname_any x w hs
abbrev Q152iNm8a(c:Int)(b:Bool):Prop:=Hid (∀w,Calls Tryz.prog 152 #[.int .i64 c] w fun e w'=>e=.returned (.bool b)∧w=w')
abbrev Q46sNm8a(c:ByteArray)(b:Bool):Prop:=Hid (∀w,Calls Tryz.prog 46 #[.string c] w fun e w'=>e=.returned (.bool b)∧w=w')
theorem right_1c_nz(kind:Int)(hk:kind=1∨kind=6)(fn name:ByteArray)(copy:Int)(n:Int)(cell:Int)(w:World)(Hc1:Q152iNm8a (copy) true)(hc1:rcB (copy)=true)(Hc2:Q152iNm8a (n) true)(hc2:rcB (n)=true)(hz3:(cell==-1)=false)(hz4:(cell != -1)=true)(Hc3:Q152iNm8a (cell) true)(hc3:rcB cell=true)(hf:fn.toList.isEmpty=false)(Hnf:Q46sNm8a fn true)(hnf:dg.nameB fn=true)(hn:name.toList.isEmpty=false)(Hnn:Q46sNm8a name true)(hnn:dg.nameB name=true)(hz1:(n==0)=false)(hz2:(n != 0)=true) :
 Calls Tryz.prog 133 #[Nd.val ⟨kind,fn,copy,name,n,cell⟩] w (RPost (rightB ⟨kind,fn,copy,name,n,cell⟩) w):=by
 have Hv:Hid (rightB ⟨kind,fn,copy,name,n,cell⟩=false):=hid (by rcases hk with rfl | rfl <;> (unfold rightB;simp only[*];unfold rightF;simp only[*];simp));rcases hk with rfl | rfl
 all_goals
  unfold Nd.val Nd.cells;go_enter Tryz.func133,Tryz.ntmps133;go_wp2_with fail
  repeat ((first | with_reducible refine(Hc1.out _).mono ?_ | with_reducible refine(Hc2.out _).mono ?_ | with_reducible refine(Hc3.out _).mono ?_ | with_reducible refine(Hnf.out _).mono ?_ | with_reducible refine(Hnn.out _).mono ?_);rintro e w' ⟨rfl,rfl⟩;go_wp2_with fail)
  go_ret;exact⟨by rw[Hv.out];try rfl,(Below.refl _ _).alloc (Nat.le_refl _) _⟩
theorem right_2c_nz(kind:Int)(hk:kind=2∨kind=3∨kind=4)(fn name:ByteArray)(copy:Int)(n:Int)(cell:Int)(w:World)(Hc1:Q152iNm8a (copy) true)(hc1:rcB (copy)=true)(Hc2:Q152iNm8a (n) true)(hc2:rcB (n)=true)(hz3:(cell==-1)=false)(hz4:(cell != -1)=true)(Hc3:Q152iNm8a (cell) true)(hc3:rcB cell=true)(hf:fn.toList.isEmpty=false)(Hnf:Q46sNm8a fn true)(hnf:dg.nameB fn=true)(hn:name.toList.isEmpty=true)(hz1:(n==0)=false)(hz2:(n != 0)=true) :
 Calls Tryz.prog 133 #[Nd.val ⟨kind,fn,copy,name,n,cell⟩] w (RPost (rightB ⟨kind,fn,copy,name,n,cell⟩) w):=by
 have Hv:Hid (rightB ⟨kind,fn,copy,name,n,cell⟩=false):=hid (by rcases hk with rfl | rfl | rfl <;> (unfold rightB;simp only[*];unfold rightF;simp only[*];simp));rcases hk with rfl | rfl | rfl
 all_goals
  unfold Nd.val Nd.cells;go_enter Tryz.func133,Tryz.ntmps133;go_wp2_with fail
  repeat ((first | with_reducible refine(Hc1.out _).mono ?_ | with_reducible refine(Hc2.out _).mono ?_ | with_reducible refine(Hc3.out _).mono ?_ | with_reducible refine(Hnf.out _).mono ?_);rintro e w' ⟨rfl,rfl⟩;go_wp2_with fail)
  go_ret;exact⟨by rw[Hv.out];try rfl,(Below.refl _ _).alloc (Nat.le_refl _) _⟩
theorem right_1c_n(kind:Int)(hk:kind=1∨kind=6)(fn name:ByteArray)(copy:Int)(n:Int)(cell:Int)(w:World)(Hc1:Q152iNm8a (copy) true)(hc1:rcB (copy)=true)(Hc2:Q152iNm8a (n) true)(hc2:rcB (n)=true)(hz3:(cell==-1)=false)(hz4:(cell != -1)=true)(Hc3:Q152iNm8a (cell) true)(hc3:rcB cell=true)(hf:fn.toList.isEmpty=false)(Hnf:Q46sNm8a fn true)(hnf:dg.nameB fn=true)(hn:name.toList.isEmpty=true) :
 Calls Tryz.prog 133 #[Nd.val ⟨kind,fn,copy,name,n,cell⟩] w (RPost (rightB ⟨kind,fn,copy,name,n,cell⟩) w):=by
 have Hv:Hid (rightB ⟨kind,fn,copy,name,n,cell⟩=false):=hid (by rcases hk with rfl | rfl <;> (unfold rightB;simp only[*];unfold rightF;simp only[*];simp));rcases hk with rfl | rfl
 all_goals
  unfold Nd.val Nd.cells;go_enter Tryz.func133,Tryz.ntmps133;go_wp2_with fail
  repeat ((first | with_reducible refine(Hc1.out _).mono ?_ | with_reducible refine(Hc2.out _).mono ?_ | with_reducible refine(Hc3.out _).mono ?_ | with_reducible refine(Hnf.out _).mono ?_);rintro e w' ⟨rfl,rfl⟩;go_wp2_with fail)
  go_ret;exact⟨by rw[Hv.out];try rfl,(Below.refl _ _).alloc (Nat.le_refl _) _⟩
theorem right_1c_fn(kind:Int)(hk:kind=1∨kind=2∨kind=3∨kind=4∨kind=6∨kind=7)(fn name:ByteArray)(copy:Int)(n:Int)(cell:Int)(w:World)(Hc1:Q152iNm8a (copy) true)(hc1:rcB (copy)=true)(Hc2:Q152iNm8a (n) true)(hc2:rcB (n)=true)(hz3:(cell==-1)=false)(hz4:(cell != -1)=true)(Hc3:Q152iNm8a (cell) true)(hc3:rcB cell=true)(hf:fn.toList.isEmpty=false)(Hnf:Q46sNm8a fn false)(hnf:dg.nameB fn=false) :
 Calls Tryz.prog 133 #[Nd.val ⟨kind,fn,copy,name,n,cell⟩] w (RPost (rightB ⟨kind,fn,copy,name,n,cell⟩) w):=by
 have Hv:Hid (rightB ⟨kind,fn,copy,name,n,cell⟩=false):=hid (by rcases hk with rfl | rfl | rfl | rfl | rfl | rfl <;> (unfold rightB;simp only[*];unfold rightF;simp only[*];simp));rcases hk with rfl | rfl | rfl | rfl | rfl | rfl
 all_goals
  unfold Nd.val Nd.cells;go_enter Tryz.func133,Tryz.ntmps133;go_wp2_with fail
  repeat ((first | with_reducible refine(Hc1.out _).mono ?_ | with_reducible refine(Hc2.out _).mono ?_ | with_reducible refine(Hc3.out _).mono ?_ | with_reducible refine(Hnf.out _).mono ?_);rintro e w' ⟨rfl,rfl⟩;go_wp2_with fail)
  go_ret;exact⟨by rw[Hv.out];try rfl,(Below.refl _ _).alloc (Nat.le_refl _) _⟩
theorem right_5c_cp(fn name:ByteArray)(copy:Int)(n:Int)(cell:Int)(w:World)(Hc1:Q152iNm8a (copy) true)(hc1:rcB (copy)=true)(Hc2:Q152iNm8a (n) true)(hc2:rcB (n)=true)(hz3:(cell==-1)=false)(hz4:(cell != -1)=true)(Hc3:Q152iNm8a (cell) true)(hc3:rcB cell=true)(hf:fn.toList.isEmpty=true)(hz5:(copy != 0)=true) :
 Calls Tryz.prog 133 #[Nd.val ⟨5,fn,copy,name,n,cell⟩] w (RPost (rightB ⟨5,fn,copy,name,n,cell⟩) w):=by
 have Hv:Hid (rightB ⟨5,fn,copy,name,n,cell⟩=false):=hid (by unfold rightB;simp only[*];unfold rightF;simp only[*];simp);unfold Nd.val Nd.cells;go_enter Tryz.func133,Tryz.ntmps133;go_wp2_with fail
 repeat ((first | with_reducible refine(Hc1.out _).mono ?_ | with_reducible refine(Hc2.out _).mono ?_ | with_reducible refine(Hc3.out _).mono ?_);rintro e w' ⟨rfl,rfl⟩;go_wp2_with fail)
 go_ret;exact⟨by rw[Hv.out];try rfl,(Below.refl _ _).alloc (Nat.le_refl _) _⟩
theorem right_5c_f(fn name:ByteArray)(copy:Int)(n:Int)(cell:Int)(w:World)(Hc1:Q152iNm8a (copy) true)(hc1:rcB (copy)=true)(Hc2:Q152iNm8a (n) true)(hc2:rcB (n)=true)(hz3:(cell==-1)=false)(hz4:(cell != -1)=true)(Hc3:Q152iNm8a (cell) true)(hc3:rcB cell=true)(hf:fn.toList.isEmpty=false) :
 Calls Tryz.prog 133 #[Nd.val ⟨5,fn,copy,name,n,cell⟩] w (RPost (rightB ⟨5,fn,copy,name,n,cell⟩) w):=by
 have Hv:Hid (rightB ⟨5,fn,copy,name,n,cell⟩=false):=hid (by unfold rightB;simp only[*];unfold rightF;simp only[*];simp);unfold Nd.val Nd.cells;go_enter Tryz.func133,Tryz.ntmps133;go_wp2_with fail
 repeat ((first | with_reducible refine(Hc1.out _).mono ?_ | with_reducible refine(Hc2.out _).mono ?_ | with_reducible refine(Hc3.out _).mono ?_);rintro e w' ⟨rfl,rfl⟩;go_wp2_with fail)
 go_ret;exact⟨by rw[Hv.out];try rfl,(Below.refl _ _).alloc (Nat.le_refl _) _⟩
theorem right_1m_n(kind:Int)(hk:kind=1∨kind=6)(fn name:ByteArray)(copy:Int)(n:Int)(w:World)(Hc1:Q152iNm8a (copy) true)(hc1:rcB (copy)=true)(Hc2:Q152iNm8a (n) true)(hc2:rcB (n)=true)(hf:fn.toList.isEmpty=false)(Hnf:Q46sNm8a fn true)(hnf:dg.nameB fn=true)(hn:name.toList.isEmpty=true) :
 Calls Tryz.prog 133 #[Nd.val ⟨kind,fn,copy,name,n,-1⟩] w (RPost (rightB ⟨kind,fn,copy,name,n,-1⟩) w):=by
 have Hv:Hid (rightB ⟨kind,fn,copy,name,n,-1⟩=false):=hid (by rcases hk with rfl | rfl <;> (unfold rightB;simp only[*];unfold rightF;simp));rcases hk with rfl | rfl
 all_goals
  unfold Nd.val Nd.cells;go_enter Tryz.func133,Tryz.ntmps133;go_wp2_with fail
  repeat ((first | with_reducible refine(Hc1.out _).mono ?_ | with_reducible refine(Hc2.out _).mono ?_ | with_reducible refine(Hnf.out _).mono ?_);rintro e w' ⟨rfl,rfl⟩;go_wp2_with fail)
  go_ret;exact⟨by rw[Hv.out];try rfl,(Below.refl _ _).alloc (Nat.le_refl _) _⟩
theorem right_1m_fn(kind:Int)(hk:kind=1∨kind=2∨kind=3∨kind=4∨kind=6∨kind=7)(fn name:ByteArray)(copy:Int)(n:Int)(w:World)(Hc1:Q152iNm8a (copy) true)(hc1:rcB (copy)=true)(Hc2:Q152iNm8a (n) true)(hc2:rcB (n)=true)(hf:fn.toList.isEmpty=false)(Hnf:Q46sNm8a fn false)(hnf:dg.nameB fn=false) :
 Calls Tryz.prog 133 #[Nd.val ⟨kind,fn,copy,name,n,-1⟩] w (RPost (rightB ⟨kind,fn,copy,name,n,-1⟩) w):=by
 have Hv:Hid (rightB ⟨kind,fn,copy,name,n,-1⟩=false):=hid (by rcases hk with rfl | rfl | rfl | rfl | rfl | rfl <;> (unfold rightB;simp only[*];unfold rightF;simp));rcases hk with rfl | rfl | rfl | rfl | rfl | rfl
 all_goals
  unfold Nd.val Nd.cells;go_enter Tryz.func133,Tryz.ntmps133;go_wp2_with fail
  repeat ((first | with_reducible refine(Hc1.out _).mono ?_ | with_reducible refine(Hc2.out _).mono ?_ | with_reducible refine(Hnf.out _).mono ?_);rintro e w' ⟨rfl,rfl⟩;go_wp2_with fail)
  go_ret;exact⟨by rw[Hv.out];try rfl,(Below.refl _ _).alloc (Nat.le_refl _) _⟩
theorem right_5m_f(fn name:ByteArray)(copy:Int)(n:Int)(w:World)(Hc1:Q152iNm8a (copy) true)(hc1:rcB (copy)=true)(Hc2:Q152iNm8a (n) true)(hc2:rcB (n)=true)(hf:fn.toList.isEmpty=false) :
 Calls Tryz.prog 133 #[Nd.val ⟨5,fn,copy,name,n,-1⟩] w (RPost (rightB ⟨5,fn,copy,name,n,-1⟩) w):=by
 have Hv:Hid (rightB ⟨5,fn,copy,name,n,-1⟩=false):=hid (by unfold rightB;simp only[*];unfold rightF;simp);unfold Nd.val Nd.cells;go_enter Tryz.func133,Tryz.ntmps133;go_wp2_with fail
 repeat ((first | with_reducible refine(Hc1.out _).mono ?_ | with_reducible refine(Hc2.out _).mono ?_);rintro e w' ⟨rfl,rfl⟩;go_wp2_with fail)
 go_ret;exact⟨by rw[Hv.out];try rfl,(Below.refl _ _).alloc (Nat.le_refl _) _⟩
abbrev Q152iNm8b(c:Int)(b:Bool):Prop:=Hid (∀w,Calls Tryz.prog 152 #[.int .i64 c] w fun e w'=>e=.returned (.bool b)∧w=w')
abbrev Q46sNm8b(c:ByteArray)(b:Bool):Prop:=Hid (∀w,Calls Tryz.prog 46 #[.string c] w fun e w'=>e=.returned (.bool b)∧w=w')
theorem right_1c_nn(kind:Int)(hk:kind=1∨kind=6)(fn name:ByteArray)(copy:Int)(n:Int)(cell:Int)(w:World)(Hc1:Q152iNm8b (copy) true)(hc1:rcB (copy)=true)(Hc2:Q152iNm8b (n) true)(hc2:rcB (n)=true)(hz3:(cell==-1)=false)(hz4:(cell != -1)=true)(Hc3:Q152iNm8b (cell) true)(hc3:rcB cell=true)(hf:fn.toList.isEmpty=false)(Hnf:Q46sNm8b fn true)(hnf:dg.nameB fn=true)(hn:name.toList.isEmpty=false)(Hnn:Q46sNm8b name false)(hnn:dg.nameB name=false) :
 Calls Tryz.prog 133 #[Nd.val ⟨kind,fn,copy,name,n,cell⟩] w (RPost (rightB ⟨kind,fn,copy,name,n,cell⟩) w):=by
 have Hv:Hid (rightB ⟨kind,fn,copy,name,n,cell⟩=false):=hid (by rcases hk with rfl | rfl <;> (unfold rightB;simp only[*];unfold rightF;simp only[*];simp));rcases hk with rfl | rfl
 all_goals
  unfold Nd.val Nd.cells;go_enter Tryz.func133,Tryz.ntmps133;go_wp2_with fail
  repeat ((first | with_reducible refine(Hc1.out _).mono ?_ | with_reducible refine(Hc2.out _).mono ?_ | with_reducible refine(Hc3.out _).mono ?_ | with_reducible refine(Hnf.out _).mono ?_ | with_reducible refine(Hnn.out _).mono ?_);rintro e w' ⟨rfl,rfl⟩;go_wp2_with fail)
  go_ret;exact⟨by rw[Hv.out];try rfl,(Below.refl _ _).alloc (Nat.le_refl _) _⟩
theorem right_7c_nz(fn name:ByteArray)(copy:Int)(n:Int)(cell:Int)(w:World)(Hc1:Q152iNm8b (copy) true)(hc1:rcB (copy)=true)(Hc2:Q152iNm8b (n) true)(hc2:rcB (n)=true)(hz3:(cell==-1)=false)(hz4:(cell != -1)=true)(Hc3:Q152iNm8b (cell) true)(hc3:rcB cell=true)(hf:fn.toList.isEmpty=false)(Hnf:Q46sNm8b fn true)(hnf:dg.nameB fn=true)(hn:name.toList.isEmpty=true)(hz1:(n==0)=false)(hz2:(n != 0)=true) :
 Calls Tryz.prog 133 #[Nd.val ⟨7,fn,copy,name,n,cell⟩] w (RPost (rightB ⟨7,fn,copy,name,n,cell⟩) w):=by
 have Hv:Hid (rightB ⟨7,fn,copy,name,n,cell⟩=true):=hid (by unfold rightB;simp only[*];unfold rightF;simp only[*];simp);unfold Nd.val Nd.cells;go_enter Tryz.func133,Tryz.ntmps133;go_wp2_with fail
 repeat ((first | with_reducible refine(Hc1.out _).mono ?_ | with_reducible refine(Hc2.out _).mono ?_ | with_reducible refine(Hc3.out _).mono ?_ | with_reducible refine(Hnf.out _).mono ?_);rintro e w' ⟨rfl,rfl⟩;go_wp2_with fail)
 go_ret;exact⟨by rw[Hv.out];try rfl,(Below.refl _ _).alloc (Nat.le_refl _) _⟩
theorem right_2c_zz(kind:Int)(hk:kind=2∨kind=3∨kind=4∨kind=7)(fn name:ByteArray)(copy:Int)(cell:Int)(w:World)(Hc1:Q152iNm8b (copy) true)(hc1:rcB (copy)=true)(Hc2:Q152iNm8b (0) true)(hc2:rcB (0)=true)(hz3:(cell==-1)=false)(hz4:(cell != -1)=true)(Hc3:Q152iNm8b (cell) true)(hc3:rcB cell=true)(hf:fn.toList.isEmpty=false)(Hnf:Q46sNm8b fn true)(hnf:dg.nameB fn=true)(hn:name.toList.isEmpty=true) :
 Calls Tryz.prog 133 #[Nd.val ⟨kind,fn,copy,name,0,cell⟩] w (RPost (rightB ⟨kind,fn,copy,name,0,cell⟩) w):=by
 have Hv:Hid (rightB ⟨kind,fn,copy,name,0,cell⟩=false):=hid (by rcases hk with rfl | rfl | rfl | rfl <;> (unfold rightB;simp only[*];unfold rightF;simp only[*];simp));rcases hk with rfl | rfl | rfl | rfl
 all_goals
  unfold Nd.val Nd.cells;go_enter Tryz.func133,Tryz.ntmps133;go_wp2_with fail
  repeat ((first | with_reducible refine(Hc1.out _).mono ?_ | with_reducible refine(Hc2.out _).mono ?_ | with_reducible refine(Hc3.out _).mono ?_ | with_reducible refine(Hnf.out _).mono ?_);rintro e w' ⟨rfl,rfl⟩;go_wp2_with fail)
  go_ret;exact⟨by rw[Hv.out];try rfl,(Below.refl _ _).alloc (Nat.le_refl _) _⟩
theorem right_5c_zz(fn name:ByteArray)(cell:Int)(w:World)(Hc1:Q152iNm8b (0) true)(hc1:rcB (0)=true)(Hc2:Q152iNm8b (0) true)(hc2:rcB (0)=true)(hz3:(cell==-1)=false)(hz4:(cell != -1)=true)(Hc3:Q152iNm8b (cell) true)(hc3:rcB cell=true)(hf:fn.toList.isEmpty=true)(hn:name.toList.isEmpty=false)(Hnn:Q46sNm8b name true)(hnn:dg.nameB name=true) :
 Calls Tryz.prog 133 #[Nd.val ⟨5,fn,0,name,0,cell⟩] w (RPost (rightB ⟨5,fn,0,name,0,cell⟩) w):=by
 have Hv:Hid (rightB ⟨5,fn,0,name,0,cell⟩=true):=hid (by unfold rightB;simp only[*];unfold rightF;simp only[*];simp);unfold Nd.val Nd.cells;go_enter Tryz.func133,Tryz.ntmps133;go_wp2_with fail
 repeat ((first | with_reducible refine(Hc1.out _).mono ?_ | with_reducible refine(Hc2.out _).mono ?_ | with_reducible refine(Hc3.out _).mono ?_ | with_reducible refine(Hnn.out _).mono ?_);rintro e w' ⟨rfl,rfl⟩;go_wp2_with fail)
 go_ret;exact⟨by rw[Hv.out];try rfl,(Below.refl _ _).alloc (Nat.le_refl _) _⟩
theorem right_5c_n(fn name:ByteArray)(n:Int)(cell:Int)(w:World)(Hc1:Q152iNm8b (0) true)(hc1:rcB (0)=true)(Hc2:Q152iNm8b (n) true)(hc2:rcB (n)=true)(hz3:(cell==-1)=false)(hz4:(cell != -1)=true)(Hc3:Q152iNm8b (cell) true)(hc3:rcB cell=true)(hf:fn.toList.isEmpty=true)(hn:name.toList.isEmpty=true) :
 Calls Tryz.prog 133 #[Nd.val ⟨5,fn,0,name,n,cell⟩] w (RPost (rightB ⟨5,fn,0,name,n,cell⟩) w):=by
 have Hv:Hid (rightB ⟨5,fn,0,name,n,cell⟩=false):=hid (by unfold rightB;simp only[*];unfold rightF;simp only[*];simp);unfold Nd.val Nd.cells;go_enter Tryz.func133,Tryz.ntmps133;go_wp2_with fail
 repeat ((first | with_reducible refine(Hc1.out _).mono ?_ | with_reducible refine(Hc2.out _).mono ?_ | with_reducible refine(Hc3.out _).mono ?_);rintro e w' ⟨rfl,rfl⟩;go_wp2_with fail)
 go_ret;exact⟨by rw[Hv.out];try rfl,(Below.refl _ _).alloc (Nat.le_refl _) _⟩
theorem right_1c_f(kind:Int)(hk:kind=1∨kind=2∨kind=3∨kind=4∨kind=6∨kind=7)(fn name:ByteArray)(copy:Int)(n:Int)(cell:Int)(w:World)(Hc1:Q152iNm8b (copy) true)(hc1:rcB (copy)=true)(Hc2:Q152iNm8b (n) true)(hc2:rcB (n)=true)(hz3:(cell==-1)=false)(hz4:(cell != -1)=true)(Hc3:Q152iNm8b (cell) true)(hc3:rcB cell=true)(hf:fn.toList.isEmpty=true) :
 Calls Tryz.prog 133 #[Nd.val ⟨kind,fn,copy,name,n,cell⟩] w (RPost (rightB ⟨kind,fn,copy,name,n,cell⟩) w):=by
 have Hv:Hid (rightB ⟨kind,fn,copy,name,n,cell⟩=false):=hid (by rcases hk with rfl | rfl | rfl | rfl | rfl | rfl <;> (unfold rightB;simp only[*];unfold rightF;simp only[*];simp));rcases hk with rfl | rfl | rfl | rfl | rfl | rfl
 all_goals
  unfold Nd.val Nd.cells;go_enter Tryz.func133,Tryz.ntmps133;go_wp2_with fail
  repeat ((first | with_reducible refine(Hc1.out _).mono ?_ | with_reducible refine(Hc2.out _).mono ?_ | with_reducible refine(Hc3.out _).mono ?_);rintro e w' ⟨rfl,rfl⟩;go_wp2_with fail)
  go_ret;exact⟨by rw[Hv.out];try rfl,(Below.refl _ _).alloc (Nat.le_refl _) _⟩
theorem right_3m_zz(kind:Int)(hk:kind=3∨kind=7)(fn name:ByteArray)(copy:Int)(w:World)(Hc1:Q152iNm8b (copy) true)(hc1:rcB (copy)=true)(Hc2:Q152iNm8b (0) true)(hc2:rcB (0)=true)(hf:fn.toList.isEmpty=false)(Hnf:Q46sNm8b fn true)(hnf:dg.nameB fn=true)(hn:name.toList.isEmpty=true) :
 Calls Tryz.prog 133 #[Nd.val ⟨kind,fn,copy,name,0,-1⟩] w (RPost (rightB ⟨kind,fn,copy,name,0,-1⟩) w):=by
 have Hv:Hid (rightB ⟨kind,fn,copy,name,0,-1⟩=false):=hid (by rcases hk with rfl | rfl <;> (unfold rightB;simp only[*];unfold rightF;simp));rcases hk with rfl | rfl
 all_goals
  unfold Nd.val Nd.cells;go_enter Tryz.func133,Tryz.ntmps133;go_wp2_with fail
  repeat ((first | with_reducible refine(Hc1.out _).mono ?_ | with_reducible refine(Hc2.out _).mono ?_ | with_reducible refine(Hnf.out _).mono ?_);rintro e w' ⟨rfl,rfl⟩;go_wp2_with fail)
  go_ret;exact⟨by rw[Hv.out];try rfl,(Below.refl _ _).alloc (Nat.le_refl _) _⟩
theorem right_5m_zz(fn name:ByteArray) (w:World)(Hc1:Q152iNm8b (0) true)(hc1:rcB (0)=true)(Hc2:Q152iNm8b (0) true)(hc2:rcB (0)=true)(hf:fn.toList.isEmpty=true)(hn:name.toList.isEmpty=false)(Hnn:Q46sNm8b name true)(hnn:dg.nameB name=true) :
 Calls Tryz.prog 133 #[Nd.val ⟨5,fn,0,name,0,-1⟩] w (RPost (rightB ⟨5,fn,0,name,0,-1⟩) w):=by
 have Hv:Hid (rightB ⟨5,fn,0,name,0,-1⟩=true):=hid (by unfold rightB;simp only[*];unfold rightF;simp);unfold Nd.val Nd.cells;go_enter Tryz.func133,Tryz.ntmps133;go_wp2_with fail
 repeat ((first | with_reducible refine(Hc1.out _).mono ?_ | with_reducible refine(Hc2.out _).mono ?_ | with_reducible refine(Hnn.out _).mono ?_);rintro e w' ⟨rfl,rfl⟩;go_wp2_with fail)
 go_ret;exact⟨by rw[Hv.out];try rfl,(Below.refl _ _).alloc (Nat.le_refl _) _⟩
theorem right_1m_f(kind:Int)(hk:kind=1∨kind=2∨kind=3∨kind=4∨kind=6∨kind=7)(fn name:ByteArray)(copy:Int)(n:Int)(w:World)(Hc1:Q152iNm8b (copy) true)(hc1:rcB (copy)=true)(Hc2:Q152iNm8b (n) true)(hc2:rcB (n)=true)(hf:fn.toList.isEmpty=true) :
 Calls Tryz.prog 133 #[Nd.val ⟨kind,fn,copy,name,n,-1⟩] w (RPost (rightB ⟨kind,fn,copy,name,n,-1⟩) w):=by
 have Hv:Hid (rightB ⟨kind,fn,copy,name,n,-1⟩=false):=hid (by rcases hk with rfl | rfl | rfl | rfl | rfl | rfl <;> (unfold rightB;simp only[*];unfold rightF;simp));rcases hk with rfl | rfl | rfl | rfl | rfl | rfl
 all_goals
  unfold Nd.val Nd.cells;go_enter Tryz.func133,Tryz.ntmps133;go_wp2_with fail
  repeat ((first | with_reducible refine(Hc1.out _).mono ?_ | with_reducible refine(Hc2.out _).mono ?_);rintro e w' ⟨rfl,rfl⟩;go_wp2_with fail)
  go_ret;exact⟨by rw[Hv.out];try rfl,(Below.refl _ _).alloc (Nat.le_refl _) _⟩
abbrev Q152iNm8c(c:Int)(b:Bool):Prop:=Hid (∀w,Calls Tryz.prog 152 #[.int .i64 c] w fun e w'=>e=.returned (.bool b)∧w=w')
abbrev Q46sNm8c(c:ByteArray)(b:Bool):Prop:=Hid (∀w,Calls Tryz.prog 46 #[.string c] w fun e w'=>e=.returned (.bool b)∧w=w')
theorem right_1c_zz(fn name:ByteArray)(copy:Int)(cell:Int)(w:World)(Hc1:Q152iNm8c (copy) true)(hc1:rcB (copy)=true)(Hc2:Q152iNm8c (0) true)(hc2:rcB (0)=true)(hz3:(cell==-1)=false)(hz4:(cell != -1)=true)(Hc3:Q152iNm8c (cell) true)(hc3:rcB cell=true)(hf:fn.toList.isEmpty=false)(Hnf:Q46sNm8c fn true)(hnf:dg.nameB fn=true)(hn:name.toList.isEmpty=false)(Hnn:Q46sNm8c name true)(hnn:dg.nameB name=true) :
 Calls Tryz.prog 133 #[Nd.val ⟨1,fn,copy,name,0,cell⟩] w (RPost (rightB ⟨1,fn,copy,name,0,cell⟩) w):=by
 have Hv:Hid (rightB ⟨1,fn,copy,name,0,cell⟩=false):=hid (by unfold rightB;simp only[*];unfold rightF;simp only[*];simp);unfold Nd.val Nd.cells;go_enter Tryz.func133,Tryz.ntmps133;go_wp2_with fail
 repeat ((first | with_reducible refine(Hc1.out _).mono ?_ | with_reducible refine(Hc2.out _).mono ?_ | with_reducible refine(Hc3.out _).mono ?_ | with_reducible refine(Hnf.out _).mono ?_ | with_reducible refine(Hnn.out _).mono ?_);rintro e w' ⟨rfl,rfl⟩;go_wp2_with fail)
 go_ret;exact⟨by rw[Hv.out];try rfl,(Below.refl _ _).alloc (Nat.le_refl _) _⟩
theorem right_5c_nz(fn name:ByteArray)(n:Int)(cell:Int)(w:World)(Hc1:Q152iNm8c (0) true)(hc1:rcB (0)=true)(Hc2:Q152iNm8c (n) true)(hc2:rcB (n)=true)(hz3:(cell==-1)=false)(hz4:(cell != -1)=true)(Hc3:Q152iNm8c (cell) true)(hc3:rcB cell=true)(hf:fn.toList.isEmpty=true)(hn:name.toList.isEmpty=false)(Hnn:Q46sNm8c name true)(hnn:dg.nameB name=true)(hz1:(n==0)=false)(hz2:(n != 0)=true) :
 Calls Tryz.prog 133 #[Nd.val ⟨5,fn,0,name,n,cell⟩] w (RPost (rightB ⟨5,fn,0,name,n,cell⟩) w):=by
 have Hv:Hid (rightB ⟨5,fn,0,name,n,cell⟩=false):=hid (by unfold rightB;simp only[*];unfold rightF;simp only[*];simp);unfold Nd.val Nd.cells;go_enter Tryz.func133,Tryz.ntmps133;go_wp2_with fail
 repeat ((first | with_reducible refine(Hc1.out _).mono ?_ | with_reducible refine(Hc2.out _).mono ?_ | with_reducible refine(Hc3.out _).mono ?_ | with_reducible refine(Hnn.out _).mono ?_);rintro e w' ⟨rfl,rfl⟩;go_wp2_with fail)
 go_ret;exact⟨by rw[Hv.out];try rfl,(Below.refl _ _).alloc (Nat.le_refl _) _⟩
theorem right_5c_nn(fn name:ByteArray)(n:Int)(cell:Int)(w:World)(Hc1:Q152iNm8c (0) true)(hc1:rcB (0)=true)(Hc2:Q152iNm8c (n) true)(hc2:rcB (n)=true)(hz3:(cell==-1)=false)(hz4:(cell != -1)=true)(Hc3:Q152iNm8c (cell) true)(hc3:rcB cell=true)(hf:fn.toList.isEmpty=true)(hn:name.toList.isEmpty=false)(Hnn:Q46sNm8c name false)(hnn:dg.nameB name=false) :
 Calls Tryz.prog 133 #[Nd.val ⟨5,fn,0,name,n,cell⟩] w (RPost (rightB ⟨5,fn,0,name,n,cell⟩) w):=by
 have Hv:Hid (rightB ⟨5,fn,0,name,n,cell⟩=false):=hid (by unfold rightB;simp only[*];unfold rightF;simp only[*];simp);unfold Nd.val Nd.cells;go_enter Tryz.func133,Tryz.ntmps133;go_wp2_with fail
 repeat ((first | with_reducible refine(Hc1.out _).mono ?_ | with_reducible refine(Hc2.out _).mono ?_ | with_reducible refine(Hc3.out _).mono ?_ | with_reducible refine(Hnn.out _).mono ?_);rintro e w' ⟨rfl,rfl⟩;go_wp2_with fail)
 go_ret;exact⟨by rw[Hv.out];try rfl,(Below.refl _ _).alloc (Nat.le_refl _) _⟩
theorem right_1m_nn(kind:Int)(hk:kind=1∨kind=6)(fn name:ByteArray)(copy:Int)(n:Int)(w:World)(Hc1:Q152iNm8c (copy) true)(hc1:rcB (copy)=true)(Hc2:Q152iNm8c (n) true)(hc2:rcB (n)=true)(hf:fn.toList.isEmpty=false)(Hnf:Q46sNm8c fn true)(hnf:dg.nameB fn=true)(hn:name.toList.isEmpty=false)(Hnn:Q46sNm8c name false)(hnn:dg.nameB name=false) :
 Calls Tryz.prog 133 #[Nd.val ⟨kind,fn,copy,name,n,-1⟩] w (RPost (rightB ⟨kind,fn,copy,name,n,-1⟩) w):=by
 have Hv:Hid (rightB ⟨kind,fn,copy,name,n,-1⟩=false):=hid (by rcases hk with rfl | rfl <;> (unfold rightB;simp only[*];unfold rightF;simp));rcases hk with rfl | rfl
 all_goals
  unfold Nd.val Nd.cells;go_enter Tryz.func133,Tryz.ntmps133;go_wp2_with fail
  repeat ((first | with_reducible refine(Hc1.out _).mono ?_ | with_reducible refine(Hc2.out _).mono ?_ | with_reducible refine(Hnf.out _).mono ?_ | with_reducible refine(Hnn.out _).mono ?_);rintro e w' ⟨rfl,rfl⟩;go_wp2_with fail)
  go_ret;exact⟨by rw[Hv.out];try rfl,(Below.refl _ _).alloc (Nat.le_refl _) _⟩
theorem right_4m_nz(fn name:ByteArray)(copy:Int)(n:Int)(w:World)(Hc1:Q152iNm8c (copy) true)(hc1:rcB (copy)=true)(Hc2:Q152iNm8c (n) true)(hc2:rcB (n)=true)(hf:fn.toList.isEmpty=false)(Hnf:Q46sNm8c fn true)(hnf:dg.nameB fn=true)(hn:name.toList.isEmpty=true)(hz1:(n==0)=false)(hz2:(n != 0)=true) :
 Calls Tryz.prog 133 #[Nd.val ⟨4,fn,copy,name,n,-1⟩] w (RPost (rightB ⟨4,fn,copy,name,n,-1⟩) w):=by
 have Hv:Hid (rightB ⟨4,fn,copy,name,n,-1⟩=false):=hid (by unfold rightB;simp only[*];unfold rightF;simp only[*];simp);unfold Nd.val Nd.cells;go_enter Tryz.func133,Tryz.ntmps133;go_wp2_with fail
 repeat ((first | with_reducible refine(Hc1.out _).mono ?_ | with_reducible refine(Hc2.out _).mono ?_ | with_reducible refine(Hnf.out _).mono ?_);rintro e w' ⟨rfl,rfl⟩;go_wp2_with fail)
 go_ret;exact⟨by rw[Hv.out];try rfl,(Below.refl _ _).alloc (Nat.le_refl _) _⟩
theorem right_5m_nz(fn name:ByteArray)(n:Int)(w:World)(Hc1:Q152iNm8c (0) true)(hc1:rcB (0)=true)(Hc2:Q152iNm8c (n) true)(hc2:rcB (n)=true)(hf:fn.toList.isEmpty=true)(hn:name.toList.isEmpty=false)(Hnn:Q46sNm8c name true)(hnn:dg.nameB name=true)(hz1:(n==0)=false)(hz2:(n != 0)=true) :
 Calls Tryz.prog 133 #[Nd.val ⟨5,fn,0,name,n,-1⟩] w (RPost (rightB ⟨5,fn,0,name,n,-1⟩) w):=by
 have Hv:Hid (rightB ⟨5,fn,0,name,n,-1⟩=false):=hid (by unfold rightB;simp only[*];unfold rightF;simp only[*];simp);unfold Nd.val Nd.cells;go_enter Tryz.func133,Tryz.ntmps133;go_wp2_with fail
 repeat ((first | with_reducible refine(Hc1.out _).mono ?_ | with_reducible refine(Hc2.out _).mono ?_ | with_reducible refine(Hnn.out _).mono ?_);rintro e w' ⟨rfl,rfl⟩;go_wp2_with fail)
 go_ret;exact⟨by rw[Hv.out];try rfl,(Below.refl _ _).alloc (Nat.le_refl _) _⟩
theorem right_2m_zz(kind:Int)(hk:kind=2∨kind=4)(fn name:ByteArray)(copy:Int)(w:World)(Hc1:Q152iNm8c (copy) true)(hc1:rcB (copy)=true)(Hc2:Q152iNm8c (0) true)(hc2:rcB (0)=true)(hf:fn.toList.isEmpty=false)(Hnf:Q46sNm8c fn true)(hnf:dg.nameB fn=true)(hn:name.toList.isEmpty=true) :
 Calls Tryz.prog 133 #[Nd.val ⟨kind,fn,copy,name,0,-1⟩] w (RPost (rightB ⟨kind,fn,copy,name,0,-1⟩) w):=by
 have Hv:Hid (rightB ⟨kind,fn,copy,name,0,-1⟩=true):=hid (by rcases hk with rfl | rfl <;> (unfold rightB;simp only[*];unfold rightF;simp));rcases hk with rfl | rfl
 all_goals
  unfold Nd.val Nd.cells;go_enter Tryz.func133,Tryz.ntmps133;go_wp2_with fail
  repeat ((first | with_reducible refine(Hc1.out _).mono ?_ | with_reducible refine(Hc2.out _).mono ?_ | with_reducible refine(Hnf.out _).mono ?_);rintro e w' ⟨rfl,rfl⟩;go_wp2_with fail)
  go_ret;exact⟨by rw[Hv.out];try rfl,(Below.refl _ _).alloc (Nat.le_refl _) _⟩
theorem right_5m_cp(fn name:ByteArray)(copy:Int)(n:Int)(w:World)(Hc1:Q152iNm8c (copy) true)(hc1:rcB (copy)=true)(Hc2:Q152iNm8c (n) true)(hc2:rcB (n)=true)(hf:fn.toList.isEmpty=true)(hz5:(copy != 0)=true) :
 Calls Tryz.prog 133 #[Nd.val ⟨5,fn,copy,name,n,-1⟩] w (RPost (rightB ⟨5,fn,copy,name,n,-1⟩) w):=by
 have Hv:Hid (rightB ⟨5,fn,copy,name,n,-1⟩=false):=hid (by unfold rightB;simp only[*];unfold rightF;simp only[*];simp);unfold Nd.val Nd.cells;go_enter Tryz.func133,Tryz.ntmps133;go_wp2_with fail
 repeat ((first | with_reducible refine(Hc1.out _).mono ?_ | with_reducible refine(Hc2.out _).mono ?_);rintro e w' ⟨rfl,rfl⟩;go_wp2_with fail)
 go_ret;exact⟨by rw[Hv.out];try rfl,(Below.refl _ _).alloc (Nat.le_refl _) _⟩
abbrev Q152iNm8d(c:Int)(b:Bool):Prop:=Hid (∀w,Calls Tryz.prog 152 #[.int .i64 c] w fun e w'=>e=.returned (.bool b)∧w=w')
abbrev Q46sNm8d(c:ByteArray)(b:Bool):Prop:=Hid (∀w,Calls Tryz.prog 46 #[.string c] w fun e w'=>e=.returned (.bool b)∧w=w')
theorem right_6c_zz(fn name:ByteArray)(copy:Int)(cell:Int)(w:World)(Hc1:Q152iNm8d (copy) true)(hc1:rcB (copy)=true)(Hc2:Q152iNm8d (0) true)(hc2:rcB (0)=true)(hz3:(cell==-1)=false)(hz4:(cell != -1)=true)(Hc3:Q152iNm8d (cell) true)(hc3:rcB cell=true)(hf:fn.toList.isEmpty=false)(Hnf:Q46sNm8d fn true)(hnf:dg.nameB fn=true)(hn:name.toList.isEmpty=false)(Hnn:Q46sNm8d name true)(hnn:dg.nameB name=true) :
 Calls Tryz.prog 133 #[Nd.val ⟨6,fn,copy,name,0,cell⟩] w (RPost (rightB ⟨6,fn,copy,name,0,cell⟩) w):=by
 have Hv:Hid (rightB ⟨6,fn,copy,name,0,cell⟩=true):=hid (by unfold rightB;simp only[*];unfold rightF;simp only[*];simp);unfold Nd.val Nd.cells;go_enter Tryz.func133,Tryz.ntmps133;go_wp2_with fail
 repeat ((first | with_reducible refine(Hc1.out _).mono ?_ | with_reducible refine(Hc2.out _).mono ?_ | with_reducible refine(Hc3.out _).mono ?_ | with_reducible refine(Hnf.out _).mono ?_ | with_reducible refine(Hnn.out _).mono ?_);rintro e w' ⟨rfl,rfl⟩;go_wp2_with fail)
 go_ret;exact⟨by rw[Hv.out];try rfl,(Below.refl _ _).alloc (Nat.le_refl _) _⟩
theorem right_2c_n(kind:Int)(hk:kind=2∨kind=3∨kind=4∨kind=7)(fn name:ByteArray)(copy:Int)(n:Int)(cell:Int)(w:World)(Hc1:Q152iNm8d (copy) true)(hc1:rcB (copy)=true)(Hc2:Q152iNm8d (n) true)(hc2:rcB (n)=true)(hz3:(cell==-1)=false)(hz4:(cell != -1)=true)(Hc3:Q152iNm8d (cell) true)(hc3:rcB cell=true)(hf:fn.toList.isEmpty=false)(Hnf:Q46sNm8d fn true)(hnf:dg.nameB fn=true)(hn:name.toList.isEmpty=false) :
 Calls Tryz.prog 133 #[Nd.val ⟨kind,fn,copy,name,n,cell⟩] w (RPost (rightB ⟨kind,fn,copy,name,n,cell⟩) w):=by
 have Hv:Hid (rightB ⟨kind,fn,copy,name,n,cell⟩=false):=hid (by rcases hk with rfl | rfl | rfl | rfl <;> (unfold rightB;simp only[*];unfold rightF;simp only[*];simp));rcases hk with rfl | rfl | rfl | rfl
 all_goals
  unfold Nd.val Nd.cells;go_enter Tryz.func133,Tryz.ntmps133;go_wp2_with fail
  repeat ((first | with_reducible refine(Hc1.out _).mono ?_ | with_reducible refine(Hc2.out _).mono ?_ | with_reducible refine(Hc3.out _).mono ?_ | with_reducible refine(Hnf.out _).mono ?_);rintro e w' ⟨rfl,rfl⟩;go_wp2_with fail)
  go_ret;exact⟨by rw[Hv.out];try rfl,(Below.refl _ _).alloc (Nat.le_refl _) _⟩
theorem right_1m_nz(kind:Int)(hk:kind=1∨kind=6)(fn name:ByteArray)(copy:Int)(n:Int)(w:World)(Hc1:Q152iNm8d (copy) true)(hc1:rcB (copy)=true)(Hc2:Q152iNm8d (n) true)(hc2:rcB (n)=true)(hf:fn.toList.isEmpty=false)(Hnf:Q46sNm8d fn true)(hnf:dg.nameB fn=true)(hn:name.toList.isEmpty=false)(Hnn:Q46sNm8d name true)(hnn:dg.nameB name=true)(hz1:(n==0)=false)(hz2:(n != 0)=true) :
 Calls Tryz.prog 133 #[Nd.val ⟨kind,fn,copy,name,n,-1⟩] w (RPost (rightB ⟨kind,fn,copy,name,n,-1⟩) w):=by
 have Hv:Hid (rightB ⟨kind,fn,copy,name,n,-1⟩=false):=hid (by rcases hk with rfl | rfl <;> (unfold rightB;simp only[*];unfold rightF;simp only[*];simp));rcases hk with rfl | rfl
 all_goals
  unfold Nd.val Nd.cells;go_enter Tryz.func133,Tryz.ntmps133;go_wp2_with fail
  repeat ((first | with_reducible refine(Hc1.out _).mono ?_ | with_reducible refine(Hc2.out _).mono ?_ | with_reducible refine(Hnf.out _).mono ?_ | with_reducible refine(Hnn.out _).mono ?_);rintro e w' ⟨rfl,rfl⟩;go_wp2_with fail)
  go_ret;exact⟨by rw[Hv.out];try rfl,(Below.refl _ _).alloc (Nat.le_refl _) _⟩
theorem right_1m_zz(kind:Int)(hk:kind=1∨kind=6)(fn name:ByteArray)(copy:Int)(w:World)(Hc1:Q152iNm8d (copy) true)(hc1:rcB (copy)=true)(Hc2:Q152iNm8d (0) true)(hc2:rcB (0)=true)(hf:fn.toList.isEmpty=false)(Hnf:Q46sNm8d fn true)(hnf:dg.nameB fn=true)(hn:name.toList.isEmpty=false)(Hnn:Q46sNm8d name true)(hnn:dg.nameB name=true) :
 Calls Tryz.prog 133 #[Nd.val ⟨kind,fn,copy,name,0,-1⟩] w (RPost (rightB ⟨kind,fn,copy,name,0,-1⟩) w):=by
 have Hv:Hid (rightB ⟨kind,fn,copy,name,0,-1⟩=true):=hid (by rcases hk with rfl | rfl <;> (unfold rightB;simp only[*];unfold rightF;simp));rcases hk with rfl | rfl
 all_goals
  unfold Nd.val Nd.cells;go_enter Tryz.func133,Tryz.ntmps133;go_wp2_with fail
  repeat ((first | with_reducible refine(Hc1.out _).mono ?_ | with_reducible refine(Hc2.out _).mono ?_ | with_reducible refine(Hnf.out _).mono ?_ | with_reducible refine(Hnn.out _).mono ?_);rintro e w' ⟨rfl,rfl⟩;go_wp2_with fail)
  go_ret;exact⟨by rw[Hv.out];try rfl,(Below.refl _ _).alloc (Nat.le_refl _) _⟩
theorem right_2m_nz(kind:Int)(hk:kind=2∨kind=3∨kind=7)(fn name:ByteArray)(copy:Int)(n:Int)(w:World)(Hc1:Q152iNm8d (copy) true)(hc1:rcB (copy)=true)(Hc2:Q152iNm8d (n) true)(hc2:rcB (n)=true)(hf:fn.toList.isEmpty=false)(Hnf:Q46sNm8d fn true)(hnf:dg.nameB fn=true)(hn:name.toList.isEmpty=true)(hz1:(n==0)=false)(hz2:(n != 0)=true) :
 Calls Tryz.prog 133 #[Nd.val ⟨kind,fn,copy,name,n,-1⟩] w (RPost (rightB ⟨kind,fn,copy,name,n,-1⟩) w):=by
 have Hv:Hid (rightB ⟨kind,fn,copy,name,n,-1⟩=true):=hid (by rcases hk with rfl | rfl | rfl <;> (unfold rightB;simp only[*];unfold rightF;simp only[*];simp));rcases hk with rfl | rfl | rfl
 all_goals
  unfold Nd.val Nd.cells;go_enter Tryz.func133,Tryz.ntmps133;go_wp2_with fail
  repeat ((first | with_reducible refine(Hc1.out _).mono ?_ | with_reducible refine(Hc2.out _).mono ?_ | with_reducible refine(Hnf.out _).mono ?_);rintro e w' ⟨rfl,rfl⟩;go_wp2_with fail)
  go_ret;exact⟨by rw[Hv.out];try rfl,(Below.refl _ _).alloc (Nat.le_refl _) _⟩
theorem right_2m_n(kind:Int)(hk:kind=2∨kind=3∨kind=4∨kind=7)(fn name:ByteArray)(copy:Int)(n:Int)(w:World)(Hc1:Q152iNm8d (copy) true)(hc1:rcB (copy)=true)(Hc2:Q152iNm8d (n) true)(hc2:rcB (n)=true)(hf:fn.toList.isEmpty=false)(Hnf:Q46sNm8d fn true)(hnf:dg.nameB fn=true)(hn:name.toList.isEmpty=false) :
 Calls Tryz.prog 133 #[Nd.val ⟨kind,fn,copy,name,n,-1⟩] w (RPost (rightB ⟨kind,fn,copy,name,n,-1⟩) w):=by
 have Hv:Hid (rightB ⟨kind,fn,copy,name,n,-1⟩=false):=hid (by rcases hk with rfl | rfl | rfl | rfl <;> (unfold rightB;simp only[*];unfold rightF;simp));rcases hk with rfl | rfl | rfl | rfl
 all_goals
  unfold Nd.val Nd.cells;go_enter Tryz.func133,Tryz.ntmps133;go_wp2_with fail
  repeat ((first | with_reducible refine(Hc1.out _).mono ?_ | with_reducible refine(Hc2.out _).mono ?_ | with_reducible refine(Hnf.out _).mono ?_);rintro e w' ⟨rfl,rfl⟩;go_wp2_with fail)
  go_ret;exact⟨by rw[Hv.out];try rfl,(Below.refl _ _).alloc (Nat.le_refl _) _⟩
theorem right_5m_nn(fn name:ByteArray)(n:Int)(w:World)(Hc1:Q152iNm8d (0) true)(hc1:rcB (0)=true)(Hc2:Q152iNm8d (n) true)(hc2:rcB (n)=true)(hf:fn.toList.isEmpty=true)(hn:name.toList.isEmpty=false)(Hnn:Q46sNm8d name false)(hnn:dg.nameB name=false) :
 Calls Tryz.prog 133 #[Nd.val ⟨5,fn,0,name,n,-1⟩] w (RPost (rightB ⟨5,fn,0,name,n,-1⟩) w):=by
 have Hv:Hid (rightB ⟨5,fn,0,name,n,-1⟩=false):=hid (by unfold rightB;simp only[*];unfold rightF;simp);unfold Nd.val Nd.cells;go_enter Tryz.func133,Tryz.ntmps133;go_wp2_with fail
 repeat ((first | with_reducible refine(Hc1.out _).mono ?_ | with_reducible refine(Hc2.out _).mono ?_ | with_reducible refine(Hnn.out _).mono ?_);rintro e w' ⟨rfl,rfl⟩;go_wp2_with fail)
 go_ret;exact⟨by rw[Hv.out];try rfl,(Below.refl _ _).alloc (Nat.le_refl _) _⟩
theorem right_5m_n(fn name:ByteArray)(n:Int)(w:World)(Hc1:Q152iNm8d (0) true)(hc1:rcB (0)=true)(Hc2:Q152iNm8d (n) true)(hc2:rcB (n)=true)(hf:fn.toList.isEmpty=true)(hn:name.toList.isEmpty=true) :
 Calls Tryz.prog 133 #[Nd.val ⟨5,fn,0,name,n,-1⟩] w (RPost (rightB ⟨5,fn,0,name,n,-1⟩) w):=by
 have Hv:Hid (rightB ⟨5,fn,0,name,n,-1⟩=false):=hid (by unfold rightB;simp only[*];unfold rightF;simp);unfold Nd.val Nd.cells;go_enter Tryz.func133,Tryz.ntmps133;go_wp2_with fail
 repeat ((first | with_reducible refine(Hc1.out _).mono ?_ | with_reducible refine(Hc2.out _).mono ?_);rintro e w' ⟨rfl,rfl⟩;go_wp2_with fail)
 go_ret;exact⟨by rw[Hv.out];try rfl,(Below.refl _ _).alloc (Nat.le_refl _) _⟩
theorem right_1m(fn name:ByteArray)(copy n:Int)(w:World)(hsf:fn.size≤maxLen)(hsn:name.size≤maxLen)(hc1:rcB copy=true)(hc2:rcB n=true) :
 Calls Tryz.prog 133 #[Nd.val ⟨1,fn,copy,name,n,-1⟩] w (RPost (rightB ⟨1,fn,copy,name,n,-1⟩) w):=by
 have Hc1:=cnt_val hc1;have Hc2:=cnt_val hc2;rcases hf:fn.toList.isEmpty with _ | _;rotate_left
 ·exact right_1m_f 1 (by simp) fn name copy n w Hc1 hc1 Hc2 hc2 hf
 rcases hnf:dg.nameB fn with _ | _
 ·have Hnf:=nam_val hsf hnf
  exact right_1m_fn 1 (by simp) fn name copy n w Hc1 hc1 Hc2 hc2 hf Hnf hnf
 have Hnf:=nam_val hsf hnf;rcases hn:name.toList.isEmpty with _ | _;rotate_left
 ·exact right_1m_n 1 (by simp) fn name copy n w Hc1 hc1 Hc2 hc2 hf Hnf hnf hn
 rcases hnn:dg.nameB name with _ | _
 ·have Hnn:=nam_val hsn hnn
  exact right_1m_nn 1 (by simp) fn name copy n w Hc1 hc1 Hc2 hc2 hf Hnf hnf hn Hnn hnn
 have Hnn:=nam_val hsn hnn;by_cases hz0:n=0
 ·subst hz0
  exact right_1m_zz 1 (by simp) fn name copy w Hc1 hc1 Hc2 hc2 hf Hnf hnf hn Hnn hnn
 have hz1:(n==0)=false:=by rw[beq_eq_false_iff_ne];exact hz0
 have hz2:(n != 0)=true:=by rw[bne_iff_ne];exact hz0
 exact right_1m_nz 1 (by simp) fn name copy n w Hc1 hc1 Hc2 hc2 hf Hnf hnf hn Hnn hnn hz1 hz2
theorem right_1c(fn name:ByteArray)(copy n cell:Int)(w:World)(hsf:fn.size≤maxLen)(hsn:name.size≤maxLen)(hc1:rcB copy=true)(hc2:rcB n=true)(hc3:rcB cell=true)(hz3:(cell==-1)=false)(hz4:(cell != -1)=true) :
 Calls Tryz.prog 133 #[Nd.val ⟨1,fn,copy,name,n,cell⟩] w (RPost (rightB ⟨1,fn,copy,name,n,cell⟩) w):=by
 have Hc1:=cnt_val hc1;have Hc2:=cnt_val hc2;have Hc3:=cnt_val hc3;rcases hf:fn.toList.isEmpty with _ | _;rotate_left
 ·exact right_1c_f 1 (by simp) fn name copy n cell w Hc1 hc1 Hc2 hc2 hz3 hz4 Hc3 hc3 hf
 rcases hnf:dg.nameB fn with _ | _
 ·have Hnf:=nam_val hsf hnf
  exact right_1c_fn 1 (by simp) fn name copy n cell w Hc1 hc1 Hc2 hc2 hz3 hz4 Hc3 hc3 hf Hnf hnf
 have Hnf:=nam_val hsf hnf;rcases hn:name.toList.isEmpty with _ | _;rotate_left
 ·exact right_1c_n 1 (by simp) fn name copy n cell w Hc1 hc1 Hc2 hc2 hz3 hz4 Hc3 hc3 hf Hnf hnf hn
 rcases hnn:dg.nameB name with _ | _
 ·have Hnn:=nam_val hsn hnn
  exact right_1c_nn 1 (by simp) fn name copy n cell w Hc1 hc1 Hc2 hc2 hz3 hz4 Hc3 hc3 hf Hnf hnf hn Hnn hnn
 have Hnn:=nam_val hsn hnn;by_cases hz0:n=0
 ·subst hz0
  exact right_1c_zz fn name copy cell w Hc1 hc1 Hc2 hc2 hz3 hz4 Hc3 hc3 hf Hnf hnf hn Hnn hnn
 have hz1:(n==0)=false:=by rw[beq_eq_false_iff_ne];exact hz0
 have hz2:(n != 0)=true:=by rw[bne_iff_ne];exact hz0
 exact right_1c_nz 1 (by simp) fn name copy n cell w Hc1 hc1 Hc2 hc2 hz3 hz4 Hc3 hc3 hf Hnf hnf hn Hnn hnn hz1 hz2
theorem right_2m(fn name:ByteArray)(copy n:Int)(w:World)(hsf:fn.size≤maxLen)(hsn:name.size≤maxLen)(hc1:rcB copy=true)(hc2:rcB n=true) :
 Calls Tryz.prog 133 #[Nd.val ⟨2,fn,copy,name,n,-1⟩] w (RPost (rightB ⟨2,fn,copy,name,n,-1⟩) w):=by
 have Hc1:=cnt_val hc1;have Hc2:=cnt_val hc2;rcases hf:fn.toList.isEmpty with _ | _;rotate_left
 ·exact right_1m_f 2 (by simp) fn name copy n w Hc1 hc1 Hc2 hc2 hf
 rcases hnf:dg.nameB fn with _ | _
 ·have Hnf:=nam_val hsf hnf
  exact right_1m_fn 2 (by simp) fn name copy n w Hc1 hc1 Hc2 hc2 hf Hnf hnf
 have Hnf:=nam_val hsf hnf;rcases hn:name.toList.isEmpty with _ | _
 ·exact right_2m_n 2 (by simp) fn name copy n w Hc1 hc1 Hc2 hc2 hf Hnf hnf hn
 by_cases hz0:n=0
 ·subst hz0
  exact right_2m_zz 2 (by simp) fn name copy w Hc1 hc1 Hc2 hc2 hf Hnf hnf hn
 have hz1:(n==0)=false:=by rw[beq_eq_false_iff_ne];exact hz0
 have hz2:(n != 0)=true:=by rw[bne_iff_ne];exact hz0
 exact right_2m_nz 2 (by simp) fn name copy n w Hc1 hc1 Hc2 hc2 hf Hnf hnf hn hz1 hz2
theorem right_2c(fn name:ByteArray)(copy n cell:Int)(w:World)(hsf:fn.size≤maxLen)(hsn:name.size≤maxLen)(hc1:rcB copy=true)(hc2:rcB n=true)(hc3:rcB cell=true)(hz3:(cell==-1)=false)(hz4:(cell != -1)=true) :
 Calls Tryz.prog 133 #[Nd.val ⟨2,fn,copy,name,n,cell⟩] w (RPost (rightB ⟨2,fn,copy,name,n,cell⟩) w):=by
 have Hc1:=cnt_val hc1;have Hc2:=cnt_val hc2;have Hc3:=cnt_val hc3;rcases hf:fn.toList.isEmpty with _ | _;rotate_left
 ·exact right_1c_f 2 (by simp) fn name copy n cell w Hc1 hc1 Hc2 hc2 hz3 hz4 Hc3 hc3 hf
 rcases hnf:dg.nameB fn with _ | _
 ·have Hnf:=nam_val hsf hnf
  exact right_1c_fn 2 (by simp) fn name copy n cell w Hc1 hc1 Hc2 hc2 hz3 hz4 Hc3 hc3 hf Hnf hnf
 have Hnf:=nam_val hsf hnf;rcases hn:name.toList.isEmpty with _ | _
 ·exact right_2c_n 2 (by simp) fn name copy n cell w Hc1 hc1 Hc2 hc2 hz3 hz4 Hc3 hc3 hf Hnf hnf hn
 by_cases hz0:n=0
 ·subst hz0
  exact right_2c_zz 2 (by simp) fn name copy cell w Hc1 hc1 Hc2 hc2 hz3 hz4 Hc3 hc3 hf Hnf hnf hn
 have hz1:(n==0)=false:=by rw[beq_eq_false_iff_ne];exact hz0
 have hz2:(n != 0)=true:=by rw[bne_iff_ne];exact hz0
 exact right_2c_nz 2 (by simp) fn name copy n cell w Hc1 hc1 Hc2 hc2 hz3 hz4 Hc3 hc3 hf Hnf hnf hn hz1 hz2
theorem right_3m(fn name:ByteArray)(copy n:Int)(w:World)(hsf:fn.size≤maxLen)(hsn:name.size≤maxLen)(hc1:rcB copy=true)(hc2:rcB n=true) :
 Calls Tryz.prog 133 #[Nd.val ⟨3,fn,copy,name,n,-1⟩] w (RPost (rightB ⟨3,fn,copy,name,n,-1⟩) w):=by
 have Hc1:=cnt_val hc1;have Hc2:=cnt_val hc2;rcases hf:fn.toList.isEmpty with _ | _;rotate_left
 ·exact right_1m_f 3 (by simp) fn name copy n w Hc1 hc1 Hc2 hc2 hf
 rcases hnf:dg.nameB fn with _ | _
 ·have Hnf:=nam_val hsf hnf
  exact right_1m_fn 3 (by simp) fn name copy n w Hc1 hc1 Hc2 hc2 hf Hnf hnf
 have Hnf:=nam_val hsf hnf;rcases hn:name.toList.isEmpty with _ | _
 ·exact right_2m_n 3 (by simp) fn name copy n w Hc1 hc1 Hc2 hc2 hf Hnf hnf hn
 by_cases hz0:n=0
 ·subst hz0
  exact right_3m_zz 3 (by simp) fn name copy w Hc1 hc1 Hc2 hc2 hf Hnf hnf hn
 have hz1:(n==0)=false:=by rw[beq_eq_false_iff_ne];exact hz0
 have hz2:(n != 0)=true:=by rw[bne_iff_ne];exact hz0
 exact right_2m_nz 3 (by simp) fn name copy n w Hc1 hc1 Hc2 hc2 hf Hnf hnf hn hz1 hz2
theorem right_3c(fn name:ByteArray)(copy n cell:Int)(w:World)(hsf:fn.size≤maxLen)(hsn:name.size≤maxLen)(hc1:rcB copy=true)(hc2:rcB n=true)(hc3:rcB cell=true)(hz3:(cell==-1)=false)(hz4:(cell != -1)=true) :
 Calls Tryz.prog 133 #[Nd.val ⟨3,fn,copy,name,n,cell⟩] w (RPost (rightB ⟨3,fn,copy,name,n,cell⟩) w):=by
 have Hc1:=cnt_val hc1;have Hc2:=cnt_val hc2;have Hc3:=cnt_val hc3;rcases hf:fn.toList.isEmpty with _ | _;rotate_left
 ·exact right_1c_f 3 (by simp) fn name copy n cell w Hc1 hc1 Hc2 hc2 hz3 hz4 Hc3 hc3 hf
 rcases hnf:dg.nameB fn with _ | _
 ·have Hnf:=nam_val hsf hnf
  exact right_1c_fn 3 (by simp) fn name copy n cell w Hc1 hc1 Hc2 hc2 hz3 hz4 Hc3 hc3 hf Hnf hnf
 have Hnf:=nam_val hsf hnf;rcases hn:name.toList.isEmpty with _ | _
 ·exact right_2c_n 3 (by simp) fn name copy n cell w Hc1 hc1 Hc2 hc2 hz3 hz4 Hc3 hc3 hf Hnf hnf hn
 by_cases hz0:n=0
 ·subst hz0
  exact right_2c_zz 3 (by simp) fn name copy cell w Hc1 hc1 Hc2 hc2 hz3 hz4 Hc3 hc3 hf Hnf hnf hn
 have hz1:(n==0)=false:=by rw[beq_eq_false_iff_ne];exact hz0
 have hz2:(n != 0)=true:=by rw[bne_iff_ne];exact hz0
 exact right_2c_nz 3 (by simp) fn name copy n cell w Hc1 hc1 Hc2 hc2 hz3 hz4 Hc3 hc3 hf Hnf hnf hn hz1 hz2
theorem right_4m(fn name:ByteArray)(copy n:Int)(w:World)(hsf:fn.size≤maxLen)(hsn:name.size≤maxLen)(hc1:rcB copy=true)(hc2:rcB n=true) :
 Calls Tryz.prog 133 #[Nd.val ⟨4,fn,copy,name,n,-1⟩] w (RPost (rightB ⟨4,fn,copy,name,n,-1⟩) w):=by
 have Hc1:=cnt_val hc1;have Hc2:=cnt_val hc2;rcases hf:fn.toList.isEmpty with _ | _;rotate_left
 ·exact right_1m_f 4 (by simp) fn name copy n w Hc1 hc1 Hc2 hc2 hf
 rcases hnf:dg.nameB fn with _ | _
 ·have Hnf:=nam_val hsf hnf
  exact right_1m_fn 4 (by simp) fn name copy n w Hc1 hc1 Hc2 hc2 hf Hnf hnf
 have Hnf:=nam_val hsf hnf;rcases hn:name.toList.isEmpty with _ | _
 ·exact right_2m_n 4 (by simp) fn name copy n w Hc1 hc1 Hc2 hc2 hf Hnf hnf hn
 by_cases hz0:n=0
 ·subst hz0
  exact right_2m_zz 4 (by simp) fn name copy w Hc1 hc1 Hc2 hc2 hf Hnf hnf hn
 have hz1:(n==0)=false:=by rw[beq_eq_false_iff_ne];exact hz0
 have hz2:(n != 0)=true:=by rw[bne_iff_ne];exact hz0
 exact right_4m_nz fn name copy n w Hc1 hc1 Hc2 hc2 hf Hnf hnf hn hz1 hz2
theorem right_4c(fn name:ByteArray)(copy n cell:Int)(w:World)(hsf:fn.size≤maxLen)(hsn:name.size≤maxLen)(hc1:rcB copy=true)(hc2:rcB n=true)(hc3:rcB cell=true)(hz3:(cell==-1)=false)(hz4:(cell != -1)=true) :
 Calls Tryz.prog 133 #[Nd.val ⟨4,fn,copy,name,n,cell⟩] w (RPost (rightB ⟨4,fn,copy,name,n,cell⟩) w):=by
 have Hc1:=cnt_val hc1;have Hc2:=cnt_val hc2;have Hc3:=cnt_val hc3;rcases hf:fn.toList.isEmpty with _ | _;rotate_left
 ·exact right_1c_f 4 (by simp) fn name copy n cell w Hc1 hc1 Hc2 hc2 hz3 hz4 Hc3 hc3 hf
 rcases hnf:dg.nameB fn with _ | _
 ·have Hnf:=nam_val hsf hnf
  exact right_1c_fn 4 (by simp) fn name copy n cell w Hc1 hc1 Hc2 hc2 hz3 hz4 Hc3 hc3 hf Hnf hnf
 have Hnf:=nam_val hsf hnf;rcases hn:name.toList.isEmpty with _ | _
 ·exact right_2c_n 4 (by simp) fn name copy n cell w Hc1 hc1 Hc2 hc2 hz3 hz4 Hc3 hc3 hf Hnf hnf hn
 by_cases hz0:n=0
 ·subst hz0
  exact right_2c_zz 4 (by simp) fn name copy cell w Hc1 hc1 Hc2 hc2 hz3 hz4 Hc3 hc3 hf Hnf hnf hn
 have hz1:(n==0)=false:=by rw[beq_eq_false_iff_ne];exact hz0
 have hz2:(n != 0)=true:=by rw[bne_iff_ne];exact hz0
 exact right_2c_nz 4 (by simp) fn name copy n cell w Hc1 hc1 Hc2 hc2 hz3 hz4 Hc3 hc3 hf Hnf hnf hn hz1 hz2
theorem right_5m(fn name:ByteArray)(copy n:Int)(w:World)(hsf:fn.size≤maxLen)(hsn:name.size≤maxLen)(hc1:rcB copy=true)(hc2:rcB n=true) :
 Calls Tryz.prog 133 #[Nd.val ⟨5,fn,copy,name,n,-1⟩] w (RPost (rightB ⟨5,fn,copy,name,n,-1⟩) w):=by
 have Hc1:=cnt_val hc1;have Hc2:=cnt_val hc2;rcases hf:fn.toList.isEmpty with _ | _
 ·exact right_5m_f fn name copy n w Hc1 hc1 Hc2 hc2 hf
 by_cases hz:copy=0;rotate_left
 ·have hz5:(copy != 0)=true:=by rw[bne_iff_ne];exact hz
  exact right_5m_cp fn name copy n w Hc1 hc1 Hc2 hc2 hf hz5
 subst hz;rcases hn:name.toList.isEmpty with _ | _;rotate_left
 ·exact right_5m_n fn name n w Hc1 hc1 Hc2 hc2 hf hn
 rcases hnn:dg.nameB name with _ | _
 ·have Hnn:=nam_val hsn hnn
  exact right_5m_nn fn name n w Hc1 hc1 Hc2 hc2 hf hn Hnn hnn
 have Hnn:=nam_val hsn hnn;by_cases hz0:n=0
 ·subst hz0
  exact right_5m_zz fn name w Hc1 hc1 Hc2 hc2 hf hn Hnn hnn
 have hz1:(n==0)=false:=by rw[beq_eq_false_iff_ne];exact hz0
 have hz2:(n != 0)=true:=by rw[bne_iff_ne];exact hz0
 exact right_5m_nz fn name n w Hc1 hc1 Hc2 hc2 hf hn Hnn hnn hz1 hz2
theorem right_5c(fn name:ByteArray)(copy n cell:Int)(w:World)(hsf:fn.size≤maxLen)(hsn:name.size≤maxLen)(hc1:rcB copy=true)(hc2:rcB n=true)(hc3:rcB cell=true)(hz3:(cell==-1)=false)(hz4:(cell != -1)=true) :
 Calls Tryz.prog 133 #[Nd.val ⟨5,fn,copy,name,n,cell⟩] w (RPost (rightB ⟨5,fn,copy,name,n,cell⟩) w):=by
 have Hc1:=cnt_val hc1;have Hc2:=cnt_val hc2;have Hc3:=cnt_val hc3;rcases hf:fn.toList.isEmpty with _ | _
 ·exact right_5c_f fn name copy n cell w Hc1 hc1 Hc2 hc2 hz3 hz4 Hc3 hc3 hf
 by_cases hz:copy=0;rotate_left
 ·have hz5:(copy != 0)=true:=by rw[bne_iff_ne];exact hz
  exact right_5c_cp fn name copy n cell w Hc1 hc1 Hc2 hc2 hz3 hz4 Hc3 hc3 hf hz5
 subst hz;rcases hn:name.toList.isEmpty with _ | _;rotate_left
 ·exact right_5c_n fn name n cell w Hc1 hc1 Hc2 hc2 hz3 hz4 Hc3 hc3 hf hn
 rcases hnn:dg.nameB name with _ | _
 ·have Hnn:=nam_val hsn hnn
  exact right_5c_nn fn name n cell w Hc1 hc1 Hc2 hc2 hz3 hz4 Hc3 hc3 hf hn Hnn hnn
 have Hnn:=nam_val hsn hnn;by_cases hz0:n=0
 ·subst hz0
  exact right_5c_zz fn name cell w Hc1 hc1 Hc2 hc2 hz3 hz4 Hc3 hc3 hf hn Hnn hnn
 have hz1:(n==0)=false:=by rw[beq_eq_false_iff_ne];exact hz0
 have hz2:(n != 0)=true:=by rw[bne_iff_ne];exact hz0
 exact right_5c_nz fn name n cell w Hc1 hc1 Hc2 hc2 hz3 hz4 Hc3 hc3 hf hn Hnn hnn hz1 hz2
theorem right_6m(fn name:ByteArray)(copy n:Int)(w:World)(hsf:fn.size≤maxLen)(hsn:name.size≤maxLen)(hc1:rcB copy=true)(hc2:rcB n=true) :
 Calls Tryz.prog 133 #[Nd.val ⟨6,fn,copy,name,n,-1⟩] w (RPost (rightB ⟨6,fn,copy,name,n,-1⟩) w):=by
 have Hc1:=cnt_val hc1;have Hc2:=cnt_val hc2;rcases hf:fn.toList.isEmpty with _ | _;rotate_left
 ·exact right_1m_f 6 (by simp) fn name copy n w Hc1 hc1 Hc2 hc2 hf
 rcases hnf:dg.nameB fn with _ | _
 ·have Hnf:=nam_val hsf hnf
  exact right_1m_fn 6 (by simp) fn name copy n w Hc1 hc1 Hc2 hc2 hf Hnf hnf
 have Hnf:=nam_val hsf hnf;rcases hn:name.toList.isEmpty with _ | _;rotate_left
 ·exact right_1m_n 6 (by simp) fn name copy n w Hc1 hc1 Hc2 hc2 hf Hnf hnf hn
 rcases hnn:dg.nameB name with _ | _
 ·have Hnn:=nam_val hsn hnn
  exact right_1m_nn 6 (by simp) fn name copy n w Hc1 hc1 Hc2 hc2 hf Hnf hnf hn Hnn hnn
 have Hnn:=nam_val hsn hnn;by_cases hz0:n=0
 ·subst hz0
  exact right_1m_zz 6 (by simp) fn name copy w Hc1 hc1 Hc2 hc2 hf Hnf hnf hn Hnn hnn
 have hz1:(n==0)=false:=by rw[beq_eq_false_iff_ne];exact hz0
 have hz2:(n != 0)=true:=by rw[bne_iff_ne];exact hz0
 exact right_1m_nz 6 (by simp) fn name copy n w Hc1 hc1 Hc2 hc2 hf Hnf hnf hn Hnn hnn hz1 hz2
theorem right_6c(fn name:ByteArray)(copy n cell:Int)(w:World)(hsf:fn.size≤maxLen)(hsn:name.size≤maxLen)(hc1:rcB copy=true)(hc2:rcB n=true)(hc3:rcB cell=true)(hz3:(cell==-1)=false)(hz4:(cell != -1)=true) :
 Calls Tryz.prog 133 #[Nd.val ⟨6,fn,copy,name,n,cell⟩] w (RPost (rightB ⟨6,fn,copy,name,n,cell⟩) w):=by
 have Hc1:=cnt_val hc1;have Hc2:=cnt_val hc2;have Hc3:=cnt_val hc3;rcases hf:fn.toList.isEmpty with _ | _;rotate_left
 ·exact right_1c_f 6 (by simp) fn name copy n cell w Hc1 hc1 Hc2 hc2 hz3 hz4 Hc3 hc3 hf
 rcases hnf:dg.nameB fn with _ | _
 ·have Hnf:=nam_val hsf hnf
  exact right_1c_fn 6 (by simp) fn name copy n cell w Hc1 hc1 Hc2 hc2 hz3 hz4 Hc3 hc3 hf Hnf hnf
 have Hnf:=nam_val hsf hnf;rcases hn:name.toList.isEmpty with _ | _;rotate_left
 ·exact right_1c_n 6 (by simp) fn name copy n cell w Hc1 hc1 Hc2 hc2 hz3 hz4 Hc3 hc3 hf Hnf hnf hn
 rcases hnn:dg.nameB name with _ | _
 ·have Hnn:=nam_val hsn hnn
  exact right_1c_nn 6 (by simp) fn name copy n cell w Hc1 hc1 Hc2 hc2 hz3 hz4 Hc3 hc3 hf Hnf hnf hn Hnn hnn
 have Hnn:=nam_val hsn hnn;by_cases hz0:n=0
 ·subst hz0
  exact right_6c_zz fn name copy cell w Hc1 hc1 Hc2 hc2 hz3 hz4 Hc3 hc3 hf Hnf hnf hn Hnn hnn
 have hz1:(n==0)=false:=by rw[beq_eq_false_iff_ne];exact hz0
 have hz2:(n != 0)=true:=by rw[bne_iff_ne];exact hz0
 exact right_1c_nz 6 (by simp) fn name copy n cell w Hc1 hc1 Hc2 hc2 hz3 hz4 Hc3 hc3 hf Hnf hnf hn Hnn hnn hz1 hz2
theorem right_7m(fn name:ByteArray)(copy n:Int)(w:World)(hsf:fn.size≤maxLen)(hsn:name.size≤maxLen)(hc1:rcB copy=true)(hc2:rcB n=true) :
 Calls Tryz.prog 133 #[Nd.val ⟨7,fn,copy,name,n,-1⟩] w (RPost (rightB ⟨7,fn,copy,name,n,-1⟩) w):=by
 have Hc1:=cnt_val hc1;have Hc2:=cnt_val hc2;rcases hf:fn.toList.isEmpty with _ | _;rotate_left
 ·exact right_1m_f 7 (by simp) fn name copy n w Hc1 hc1 Hc2 hc2 hf
 rcases hnf:dg.nameB fn with _ | _
 ·have Hnf:=nam_val hsf hnf
  exact right_1m_fn 7 (by simp) fn name copy n w Hc1 hc1 Hc2 hc2 hf Hnf hnf
 have Hnf:=nam_val hsf hnf;rcases hn:name.toList.isEmpty with _ | _
 ·exact right_2m_n 7 (by simp) fn name copy n w Hc1 hc1 Hc2 hc2 hf Hnf hnf hn
 by_cases hz0:n=0
 ·subst hz0
  exact right_3m_zz 7 (by simp) fn name copy w Hc1 hc1 Hc2 hc2 hf Hnf hnf hn
 have hz1:(n==0)=false:=by rw[beq_eq_false_iff_ne];exact hz0
 have hz2:(n != 0)=true:=by rw[bne_iff_ne];exact hz0
 exact right_2m_nz 7 (by simp) fn name copy n w Hc1 hc1 Hc2 hc2 hf Hnf hnf hn hz1 hz2
theorem right_7c(fn name:ByteArray)(copy n cell:Int)(w:World)(hsf:fn.size≤maxLen)(hsn:name.size≤maxLen)(hc1:rcB copy=true)(hc2:rcB n=true)(hc3:rcB cell=true)(hz3:(cell==-1)=false)(hz4:(cell != -1)=true) :
 Calls Tryz.prog 133 #[Nd.val ⟨7,fn,copy,name,n,cell⟩] w (RPost (rightB ⟨7,fn,copy,name,n,cell⟩) w):=by
 have Hc1:=cnt_val hc1;have Hc2:=cnt_val hc2;have Hc3:=cnt_val hc3;rcases hf:fn.toList.isEmpty with _ | _;rotate_left
 ·exact right_1c_f 7 (by simp) fn name copy n cell w Hc1 hc1 Hc2 hc2 hz3 hz4 Hc3 hc3 hf
 rcases hnf:dg.nameB fn with _ | _
 ·have Hnf:=nam_val hsf hnf
  exact right_1c_fn 7 (by simp) fn name copy n cell w Hc1 hc1 Hc2 hc2 hz3 hz4 Hc3 hc3 hf Hnf hnf
 have Hnf:=nam_val hsf hnf;rcases hn:name.toList.isEmpty with _ | _
 ·exact right_2c_n 7 (by simp) fn name copy n cell w Hc1 hc1 Hc2 hc2 hz3 hz4 Hc3 hc3 hf Hnf hnf hn
 by_cases hz0:n=0
 ·subst hz0
  exact right_2c_zz 7 (by simp) fn name copy cell w Hc1 hc1 Hc2 hc2 hz3 hz4 Hc3 hc3 hf Hnf hnf hn
 have hz1:(n==0)=false:=by rw[beq_eq_false_iff_ne];exact hz0
 have hz2:(n != 0)=true:=by rw[bne_iff_ne];exact hz0
 exact right_7c_nz fn name copy n cell w Hc1 hc1 Hc2 hc2 hz3 hz4 Hc3 hc3 hf Hnf hnf hn hz1 hz2
theorem right_any(d:Nd)(w:World)(hsn:d.name.size≤maxLen)(hsf:d.fn.size≤maxLen):Calls Tryz.prog 133 #[d.val] w (RPost (rightB d) w):=by
 obtain⟨kind,fn,copy,name,n,cell⟩:=d;have hsn:name.size≤maxLen:=hsn;have hsf:fn.size≤maxLen:=hsf;by_cases hk:1≤kind∧kind≤7;rotate_left
 ·have hv:rightB ⟨kind,fn,copy,name,n,cell⟩=false:=by unfold rightB rightF;rw[show decide (1≤kind∧kind≤7)=false from decide_eq_false hk];simp only[Bool.false_and]
  rw[hv];exact right_kind kind fn copy name n cell w hk
 obtain⟨h1,h7⟩:=hk;rcases hc1:rcB copy with _ | _
 ·exact right_copy kind fn copy name n cell w h1 h7 (cnt_val hc1) hc1
 rcases hc2:rcB n with _ | _
 ·exact right_n kind fn copy name n cell w h1 h7 (cnt_val hc1) (cnt_val hc2) hc2
 by_cases hz:cell=-1
 ·subst hz
  rcases(by omega:kind=1∨kind=2∨kind=3∨kind=4∨kind=5∨kind=6∨kind=7)with rfl | rfl | rfl | rfl | rfl | rfl | rfl
  ·exact right_1m fn name copy n w hsf hsn hc1 hc2
  ·exact right_2m fn name copy n w hsf hsn hc1 hc2
  ·exact right_3m fn name copy n w hsf hsn hc1 hc2
  ·exact right_4m fn name copy n w hsf hsn hc1 hc2
  ·exact right_5m fn name copy n w hsf hsn hc1 hc2
  ·exact right_6m fn name copy n w hsf hsn hc1 hc2
  ·exact right_7m fn name copy n w hsf hsn hc1 hc2
 ·have hz3:(cell==-1)=false:=by rw[beq_eq_false_iff_ne];exact hz
  have hz4:(cell != -1)=true:=by rw[bne_iff_ne];exact hz
  rcases hc3:rcB cell with _ | _
  ·exact right_cell kind fn copy name n cell w h1 h7 (cnt_val hc1) (cnt_val hc2) (cnt_val hc3) hc3 hz3 hz4
  rcases(by omega:kind=1∨kind=2∨kind=3∨kind=4∨kind=5∨kind=6∨kind=7)with rfl | rfl | rfl | rfl | rfl | rfl | rfl
  ·exact right_1c fn name copy n cell w hsf hsn hc1 hc2 hc3 hz3 hz4
  ·exact right_2c fn name copy n cell w hsf hsn hc1 hc2 hc3 hz3 hz4
  ·exact right_3c fn name copy n cell w hsf hsn hc1 hc2 hc3 hz3 hz4
  ·exact right_4c fn name copy n cell w hsf hsn hc1 hc2 hc3 hz3 hz4
  ·exact right_5c fn name copy n cell w hsf hsn hc1 hc2 hc3 hz3 hz4
  ·exact right_6c fn name copy n cell w hsf hsn hc1 hc2 hc3 hz3 hz4
  ·exact right_7c fn name copy n cell w hsf hsn hc1 hc2 hc3 hz3 hz4
end nm
end Go.Proofs.YtlkboeajkgbnaaaGreatDoor
