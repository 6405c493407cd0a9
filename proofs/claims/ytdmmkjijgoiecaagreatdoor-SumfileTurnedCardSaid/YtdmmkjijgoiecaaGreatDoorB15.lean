import Derived.Lib.QuietBelow
import Derived.Test.YtdmmkjijgoiecaaGreatDoorB12
import Derived.Test.YtdmmkjijgoiecaaGreatDoorB14
set_option linter.all false
set_option maxHeartbeats 4000000
namespace Go.Proofs.YtdmmkjijgoiecaaGreatDoor
open Lib(hid)
set_option maxRecDepth 100000
set_option maxHeartbeats 2000000
namespace nm
open RowKit Go.Sort
theorem bU{w W w':World}(h:Below w.heap.size w W)(hb:Below W.heap.size W w'):Below w.heap.size w w':=h.trans (hb.mono h.size)
theorem iL{P:Program}{f:FuncId}{args:Array Value}{W:World}{d:Nat}{os:Array Obj}{v:Value}(h:Calls P f args (grow (redrawn W d) os) fun e w'=>e=.returned v∧grow (redrawn W d) os=w') :
 Calls P f args (grow (redrawn W d) os) fun e J=>e=.returned v∧∃p:Regrown,J=grow (redrawn W p.d) p.os:=h.mono fun _ _ ⟨Y,hw⟩=>⟨Y,⟨d,os⟩,hw.symm⟩
def cZ(b:Bool)(w:World)(e:Ending)(w':World):Prop:=e=.returned (.bool b)∧Below w.heap.size w w'
theorem aJr(kind:Int)(fn:ByteArray)(copy:Int)(name:ByteArray)(n cell:Int)(w:World)(h:¬(1≤kind∧kind≤7)) :
 Calls Tryz.prog 235 #[Nd.val ⟨kind,fn,copy,name,n,cell⟩] w (cZ false w):=by
 unfold Nd.val Nd.cells
 by_cases Y:kind<1
 ·clear h
  go_enter Tryz.func235,Tryz.ntmps235;go_wp2_with fail
  go_quiet (fail)
  go_wp2_with fail;go_ret;exact⟨rfl,dt.below_drewN ((Below.refl _ _).alloc (aY _) _) _⟩
 ·have J:7<kind:=by omega
  clear h;go_enter Tryz.func235,Tryz.ntmps235;go_wp2_with fail
  go_quiet (fail)
  go_wp2_with fail;go_ret;exact⟨rfl,dt.below_drewN ((Below.refl _ _).alloc (aY _) _) _⟩
theorem aHv(hd:fP)(kind:Int)(fn:ByteArray)(copy:Int)(name:ByteArray)(n cell:Int)(w:World)(h1:1≤kind)(h7:kind≤7)(J:jR ⟨kind,fn,copy,name,n,cell⟩ (bY ⟨kind,fn,copy,name,n,cell⟩)=false) :
 Calls Tryz.prog 235 #[Nd.val ⟨kind,fn,copy,name,n,cell⟩] w (cZ (false) w):=by
 have cO:∀(W:World) (d:Nat) (os:Array Obj),Calls Tryz.prog 249 #[.agg #[.int .i64 kind,.string fn,.int .i64 copy,.string name,.int .i64 n,.int .i64 cell]] (grow (redrawn W d) os) fun e Y=>e=.returned (.agg #[.int .i64 (bY ⟨kind,fn,copy,name,n,cell⟩).kind,.string (bY ⟨kind,fn,copy,name,n,cell⟩).fn,.int .i64 (bY ⟨kind,fn,copy,name,n,cell⟩).copy,.string (bY ⟨kind,fn,copy,name,n,cell⟩).name,.int .i64 (bY ⟨kind,fn,copy,name,n,cell⟩).n,.int .i64 (bY ⟨kind,fn,copy,name,n,cell⟩).cell])∧∃p:Regrown,Y=grow (redrawn W p.d) p.os:=fun W d os=>Calls.regrown_of (vC ⟨kind,fn,copy,name,n,cell⟩ _)
 have a3:∀w,(binOp .neq 175 (.agg #[.int .i64 kind,.string fn,.int .i64 copy,.string name,.int .i64 n,.int .i64 cell]) (.agg #[.int .i64 (bY ⟨kind,fn,copy,name,n,cell⟩).kind,.string (bY ⟨kind,fn,copy,name,n,cell⟩).fn,.int .i64 (bY ⟨kind,fn,copy,name,n,cell⟩).copy,.string (bY ⟨kind,fn,copy,name,n,cell⟩).name,.int .i64 (bY ⟨kind,fn,copy,name,n,cell⟩).n,.int .i64 (bY ⟨kind,fn,copy,name,n,cell⟩).cell])).run Tryz.prog w=.ok (.bool (!jR ⟨kind,fn,copy,name,n,cell⟩ (bY ⟨kind,fn,copy,name,n,cell⟩))) w:=fun w=>hd.neq ⟨kind,fn,copy,name,n,cell⟩ (bY ⟨kind,fn,copy,name,n,cell⟩) w
 have a7:=hd.guard;have cC:∀(x l:Int) (W:World) (d:Nat) (os:Array Obj),Calls Tryz.prog 250 #[.int .i64 x,.int .i64 l] (grow (redrawn W d) os) fun e Y=>e=.returned (.bool (fT x l))∧∃p:Regrown,Y=grow (redrawn W p.d) p.os:=fun x l W d os=>iL (gB x l _)
 clear hd;rw[J]at a3;generalize (bY ⟨kind,fn,copy,name,n,cell⟩).kind=o0 at *;generalize (bY ⟨kind,fn,copy,name,n,cell⟩).fn=o1 at *;generalize (bY ⟨kind,fn,copy,name,n,cell⟩).copy=o2 at *;generalize (bY ⟨kind,fn,copy,name,n,cell⟩).name=o3 at *;generalize (bY ⟨kind,fn,copy,name,n,cell⟩).n=o4 at *;generalize (bY ⟨kind,fn,copy,name,n,cell⟩).cell=o5 at *;have a8:=hid J;clear J;have HO:=hid cO;have HC:=hid cC;clear cO cC;have a5:decide (kind<1)=false:=aB (by omega)
 have a6:decide (7<kind)=false:=aB (by omega)
 have k0:=cell_regrown (w:=w.alloc (.cells #[.int .i64 kind,.string fn,.int .i64 copy,.string name,.int .i64 n,.int .i64 cell] 175)) (a:=⟨w.heap.size,0,none⟩) (v:=.int .i64 kind) (by simp)
 have k1:=cell_regrown (w:=w.alloc (.cells #[.int .i64 kind,.string fn,.int .i64 copy,.string name,.int .i64 n,.int .i64 cell] 175)) (a:=⟨w.heap.size,1,none⟩) (v:=.string fn) (by simp)
 have k2:=cell_regrown (w:=w.alloc (.cells #[.int .i64 kind,.string fn,.int .i64 copy,.string name,.int .i64 n,.int .i64 cell] 175)) (a:=⟨w.heap.size,2,none⟩) (v:=.int .i64 copy) (by simp)
 have k3:=cell_regrown (w:=w.alloc (.cells #[.int .i64 kind,.string fn,.int .i64 copy,.string name,.int .i64 n,.int .i64 cell] 175)) (a:=⟨w.heap.size,3,none⟩) (v:=.string name) (by simp)
 have k4:=cell_regrown (w:=w.alloc (.cells #[.int .i64 kind,.string fn,.int .i64 copy,.string name,.int .i64 n,.int .i64 cell] 175)) (a:=⟨w.heap.size,4,none⟩) (v:=.int .i64 n) (by simp)
 have k5:=cell_regrown (w:=w.alloc (.cells #[.int .i64 kind,.string fn,.int .i64 copy,.string name,.int .i64 n,.int .i64 cell] 175)) (a:=⟨w.heap.size,5,none⟩) (v:=.int .i64 cell) (by simp)
 unfold Nd.val Nd.cells;go_enter Tryz.func235,Tryz.ntmps235;go_wp2_with fail;refine wp_region_quiet_below (by kernel_rfl) (by kernel_rfl) ?_
 repeat (quiet_step (first | exact HO.out _ _ _ | exact HC.out _ _ _ _ _))
 refine wpQuiet_nil ?_;intro _ a4;obtain⟨⟨dq,a2⟩,a0⟩:=a4;subst a0;have a1:=bU ((Below.refl w.heap.size w).alloc (aY _) (.cells #[.int .i64 kind,.string fn,.int .i64 copy,.string name,.int .i64 n,.int .i64 cell] 175)) (below_regrown _ dq a2);go_wp2_with fail;go_ret;exact⟨rfl,a1⟩
theorem aKk(hd:fP)(kind:Int)(fn:ByteArray)(copy:Int)(name:ByteArray)(n cell:Int)(w:World)(h1:1≤kind)(h7:kind≤7)(J:jR ⟨kind,fn,copy,name,n,cell⟩ (bY ⟨kind,fn,copy,name,n,cell⟩)=true)(a5:fT copy 0=false) :
 Calls Tryz.prog 235 #[Nd.val ⟨kind,fn,copy,name,n,cell⟩] w (cZ (false) w):=by
 have cO:∀(W:World) (d:Nat) (os:Array Obj),Calls Tryz.prog 249 #[.agg #[.int .i64 kind,.string fn,.int .i64 copy,.string name,.int .i64 n,.int .i64 cell]] (grow (redrawn W d) os) fun e Y=>e=.returned (.agg #[.int .i64 (bY ⟨kind,fn,copy,name,n,cell⟩).kind,.string (bY ⟨kind,fn,copy,name,n,cell⟩).fn,.int .i64 (bY ⟨kind,fn,copy,name,n,cell⟩).copy,.string (bY ⟨kind,fn,copy,name,n,cell⟩).name,.int .i64 (bY ⟨kind,fn,copy,name,n,cell⟩).n,.int .i64 (bY ⟨kind,fn,copy,name,n,cell⟩).cell])∧∃p:Regrown,Y=grow (redrawn W p.d) p.os:=fun W d os=>Calls.regrown_of (vC ⟨kind,fn,copy,name,n,cell⟩ _)
 have a3:∀w,(binOp .neq 175 (.agg #[.int .i64 kind,.string fn,.int .i64 copy,.string name,.int .i64 n,.int .i64 cell]) (.agg #[.int .i64 (bY ⟨kind,fn,copy,name,n,cell⟩).kind,.string (bY ⟨kind,fn,copy,name,n,cell⟩).fn,.int .i64 (bY ⟨kind,fn,copy,name,n,cell⟩).copy,.string (bY ⟨kind,fn,copy,name,n,cell⟩).name,.int .i64 (bY ⟨kind,fn,copy,name,n,cell⟩).n,.int .i64 (bY ⟨kind,fn,copy,name,n,cell⟩).cell])).run Tryz.prog w=.ok (.bool (!jR ⟨kind,fn,copy,name,n,cell⟩ (bY ⟨kind,fn,copy,name,n,cell⟩))) w:=fun w=>hd.neq ⟨kind,fn,copy,name,n,cell⟩ (bY ⟨kind,fn,copy,name,n,cell⟩) w
 have a8:=hd.guard;have cC:∀(x l:Int) (W:World) (d:Nat) (os:Array Obj),Calls Tryz.prog 250 #[.int .i64 x,.int .i64 l] (grow (redrawn W d) os) fun e Y=>e=.returned (.bool (fT x l))∧∃p:Regrown,Y=grow (redrawn W p.d) p.os:=fun x l W d os=>iL (gB x l _)
 clear hd;rw[J]at a3;generalize (bY ⟨kind,fn,copy,name,n,cell⟩).kind=o0 at *;generalize (bY ⟨kind,fn,copy,name,n,cell⟩).fn=o1 at *;generalize (bY ⟨kind,fn,copy,name,n,cell⟩).copy=o2 at *;generalize (bY ⟨kind,fn,copy,name,n,cell⟩).name=o3 at *;generalize (bY ⟨kind,fn,copy,name,n,cell⟩).n=o4 at *;generalize (bY ⟨kind,fn,copy,name,n,cell⟩).cell=o5 at *;have a9:=hid J;clear J;have HO:=hid cO;have HC:=hid cC;clear cO cC;have a6:decide (kind<1)=false:=aB (by omega)
 have a7:decide (7<kind)=false:=aB (by omega)
 have k0:=cell_regrown (w:=w.alloc (.cells #[.int .i64 kind,.string fn,.int .i64 copy,.string name,.int .i64 n,.int .i64 cell] 175)) (a:=⟨w.heap.size,0,none⟩) (v:=.int .i64 kind) (by simp)
 have k1:=cell_regrown (w:=w.alloc (.cells #[.int .i64 kind,.string fn,.int .i64 copy,.string name,.int .i64 n,.int .i64 cell] 175)) (a:=⟨w.heap.size,1,none⟩) (v:=.string fn) (by simp)
 have k2:=cell_regrown (w:=w.alloc (.cells #[.int .i64 kind,.string fn,.int .i64 copy,.string name,.int .i64 n,.int .i64 cell] 175)) (a:=⟨w.heap.size,2,none⟩) (v:=.int .i64 copy) (by simp)
 have k3:=cell_regrown (w:=w.alloc (.cells #[.int .i64 kind,.string fn,.int .i64 copy,.string name,.int .i64 n,.int .i64 cell] 175)) (a:=⟨w.heap.size,3,none⟩) (v:=.string name) (by simp)
 have k4:=cell_regrown (w:=w.alloc (.cells #[.int .i64 kind,.string fn,.int .i64 copy,.string name,.int .i64 n,.int .i64 cell] 175)) (a:=⟨w.heap.size,4,none⟩) (v:=.int .i64 n) (by simp)
 have k5:=cell_regrown (w:=w.alloc (.cells #[.int .i64 kind,.string fn,.int .i64 copy,.string name,.int .i64 n,.int .i64 cell] 175)) (a:=⟨w.heap.size,5,none⟩) (v:=.int .i64 cell) (by simp)
 unfold Nd.val Nd.cells;go_enter Tryz.func235,Tryz.ntmps235;go_wp2_with fail;refine wp_region_quiet_below (by kernel_rfl) (by kernel_rfl) ?_
 repeat (quiet_step (first | exact HO.out _ _ _ | exact HC.out _ _ _ _ _))
 refine wpQuiet_nil ?_;intro _ a4;obtain⟨⟨dq,a2⟩,a0⟩:=a4;subst a0;have a1:=bU ((Below.refl w.heap.size w).alloc (aY _) (.cells #[.int .i64 kind,.string fn,.int .i64 copy,.string name,.int .i64 n,.int .i64 cell] 175)) (below_regrown _ dq a2);go_wp2_with fail;go_ret;exact⟨rfl,a1⟩
theorem aJP(hd:fP)(kind:Int)(fn:ByteArray)(copy:Int)(name:ByteArray)(n cell:Int)(w:World)(h1:1≤kind)(h7:kind≤7)(J:jR ⟨kind,fn,copy,name,n,cell⟩ (bY ⟨kind,fn,copy,name,n,cell⟩)=true)(a5:fT copy 0=true)(a6:fT cell (-1)=false) :
 Calls Tryz.prog 235 #[Nd.val ⟨kind,fn,copy,name,n,cell⟩] w (cZ (false) w):=by
 have cO:∀(W:World) (d:Nat) (os:Array Obj),Calls Tryz.prog 249 #[.agg #[.int .i64 kind,.string fn,.int .i64 copy,.string name,.int .i64 n,.int .i64 cell]] (grow (redrawn W d) os) fun e Y=>e=.returned (.agg #[.int .i64 (bY ⟨kind,fn,copy,name,n,cell⟩).kind,.string (bY ⟨kind,fn,copy,name,n,cell⟩).fn,.int .i64 (bY ⟨kind,fn,copy,name,n,cell⟩).copy,.string (bY ⟨kind,fn,copy,name,n,cell⟩).name,.int .i64 (bY ⟨kind,fn,copy,name,n,cell⟩).n,.int .i64 (bY ⟨kind,fn,copy,name,n,cell⟩).cell])∧∃p:Regrown,Y=grow (redrawn W p.d) p.os:=fun W d os=>Calls.regrown_of (vC ⟨kind,fn,copy,name,n,cell⟩ _)
 have a3:∀w,(binOp .neq 175 (.agg #[.int .i64 kind,.string fn,.int .i64 copy,.string name,.int .i64 n,.int .i64 cell]) (.agg #[.int .i64 (bY ⟨kind,fn,copy,name,n,cell⟩).kind,.string (bY ⟨kind,fn,copy,name,n,cell⟩).fn,.int .i64 (bY ⟨kind,fn,copy,name,n,cell⟩).copy,.string (bY ⟨kind,fn,copy,name,n,cell⟩).name,.int .i64 (bY ⟨kind,fn,copy,name,n,cell⟩).n,.int .i64 (bY ⟨kind,fn,copy,name,n,cell⟩).cell])).run Tryz.prog w=.ok (.bool (!jR ⟨kind,fn,copy,name,n,cell⟩ (bY ⟨kind,fn,copy,name,n,cell⟩))) w:=fun w=>hd.neq ⟨kind,fn,copy,name,n,cell⟩ (bY ⟨kind,fn,copy,name,n,cell⟩) w
 have a9:=hd.guard;have cC:∀(x l:Int) (W:World) (d:Nat) (os:Array Obj),Calls Tryz.prog 250 #[.int .i64 x,.int .i64 l] (grow (redrawn W d) os) fun e Y=>e=.returned (.bool (fT x l))∧∃p:Regrown,Y=grow (redrawn W p.d) p.os:=fun x l W d os=>iL (gB x l _)
 clear hd;rw[J]at a3;generalize (bY ⟨kind,fn,copy,name,n,cell⟩).kind=o0 at *;generalize (bY ⟨kind,fn,copy,name,n,cell⟩).fn=o1 at *;generalize (bY ⟨kind,fn,copy,name,n,cell⟩).copy=o2 at *;generalize (bY ⟨kind,fn,copy,name,n,cell⟩).name=o3 at *;generalize (bY ⟨kind,fn,copy,name,n,cell⟩).n=o4 at *;generalize (bY ⟨kind,fn,copy,name,n,cell⟩).cell=o5 at *;have aa:=hid J;clear J;have HO:=hid cO;have HC:=hid cC;clear cO cC;have a7:decide (kind<1)=false:=aB (by omega)
 have a8:decide (7<kind)=false:=aB (by omega)
 have k0:=cell_regrown (w:=w.alloc (.cells #[.int .i64 kind,.string fn,.int .i64 copy,.string name,.int .i64 n,.int .i64 cell] 175)) (a:=⟨w.heap.size,0,none⟩) (v:=.int .i64 kind) (by simp)
 have k1:=cell_regrown (w:=w.alloc (.cells #[.int .i64 kind,.string fn,.int .i64 copy,.string name,.int .i64 n,.int .i64 cell] 175)) (a:=⟨w.heap.size,1,none⟩) (v:=.string fn) (by simp)
 have k2:=cell_regrown (w:=w.alloc (.cells #[.int .i64 kind,.string fn,.int .i64 copy,.string name,.int .i64 n,.int .i64 cell] 175)) (a:=⟨w.heap.size,2,none⟩) (v:=.int .i64 copy) (by simp)
 have k3:=cell_regrown (w:=w.alloc (.cells #[.int .i64 kind,.string fn,.int .i64 copy,.string name,.int .i64 n,.int .i64 cell] 175)) (a:=⟨w.heap.size,3,none⟩) (v:=.string name) (by simp)
 have k4:=cell_regrown (w:=w.alloc (.cells #[.int .i64 kind,.string fn,.int .i64 copy,.string name,.int .i64 n,.int .i64 cell] 175)) (a:=⟨w.heap.size,4,none⟩) (v:=.int .i64 n) (by simp)
 have k5:=cell_regrown (w:=w.alloc (.cells #[.int .i64 kind,.string fn,.int .i64 copy,.string name,.int .i64 n,.int .i64 cell] 175)) (a:=⟨w.heap.size,5,none⟩) (v:=.int .i64 cell) (by simp)
 unfold Nd.val Nd.cells;go_enter Tryz.func235,Tryz.ntmps235;go_wp2_with fail;refine wp_region_quiet_below (by kernel_rfl) (by kernel_rfl) ?_
 repeat (quiet_step (first | exact HO.out _ _ _ | exact HC.out _ _ _ _ _))
 refine wpQuiet_nil ?_;intro _ a4;obtain⟨⟨dq,a2⟩,a0⟩:=a4;subst a0;have a1:=bU ((Below.refl w.heap.size w).alloc (aY _) (.cells #[.int .i64 kind,.string fn,.int .i64 copy,.string name,.int .i64 n,.int .i64 cell] 175)) (below_regrown _ dq a2);go_wp2_with fail;go_ret;exact⟨rfl,a1⟩
theorem aJU(hd:fP)(kind:Int)(fn:ByteArray)(copy:Int)(name:ByteArray)(n cell:Int)(w:World)(h1:1≤kind)(h7:kind≤7)(J:jR ⟨kind,fn,copy,name,n,cell⟩ (bY ⟨kind,fn,copy,name,n,cell⟩)=true)(a8:fT copy 0=true)(aa:fT cell (-1)=true)(a2:name.size≤maxLen)(a3:fn.size≤maxLen)(b5:(kind==5)=true) :
 Calls Tryz.prog 235 #[Nd.val ⟨kind,fn,copy,name,n,cell⟩] w (cZ (swB ⟨kind,fn,copy,name,n,cell⟩) w):=by
 have a5:=hid (fun w=>dg.lX name w a2)
 have ag:=hid (fun w=>dg.lX fn w a3)
 have a9:=hid (fun x l w=>gB x l w)
 have cO:∀(W:World) (d:Nat) (os:Array Obj),Calls Tryz.prog 249 #[.agg #[.int .i64 kind,.string fn,.int .i64 copy,.string name,.int .i64 n,.int .i64 cell]] (grow (redrawn W d) os) fun e Y=>e=.returned (.agg #[.int .i64 (bY ⟨kind,fn,copy,name,n,cell⟩).kind,.string (bY ⟨kind,fn,copy,name,n,cell⟩).fn,.int .i64 (bY ⟨kind,fn,copy,name,n,cell⟩).copy,.string (bY ⟨kind,fn,copy,name,n,cell⟩).name,.int .i64 (bY ⟨kind,fn,copy,name,n,cell⟩).n,.int .i64 (bY ⟨kind,fn,copy,name,n,cell⟩).cell])∧∃p:Regrown,Y=grow (redrawn W p.d) p.os:=fun W d os=>Calls.regrown_of (vC ⟨kind,fn,copy,name,n,cell⟩ _)
 have a6:∀w,(binOp .neq 175 (.agg #[.int .i64 kind,.string fn,.int .i64 copy,.string name,.int .i64 n,.int .i64 cell]) (.agg #[.int .i64 (bY ⟨kind,fn,copy,name,n,cell⟩).kind,.string (bY ⟨kind,fn,copy,name,n,cell⟩).fn,.int .i64 (bY ⟨kind,fn,copy,name,n,cell⟩).copy,.string (bY ⟨kind,fn,copy,name,n,cell⟩).name,.int .i64 (bY ⟨kind,fn,copy,name,n,cell⟩).n,.int .i64 (bY ⟨kind,fn,copy,name,n,cell⟩).cell])).run Tryz.prog w=.ok (.bool (!jR ⟨kind,fn,copy,name,n,cell⟩ (bY ⟨kind,fn,copy,name,n,cell⟩))) w:=fun w=>hd.neq ⟨kind,fn,copy,name,n,cell⟩ (bY ⟨kind,fn,copy,name,n,cell⟩) w
 have ah:=hd.guard;have cC:∀(x l:Int) (W:World) (d:Nat) (os:Array Obj),Calls Tryz.prog 250 #[.int .i64 x,.int .i64 l] (grow (redrawn W d) os) fun e Y=>e=.returned (.bool (fT x l))∧∃p:Regrown,Y=grow (redrawn W p.d) p.os:=fun x l W d os=>iL (gB x l _)
 clear hd;rw[J]at a6;generalize (bY ⟨kind,fn,copy,name,n,cell⟩).kind=o0 at *;generalize (bY ⟨kind,fn,copy,name,n,cell⟩).fn=o1 at *;generalize (bY ⟨kind,fn,copy,name,n,cell⟩).copy=o2 at *;generalize (bY ⟨kind,fn,copy,name,n,cell⟩).name=o3 at *;generalize (bY ⟨kind,fn,copy,name,n,cell⟩).n=o4 at *;generalize (bY ⟨kind,fn,copy,name,n,cell⟩).cell=o5 at *;have ai:=hid J;clear J;have HO:=hid cO;have HC:=hid cC;clear cO cC;have ae:decide (kind<1)=false:=aB (by omega)
 have af:decide (7<kind)=false:=aB (by omega)
 have k0:=cell_regrown (w:=w.alloc (.cells #[.int .i64 kind,.string fn,.int .i64 copy,.string name,.int .i64 n,.int .i64 cell] 175)) (a:=⟨w.heap.size,0,none⟩) (v:=.int .i64 kind) (by simp)
 have k1:=cell_regrown (w:=w.alloc (.cells #[.int .i64 kind,.string fn,.int .i64 copy,.string name,.int .i64 n,.int .i64 cell] 175)) (a:=⟨w.heap.size,1,none⟩) (v:=.string fn) (by simp)
 have k2:=cell_regrown (w:=w.alloc (.cells #[.int .i64 kind,.string fn,.int .i64 copy,.string name,.int .i64 n,.int .i64 cell] 175)) (a:=⟨w.heap.size,2,none⟩) (v:=.int .i64 copy) (by simp)
 have k3:=cell_regrown (w:=w.alloc (.cells #[.int .i64 kind,.string fn,.int .i64 copy,.string name,.int .i64 n,.int .i64 cell] 175)) (a:=⟨w.heap.size,3,none⟩) (v:=.string name) (by simp)
 have k4:=cell_regrown (w:=w.alloc (.cells #[.int .i64 kind,.string fn,.int .i64 copy,.string name,.int .i64 n,.int .i64 cell] 175)) (a:=⟨w.heap.size,4,none⟩) (v:=.int .i64 n) (by simp)
 have k5:=cell_regrown (w:=w.alloc (.cells #[.int .i64 kind,.string fn,.int .i64 copy,.string name,.int .i64 n,.int .i64 cell] 175)) (a:=⟨w.heap.size,5,none⟩) (v:=.int .i64 cell) (by simp)
 unfold Nd.val Nd.cells;go_enter Tryz.func235,Tryz.ntmps235;go_wp2_with fail;refine wp_region_quiet_below (by kernel_rfl) (by kernel_rfl) ?_
 repeat (quiet_step (first | exact HO.out _ _ _ | exact HC.out _ _ _ _ _))
 refine wpQuiet_nil ?_;intro _ a7;obtain⟨⟨dq,a4⟩,a0⟩:=a7;subst a0;have a1:=bU ((Below.refl w.heap.size w).alloc (aY _) (.cells #[.int .i64 kind,.string fn,.int .i64 copy,.string name,.int .i64 n,.int .i64 cell] 175)) (below_regrown _ dq a4);have Hs:Hid (swB ⟨kind,fn,copy,name,n,cell⟩=dg.bZ name):=hid (by unfold swB;rw[if_pos b5])
 go_wp2_with fail;refine(a5.out _).mono ?_;rintro e w' ⟨rfl,rfl⟩;go_wp2_with fail;go_ret;exact⟨by rw[Hs.out];rfl,a1⟩
theorem aCI(hd:fP)(kind:Int)(fn:ByteArray)(copy:Int)(name:ByteArray)(n cell:Int)(w:World)(h1:1≤kind)(h7:kind≤7)(J:jR ⟨kind,fn,copy,name,n,cell⟩ (bY ⟨kind,fn,copy,name,n,cell⟩)=true)(a9:fT copy 0=true)(ae:fT cell (-1)=true)(a2:name.size≤maxLen)(a3:fn.size≤maxLen)(b5:(kind==5)=false)(hb:(kind==1)=true∨((kind==1)=false∧(kind==6)=true)) :
 Calls Tryz.prog 235 #[Nd.val ⟨kind,fn,copy,name,n,cell⟩] w (cZ (swB ⟨kind,fn,copy,name,n,cell⟩) w):=by
 have a6:=hid (fun w=>dg.lX name w a2)
 have a4:=hid (fun w=>dg.lX fn w a3)
 have aa:=hid (fun x l w=>gB x l w)
 have cO:∀(W:World) (d:Nat) (os:Array Obj),Calls Tryz.prog 249 #[.agg #[.int .i64 kind,.string fn,.int .i64 copy,.string name,.int .i64 n,.int .i64 cell]] (grow (redrawn W d) os) fun e Y=>e=.returned (.agg #[.int .i64 (bY ⟨kind,fn,copy,name,n,cell⟩).kind,.string (bY ⟨kind,fn,copy,name,n,cell⟩).fn,.int .i64 (bY ⟨kind,fn,copy,name,n,cell⟩).copy,.string (bY ⟨kind,fn,copy,name,n,cell⟩).name,.int .i64 (bY ⟨kind,fn,copy,name,n,cell⟩).n,.int .i64 (bY ⟨kind,fn,copy,name,n,cell⟩).cell])∧∃p:Regrown,Y=grow (redrawn W p.d) p.os:=fun W d os=>Calls.regrown_of (vC ⟨kind,fn,copy,name,n,cell⟩ _)
 have a7:∀w,(binOp .neq 175 (.agg #[.int .i64 kind,.string fn,.int .i64 copy,.string name,.int .i64 n,.int .i64 cell]) (.agg #[.int .i64 (bY ⟨kind,fn,copy,name,n,cell⟩).kind,.string (bY ⟨kind,fn,copy,name,n,cell⟩).fn,.int .i64 (bY ⟨kind,fn,copy,name,n,cell⟩).copy,.string (bY ⟨kind,fn,copy,name,n,cell⟩).name,.int .i64 (bY ⟨kind,fn,copy,name,n,cell⟩).n,.int .i64 (bY ⟨kind,fn,copy,name,n,cell⟩).cell])).run Tryz.prog w=.ok (.bool (!jR ⟨kind,fn,copy,name,n,cell⟩ (bY ⟨kind,fn,copy,name,n,cell⟩))) w:=fun w=>hd.neq ⟨kind,fn,copy,name,n,cell⟩ (bY ⟨kind,fn,copy,name,n,cell⟩) w
 have ah:=hd.guard;have cC:∀(x l:Int) (W:World) (d:Nat) (os:Array Obj),Calls Tryz.prog 250 #[.int .i64 x,.int .i64 l] (grow (redrawn W d) os) fun e Y=>e=.returned (.bool (fT x l))∧∃p:Regrown,Y=grow (redrawn W p.d) p.os:=fun x l W d os=>iL (gB x l _)
 clear hd;rw[J]at a7;generalize (bY ⟨kind,fn,copy,name,n,cell⟩).kind=o0 at *;generalize (bY ⟨kind,fn,copy,name,n,cell⟩).fn=o1 at *;generalize (bY ⟨kind,fn,copy,name,n,cell⟩).copy=o2 at *;generalize (bY ⟨kind,fn,copy,name,n,cell⟩).name=o3 at *;generalize (bY ⟨kind,fn,copy,name,n,cell⟩).n=o4 at *;generalize (bY ⟨kind,fn,copy,name,n,cell⟩).cell=o5 at *;have ai:=hid J;clear J;have HO:=hid cO;have HC:=hid cC;clear cO cC;have af:decide (kind<1)=false:=aB (by omega)
 have ag:decide (7<kind)=false:=aB (by omega)
 have k0:=cell_regrown (w:=w.alloc (.cells #[.int .i64 kind,.string fn,.int .i64 copy,.string name,.int .i64 n,.int .i64 cell] 175)) (a:=⟨w.heap.size,0,none⟩) (v:=.int .i64 kind) (by simp)
 have k1:=cell_regrown (w:=w.alloc (.cells #[.int .i64 kind,.string fn,.int .i64 copy,.string name,.int .i64 n,.int .i64 cell] 175)) (a:=⟨w.heap.size,1,none⟩) (v:=.string fn) (by simp)
 have k2:=cell_regrown (w:=w.alloc (.cells #[.int .i64 kind,.string fn,.int .i64 copy,.string name,.int .i64 n,.int .i64 cell] 175)) (a:=⟨w.heap.size,2,none⟩) (v:=.int .i64 copy) (by simp)
 have k3:=cell_regrown (w:=w.alloc (.cells #[.int .i64 kind,.string fn,.int .i64 copy,.string name,.int .i64 n,.int .i64 cell] 175)) (a:=⟨w.heap.size,3,none⟩) (v:=.string name) (by simp)
 have k4:=cell_regrown (w:=w.alloc (.cells #[.int .i64 kind,.string fn,.int .i64 copy,.string name,.int .i64 n,.int .i64 cell] 175)) (a:=⟨w.heap.size,4,none⟩) (v:=.int .i64 n) (by simp)
 have k5:=cell_regrown (w:=w.alloc (.cells #[.int .i64 kind,.string fn,.int .i64 copy,.string name,.int .i64 n,.int .i64 cell] 175)) (a:=⟨w.heap.size,5,none⟩) (v:=.int .i64 cell) (by simp)
 unfold Nd.val Nd.cells;go_enter Tryz.func235,Tryz.ntmps235;go_wp2_with fail;refine wp_region_quiet_below (by kernel_rfl) (by kernel_rfl) ?_
 repeat (quiet_step (first | exact HO.out _ _ _ | exact HC.out _ _ _ _ _))
 refine wpQuiet_nil ?_;intro _ a8;obtain⟨⟨dq,a5⟩,a0⟩:=a8;subst a0;have a1:=bU ((Below.refl w.heap.size w).alloc (aY _) (.cells #[.int .i64 kind,.string fn,.int .i64 copy,.string name,.int .i64 n,.int .i64 cell] 175)) (below_regrown _ dq a5);have Hs:Hid (swB ⟨kind,fn,copy,name,n,cell⟩=(dg.bZ fn&&dg.bZ name)):=hid (by unfold swB;rw[if_neg (by simp[b5]),if_pos (by rcases hb with h | h;exact Or.inl h;exact Or.inr h.2)])
 rcases hf:dg.bZ fn with _ | _
 all_goals
  have Hf:=hid hf;clear hf
  rcases hb with b1 | ⟨b1,b6⟩
  all_goals
   go_wp2_with fail;refine(a4.out _).mono ?_;rintro e w' ⟨rfl,rfl⟩;rw[Hf.out];go_wp2_with fail
   try refine(a6.out _).mono ?_
   try rintro e w' ⟨rfl,rfl⟩
   go_wp2_with fail;go_ret;exact⟨by rw[Hs.out,Hf.out];rfl,a1⟩
theorem zR(hd:fP)(kind:Int)(fn:ByteArray)(copy:Int)(name:ByteArray)(n cell:Int)(w:World)(h1:1≤kind)(h7:kind≤7)(J:jR ⟨kind,fn,copy,name,n,cell⟩ (bY ⟨kind,fn,copy,name,n,cell⟩)=true)(a9:fT copy 0=true)(aa:fT cell (-1)=true)(a3:name.size≤maxLen)(a4:fn.size≤maxLen)(b5:(kind==5)=false)(b1:(kind==1)=false)(b6:(kind==6)=false)(hb:(kind==3)=true∨((kind==3)=false∧(kind==7)=true)) :
 Calls Tryz.prog 235 #[Nd.val ⟨kind,fn,copy,name,n,cell⟩] w (cZ (swB ⟨kind,fn,copy,name,n,cell⟩) w):=by
 have ag:=hid (fun w=>dg.lX name w a3)
 have a5:=hid (fun w=>dg.lX fn w a4)
 have a1:=hid (fun x l w=>gB x l w)
 have cO:∀(W:World) (d:Nat) (os:Array Obj),Calls Tryz.prog 249 #[.agg #[.int .i64 kind,.string fn,.int .i64 copy,.string name,.int .i64 n,.int .i64 cell]] (grow (redrawn W d) os) fun e Y=>e=.returned (.agg #[.int .i64 (bY ⟨kind,fn,copy,name,n,cell⟩).kind,.string (bY ⟨kind,fn,copy,name,n,cell⟩).fn,.int .i64 (bY ⟨kind,fn,copy,name,n,cell⟩).copy,.string (bY ⟨kind,fn,copy,name,n,cell⟩).name,.int .i64 (bY ⟨kind,fn,copy,name,n,cell⟩).n,.int .i64 (bY ⟨kind,fn,copy,name,n,cell⟩).cell])∧∃p:Regrown,Y=grow (redrawn W p.d) p.os:=fun W d os=>Calls.regrown_of (vC ⟨kind,fn,copy,name,n,cell⟩ _)
 have a7:∀w,(binOp .neq 175 (.agg #[.int .i64 kind,.string fn,.int .i64 copy,.string name,.int .i64 n,.int .i64 cell]) (.agg #[.int .i64 (bY ⟨kind,fn,copy,name,n,cell⟩).kind,.string (bY ⟨kind,fn,copy,name,n,cell⟩).fn,.int .i64 (bY ⟨kind,fn,copy,name,n,cell⟩).copy,.string (bY ⟨kind,fn,copy,name,n,cell⟩).name,.int .i64 (bY ⟨kind,fn,copy,name,n,cell⟩).n,.int .i64 (bY ⟨kind,fn,copy,name,n,cell⟩).cell])).run Tryz.prog w=.ok (.bool (!jR ⟨kind,fn,copy,name,n,cell⟩ (bY ⟨kind,fn,copy,name,n,cell⟩))) w:=fun w=>hd.neq ⟨kind,fn,copy,name,n,cell⟩ (bY ⟨kind,fn,copy,name,n,cell⟩) w
 have ah:=hd.guard;have cC:∀(x l:Int) (W:World) (d:Nat) (os:Array Obj),Calls Tryz.prog 250 #[.int .i64 x,.int .i64 l] (grow (redrawn W d) os) fun e Y=>e=.returned (.bool (fT x l))∧∃p:Regrown,Y=grow (redrawn W p.d) p.os:=fun x l W d os=>iL (gB x l _)
 clear hd;rw[J]at a7;generalize (bY ⟨kind,fn,copy,name,n,cell⟩).kind=o0 at *;generalize (bY ⟨kind,fn,copy,name,n,cell⟩).fn=o1 at *;generalize (bY ⟨kind,fn,copy,name,n,cell⟩).copy=o2 at *;generalize (bY ⟨kind,fn,copy,name,n,cell⟩).name=o3 at *;generalize (bY ⟨kind,fn,copy,name,n,cell⟩).n=o4 at *;generalize (bY ⟨kind,fn,copy,name,n,cell⟩).cell=o5 at *;have ai:=hid J;clear J;have HO:=hid cO;have HC:=hid cC;clear cO cC;have ae:decide (kind<1)=false:=aB (by omega)
 have af:decide (7<kind)=false:=aB (by omega)
 have k0:=cell_regrown (w:=w.alloc (.cells #[.int .i64 kind,.string fn,.int .i64 copy,.string name,.int .i64 n,.int .i64 cell] 175)) (a:=⟨w.heap.size,0,none⟩) (v:=.int .i64 kind) (by simp)
 have k1:=cell_regrown (w:=w.alloc (.cells #[.int .i64 kind,.string fn,.int .i64 copy,.string name,.int .i64 n,.int .i64 cell] 175)) (a:=⟨w.heap.size,1,none⟩) (v:=.string fn) (by simp)
 have k2:=cell_regrown (w:=w.alloc (.cells #[.int .i64 kind,.string fn,.int .i64 copy,.string name,.int .i64 n,.int .i64 cell] 175)) (a:=⟨w.heap.size,2,none⟩) (v:=.int .i64 copy) (by simp)
 have k3:=cell_regrown (w:=w.alloc (.cells #[.int .i64 kind,.string fn,.int .i64 copy,.string name,.int .i64 n,.int .i64 cell] 175)) (a:=⟨w.heap.size,3,none⟩) (v:=.string name) (by simp)
 have k4:=cell_regrown (w:=w.alloc (.cells #[.int .i64 kind,.string fn,.int .i64 copy,.string name,.int .i64 n,.int .i64 cell] 175)) (a:=⟨w.heap.size,4,none⟩) (v:=.int .i64 n) (by simp)
 have k5:=cell_regrown (w:=w.alloc (.cells #[.int .i64 kind,.string fn,.int .i64 copy,.string name,.int .i64 n,.int .i64 cell] 175)) (a:=⟨w.heap.size,5,none⟩) (v:=.int .i64 cell) (by simp)
 unfold Nd.val Nd.cells;go_enter Tryz.func235,Tryz.ntmps235;go_wp2_with fail;refine wp_region_quiet_below (by kernel_rfl) (by kernel_rfl) ?_
 repeat (quiet_step (first | exact HO.out _ _ _ | exact HC.out _ _ _ _ _))
 refine wpQuiet_nil ?_;intro _ a8;obtain⟨⟨dq,a6⟩,a0⟩:=a8;subst a0;have a2:=bU ((Below.refl w.heap.size w).alloc (aY _) (.cells #[.int .i64 kind,.string fn,.int .i64 copy,.string name,.int .i64 n,.int .i64 cell] 175)) (below_regrown _ dq a6);have Hs:Hid (swB ⟨kind,fn,copy,name,n,cell⟩=(dg.bZ fn&&fT n 1)):=hid (by unfold swB;rw[if_neg (by simp[b5]),if_neg (by simp[b1,b6]),if_pos (by rcases hb with h | h;exact Or.inl h;exact Or.inr h.2)])
 rcases hf:dg.bZ fn with _ | _
 all_goals
  have Hf:=hid hf;clear hf
  rcases hb with b3 | ⟨b3,b7⟩
  all_goals
   go_wp2_with fail;refine(a5.out _).mono ?_;rintro e w' ⟨rfl,rfl⟩;rw[Hf.out];go_wp2_with fail
   try refine(a1.out _ _ _).mono ?_
   try rintro e w' ⟨rfl,rfl⟩
   go_wp2_with fail;go_ret;exact⟨by rw[Hs.out,Hf.out];rfl,a2⟩
theorem aJc(hd:fP)(kind:Int)(fn:ByteArray)(copy:Int)(name:ByteArray)(n cell:Int)(w:World)(h1:1≤kind)(h7:kind≤7)(J:jR ⟨kind,fn,copy,name,n,cell⟩ (bY ⟨kind,fn,copy,name,n,cell⟩)=true)(a9:fT copy 0=true)(aa:fT cell (-1)=true)(a3:name.size≤maxLen)(a4:fn.size≤maxLen)(b5:(kind==5)=false)(b1:(kind==1)=false)(b6:(kind==6)=false)(b3:(kind==3)=false)(b7:(kind==7)=false) :
 Calls Tryz.prog 235 #[Nd.val ⟨kind,fn,copy,name,n,cell⟩] w (cZ (swB ⟨kind,fn,copy,name,n,cell⟩) w):=by
 have ag:=hid (fun w=>dg.lX name w a3)
 have a5:=hid (fun w=>dg.lX fn w a4)
 have a1:=hid (fun x l w=>gB x l w)
 have cO:∀(W:World) (d:Nat) (os:Array Obj),Calls Tryz.prog 249 #[.agg #[.int .i64 kind,.string fn,.int .i64 copy,.string name,.int .i64 n,.int .i64 cell]] (grow (redrawn W d) os) fun e Y=>e=.returned (.agg #[.int .i64 (bY ⟨kind,fn,copy,name,n,cell⟩).kind,.string (bY ⟨kind,fn,copy,name,n,cell⟩).fn,.int .i64 (bY ⟨kind,fn,copy,name,n,cell⟩).copy,.string (bY ⟨kind,fn,copy,name,n,cell⟩).name,.int .i64 (bY ⟨kind,fn,copy,name,n,cell⟩).n,.int .i64 (bY ⟨kind,fn,copy,name,n,cell⟩).cell])∧∃p:Regrown,Y=grow (redrawn W p.d) p.os:=fun W d os=>Calls.regrown_of (vC ⟨kind,fn,copy,name,n,cell⟩ _)
 have a7:∀w,(binOp .neq 175 (.agg #[.int .i64 kind,.string fn,.int .i64 copy,.string name,.int .i64 n,.int .i64 cell]) (.agg #[.int .i64 (bY ⟨kind,fn,copy,name,n,cell⟩).kind,.string (bY ⟨kind,fn,copy,name,n,cell⟩).fn,.int .i64 (bY ⟨kind,fn,copy,name,n,cell⟩).copy,.string (bY ⟨kind,fn,copy,name,n,cell⟩).name,.int .i64 (bY ⟨kind,fn,copy,name,n,cell⟩).n,.int .i64 (bY ⟨kind,fn,copy,name,n,cell⟩).cell])).run Tryz.prog w=.ok (.bool (!jR ⟨kind,fn,copy,name,n,cell⟩ (bY ⟨kind,fn,copy,name,n,cell⟩))) w:=fun w=>hd.neq ⟨kind,fn,copy,name,n,cell⟩ (bY ⟨kind,fn,copy,name,n,cell⟩) w
 have ah:=hd.guard;have cC:∀(x l:Int) (W:World) (d:Nat) (os:Array Obj),Calls Tryz.prog 250 #[.int .i64 x,.int .i64 l] (grow (redrawn W d) os) fun e Y=>e=.returned (.bool (fT x l))∧∃p:Regrown,Y=grow (redrawn W p.d) p.os:=fun x l W d os=>iL (gB x l _)
 clear hd;rw[J]at a7;generalize (bY ⟨kind,fn,copy,name,n,cell⟩).kind=o0 at *;generalize (bY ⟨kind,fn,copy,name,n,cell⟩).fn=o1 at *;generalize (bY ⟨kind,fn,copy,name,n,cell⟩).copy=o2 at *;generalize (bY ⟨kind,fn,copy,name,n,cell⟩).name=o3 at *;generalize (bY ⟨kind,fn,copy,name,n,cell⟩).n=o4 at *;generalize (bY ⟨kind,fn,copy,name,n,cell⟩).cell=o5 at *;have ai:=hid J;clear J;have HO:=hid cO;have HC:=hid cC;clear cO cC;have ae:decide (kind<1)=false:=aB (by omega)
 have af:decide (7<kind)=false:=aB (by omega)
 have k0:=cell_regrown (w:=w.alloc (.cells #[.int .i64 kind,.string fn,.int .i64 copy,.string name,.int .i64 n,.int .i64 cell] 175)) (a:=⟨w.heap.size,0,none⟩) (v:=.int .i64 kind) (by simp)
 have k1:=cell_regrown (w:=w.alloc (.cells #[.int .i64 kind,.string fn,.int .i64 copy,.string name,.int .i64 n,.int .i64 cell] 175)) (a:=⟨w.heap.size,1,none⟩) (v:=.string fn) (by simp)
 have k2:=cell_regrown (w:=w.alloc (.cells #[.int .i64 kind,.string fn,.int .i64 copy,.string name,.int .i64 n,.int .i64 cell] 175)) (a:=⟨w.heap.size,2,none⟩) (v:=.int .i64 copy) (by simp)
 have k3:=cell_regrown (w:=w.alloc (.cells #[.int .i64 kind,.string fn,.int .i64 copy,.string name,.int .i64 n,.int .i64 cell] 175)) (a:=⟨w.heap.size,3,none⟩) (v:=.string name) (by simp)
 have k4:=cell_regrown (w:=w.alloc (.cells #[.int .i64 kind,.string fn,.int .i64 copy,.string name,.int .i64 n,.int .i64 cell] 175)) (a:=⟨w.heap.size,4,none⟩) (v:=.int .i64 n) (by simp)
 have k5:=cell_regrown (w:=w.alloc (.cells #[.int .i64 kind,.string fn,.int .i64 copy,.string name,.int .i64 n,.int .i64 cell] 175)) (a:=⟨w.heap.size,5,none⟩) (v:=.int .i64 cell) (by simp)
 unfold Nd.val Nd.cells;go_enter Tryz.func235,Tryz.ntmps235;go_wp2_with fail;refine wp_region_quiet_below (by kernel_rfl) (by kernel_rfl) ?_
 repeat (quiet_step (first | exact HO.out _ _ _ | exact HC.out _ _ _ _ _))
 refine wpQuiet_nil ?_;intro _ a8;obtain⟨⟨dq,a6⟩,a0⟩:=a8;subst a0;have a2:=bU ((Below.refl w.heap.size w).alloc (aY _) (.cells #[.int .i64 kind,.string fn,.int .i64 copy,.string name,.int .i64 n,.int .i64 cell] 175)) (below_regrown _ dq a6);have Hs:Hid (swB ⟨kind,fn,copy,name,n,cell⟩=(dg.bZ fn&&fT n 0)):=hid (by unfold swB;rw[if_neg (by simp[b5]),if_neg (by simp[b1,b6]),if_neg (by simp[b3,b7])])
 rcases hf:dg.bZ fn with _ | _
 all_goals
  have Hf:=hid hf;clear hf;go_wp2_with fail;refine(a5.out _).mono ?_;rintro e w' ⟨rfl,rfl⟩;rw[Hf.out];go_wp2_with fail
  try refine(a1.out _ _ _).mono ?_
  try rintro e w' ⟨rfl,rfl⟩
  go_wp2_with fail;go_ret;exact⟨by rw[Hs.out,Hf.out];rfl,a2⟩
theorem aDy(hd:fP)(d:Nd)(w:World)(Y:d.name.size≤maxLen)(a0:d.fn.size≤maxLen):Calls Tryz.prog 235 #[d.val] w (cZ (dY d) w):=by
 obtain⟨kind,fn,copy,name,n,cell⟩:=d
 by_cases J:1≤kind∧kind≤7
 ·have e0:dY ⟨kind,fn,copy,name,n,cell⟩=(jR ⟨kind,fn,copy,name,n,cell⟩ (bY ⟨kind,fn,copy,name,n,cell⟩)&&(fT copy 0&&(fT cell (-1)&&swB ⟨kind,fn,copy,name,n,cell⟩))):=by
   unfold dY;rw[aC J];rfl
  rw[e0]
  rcases h1:jR ⟨kind,fn,copy,name,n,cell⟩ (bY ⟨kind,fn,copy,name,n,cell⟩)with _ | _
  ·exact aHv hd _ _ _ _ _ _ w J.1 J.2 h1
  ·rcases h2:fT copy 0 with _ | _
   ·exact aKk hd _ _ _ _ _ _ w J.1 J.2 h1 h2
   ·rcases h3:fT cell (-1)with _ | _
    ·exact aJP hd _ _ _ _ _ _ w J.1 J.2 h1 h2 h3
    ·simp only[Bool.true_and]
     rcases b5:(kind==5)with _ | _
     ·rcases b1:(kind==1)with _ | _
      ·rcases b6:(kind==6)with _ | _
       ·rcases b3:(kind==3)with _ | _
        ·rcases b7:(kind==7)with _ | _
         ·exact aJc hd _ _ _ _ _ _ w J.1 J.2 h1 h2 h3 Y a0 b5 b1 b6 b3 b7
         ·exact zR hd _ _ _ _ _ _ w J.1 J.2 h1 h2 h3 Y a0 b5 b1 b6 (Or.inr ⟨b3,b7⟩)
        ·exact zR hd _ _ _ _ _ _ w J.1 J.2 h1 h2 h3 Y a0 b5 b1 b6 (Or.inl b3)
       ·exact aCI hd _ _ _ _ _ _ w J.1 J.2 h1 h2 h3 Y a0 b5 (Or.inr ⟨b1,b6⟩)
      ·exact aCI hd _ _ _ _ _ _ w J.1 J.2 h1 h2 h3 Y a0 b5 (Or.inl b1)
     ·exact aJU hd _ _ _ _ _ _ w J.1 J.2 h1 h2 h3 Y a0 b5
 ·have e0:dY ⟨kind,fn,copy,name,n,cell⟩=false:=by
   unfold dY;rw[aB J];rfl
  rw[e0];exact aJr _ _ _ _ _ _ w J
end nm
end Go.Proofs.YtdmmkjijgoiecaaGreatDoor
