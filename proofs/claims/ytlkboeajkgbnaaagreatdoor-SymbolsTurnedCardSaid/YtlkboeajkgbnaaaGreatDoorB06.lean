import Derived.Lib.QuietBelow
import Derived.Test.YtlkboeajkgbnaaaGreatDoorB05
import Derived.Test.YtlkboeajkgbnaaaGreatDoorB03
set_option linter.all false
set_option maxHeartbeats 4000000
namespace Go.Proofs.YtlkboeajkgbnaaaGreatDoor.nm
open Go.RowKit Go.Sort
theorem below_on {w W w' : World} (h : Below w.heap.size w W) (hb : Below W.heap.size W w') : Below w.heap.size w w' := h.trans (hb.mono h.size)
theorem same_regrown {P : Program} {f : FuncId} {args : Array Value} {W : World} {d : Nat} {os : Array Obj} {v : Value} (h : Calls P f args (grow (redrawn W d) os) fun e w' => e = .returned v ∧ grow (redrawn W d) os = w') :
    Calls P f args (grow (redrawn W d) os) fun e w'' => e = .returned v ∧ ∃ p : Regrown, w'' = grow (redrawn W p.d) p.os := h.mono fun _ _ ⟨he, hw⟩ => ⟨he, ⟨d, os⟩, hw.symm⟩
def BPost (b : Bool) (w : World) (e : Ending) (w' : World) : Prop := e = .returned (.bool b) ∧ Below w.heap.size w w'
set_option maxRecDepth 100000 in
theorem may_kind (kind : Int) (fn : ByteArray) (copy : Int) (name : ByteArray) (n cell : Int) (w : World) (h : ¬ (1 ≤ kind ∧ kind ≤ 7)) :
    Calls Tryz.prog 145 #[Nd.val ⟨kind, fn, copy, name, n, cell⟩] w (BPost false w) := by
  unfold Nd.val Nd.cells
  by_cases h1 : kind < 1
  · clear h
    go_enter Tryz.func145, Tryz.ntmps145
    go_wp2_with fail
    go_quiet (fail)
    go_wp2_with fail
    go_ret
    exact ⟨rfl, dt.below_drewN ((Below.refl _ _).alloc (Nat.le_refl _) _) _⟩
  · have h2 : 7 < kind := by omega
    clear h
    go_enter Tryz.func145, Tryz.ntmps145
    go_wp2_with fail
    go_quiet (fail)
    go_wp2_with fail
    go_ret
    exact ⟨rfl, dt.below_drewN ((Below.refl _ _).alloc (Nat.le_refl _) _) _⟩
set_option maxRecDepth 100000 in
theorem may_other (hd : Held) (kind : Int) (fn : ByteArray) (copy : Int) (name : ByteArray) (n cell : Int) (w : World) (h1 : 1 ≤ kind) (h7 : kind ≤ 7) (hsm : sameB ⟨kind, fn, copy, name, n, cell⟩ (ownN ⟨kind, fn, copy, name, n, cell⟩) = false) :
    Calls Tryz.prog 145 #[Nd.val ⟨kind, fn, copy, name, n, cell⟩] w (BPost (false) w) := by
  have cO : ∀ (W : World) (d : Nat) (os : Array Obj), Calls Tryz.prog 159 #[.agg #[.int .i64 kind, .string fn, .int .i64 copy, .string name, .int .i64 n, .int .i64 cell]] (grow (redrawn W d) os) fun e w'' => e = .returned (.agg #[.int .i64 (ownN ⟨kind, fn, copy, name, n, cell⟩).kind, .string (ownN ⟨kind, fn, copy, name, n, cell⟩).fn, .int .i64 (ownN ⟨kind, fn, copy, name, n, cell⟩).copy, .string (ownN ⟨kind, fn, copy, name, n, cell⟩).name, .int .i64 (ownN ⟨kind, fn, copy, name, n, cell⟩).n, .int .i64 (ownN ⟨kind, fn, copy, name, n, cell⟩).cell]) ∧ ∃ p : Regrown, w'' = grow (redrawn W p.d) p.os := fun W d os => Calls.regrown_of (own_any ⟨kind, fn, copy, name, n, cell⟩ _)
  have hne : ∀ w, (binOp .neq 115 (.agg #[.int .i64 kind, .string fn, .int .i64 copy, .string name, .int .i64 n, .int .i64 cell]) (.agg #[.int .i64 (ownN ⟨kind, fn, copy, name, n, cell⟩).kind, .string (ownN ⟨kind, fn, copy, name, n, cell⟩).fn, .int .i64 (ownN ⟨kind, fn, copy, name, n, cell⟩).copy, .string (ownN ⟨kind, fn, copy, name, n, cell⟩).name, .int .i64 (ownN ⟨kind, fn, copy, name, n, cell⟩).n, .int .i64 (ownN ⟨kind, fn, copy, name, n, cell⟩).cell])).run Tryz.prog w = .ok (.bool (!sameB ⟨kind, fn, copy, name, n, cell⟩ (ownN ⟨kind, fn, copy, name, n, cell⟩))) w := fun w => hd.neq ⟨kind, fn, copy, name, n, cell⟩ (ownN ⟨kind, fn, copy, name, n, cell⟩) w
  have hgd := hd.guard
  have cC : ∀ (x l : Int) (W : World) (d : Nat) (os : Array Obj), Calls Tryz.prog 160 #[.int .i64 x, .int .i64 l] (grow (redrawn W d) os) fun e w'' => e = .returned (.bool (cntB x l)) ∧ ∃ p : Regrown, w'' = grow (redrawn W p.d) p.os := fun x l W d os => same_regrown (count_any x l _)
  clear hd
  rw [hsm] at hne
  generalize (ownN ⟨kind, fn, copy, name, n, cell⟩).kind = o0 at *
  generalize (ownN ⟨kind, fn, copy, name, n, cell⟩).fn = o1 at *
  generalize (ownN ⟨kind, fn, copy, name, n, cell⟩).copy = o2 at *
  generalize (ownN ⟨kind, fn, copy, name, n, cell⟩).name = o3 at *
  generalize (ownN ⟨kind, fn, copy, name, n, cell⟩).n = o4 at *
  generalize (ownN ⟨kind, fn, copy, name, n, cell⟩).cell = o5 at *
  have Hsm := Lib.hid hsm
  clear hsm
  have HO := Lib.hid cO
  have HC := Lib.hid cC
  clear cO cC
  have hk1 : decide (kind < 1) = false := decide_eq_false (by omega)
  have hk7 : decide (7 < kind) = false := decide_eq_false (by omega)
  have k0 := cell_regrown (w := w.alloc (.cells #[.int .i64 kind, .string fn, .int .i64 copy, .string name, .int .i64 n, .int .i64 cell] 115)) (a := ⟨w.heap.size, 0, none⟩) (v := .int .i64 kind) (by simp)
  have k1 := cell_regrown (w := w.alloc (.cells #[.int .i64 kind, .string fn, .int .i64 copy, .string name, .int .i64 n, .int .i64 cell] 115)) (a := ⟨w.heap.size, 1, none⟩) (v := .string fn) (by simp)
  have k2 := cell_regrown (w := w.alloc (.cells #[.int .i64 kind, .string fn, .int .i64 copy, .string name, .int .i64 n, .int .i64 cell] 115)) (a := ⟨w.heap.size, 2, none⟩) (v := .int .i64 copy) (by simp)
  have k3 := cell_regrown (w := w.alloc (.cells #[.int .i64 kind, .string fn, .int .i64 copy, .string name, .int .i64 n, .int .i64 cell] 115)) (a := ⟨w.heap.size, 3, none⟩) (v := .string name) (by simp)
  have k4 := cell_regrown (w := w.alloc (.cells #[.int .i64 kind, .string fn, .int .i64 copy, .string name, .int .i64 n, .int .i64 cell] 115)) (a := ⟨w.heap.size, 4, none⟩) (v := .int .i64 n) (by simp)
  have k5 := cell_regrown (w := w.alloc (.cells #[.int .i64 kind, .string fn, .int .i64 copy, .string name, .int .i64 n, .int .i64 cell] 115)) (a := ⟨w.heap.size, 5, none⟩) (v := .int .i64 cell) (by simp)
  unfold Nd.val Nd.cells
  go_enter Tryz.func145, Tryz.ntmps145
  go_wp2_with fail
  refine wp_region_quiet_below (by kernel_rfl) (by kernel_rfl) ?_
  repeat (quiet_step (first | exact HO.out _ _ _ | exact HC.out _ _ _ _ _))
  refine wpQuiet_nil ?_
  intro _ hw'
  obtain ⟨⟨dq, osq⟩, hw''⟩ := hw'
  subst hw''
  have hbq := below_on ((Below.refl w.heap.size w).alloc (Nat.le_refl _) (.cells #[.int .i64 kind, .string fn, .int .i64 copy, .string name, .int .i64 n, .int .i64 cell] 115)) (below_regrown _ dq osq)
  go_wp2_with fail
  go_ret
  exact ⟨rfl, hbq⟩
set_option maxRecDepth 100000 in
theorem may_copy (hd : Held) (kind : Int) (fn : ByteArray) (copy : Int) (name : ByteArray) (n cell : Int) (w : World) (h1 : 1 ≤ kind) (h7 : kind ≤ 7) (hsm : sameB ⟨kind, fn, copy, name, n, cell⟩ (ownN ⟨kind, fn, copy, name, n, cell⟩) = true) (hcp : cntB copy 0 = false) :
    Calls Tryz.prog 145 #[Nd.val ⟨kind, fn, copy, name, n, cell⟩] w (BPost (false) w) := by
  have cO : ∀ (W : World) (d : Nat) (os : Array Obj), Calls Tryz.prog 159 #[.agg #[.int .i64 kind, .string fn, .int .i64 copy, .string name, .int .i64 n, .int .i64 cell]] (grow (redrawn W d) os) fun e w'' => e = .returned (.agg #[.int .i64 (ownN ⟨kind, fn, copy, name, n, cell⟩).kind, .string (ownN ⟨kind, fn, copy, name, n, cell⟩).fn, .int .i64 (ownN ⟨kind, fn, copy, name, n, cell⟩).copy, .string (ownN ⟨kind, fn, copy, name, n, cell⟩).name, .int .i64 (ownN ⟨kind, fn, copy, name, n, cell⟩).n, .int .i64 (ownN ⟨kind, fn, copy, name, n, cell⟩).cell]) ∧ ∃ p : Regrown, w'' = grow (redrawn W p.d) p.os := fun W d os => Calls.regrown_of (own_any ⟨kind, fn, copy, name, n, cell⟩ _)
  have hne : ∀ w, (binOp .neq 115 (.agg #[.int .i64 kind, .string fn, .int .i64 copy, .string name, .int .i64 n, .int .i64 cell]) (.agg #[.int .i64 (ownN ⟨kind, fn, copy, name, n, cell⟩).kind, .string (ownN ⟨kind, fn, copy, name, n, cell⟩).fn, .int .i64 (ownN ⟨kind, fn, copy, name, n, cell⟩).copy, .string (ownN ⟨kind, fn, copy, name, n, cell⟩).name, .int .i64 (ownN ⟨kind, fn, copy, name, n, cell⟩).n, .int .i64 (ownN ⟨kind, fn, copy, name, n, cell⟩).cell])).run Tryz.prog w = .ok (.bool (!sameB ⟨kind, fn, copy, name, n, cell⟩ (ownN ⟨kind, fn, copy, name, n, cell⟩))) w := fun w => hd.neq ⟨kind, fn, copy, name, n, cell⟩ (ownN ⟨kind, fn, copy, name, n, cell⟩) w
  have hgd := hd.guard
  have cC : ∀ (x l : Int) (W : World) (d : Nat) (os : Array Obj), Calls Tryz.prog 160 #[.int .i64 x, .int .i64 l] (grow (redrawn W d) os) fun e w'' => e = .returned (.bool (cntB x l)) ∧ ∃ p : Regrown, w'' = grow (redrawn W p.d) p.os := fun x l W d os => same_regrown (count_any x l _)
  clear hd
  rw [hsm] at hne
  generalize (ownN ⟨kind, fn, copy, name, n, cell⟩).kind = o0 at *
  generalize (ownN ⟨kind, fn, copy, name, n, cell⟩).fn = o1 at *
  generalize (ownN ⟨kind, fn, copy, name, n, cell⟩).copy = o2 at *
  generalize (ownN ⟨kind, fn, copy, name, n, cell⟩).name = o3 at *
  generalize (ownN ⟨kind, fn, copy, name, n, cell⟩).n = o4 at *
  generalize (ownN ⟨kind, fn, copy, name, n, cell⟩).cell = o5 at *
  have Hsm := Lib.hid hsm
  clear hsm
  have HO := Lib.hid cO
  have HC := Lib.hid cC
  clear cO cC
  have hk1 : decide (kind < 1) = false := decide_eq_false (by omega)
  have hk7 : decide (7 < kind) = false := decide_eq_false (by omega)
  have k0 := cell_regrown (w := w.alloc (.cells #[.int .i64 kind, .string fn, .int .i64 copy, .string name, .int .i64 n, .int .i64 cell] 115)) (a := ⟨w.heap.size, 0, none⟩) (v := .int .i64 kind) (by simp)
  have k1 := cell_regrown (w := w.alloc (.cells #[.int .i64 kind, .string fn, .int .i64 copy, .string name, .int .i64 n, .int .i64 cell] 115)) (a := ⟨w.heap.size, 1, none⟩) (v := .string fn) (by simp)
  have k2 := cell_regrown (w := w.alloc (.cells #[.int .i64 kind, .string fn, .int .i64 copy, .string name, .int .i64 n, .int .i64 cell] 115)) (a := ⟨w.heap.size, 2, none⟩) (v := .int .i64 copy) (by simp)
  have k3 := cell_regrown (w := w.alloc (.cells #[.int .i64 kind, .string fn, .int .i64 copy, .string name, .int .i64 n, .int .i64 cell] 115)) (a := ⟨w.heap.size, 3, none⟩) (v := .string name) (by simp)
  have k4 := cell_regrown (w := w.alloc (.cells #[.int .i64 kind, .string fn, .int .i64 copy, .string name, .int .i64 n, .int .i64 cell] 115)) (a := ⟨w.heap.size, 4, none⟩) (v := .int .i64 n) (by simp)
  have k5 := cell_regrown (w := w.alloc (.cells #[.int .i64 kind, .string fn, .int .i64 copy, .string name, .int .i64 n, .int .i64 cell] 115)) (a := ⟨w.heap.size, 5, none⟩) (v := .int .i64 cell) (by simp)
  unfold Nd.val Nd.cells
  go_enter Tryz.func145, Tryz.ntmps145
  go_wp2_with fail
  refine wp_region_quiet_below (by kernel_rfl) (by kernel_rfl) ?_
  repeat (quiet_step (first | exact HO.out _ _ _ | exact HC.out _ _ _ _ _))
  refine wpQuiet_nil ?_
  intro _ hw'
  obtain ⟨⟨dq, osq⟩, hw''⟩ := hw'
  subst hw''
  have hbq := below_on ((Below.refl w.heap.size w).alloc (Nat.le_refl _) (.cells #[.int .i64 kind, .string fn, .int .i64 copy, .string name, .int .i64 n, .int .i64 cell] 115)) (below_regrown _ dq osq)
  go_wp2_with fail
  go_ret
  exact ⟨rfl, hbq⟩
set_option maxRecDepth 100000 in
theorem may_cell (hd : Held) (kind : Int) (fn : ByteArray) (copy : Int) (name : ByteArray) (n cell : Int) (w : World) (h1 : 1 ≤ kind) (h7 : kind ≤ 7) (hsm : sameB ⟨kind, fn, copy, name, n, cell⟩ (ownN ⟨kind, fn, copy, name, n, cell⟩) = true) (hcp : cntB copy 0 = true) (hce : cntB cell (-1) = false) :
    Calls Tryz.prog 145 #[Nd.val ⟨kind, fn, copy, name, n, cell⟩] w (BPost (false) w) := by
  have cO : ∀ (W : World) (d : Nat) (os : Array Obj), Calls Tryz.prog 159 #[.agg #[.int .i64 kind, .string fn, .int .i64 copy, .string name, .int .i64 n, .int .i64 cell]] (grow (redrawn W d) os) fun e w'' => e = .returned (.agg #[.int .i64 (ownN ⟨kind, fn, copy, name, n, cell⟩).kind, .string (ownN ⟨kind, fn, copy, name, n, cell⟩).fn, .int .i64 (ownN ⟨kind, fn, copy, name, n, cell⟩).copy, .string (ownN ⟨kind, fn, copy, name, n, cell⟩).name, .int .i64 (ownN ⟨kind, fn, copy, name, n, cell⟩).n, .int .i64 (ownN ⟨kind, fn, copy, name, n, cell⟩).cell]) ∧ ∃ p : Regrown, w'' = grow (redrawn W p.d) p.os := fun W d os => Calls.regrown_of (own_any ⟨kind, fn, copy, name, n, cell⟩ _)
  have hne : ∀ w, (binOp .neq 115 (.agg #[.int .i64 kind, .string fn, .int .i64 copy, .string name, .int .i64 n, .int .i64 cell]) (.agg #[.int .i64 (ownN ⟨kind, fn, copy, name, n, cell⟩).kind, .string (ownN ⟨kind, fn, copy, name, n, cell⟩).fn, .int .i64 (ownN ⟨kind, fn, copy, name, n, cell⟩).copy, .string (ownN ⟨kind, fn, copy, name, n, cell⟩).name, .int .i64 (ownN ⟨kind, fn, copy, name, n, cell⟩).n, .int .i64 (ownN ⟨kind, fn, copy, name, n, cell⟩).cell])).run Tryz.prog w = .ok (.bool (!sameB ⟨kind, fn, copy, name, n, cell⟩ (ownN ⟨kind, fn, copy, name, n, cell⟩))) w := fun w => hd.neq ⟨kind, fn, copy, name, n, cell⟩ (ownN ⟨kind, fn, copy, name, n, cell⟩) w
  have hgd := hd.guard
  have cC : ∀ (x l : Int) (W : World) (d : Nat) (os : Array Obj), Calls Tryz.prog 160 #[.int .i64 x, .int .i64 l] (grow (redrawn W d) os) fun e w'' => e = .returned (.bool (cntB x l)) ∧ ∃ p : Regrown, w'' = grow (redrawn W p.d) p.os := fun x l W d os => same_regrown (count_any x l _)
  clear hd
  rw [hsm] at hne
  generalize (ownN ⟨kind, fn, copy, name, n, cell⟩).kind = o0 at *
  generalize (ownN ⟨kind, fn, copy, name, n, cell⟩).fn = o1 at *
  generalize (ownN ⟨kind, fn, copy, name, n, cell⟩).copy = o2 at *
  generalize (ownN ⟨kind, fn, copy, name, n, cell⟩).name = o3 at *
  generalize (ownN ⟨kind, fn, copy, name, n, cell⟩).n = o4 at *
  generalize (ownN ⟨kind, fn, copy, name, n, cell⟩).cell = o5 at *
  have Hsm := Lib.hid hsm
  clear hsm
  have HO := Lib.hid cO
  have HC := Lib.hid cC
  clear cO cC
  have hk1 : decide (kind < 1) = false := decide_eq_false (by omega)
  have hk7 : decide (7 < kind) = false := decide_eq_false (by omega)
  have k0 := cell_regrown (w := w.alloc (.cells #[.int .i64 kind, .string fn, .int .i64 copy, .string name, .int .i64 n, .int .i64 cell] 115)) (a := ⟨w.heap.size, 0, none⟩) (v := .int .i64 kind) (by simp)
  have k1 := cell_regrown (w := w.alloc (.cells #[.int .i64 kind, .string fn, .int .i64 copy, .string name, .int .i64 n, .int .i64 cell] 115)) (a := ⟨w.heap.size, 1, none⟩) (v := .string fn) (by simp)
  have k2 := cell_regrown (w := w.alloc (.cells #[.int .i64 kind, .string fn, .int .i64 copy, .string name, .int .i64 n, .int .i64 cell] 115)) (a := ⟨w.heap.size, 2, none⟩) (v := .int .i64 copy) (by simp)
  have k3 := cell_regrown (w := w.alloc (.cells #[.int .i64 kind, .string fn, .int .i64 copy, .string name, .int .i64 n, .int .i64 cell] 115)) (a := ⟨w.heap.size, 3, none⟩) (v := .string name) (by simp)
  have k4 := cell_regrown (w := w.alloc (.cells #[.int .i64 kind, .string fn, .int .i64 copy, .string name, .int .i64 n, .int .i64 cell] 115)) (a := ⟨w.heap.size, 4, none⟩) (v := .int .i64 n) (by simp)
  have k5 := cell_regrown (w := w.alloc (.cells #[.int .i64 kind, .string fn, .int .i64 copy, .string name, .int .i64 n, .int .i64 cell] 115)) (a := ⟨w.heap.size, 5, none⟩) (v := .int .i64 cell) (by simp)
  unfold Nd.val Nd.cells
  go_enter Tryz.func145, Tryz.ntmps145
  go_wp2_with fail
  refine wp_region_quiet_below (by kernel_rfl) (by kernel_rfl) ?_
  repeat (quiet_step (first | exact HO.out _ _ _ | exact HC.out _ _ _ _ _))
  refine wpQuiet_nil ?_
  intro _ hw'
  obtain ⟨⟨dq, osq⟩, hw''⟩ := hw'
  subst hw''
  have hbq := below_on ((Below.refl w.heap.size w).alloc (Nat.le_refl _) (.cells #[.int .i64 kind, .string fn, .int .i64 copy, .string name, .int .i64 n, .int .i64 cell] 115)) (below_regrown _ dq osq)
  go_wp2_with fail
  go_ret
  exact ⟨rfl, hbq⟩
set_option maxRecDepth 100000 in
theorem may_five (hd : Held) (kind : Int) (fn : ByteArray) (copy : Int) (name : ByteArray) (n cell : Int) (w : World) (h1 : 1 ≤ kind) (h7 : kind ≤ 7) (hsm : sameB ⟨kind, fn, copy, name, n, cell⟩ (ownN ⟨kind, fn, copy, name, n, cell⟩) = true) (hcp : cntB copy 0 = true) (hce : cntB cell (-1) = true) (hsn : name.size ≤ maxLen) (hsf : fn.size ≤ maxLen) (b5 : (kind == 5) = true) :
    Calls Tryz.prog 145 #[Nd.val ⟨kind, fn, copy, name, n, cell⟩] w (BPost (swB ⟨kind, fn, copy, name, n, cell⟩) w) := by
  have Hn1 := Lib.hid (fun w => dg.name_any name w hsn)
  have Hn2 := Lib.hid (fun w => dg.name_any fn w hsf)
  have Hcn := Lib.hid (fun x l w => count_any x l w)
  have cO : ∀ (W : World) (d : Nat) (os : Array Obj), Calls Tryz.prog 159 #[.agg #[.int .i64 kind, .string fn, .int .i64 copy, .string name, .int .i64 n, .int .i64 cell]] (grow (redrawn W d) os) fun e w'' => e = .returned (.agg #[.int .i64 (ownN ⟨kind, fn, copy, name, n, cell⟩).kind, .string (ownN ⟨kind, fn, copy, name, n, cell⟩).fn, .int .i64 (ownN ⟨kind, fn, copy, name, n, cell⟩).copy, .string (ownN ⟨kind, fn, copy, name, n, cell⟩).name, .int .i64 (ownN ⟨kind, fn, copy, name, n, cell⟩).n, .int .i64 (ownN ⟨kind, fn, copy, name, n, cell⟩).cell]) ∧ ∃ p : Regrown, w'' = grow (redrawn W p.d) p.os := fun W d os => Calls.regrown_of (own_any ⟨kind, fn, copy, name, n, cell⟩ _)
  have hne : ∀ w, (binOp .neq 115 (.agg #[.int .i64 kind, .string fn, .int .i64 copy, .string name, .int .i64 n, .int .i64 cell]) (.agg #[.int .i64 (ownN ⟨kind, fn, copy, name, n, cell⟩).kind, .string (ownN ⟨kind, fn, copy, name, n, cell⟩).fn, .int .i64 (ownN ⟨kind, fn, copy, name, n, cell⟩).copy, .string (ownN ⟨kind, fn, copy, name, n, cell⟩).name, .int .i64 (ownN ⟨kind, fn, copy, name, n, cell⟩).n, .int .i64 (ownN ⟨kind, fn, copy, name, n, cell⟩).cell])).run Tryz.prog w = .ok (.bool (!sameB ⟨kind, fn, copy, name, n, cell⟩ (ownN ⟨kind, fn, copy, name, n, cell⟩))) w := fun w => hd.neq ⟨kind, fn, copy, name, n, cell⟩ (ownN ⟨kind, fn, copy, name, n, cell⟩) w
  have hgd := hd.guard
  have cC : ∀ (x l : Int) (W : World) (d : Nat) (os : Array Obj), Calls Tryz.prog 160 #[.int .i64 x, .int .i64 l] (grow (redrawn W d) os) fun e w'' => e = .returned (.bool (cntB x l)) ∧ ∃ p : Regrown, w'' = grow (redrawn W p.d) p.os := fun x l W d os => same_regrown (count_any x l _)
  clear hd
  rw [hsm] at hne
  generalize (ownN ⟨kind, fn, copy, name, n, cell⟩).kind = o0 at *
  generalize (ownN ⟨kind, fn, copy, name, n, cell⟩).fn = o1 at *
  generalize (ownN ⟨kind, fn, copy, name, n, cell⟩).copy = o2 at *
  generalize (ownN ⟨kind, fn, copy, name, n, cell⟩).name = o3 at *
  generalize (ownN ⟨kind, fn, copy, name, n, cell⟩).n = o4 at *
  generalize (ownN ⟨kind, fn, copy, name, n, cell⟩).cell = o5 at *
  have Hsm := Lib.hid hsm
  clear hsm
  have HO := Lib.hid cO
  have HC := Lib.hid cC
  clear cO cC
  have hk1 : decide (kind < 1) = false := decide_eq_false (by omega)
  have hk7 : decide (7 < kind) = false := decide_eq_false (by omega)
  have k0 := cell_regrown (w := w.alloc (.cells #[.int .i64 kind, .string fn, .int .i64 copy, .string name, .int .i64 n, .int .i64 cell] 115)) (a := ⟨w.heap.size, 0, none⟩) (v := .int .i64 kind) (by simp)
  have k1 := cell_regrown (w := w.alloc (.cells #[.int .i64 kind, .string fn, .int .i64 copy, .string name, .int .i64 n, .int .i64 cell] 115)) (a := ⟨w.heap.size, 1, none⟩) (v := .string fn) (by simp)
  have k2 := cell_regrown (w := w.alloc (.cells #[.int .i64 kind, .string fn, .int .i64 copy, .string name, .int .i64 n, .int .i64 cell] 115)) (a := ⟨w.heap.size, 2, none⟩) (v := .int .i64 copy) (by simp)
  have k3 := cell_regrown (w := w.alloc (.cells #[.int .i64 kind, .string fn, .int .i64 copy, .string name, .int .i64 n, .int .i64 cell] 115)) (a := ⟨w.heap.size, 3, none⟩) (v := .string name) (by simp)
  have k4 := cell_regrown (w := w.alloc (.cells #[.int .i64 kind, .string fn, .int .i64 copy, .string name, .int .i64 n, .int .i64 cell] 115)) (a := ⟨w.heap.size, 4, none⟩) (v := .int .i64 n) (by simp)
  have k5 := cell_regrown (w := w.alloc (.cells #[.int .i64 kind, .string fn, .int .i64 copy, .string name, .int .i64 n, .int .i64 cell] 115)) (a := ⟨w.heap.size, 5, none⟩) (v := .int .i64 cell) (by simp)
  unfold Nd.val Nd.cells
  go_enter Tryz.func145, Tryz.ntmps145
  go_wp2_with fail
  refine wp_region_quiet_below (by kernel_rfl) (by kernel_rfl) ?_
  repeat (quiet_step (first | exact HO.out _ _ _ | exact HC.out _ _ _ _ _))
  refine wpQuiet_nil ?_
  intro _ hw'
  obtain ⟨⟨dq, osq⟩, hw''⟩ := hw'
  subst hw''
  have hbq := below_on ((Below.refl w.heap.size w).alloc (Nat.le_refl _) (.cells #[.int .i64 kind, .string fn, .int .i64 copy, .string name, .int .i64 n, .int .i64 cell] 115)) (below_regrown _ dq osq)
  have Hs : Hid (swB ⟨kind, fn, copy, name, n, cell⟩ = dg.nameB name) := Lib.hid (by unfold swB; rw [if_pos b5])
  go_wp2_with fail
  refine (Hn1.out _).mono ?_
  rintro e w' ⟨rfl, rfl⟩
  go_wp2_with fail
  go_ret
  exact ⟨by rw [Hs.out]; rfl, hbq⟩
set_option maxRecDepth 100000 in
theorem may_named (hd : Held) (kind : Int) (fn : ByteArray) (copy : Int) (name : ByteArray) (n cell : Int) (w : World) (h1 : 1 ≤ kind) (h7 : kind ≤ 7) (hsm : sameB ⟨kind, fn, copy, name, n, cell⟩ (ownN ⟨kind, fn, copy, name, n, cell⟩) = true) (hcp : cntB copy 0 = true) (hce : cntB cell (-1) = true) (hsn : name.size ≤ maxLen) (hsf : fn.size ≤ maxLen) (b5 : (kind == 5) = false) (hb : (kind == 1) = true ∨ ((kind == 1) = false ∧ (kind == 6) = true)) :
    Calls Tryz.prog 145 #[Nd.val ⟨kind, fn, copy, name, n, cell⟩] w (BPost (swB ⟨kind, fn, copy, name, n, cell⟩) w) := by
  have Hn1 := Lib.hid (fun w => dg.name_any name w hsn)
  have Hn2 := Lib.hid (fun w => dg.name_any fn w hsf)
  have Hcn := Lib.hid (fun x l w => count_any x l w)
  have cO : ∀ (W : World) (d : Nat) (os : Array Obj), Calls Tryz.prog 159 #[.agg #[.int .i64 kind, .string fn, .int .i64 copy, .string name, .int .i64 n, .int .i64 cell]] (grow (redrawn W d) os) fun e w'' => e = .returned (.agg #[.int .i64 (ownN ⟨kind, fn, copy, name, n, cell⟩).kind, .string (ownN ⟨kind, fn, copy, name, n, cell⟩).fn, .int .i64 (ownN ⟨kind, fn, copy, name, n, cell⟩).copy, .string (ownN ⟨kind, fn, copy, name, n, cell⟩).name, .int .i64 (ownN ⟨kind, fn, copy, name, n, cell⟩).n, .int .i64 (ownN ⟨kind, fn, copy, name, n, cell⟩).cell]) ∧ ∃ p : Regrown, w'' = grow (redrawn W p.d) p.os := fun W d os => Calls.regrown_of (own_any ⟨kind, fn, copy, name, n, cell⟩ _)
  have hne : ∀ w, (binOp .neq 115 (.agg #[.int .i64 kind, .string fn, .int .i64 copy, .string name, .int .i64 n, .int .i64 cell]) (.agg #[.int .i64 (ownN ⟨kind, fn, copy, name, n, cell⟩).kind, .string (ownN ⟨kind, fn, copy, name, n, cell⟩).fn, .int .i64 (ownN ⟨kind, fn, copy, name, n, cell⟩).copy, .string (ownN ⟨kind, fn, copy, name, n, cell⟩).name, .int .i64 (ownN ⟨kind, fn, copy, name, n, cell⟩).n, .int .i64 (ownN ⟨kind, fn, copy, name, n, cell⟩).cell])).run Tryz.prog w = .ok (.bool (!sameB ⟨kind, fn, copy, name, n, cell⟩ (ownN ⟨kind, fn, copy, name, n, cell⟩))) w := fun w => hd.neq ⟨kind, fn, copy, name, n, cell⟩ (ownN ⟨kind, fn, copy, name, n, cell⟩) w
  have hgd := hd.guard
  have cC : ∀ (x l : Int) (W : World) (d : Nat) (os : Array Obj), Calls Tryz.prog 160 #[.int .i64 x, .int .i64 l] (grow (redrawn W d) os) fun e w'' => e = .returned (.bool (cntB x l)) ∧ ∃ p : Regrown, w'' = grow (redrawn W p.d) p.os := fun x l W d os => same_regrown (count_any x l _)
  clear hd
  rw [hsm] at hne
  generalize (ownN ⟨kind, fn, copy, name, n, cell⟩).kind = o0 at *
  generalize (ownN ⟨kind, fn, copy, name, n, cell⟩).fn = o1 at *
  generalize (ownN ⟨kind, fn, copy, name, n, cell⟩).copy = o2 at *
  generalize (ownN ⟨kind, fn, copy, name, n, cell⟩).name = o3 at *
  generalize (ownN ⟨kind, fn, copy, name, n, cell⟩).n = o4 at *
  generalize (ownN ⟨kind, fn, copy, name, n, cell⟩).cell = o5 at *
  have Hsm := Lib.hid hsm
  clear hsm
  have HO := Lib.hid cO
  have HC := Lib.hid cC
  clear cO cC
  have hk1 : decide (kind < 1) = false := decide_eq_false (by omega)
  have hk7 : decide (7 < kind) = false := decide_eq_false (by omega)
  have k0 := cell_regrown (w := w.alloc (.cells #[.int .i64 kind, .string fn, .int .i64 copy, .string name, .int .i64 n, .int .i64 cell] 115)) (a := ⟨w.heap.size, 0, none⟩) (v := .int .i64 kind) (by simp)
  have k1 := cell_regrown (w := w.alloc (.cells #[.int .i64 kind, .string fn, .int .i64 copy, .string name, .int .i64 n, .int .i64 cell] 115)) (a := ⟨w.heap.size, 1, none⟩) (v := .string fn) (by simp)
  have k2 := cell_regrown (w := w.alloc (.cells #[.int .i64 kind, .string fn, .int .i64 copy, .string name, .int .i64 n, .int .i64 cell] 115)) (a := ⟨w.heap.size, 2, none⟩) (v := .int .i64 copy) (by simp)
  have k3 := cell_regrown (w := w.alloc (.cells #[.int .i64 kind, .string fn, .int .i64 copy, .string name, .int .i64 n, .int .i64 cell] 115)) (a := ⟨w.heap.size, 3, none⟩) (v := .string name) (by simp)
  have k4 := cell_regrown (w := w.alloc (.cells #[.int .i64 kind, .string fn, .int .i64 copy, .string name, .int .i64 n, .int .i64 cell] 115)) (a := ⟨w.heap.size, 4, none⟩) (v := .int .i64 n) (by simp)
  have k5 := cell_regrown (w := w.alloc (.cells #[.int .i64 kind, .string fn, .int .i64 copy, .string name, .int .i64 n, .int .i64 cell] 115)) (a := ⟨w.heap.size, 5, none⟩) (v := .int .i64 cell) (by simp)
  unfold Nd.val Nd.cells
  go_enter Tryz.func145, Tryz.ntmps145
  go_wp2_with fail
  refine wp_region_quiet_below (by kernel_rfl) (by kernel_rfl) ?_
  repeat (quiet_step (first | exact HO.out _ _ _ | exact HC.out _ _ _ _ _))
  refine wpQuiet_nil ?_
  intro _ hw'
  obtain ⟨⟨dq, osq⟩, hw''⟩ := hw'
  subst hw''
  have hbq := below_on ((Below.refl w.heap.size w).alloc (Nat.le_refl _) (.cells #[.int .i64 kind, .string fn, .int .i64 copy, .string name, .int .i64 n, .int .i64 cell] 115)) (below_regrown _ dq osq)
  have Hs : Hid (swB ⟨kind, fn, copy, name, n, cell⟩ = (dg.nameB fn && dg.nameB name)) := Lib.hid (by unfold swB; rw [if_neg (by simp [b5]), if_pos (by rcases hb with h | h; exact Or.inl h; exact Or.inr h.2)])
  rcases hf : dg.nameB fn with _ | _
  all_goals
    have Hf := Lib.hid hf
    clear hf
    rcases hb with b1 | ⟨b1, b6⟩
    all_goals
      go_wp2_with fail
      refine (Hn2.out _).mono ?_
      rintro e w' ⟨rfl, rfl⟩
      rw [Hf.out]
      go_wp2_with fail
      try refine (Hn1.out _).mono ?_
      try rintro e w' ⟨rfl, rfl⟩
      go_wp2_with fail
      go_ret
      exact ⟨by rw [Hs.out, Hf.out]; rfl, hbq⟩
set_option maxRecDepth 100000 in
theorem may_numbered (hd : Held) (kind : Int) (fn : ByteArray) (copy : Int) (name : ByteArray) (n cell : Int) (w : World) (h1 : 1 ≤ kind) (h7 : kind ≤ 7) (hsm : sameB ⟨kind, fn, copy, name, n, cell⟩ (ownN ⟨kind, fn, copy, name, n, cell⟩) = true) (hcp : cntB copy 0 = true) (hce : cntB cell (-1) = true) (hsn : name.size ≤ maxLen) (hsf : fn.size ≤ maxLen) (b5 : (kind == 5) = false) (b1 : (kind == 1) = false) (b6 : (kind == 6) = false) (hb : (kind == 3) = true ∨ ((kind == 3) = false ∧ (kind == 7) = true)) :
    Calls Tryz.prog 145 #[Nd.val ⟨kind, fn, copy, name, n, cell⟩] w (BPost (swB ⟨kind, fn, copy, name, n, cell⟩) w) := by
  have Hn1 := Lib.hid (fun w => dg.name_any name w hsn)
  have Hn2 := Lib.hid (fun w => dg.name_any fn w hsf)
  have Hcn := Lib.hid (fun x l w => count_any x l w)
  have cO : ∀ (W : World) (d : Nat) (os : Array Obj), Calls Tryz.prog 159 #[.agg #[.int .i64 kind, .string fn, .int .i64 copy, .string name, .int .i64 n, .int .i64 cell]] (grow (redrawn W d) os) fun e w'' => e = .returned (.agg #[.int .i64 (ownN ⟨kind, fn, copy, name, n, cell⟩).kind, .string (ownN ⟨kind, fn, copy, name, n, cell⟩).fn, .int .i64 (ownN ⟨kind, fn, copy, name, n, cell⟩).copy, .string (ownN ⟨kind, fn, copy, name, n, cell⟩).name, .int .i64 (ownN ⟨kind, fn, copy, name, n, cell⟩).n, .int .i64 (ownN ⟨kind, fn, copy, name, n, cell⟩).cell]) ∧ ∃ p : Regrown, w'' = grow (redrawn W p.d) p.os := fun W d os => Calls.regrown_of (own_any ⟨kind, fn, copy, name, n, cell⟩ _)
  have hne : ∀ w, (binOp .neq 115 (.agg #[.int .i64 kind, .string fn, .int .i64 copy, .string name, .int .i64 n, .int .i64 cell]) (.agg #[.int .i64 (ownN ⟨kind, fn, copy, name, n, cell⟩).kind, .string (ownN ⟨kind, fn, copy, name, n, cell⟩).fn, .int .i64 (ownN ⟨kind, fn, copy, name, n, cell⟩).copy, .string (ownN ⟨kind, fn, copy, name, n, cell⟩).name, .int .i64 (ownN ⟨kind, fn, copy, name, n, cell⟩).n, .int .i64 (ownN ⟨kind, fn, copy, name, n, cell⟩).cell])).run Tryz.prog w = .ok (.bool (!sameB ⟨kind, fn, copy, name, n, cell⟩ (ownN ⟨kind, fn, copy, name, n, cell⟩))) w := fun w => hd.neq ⟨kind, fn, copy, name, n, cell⟩ (ownN ⟨kind, fn, copy, name, n, cell⟩) w
  have hgd := hd.guard
  have cC : ∀ (x l : Int) (W : World) (d : Nat) (os : Array Obj), Calls Tryz.prog 160 #[.int .i64 x, .int .i64 l] (grow (redrawn W d) os) fun e w'' => e = .returned (.bool (cntB x l)) ∧ ∃ p : Regrown, w'' = grow (redrawn W p.d) p.os := fun x l W d os => same_regrown (count_any x l _)
  clear hd
  rw [hsm] at hne
  generalize (ownN ⟨kind, fn, copy, name, n, cell⟩).kind = o0 at *
  generalize (ownN ⟨kind, fn, copy, name, n, cell⟩).fn = o1 at *
  generalize (ownN ⟨kind, fn, copy, name, n, cell⟩).copy = o2 at *
  generalize (ownN ⟨kind, fn, copy, name, n, cell⟩).name = o3 at *
  generalize (ownN ⟨kind, fn, copy, name, n, cell⟩).n = o4 at *
  generalize (ownN ⟨kind, fn, copy, name, n, cell⟩).cell = o5 at *
  have Hsm := Lib.hid hsm
  clear hsm
  have HO := Lib.hid cO
  have HC := Lib.hid cC
  clear cO cC
  have hk1 : decide (kind < 1) = false := decide_eq_false (by omega)
  have hk7 : decide (7 < kind) = false := decide_eq_false (by omega)
  have k0 := cell_regrown (w := w.alloc (.cells #[.int .i64 kind, .string fn, .int .i64 copy, .string name, .int .i64 n, .int .i64 cell] 115)) (a := ⟨w.heap.size, 0, none⟩) (v := .int .i64 kind) (by simp)
  have k1 := cell_regrown (w := w.alloc (.cells #[.int .i64 kind, .string fn, .int .i64 copy, .string name, .int .i64 n, .int .i64 cell] 115)) (a := ⟨w.heap.size, 1, none⟩) (v := .string fn) (by simp)
  have k2 := cell_regrown (w := w.alloc (.cells #[.int .i64 kind, .string fn, .int .i64 copy, .string name, .int .i64 n, .int .i64 cell] 115)) (a := ⟨w.heap.size, 2, none⟩) (v := .int .i64 copy) (by simp)
  have k3 := cell_regrown (w := w.alloc (.cells #[.int .i64 kind, .string fn, .int .i64 copy, .string name, .int .i64 n, .int .i64 cell] 115)) (a := ⟨w.heap.size, 3, none⟩) (v := .string name) (by simp)
  have k4 := cell_regrown (w := w.alloc (.cells #[.int .i64 kind, .string fn, .int .i64 copy, .string name, .int .i64 n, .int .i64 cell] 115)) (a := ⟨w.heap.size, 4, none⟩) (v := .int .i64 n) (by simp)
  have k5 := cell_regrown (w := w.alloc (.cells #[.int .i64 kind, .string fn, .int .i64 copy, .string name, .int .i64 n, .int .i64 cell] 115)) (a := ⟨w.heap.size, 5, none⟩) (v := .int .i64 cell) (by simp)
  unfold Nd.val Nd.cells
  go_enter Tryz.func145, Tryz.ntmps145
  go_wp2_with fail
  refine wp_region_quiet_below (by kernel_rfl) (by kernel_rfl) ?_
  repeat (quiet_step (first | exact HO.out _ _ _ | exact HC.out _ _ _ _ _))
  refine wpQuiet_nil ?_
  intro _ hw'
  obtain ⟨⟨dq, osq⟩, hw''⟩ := hw'
  subst hw''
  have hbq := below_on ((Below.refl w.heap.size w).alloc (Nat.le_refl _) (.cells #[.int .i64 kind, .string fn, .int .i64 copy, .string name, .int .i64 n, .int .i64 cell] 115)) (below_regrown _ dq osq)
  have Hs : Hid (swB ⟨kind, fn, copy, name, n, cell⟩ = (dg.nameB fn && cntB n 1)) := Lib.hid (by unfold swB; rw [if_neg (by simp [b5]), if_neg (by simp [b1, b6]), if_pos (by rcases hb with h | h; exact Or.inl h; exact Or.inr h.2)])
  rcases hf : dg.nameB fn with _ | _
  all_goals
    have Hf := Lib.hid hf
    clear hf
    rcases hb with b3 | ⟨b3, b7⟩
    all_goals
      go_wp2_with fail
      refine (Hn2.out _).mono ?_
      rintro e w' ⟨rfl, rfl⟩
      rw [Hf.out]
      go_wp2_with fail
      try refine (Hcn.out _ _ _).mono ?_
      try rintro e w' ⟨rfl, rfl⟩
      go_wp2_with fail
      go_ret
      exact ⟨by rw [Hs.out, Hf.out]; rfl, hbq⟩
set_option maxRecDepth 100000 in
theorem may_rest (hd : Held) (kind : Int) (fn : ByteArray) (copy : Int) (name : ByteArray) (n cell : Int) (w : World) (h1 : 1 ≤ kind) (h7 : kind ≤ 7) (hsm : sameB ⟨kind, fn, copy, name, n, cell⟩ (ownN ⟨kind, fn, copy, name, n, cell⟩) = true) (hcp : cntB copy 0 = true) (hce : cntB cell (-1) = true) (hsn : name.size ≤ maxLen) (hsf : fn.size ≤ maxLen) (b5 : (kind == 5) = false) (b1 : (kind == 1) = false) (b6 : (kind == 6) = false) (b3 : (kind == 3) = false) (b7 : (kind == 7) = false) :
    Calls Tryz.prog 145 #[Nd.val ⟨kind, fn, copy, name, n, cell⟩] w (BPost (swB ⟨kind, fn, copy, name, n, cell⟩) w) := by
  have Hn1 := Lib.hid (fun w => dg.name_any name w hsn)
  have Hn2 := Lib.hid (fun w => dg.name_any fn w hsf)
  have Hcn := Lib.hid (fun x l w => count_any x l w)
  have cO : ∀ (W : World) (d : Nat) (os : Array Obj), Calls Tryz.prog 159 #[.agg #[.int .i64 kind, .string fn, .int .i64 copy, .string name, .int .i64 n, .int .i64 cell]] (grow (redrawn W d) os) fun e w'' => e = .returned (.agg #[.int .i64 (ownN ⟨kind, fn, copy, name, n, cell⟩).kind, .string (ownN ⟨kind, fn, copy, name, n, cell⟩).fn, .int .i64 (ownN ⟨kind, fn, copy, name, n, cell⟩).copy, .string (ownN ⟨kind, fn, copy, name, n, cell⟩).name, .int .i64 (ownN ⟨kind, fn, copy, name, n, cell⟩).n, .int .i64 (ownN ⟨kind, fn, copy, name, n, cell⟩).cell]) ∧ ∃ p : Regrown, w'' = grow (redrawn W p.d) p.os := fun W d os => Calls.regrown_of (own_any ⟨kind, fn, copy, name, n, cell⟩ _)
  have hne : ∀ w, (binOp .neq 115 (.agg #[.int .i64 kind, .string fn, .int .i64 copy, .string name, .int .i64 n, .int .i64 cell]) (.agg #[.int .i64 (ownN ⟨kind, fn, copy, name, n, cell⟩).kind, .string (ownN ⟨kind, fn, copy, name, n, cell⟩).fn, .int .i64 (ownN ⟨kind, fn, copy, name, n, cell⟩).copy, .string (ownN ⟨kind, fn, copy, name, n, cell⟩).name, .int .i64 (ownN ⟨kind, fn, copy, name, n, cell⟩).n, .int .i64 (ownN ⟨kind, fn, copy, name, n, cell⟩).cell])).run Tryz.prog w = .ok (.bool (!sameB ⟨kind, fn, copy, name, n, cell⟩ (ownN ⟨kind, fn, copy, name, n, cell⟩))) w := fun w => hd.neq ⟨kind, fn, copy, name, n, cell⟩ (ownN ⟨kind, fn, copy, name, n, cell⟩) w
  have hgd := hd.guard
  have cC : ∀ (x l : Int) (W : World) (d : Nat) (os : Array Obj), Calls Tryz.prog 160 #[.int .i64 x, .int .i64 l] (grow (redrawn W d) os) fun e w'' => e = .returned (.bool (cntB x l)) ∧ ∃ p : Regrown, w'' = grow (redrawn W p.d) p.os := fun x l W d os => same_regrown (count_any x l _)
  clear hd
  rw [hsm] at hne
  generalize (ownN ⟨kind, fn, copy, name, n, cell⟩).kind = o0 at *
  generalize (ownN ⟨kind, fn, copy, name, n, cell⟩).fn = o1 at *
  generalize (ownN ⟨kind, fn, copy, name, n, cell⟩).copy = o2 at *
  generalize (ownN ⟨kind, fn, copy, name, n, cell⟩).name = o3 at *
  generalize (ownN ⟨kind, fn, copy, name, n, cell⟩).n = o4 at *
  generalize (ownN ⟨kind, fn, copy, name, n, cell⟩).cell = o5 at *
  have Hsm := Lib.hid hsm
  clear hsm
  have HO := Lib.hid cO
  have HC := Lib.hid cC
  clear cO cC
  have hk1 : decide (kind < 1) = false := decide_eq_false (by omega)
  have hk7 : decide (7 < kind) = false := decide_eq_false (by omega)
  have k0 := cell_regrown (w := w.alloc (.cells #[.int .i64 kind, .string fn, .int .i64 copy, .string name, .int .i64 n, .int .i64 cell] 115)) (a := ⟨w.heap.size, 0, none⟩) (v := .int .i64 kind) (by simp)
  have k1 := cell_regrown (w := w.alloc (.cells #[.int .i64 kind, .string fn, .int .i64 copy, .string name, .int .i64 n, .int .i64 cell] 115)) (a := ⟨w.heap.size, 1, none⟩) (v := .string fn) (by simp)
  have k2 := cell_regrown (w := w.alloc (.cells #[.int .i64 kind, .string fn, .int .i64 copy, .string name, .int .i64 n, .int .i64 cell] 115)) (a := ⟨w.heap.size, 2, none⟩) (v := .int .i64 copy) (by simp)
  have k3 := cell_regrown (w := w.alloc (.cells #[.int .i64 kind, .string fn, .int .i64 copy, .string name, .int .i64 n, .int .i64 cell] 115)) (a := ⟨w.heap.size, 3, none⟩) (v := .string name) (by simp)
  have k4 := cell_regrown (w := w.alloc (.cells #[.int .i64 kind, .string fn, .int .i64 copy, .string name, .int .i64 n, .int .i64 cell] 115)) (a := ⟨w.heap.size, 4, none⟩) (v := .int .i64 n) (by simp)
  have k5 := cell_regrown (w := w.alloc (.cells #[.int .i64 kind, .string fn, .int .i64 copy, .string name, .int .i64 n, .int .i64 cell] 115)) (a := ⟨w.heap.size, 5, none⟩) (v := .int .i64 cell) (by simp)
  unfold Nd.val Nd.cells
  go_enter Tryz.func145, Tryz.ntmps145
  go_wp2_with fail
  refine wp_region_quiet_below (by kernel_rfl) (by kernel_rfl) ?_
  repeat (quiet_step (first | exact HO.out _ _ _ | exact HC.out _ _ _ _ _))
  refine wpQuiet_nil ?_
  intro _ hw'
  obtain ⟨⟨dq, osq⟩, hw''⟩ := hw'
  subst hw''
  have hbq := below_on ((Below.refl w.heap.size w).alloc (Nat.le_refl _) (.cells #[.int .i64 kind, .string fn, .int .i64 copy, .string name, .int .i64 n, .int .i64 cell] 115)) (below_regrown _ dq osq)
  have Hs : Hid (swB ⟨kind, fn, copy, name, n, cell⟩ = (dg.nameB fn && cntB n 0)) := Lib.hid (by unfold swB; rw [if_neg (by simp [b5]), if_neg (by simp [b1, b6]), if_neg (by simp [b3, b7])])
  rcases hf : dg.nameB fn with _ | _
  all_goals
    have Hf := Lib.hid hf
    clear hf
    go_wp2_with fail
    refine (Hn2.out _).mono ?_
    rintro e w' ⟨rfl, rfl⟩
    rw [Hf.out]
    go_wp2_with fail
    try refine (Hcn.out _ _ _).mono ?_
    try rintro e w' ⟨rfl, rfl⟩
    go_wp2_with fail
    go_ret
    exact ⟨by rw [Hs.out, Hf.out]; rfl, hbq⟩
theorem may_any (hd : Held) (d : Nd) (w : World) (hsn : d.name.size ≤ maxLen) (hsf : d.fn.size ≤ maxLen) : Calls Tryz.prog 145 #[d.val] w (BPost (mayB d) w) := by
  obtain ⟨kind, fn, copy, name, n, cell⟩ := d
  by_cases hk : 1 ≤ kind ∧ kind ≤ 7
  · have e0 : mayB ⟨kind, fn, copy, name, n, cell⟩ = (sameB ⟨kind, fn, copy, name, n, cell⟩ (ownN ⟨kind, fn, copy, name, n, cell⟩) && (cntB copy 0 && (cntB cell (-1) && swB ⟨kind, fn, copy, name, n, cell⟩))) := by
      unfold mayB; rw [decide_eq_true hk]; rfl
    rw [e0]
    rcases h1 : sameB ⟨kind, fn, copy, name, n, cell⟩ (ownN ⟨kind, fn, copy, name, n, cell⟩) with _ | _
    · exact may_other hd _ _ _ _ _ _ w hk.1 hk.2 h1
    · rcases h2 : cntB copy 0 with _ | _
      · exact may_copy hd _ _ _ _ _ _ w hk.1 hk.2 h1 h2
      · rcases h3 : cntB cell (-1) with _ | _
        · exact may_cell hd _ _ _ _ _ _ w hk.1 hk.2 h1 h2 h3
        · simp only [Bool.true_and]
          rcases b5 : (kind == 5) with _ | _
          · rcases b1 : (kind == 1) with _ | _
            · rcases b6 : (kind == 6) with _ | _
              · rcases b3 : (kind == 3) with _ | _
                · rcases b7 : (kind == 7) with _ | _
                  · exact may_rest hd _ _ _ _ _ _ w hk.1 hk.2 h1 h2 h3 hsn hsf b5 b1 b6 b3 b7
                  · exact may_numbered hd _ _ _ _ _ _ w hk.1 hk.2 h1 h2 h3 hsn hsf b5 b1 b6 (Or.inr ⟨b3, b7⟩)
                · exact may_numbered hd _ _ _ _ _ _ w hk.1 hk.2 h1 h2 h3 hsn hsf b5 b1 b6 (Or.inl b3)
              · exact may_named hd _ _ _ _ _ _ w hk.1 hk.2 h1 h2 h3 hsn hsf b5 (Or.inr ⟨b1, b6⟩)
            · exact may_named hd _ _ _ _ _ _ w hk.1 hk.2 h1 h2 h3 hsn hsf b5 (Or.inl b1)
          · exact may_five hd _ _ _ _ _ _ w hk.1 hk.2 h1 h2 h3 hsn hsf b5
  · have e0 : mayB ⟨kind, fn, copy, name, n, cell⟩ = false := by
      unfold mayB; rw [decide_eq_false hk]; rfl
    rw [e0]
    exact may_kind _ _ _ _ _ _ w hk
end Go.Proofs.YtlkboeajkgbnaaaGreatDoor.nm
