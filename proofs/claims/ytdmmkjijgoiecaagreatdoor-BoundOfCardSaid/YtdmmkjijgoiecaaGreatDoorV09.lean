import Derived.Test.YtdmmkjijgoiecaaGreatDoorV08
/-
  weftref14.Right: its leaves, part a.
-/
set_option linter.all false
namespace Go.Proofs.YtdmmkjijgoiecaaGreatDoor.nm
open Go.RowKit Go.Sort

set_option maxRecDepth 100000 in
set_option maxHeartbeats 400000 in
theorem right_1m_f (fn name : ByteArray) (copy : Int) (n : Int) (w : World) (Hc1 : Hid (∀ w, Calls Tryz.prog 214 #[.int .i64 (copy)] w fun e w' => e = .returned (.bool true) ∧ w = w')) (hc1 : rcB (copy) = true) (Hc2 : Hid (∀ w, Calls Tryz.prog 214 #[.int .i64 (n)] w fun e w' => e = .returned (.bool true) ∧ w = w')) (hc2 : rcB (n) = true) (hf : fn.toList.isEmpty = true) :
    Calls Tryz.prog 196 #[Nd.val ⟨1, fn, copy, name, n, -1⟩] w (RPost (rightB ⟨1, fn, copy, name, n, -1⟩) w) := by
  have Hv : Hid (rightB ⟨1, fn, copy, name, n, -1⟩ = false) := Lib.hid (by unfold rightB; simp only [*]; unfold rightF; simp)
  unfold Nd.val Nd.cells
  go_enter Tryz.func196, Tryz.ntmps196
  go_wp2_with fail
  repeat (first | (with_reducible refine (Hc1.out _).mono ?_; rintro e w' ⟨rfl, rfl⟩; go_wp2_with fail) | (with_reducible refine (Hc2.out _).mono ?_; rintro e w' ⟨rfl, rfl⟩; go_wp2_with fail) | (with_reducible refine (Hc3.out _).mono ?_; rintro e w' ⟨rfl, rfl⟩; go_wp2_with fail) | (with_reducible refine (Hnf.out _).mono ?_; rintro e w' ⟨rfl, rfl⟩; go_wp2_with fail) | (with_reducible refine (Hnn.out _).mono ?_; rintro e w' ⟨rfl, rfl⟩; go_wp2_with fail))
  go_ret
  exact ⟨by rw [Hv.out]; try rfl, (Below.refl _ _).alloc (Nat.le_refl _) _⟩

set_option maxRecDepth 100000 in
set_option maxHeartbeats 400000 in
theorem right_1m_fn (fn name : ByteArray) (copy : Int) (n : Int) (w : World) (Hc1 : Hid (∀ w, Calls Tryz.prog 214 #[.int .i64 (copy)] w fun e w' => e = .returned (.bool true) ∧ w = w')) (hc1 : rcB (copy) = true) (Hc2 : Hid (∀ w, Calls Tryz.prog 214 #[.int .i64 (n)] w fun e w' => e = .returned (.bool true) ∧ w = w')) (hc2 : rcB (n) = true) (hf : fn.toList.isEmpty = false) (Hnf : Hid (∀ w, Calls Tryz.prog 56 #[.string fn] w fun e w' => e = .returned (.bool false) ∧ w = w')) (hnf : dg.nameB fn = false) :
    Calls Tryz.prog 196 #[Nd.val ⟨1, fn, copy, name, n, -1⟩] w (RPost (rightB ⟨1, fn, copy, name, n, -1⟩) w) := by
  have Hv : Hid (rightB ⟨1, fn, copy, name, n, -1⟩ = false) := Lib.hid (by unfold rightB; simp only [*]; unfold rightF; simp)
  unfold Nd.val Nd.cells
  go_enter Tryz.func196, Tryz.ntmps196
  go_wp2_with fail
  repeat (first | (with_reducible refine (Hc1.out _).mono ?_; rintro e w' ⟨rfl, rfl⟩; go_wp2_with fail) | (with_reducible refine (Hc2.out _).mono ?_; rintro e w' ⟨rfl, rfl⟩; go_wp2_with fail) | (with_reducible refine (Hc3.out _).mono ?_; rintro e w' ⟨rfl, rfl⟩; go_wp2_with fail) | (with_reducible refine (Hnf.out _).mono ?_; rintro e w' ⟨rfl, rfl⟩; go_wp2_with fail) | (with_reducible refine (Hnn.out _).mono ?_; rintro e w' ⟨rfl, rfl⟩; go_wp2_with fail))
  go_ret
  exact ⟨by rw [Hv.out]; try rfl, (Below.refl _ _).alloc (Nat.le_refl _) _⟩

set_option maxRecDepth 100000 in
set_option maxHeartbeats 400000 in
theorem right_1m_n (fn name : ByteArray) (copy : Int) (n : Int) (w : World) (Hc1 : Hid (∀ w, Calls Tryz.prog 214 #[.int .i64 (copy)] w fun e w' => e = .returned (.bool true) ∧ w = w')) (hc1 : rcB (copy) = true) (Hc2 : Hid (∀ w, Calls Tryz.prog 214 #[.int .i64 (n)] w fun e w' => e = .returned (.bool true) ∧ w = w')) (hc2 : rcB (n) = true) (hf : fn.toList.isEmpty = false) (Hnf : Hid (∀ w, Calls Tryz.prog 56 #[.string fn] w fun e w' => e = .returned (.bool true) ∧ w = w')) (hnf : dg.nameB fn = true) (hn : name.toList.isEmpty = true) :
    Calls Tryz.prog 196 #[Nd.val ⟨1, fn, copy, name, n, -1⟩] w (RPost (rightB ⟨1, fn, copy, name, n, -1⟩) w) := by
  have Hv : Hid (rightB ⟨1, fn, copy, name, n, -1⟩ = false) := Lib.hid (by unfold rightB; simp only [*]; unfold rightF; simp)
  unfold Nd.val Nd.cells
  go_enter Tryz.func196, Tryz.ntmps196
  go_wp2_with fail
  repeat (first | (with_reducible refine (Hc1.out _).mono ?_; rintro e w' ⟨rfl, rfl⟩; go_wp2_with fail) | (with_reducible refine (Hc2.out _).mono ?_; rintro e w' ⟨rfl, rfl⟩; go_wp2_with fail) | (with_reducible refine (Hc3.out _).mono ?_; rintro e w' ⟨rfl, rfl⟩; go_wp2_with fail) | (with_reducible refine (Hnf.out _).mono ?_; rintro e w' ⟨rfl, rfl⟩; go_wp2_with fail) | (with_reducible refine (Hnn.out _).mono ?_; rintro e w' ⟨rfl, rfl⟩; go_wp2_with fail))
  go_ret
  exact ⟨by rw [Hv.out]; try rfl, (Below.refl _ _).alloc (Nat.le_refl _) _⟩

set_option maxRecDepth 100000 in
set_option maxHeartbeats 400000 in
theorem right_1m_nn (fn name : ByteArray) (copy : Int) (n : Int) (w : World) (Hc1 : Hid (∀ w, Calls Tryz.prog 214 #[.int .i64 (copy)] w fun e w' => e = .returned (.bool true) ∧ w = w')) (hc1 : rcB (copy) = true) (Hc2 : Hid (∀ w, Calls Tryz.prog 214 #[.int .i64 (n)] w fun e w' => e = .returned (.bool true) ∧ w = w')) (hc2 : rcB (n) = true) (hf : fn.toList.isEmpty = false) (Hnf : Hid (∀ w, Calls Tryz.prog 56 #[.string fn] w fun e w' => e = .returned (.bool true) ∧ w = w')) (hnf : dg.nameB fn = true) (hn : name.toList.isEmpty = false) (Hnn : Hid (∀ w, Calls Tryz.prog 56 #[.string name] w fun e w' => e = .returned (.bool false) ∧ w = w')) (hnn : dg.nameB name = false) :
    Calls Tryz.prog 196 #[Nd.val ⟨1, fn, copy, name, n, -1⟩] w (RPost (rightB ⟨1, fn, copy, name, n, -1⟩) w) := by
  have Hv : Hid (rightB ⟨1, fn, copy, name, n, -1⟩ = false) := Lib.hid (by unfold rightB; simp only [*]; unfold rightF; simp)
  unfold Nd.val Nd.cells
  go_enter Tryz.func196, Tryz.ntmps196
  go_wp2_with fail
  repeat (first | (with_reducible refine (Hc1.out _).mono ?_; rintro e w' ⟨rfl, rfl⟩; go_wp2_with fail) | (with_reducible refine (Hc2.out _).mono ?_; rintro e w' ⟨rfl, rfl⟩; go_wp2_with fail) | (with_reducible refine (Hc3.out _).mono ?_; rintro e w' ⟨rfl, rfl⟩; go_wp2_with fail) | (with_reducible refine (Hnf.out _).mono ?_; rintro e w' ⟨rfl, rfl⟩; go_wp2_with fail) | (with_reducible refine (Hnn.out _).mono ?_; rintro e w' ⟨rfl, rfl⟩; go_wp2_with fail))
  go_ret
  exact ⟨by rw [Hv.out]; try rfl, (Below.refl _ _).alloc (Nat.le_refl _) _⟩

set_option maxRecDepth 100000 in
set_option maxHeartbeats 400000 in
theorem right_1m_nz (fn name : ByteArray) (copy : Int) (n : Int) (w : World) (Hc1 : Hid (∀ w, Calls Tryz.prog 214 #[.int .i64 (copy)] w fun e w' => e = .returned (.bool true) ∧ w = w')) (hc1 : rcB (copy) = true) (Hc2 : Hid (∀ w, Calls Tryz.prog 214 #[.int .i64 (n)] w fun e w' => e = .returned (.bool true) ∧ w = w')) (hc2 : rcB (n) = true) (hf : fn.toList.isEmpty = false) (Hnf : Hid (∀ w, Calls Tryz.prog 56 #[.string fn] w fun e w' => e = .returned (.bool true) ∧ w = w')) (hnf : dg.nameB fn = true) (hn : name.toList.isEmpty = false) (Hnn : Hid (∀ w, Calls Tryz.prog 56 #[.string name] w fun e w' => e = .returned (.bool true) ∧ w = w')) (hnn : dg.nameB name = true) (hz1 : (n == 0) = false) (hz2 : (n != 0) = true) :
    Calls Tryz.prog 196 #[Nd.val ⟨1, fn, copy, name, n, -1⟩] w (RPost (rightB ⟨1, fn, copy, name, n, -1⟩) w) := by
  have Hv : Hid (rightB ⟨1, fn, copy, name, n, -1⟩ = false) := Lib.hid (by unfold rightB; simp only [*]; unfold rightF; simp only [*]; simp)
  unfold Nd.val Nd.cells
  go_enter Tryz.func196, Tryz.ntmps196
  go_wp2_with fail
  repeat (first | (with_reducible refine (Hc1.out _).mono ?_; rintro e w' ⟨rfl, rfl⟩; go_wp2_with fail) | (with_reducible refine (Hc2.out _).mono ?_; rintro e w' ⟨rfl, rfl⟩; go_wp2_with fail) | (with_reducible refine (Hc3.out _).mono ?_; rintro e w' ⟨rfl, rfl⟩; go_wp2_with fail) | (with_reducible refine (Hnf.out _).mono ?_; rintro e w' ⟨rfl, rfl⟩; go_wp2_with fail) | (with_reducible refine (Hnn.out _).mono ?_; rintro e w' ⟨rfl, rfl⟩; go_wp2_with fail))
  go_ret
  exact ⟨by rw [Hv.out]; try rfl, (Below.refl _ _).alloc (Nat.le_refl _) _⟩

set_option maxRecDepth 100000 in
set_option maxHeartbeats 400000 in
theorem right_1m_zz (fn name : ByteArray) (copy : Int) (w : World) (Hc1 : Hid (∀ w, Calls Tryz.prog 214 #[.int .i64 (copy)] w fun e w' => e = .returned (.bool true) ∧ w = w')) (hc1 : rcB (copy) = true) (Hc2 : Hid (∀ w, Calls Tryz.prog 214 #[.int .i64 (0)] w fun e w' => e = .returned (.bool true) ∧ w = w')) (hc2 : rcB (0) = true) (hf : fn.toList.isEmpty = false) (Hnf : Hid (∀ w, Calls Tryz.prog 56 #[.string fn] w fun e w' => e = .returned (.bool true) ∧ w = w')) (hnf : dg.nameB fn = true) (hn : name.toList.isEmpty = false) (Hnn : Hid (∀ w, Calls Tryz.prog 56 #[.string name] w fun e w' => e = .returned (.bool true) ∧ w = w')) (hnn : dg.nameB name = true) :
    Calls Tryz.prog 196 #[Nd.val ⟨1, fn, copy, name, 0, -1⟩] w (RPost (rightB ⟨1, fn, copy, name, 0, -1⟩) w) := by
  have Hv : Hid (rightB ⟨1, fn, copy, name, 0, -1⟩ = true) := Lib.hid (by unfold rightB; simp only [*]; unfold rightF; simp)
  unfold Nd.val Nd.cells
  go_enter Tryz.func196, Tryz.ntmps196
  go_wp2_with fail
  repeat (first | (with_reducible refine (Hc1.out _).mono ?_; rintro e w' ⟨rfl, rfl⟩; go_wp2_with fail) | (with_reducible refine (Hc2.out _).mono ?_; rintro e w' ⟨rfl, rfl⟩; go_wp2_with fail) | (with_reducible refine (Hc3.out _).mono ?_; rintro e w' ⟨rfl, rfl⟩; go_wp2_with fail) | (with_reducible refine (Hnf.out _).mono ?_; rintro e w' ⟨rfl, rfl⟩; go_wp2_with fail) | (with_reducible refine (Hnn.out _).mono ?_; rintro e w' ⟨rfl, rfl⟩; go_wp2_with fail))
  go_ret
  exact ⟨by rw [Hv.out]; try rfl, (Below.refl _ _).alloc (Nat.le_refl _) _⟩

set_option maxRecDepth 100000 in
set_option maxHeartbeats 400000 in
theorem right_1c_f (fn name : ByteArray) (copy : Int) (n : Int) (cell : Int) (w : World) (Hc1 : Hid (∀ w, Calls Tryz.prog 214 #[.int .i64 (copy)] w fun e w' => e = .returned (.bool true) ∧ w = w')) (hc1 : rcB (copy) = true) (Hc2 : Hid (∀ w, Calls Tryz.prog 214 #[.int .i64 (n)] w fun e w' => e = .returned (.bool true) ∧ w = w')) (hc2 : rcB (n) = true) (hz3 : (cell == -1) = false) (hz4 : (cell != -1) = true) (Hc3 : Hid (∀ w, Calls Tryz.prog 214 #[.int .i64 (cell)] w fun e w' => e = .returned (.bool true) ∧ w = w')) (hc3 : rcB cell = true) (hf : fn.toList.isEmpty = true) :
    Calls Tryz.prog 196 #[Nd.val ⟨1, fn, copy, name, n, cell⟩] w (RPost (rightB ⟨1, fn, copy, name, n, cell⟩) w) := by
  have Hv : Hid (rightB ⟨1, fn, copy, name, n, cell⟩ = false) := Lib.hid (by unfold rightB; simp only [*]; unfold rightF; simp only [*]; simp)
  unfold Nd.val Nd.cells
  go_enter Tryz.func196, Tryz.ntmps196
  go_wp2_with fail
  repeat (first | (with_reducible refine (Hc1.out _).mono ?_; rintro e w' ⟨rfl, rfl⟩; go_wp2_with fail) | (with_reducible refine (Hc2.out _).mono ?_; rintro e w' ⟨rfl, rfl⟩; go_wp2_with fail) | (with_reducible refine (Hc3.out _).mono ?_; rintro e w' ⟨rfl, rfl⟩; go_wp2_with fail) | (with_reducible refine (Hnf.out _).mono ?_; rintro e w' ⟨rfl, rfl⟩; go_wp2_with fail) | (with_reducible refine (Hnn.out _).mono ?_; rintro e w' ⟨rfl, rfl⟩; go_wp2_with fail))
  go_ret
  exact ⟨by rw [Hv.out]; try rfl, (Below.refl _ _).alloc (Nat.le_refl _) _⟩

set_option maxRecDepth 100000 in
set_option maxHeartbeats 400000 in
theorem right_1c_fn (fn name : ByteArray) (copy : Int) (n : Int) (cell : Int) (w : World) (Hc1 : Hid (∀ w, Calls Tryz.prog 214 #[.int .i64 (copy)] w fun e w' => e = .returned (.bool true) ∧ w = w')) (hc1 : rcB (copy) = true) (Hc2 : Hid (∀ w, Calls Tryz.prog 214 #[.int .i64 (n)] w fun e w' => e = .returned (.bool true) ∧ w = w')) (hc2 : rcB (n) = true) (hz3 : (cell == -1) = false) (hz4 : (cell != -1) = true) (Hc3 : Hid (∀ w, Calls Tryz.prog 214 #[.int .i64 (cell)] w fun e w' => e = .returned (.bool true) ∧ w = w')) (hc3 : rcB cell = true) (hf : fn.toList.isEmpty = false) (Hnf : Hid (∀ w, Calls Tryz.prog 56 #[.string fn] w fun e w' => e = .returned (.bool false) ∧ w = w')) (hnf : dg.nameB fn = false) :
    Calls Tryz.prog 196 #[Nd.val ⟨1, fn, copy, name, n, cell⟩] w (RPost (rightB ⟨1, fn, copy, name, n, cell⟩) w) := by
  have Hv : Hid (rightB ⟨1, fn, copy, name, n, cell⟩ = false) := Lib.hid (by unfold rightB; simp only [*]; unfold rightF; simp only [*]; simp)
  unfold Nd.val Nd.cells
  go_enter Tryz.func196, Tryz.ntmps196
  go_wp2_with fail
  repeat (first | (with_reducible refine (Hc1.out _).mono ?_; rintro e w' ⟨rfl, rfl⟩; go_wp2_with fail) | (with_reducible refine (Hc2.out _).mono ?_; rintro e w' ⟨rfl, rfl⟩; go_wp2_with fail) | (with_reducible refine (Hc3.out _).mono ?_; rintro e w' ⟨rfl, rfl⟩; go_wp2_with fail) | (with_reducible refine (Hnf.out _).mono ?_; rintro e w' ⟨rfl, rfl⟩; go_wp2_with fail) | (with_reducible refine (Hnn.out _).mono ?_; rintro e w' ⟨rfl, rfl⟩; go_wp2_with fail))
  go_ret
  exact ⟨by rw [Hv.out]; try rfl, (Below.refl _ _).alloc (Nat.le_refl _) _⟩

set_option maxRecDepth 100000 in
set_option maxHeartbeats 400000 in
theorem right_1c_n (fn name : ByteArray) (copy : Int) (n : Int) (cell : Int) (w : World) (Hc1 : Hid (∀ w, Calls Tryz.prog 214 #[.int .i64 (copy)] w fun e w' => e = .returned (.bool true) ∧ w = w')) (hc1 : rcB (copy) = true) (Hc2 : Hid (∀ w, Calls Tryz.prog 214 #[.int .i64 (n)] w fun e w' => e = .returned (.bool true) ∧ w = w')) (hc2 : rcB (n) = true) (hz3 : (cell == -1) = false) (hz4 : (cell != -1) = true) (Hc3 : Hid (∀ w, Calls Tryz.prog 214 #[.int .i64 (cell)] w fun e w' => e = .returned (.bool true) ∧ w = w')) (hc3 : rcB cell = true) (hf : fn.toList.isEmpty = false) (Hnf : Hid (∀ w, Calls Tryz.prog 56 #[.string fn] w fun e w' => e = .returned (.bool true) ∧ w = w')) (hnf : dg.nameB fn = true) (hn : name.toList.isEmpty = true) :
    Calls Tryz.prog 196 #[Nd.val ⟨1, fn, copy, name, n, cell⟩] w (RPost (rightB ⟨1, fn, copy, name, n, cell⟩) w) := by
  have Hv : Hid (rightB ⟨1, fn, copy, name, n, cell⟩ = false) := Lib.hid (by unfold rightB; simp only [*]; unfold rightF; simp only [*]; simp)
  unfold Nd.val Nd.cells
  go_enter Tryz.func196, Tryz.ntmps196
  go_wp2_with fail
  repeat (first | (with_reducible refine (Hc1.out _).mono ?_; rintro e w' ⟨rfl, rfl⟩; go_wp2_with fail) | (with_reducible refine (Hc2.out _).mono ?_; rintro e w' ⟨rfl, rfl⟩; go_wp2_with fail) | (with_reducible refine (Hc3.out _).mono ?_; rintro e w' ⟨rfl, rfl⟩; go_wp2_with fail) | (with_reducible refine (Hnf.out _).mono ?_; rintro e w' ⟨rfl, rfl⟩; go_wp2_with fail) | (with_reducible refine (Hnn.out _).mono ?_; rintro e w' ⟨rfl, rfl⟩; go_wp2_with fail))
  go_ret
  exact ⟨by rw [Hv.out]; try rfl, (Below.refl _ _).alloc (Nat.le_refl _) _⟩

set_option maxRecDepth 100000 in
set_option maxHeartbeats 400000 in
theorem right_1c_nn (fn name : ByteArray) (copy : Int) (n : Int) (cell : Int) (w : World) (Hc1 : Hid (∀ w, Calls Tryz.prog 214 #[.int .i64 (copy)] w fun e w' => e = .returned (.bool true) ∧ w = w')) (hc1 : rcB (copy) = true) (Hc2 : Hid (∀ w, Calls Tryz.prog 214 #[.int .i64 (n)] w fun e w' => e = .returned (.bool true) ∧ w = w')) (hc2 : rcB (n) = true) (hz3 : (cell == -1) = false) (hz4 : (cell != -1) = true) (Hc3 : Hid (∀ w, Calls Tryz.prog 214 #[.int .i64 (cell)] w fun e w' => e = .returned (.bool true) ∧ w = w')) (hc3 : rcB cell = true) (hf : fn.toList.isEmpty = false) (Hnf : Hid (∀ w, Calls Tryz.prog 56 #[.string fn] w fun e w' => e = .returned (.bool true) ∧ w = w')) (hnf : dg.nameB fn = true) (hn : name.toList.isEmpty = false) (Hnn : Hid (∀ w, Calls Tryz.prog 56 #[.string name] w fun e w' => e = .returned (.bool false) ∧ w = w')) (hnn : dg.nameB name = false) :
    Calls Tryz.prog 196 #[Nd.val ⟨1, fn, copy, name, n, cell⟩] w (RPost (rightB ⟨1, fn, copy, name, n, cell⟩) w) := by
  have Hv : Hid (rightB ⟨1, fn, copy, name, n, cell⟩ = false) := Lib.hid (by unfold rightB; simp only [*]; unfold rightF; simp only [*]; simp)
  unfold Nd.val Nd.cells
  go_enter Tryz.func196, Tryz.ntmps196
  go_wp2_with fail
  repeat (first | (with_reducible refine (Hc1.out _).mono ?_; rintro e w' ⟨rfl, rfl⟩; go_wp2_with fail) | (with_reducible refine (Hc2.out _).mono ?_; rintro e w' ⟨rfl, rfl⟩; go_wp2_with fail) | (with_reducible refine (Hc3.out _).mono ?_; rintro e w' ⟨rfl, rfl⟩; go_wp2_with fail) | (with_reducible refine (Hnf.out _).mono ?_; rintro e w' ⟨rfl, rfl⟩; go_wp2_with fail) | (with_reducible refine (Hnn.out _).mono ?_; rintro e w' ⟨rfl, rfl⟩; go_wp2_with fail))
  go_ret
  exact ⟨by rw [Hv.out]; try rfl, (Below.refl _ _).alloc (Nat.le_refl _) _⟩

set_option maxRecDepth 100000 in
set_option maxHeartbeats 400000 in
theorem right_1c_nz (fn name : ByteArray) (copy : Int) (n : Int) (cell : Int) (w : World) (Hc1 : Hid (∀ w, Calls Tryz.prog 214 #[.int .i64 (copy)] w fun e w' => e = .returned (.bool true) ∧ w = w')) (hc1 : rcB (copy) = true) (Hc2 : Hid (∀ w, Calls Tryz.prog 214 #[.int .i64 (n)] w fun e w' => e = .returned (.bool true) ∧ w = w')) (hc2 : rcB (n) = true) (hz3 : (cell == -1) = false) (hz4 : (cell != -1) = true) (Hc3 : Hid (∀ w, Calls Tryz.prog 214 #[.int .i64 (cell)] w fun e w' => e = .returned (.bool true) ∧ w = w')) (hc3 : rcB cell = true) (hf : fn.toList.isEmpty = false) (Hnf : Hid (∀ w, Calls Tryz.prog 56 #[.string fn] w fun e w' => e = .returned (.bool true) ∧ w = w')) (hnf : dg.nameB fn = true) (hn : name.toList.isEmpty = false) (Hnn : Hid (∀ w, Calls Tryz.prog 56 #[.string name] w fun e w' => e = .returned (.bool true) ∧ w = w')) (hnn : dg.nameB name = true) (hz1 : (n == 0) = false) (hz2 : (n != 0) = true) :
    Calls Tryz.prog 196 #[Nd.val ⟨1, fn, copy, name, n, cell⟩] w (RPost (rightB ⟨1, fn, copy, name, n, cell⟩) w) := by
  have Hv : Hid (rightB ⟨1, fn, copy, name, n, cell⟩ = false) := Lib.hid (by unfold rightB; simp only [*]; unfold rightF; simp only [*]; simp)
  unfold Nd.val Nd.cells
  go_enter Tryz.func196, Tryz.ntmps196
  go_wp2_with fail
  repeat (first | (with_reducible refine (Hc1.out _).mono ?_; rintro e w' ⟨rfl, rfl⟩; go_wp2_with fail) | (with_reducible refine (Hc2.out _).mono ?_; rintro e w' ⟨rfl, rfl⟩; go_wp2_with fail) | (with_reducible refine (Hc3.out _).mono ?_; rintro e w' ⟨rfl, rfl⟩; go_wp2_with fail) | (with_reducible refine (Hnf.out _).mono ?_; rintro e w' ⟨rfl, rfl⟩; go_wp2_with fail) | (with_reducible refine (Hnn.out _).mono ?_; rintro e w' ⟨rfl, rfl⟩; go_wp2_with fail))
  go_ret
  exact ⟨by rw [Hv.out]; try rfl, (Below.refl _ _).alloc (Nat.le_refl _) _⟩

set_option maxRecDepth 100000 in
set_option maxHeartbeats 400000 in
theorem right_1c_zz (fn name : ByteArray) (copy : Int) (cell : Int) (w : World) (Hc1 : Hid (∀ w, Calls Tryz.prog 214 #[.int .i64 (copy)] w fun e w' => e = .returned (.bool true) ∧ w = w')) (hc1 : rcB (copy) = true) (Hc2 : Hid (∀ w, Calls Tryz.prog 214 #[.int .i64 (0)] w fun e w' => e = .returned (.bool true) ∧ w = w')) (hc2 : rcB (0) = true) (hz3 : (cell == -1) = false) (hz4 : (cell != -1) = true) (Hc3 : Hid (∀ w, Calls Tryz.prog 214 #[.int .i64 (cell)] w fun e w' => e = .returned (.bool true) ∧ w = w')) (hc3 : rcB cell = true) (hf : fn.toList.isEmpty = false) (Hnf : Hid (∀ w, Calls Tryz.prog 56 #[.string fn] w fun e w' => e = .returned (.bool true) ∧ w = w')) (hnf : dg.nameB fn = true) (hn : name.toList.isEmpty = false) (Hnn : Hid (∀ w, Calls Tryz.prog 56 #[.string name] w fun e w' => e = .returned (.bool true) ∧ w = w')) (hnn : dg.nameB name = true) :
    Calls Tryz.prog 196 #[Nd.val ⟨1, fn, copy, name, 0, cell⟩] w (RPost (rightB ⟨1, fn, copy, name, 0, cell⟩) w) := by
  have Hv : Hid (rightB ⟨1, fn, copy, name, 0, cell⟩ = false) := Lib.hid (by unfold rightB; simp only [*]; unfold rightF; simp only [*]; simp)
  unfold Nd.val Nd.cells
  go_enter Tryz.func196, Tryz.ntmps196
  go_wp2_with fail
  repeat (first | (with_reducible refine (Hc1.out _).mono ?_; rintro e w' ⟨rfl, rfl⟩; go_wp2_with fail) | (with_reducible refine (Hc2.out _).mono ?_; rintro e w' ⟨rfl, rfl⟩; go_wp2_with fail) | (with_reducible refine (Hc3.out _).mono ?_; rintro e w' ⟨rfl, rfl⟩; go_wp2_with fail) | (with_reducible refine (Hnf.out _).mono ?_; rintro e w' ⟨rfl, rfl⟩; go_wp2_with fail) | (with_reducible refine (Hnn.out _).mono ?_; rintro e w' ⟨rfl, rfl⟩; go_wp2_with fail))
  go_ret
  exact ⟨by rw [Hv.out]; try rfl, (Below.refl _ _).alloc (Nat.le_refl _) _⟩

set_option maxRecDepth 100000 in
set_option maxHeartbeats 400000 in
theorem right_2m_f (fn name : ByteArray) (copy : Int) (n : Int) (w : World) (Hc1 : Hid (∀ w, Calls Tryz.prog 214 #[.int .i64 (copy)] w fun e w' => e = .returned (.bool true) ∧ w = w')) (hc1 : rcB (copy) = true) (Hc2 : Hid (∀ w, Calls Tryz.prog 214 #[.int .i64 (n)] w fun e w' => e = .returned (.bool true) ∧ w = w')) (hc2 : rcB (n) = true) (hf : fn.toList.isEmpty = true) :
    Calls Tryz.prog 196 #[Nd.val ⟨2, fn, copy, name, n, -1⟩] w (RPost (rightB ⟨2, fn, copy, name, n, -1⟩) w) := by
  have Hv : Hid (rightB ⟨2, fn, copy, name, n, -1⟩ = false) := Lib.hid (by unfold rightB; simp only [*]; unfold rightF; simp)
  unfold Nd.val Nd.cells
  go_enter Tryz.func196, Tryz.ntmps196
  go_wp2_with fail
  repeat (first | (with_reducible refine (Hc1.out _).mono ?_; rintro e w' ⟨rfl, rfl⟩; go_wp2_with fail) | (with_reducible refine (Hc2.out _).mono ?_; rintro e w' ⟨rfl, rfl⟩; go_wp2_with fail) | (with_reducible refine (Hc3.out _).mono ?_; rintro e w' ⟨rfl, rfl⟩; go_wp2_with fail) | (with_reducible refine (Hnf.out _).mono ?_; rintro e w' ⟨rfl, rfl⟩; go_wp2_with fail) | (with_reducible refine (Hnn.out _).mono ?_; rintro e w' ⟨rfl, rfl⟩; go_wp2_with fail))
  go_ret
  exact ⟨by rw [Hv.out]; try rfl, (Below.refl _ _).alloc (Nat.le_refl _) _⟩

set_option maxRecDepth 100000 in
set_option maxHeartbeats 400000 in
theorem right_2m_fn (fn name : ByteArray) (copy : Int) (n : Int) (w : World) (Hc1 : Hid (∀ w, Calls Tryz.prog 214 #[.int .i64 (copy)] w fun e w' => e = .returned (.bool true) ∧ w = w')) (hc1 : rcB (copy) = true) (Hc2 : Hid (∀ w, Calls Tryz.prog 214 #[.int .i64 (n)] w fun e w' => e = .returned (.bool true) ∧ w = w')) (hc2 : rcB (n) = true) (hf : fn.toList.isEmpty = false) (Hnf : Hid (∀ w, Calls Tryz.prog 56 #[.string fn] w fun e w' => e = .returned (.bool false) ∧ w = w')) (hnf : dg.nameB fn = false) :
    Calls Tryz.prog 196 #[Nd.val ⟨2, fn, copy, name, n, -1⟩] w (RPost (rightB ⟨2, fn, copy, name, n, -1⟩) w) := by
  have Hv : Hid (rightB ⟨2, fn, copy, name, n, -1⟩ = false) := Lib.hid (by unfold rightB; simp only [*]; unfold rightF; simp)
  unfold Nd.val Nd.cells
  go_enter Tryz.func196, Tryz.ntmps196
  go_wp2_with fail
  repeat (first | (with_reducible refine (Hc1.out _).mono ?_; rintro e w' ⟨rfl, rfl⟩; go_wp2_with fail) | (with_reducible refine (Hc2.out _).mono ?_; rintro e w' ⟨rfl, rfl⟩; go_wp2_with fail) | (with_reducible refine (Hc3.out _).mono ?_; rintro e w' ⟨rfl, rfl⟩; go_wp2_with fail) | (with_reducible refine (Hnf.out _).mono ?_; rintro e w' ⟨rfl, rfl⟩; go_wp2_with fail) | (with_reducible refine (Hnn.out _).mono ?_; rintro e w' ⟨rfl, rfl⟩; go_wp2_with fail))
  go_ret
  exact ⟨by rw [Hv.out]; try rfl, (Below.refl _ _).alloc (Nat.le_refl _) _⟩

set_option maxRecDepth 100000 in
set_option maxHeartbeats 400000 in
theorem right_2m_n (fn name : ByteArray) (copy : Int) (n : Int) (w : World) (Hc1 : Hid (∀ w, Calls Tryz.prog 214 #[.int .i64 (copy)] w fun e w' => e = .returned (.bool true) ∧ w = w')) (hc1 : rcB (copy) = true) (Hc2 : Hid (∀ w, Calls Tryz.prog 214 #[.int .i64 (n)] w fun e w' => e = .returned (.bool true) ∧ w = w')) (hc2 : rcB (n) = true) (hf : fn.toList.isEmpty = false) (Hnf : Hid (∀ w, Calls Tryz.prog 56 #[.string fn] w fun e w' => e = .returned (.bool true) ∧ w = w')) (hnf : dg.nameB fn = true) (hn : name.toList.isEmpty = false) :
    Calls Tryz.prog 196 #[Nd.val ⟨2, fn, copy, name, n, -1⟩] w (RPost (rightB ⟨2, fn, copy, name, n, -1⟩) w) := by
  have Hv : Hid (rightB ⟨2, fn, copy, name, n, -1⟩ = false) := Lib.hid (by unfold rightB; simp only [*]; unfold rightF; simp)
  unfold Nd.val Nd.cells
  go_enter Tryz.func196, Tryz.ntmps196
  go_wp2_with fail
  repeat (first | (with_reducible refine (Hc1.out _).mono ?_; rintro e w' ⟨rfl, rfl⟩; go_wp2_with fail) | (with_reducible refine (Hc2.out _).mono ?_; rintro e w' ⟨rfl, rfl⟩; go_wp2_with fail) | (with_reducible refine (Hc3.out _).mono ?_; rintro e w' ⟨rfl, rfl⟩; go_wp2_with fail) | (with_reducible refine (Hnf.out _).mono ?_; rintro e w' ⟨rfl, rfl⟩; go_wp2_with fail) | (with_reducible refine (Hnn.out _).mono ?_; rintro e w' ⟨rfl, rfl⟩; go_wp2_with fail))
  go_ret
  exact ⟨by rw [Hv.out]; try rfl, (Below.refl _ _).alloc (Nat.le_refl _) _⟩

set_option maxRecDepth 100000 in
set_option maxHeartbeats 400000 in
theorem right_2m_zz (fn name : ByteArray) (copy : Int) (w : World) (Hc1 : Hid (∀ w, Calls Tryz.prog 214 #[.int .i64 (copy)] w fun e w' => e = .returned (.bool true) ∧ w = w')) (hc1 : rcB (copy) = true) (Hc2 : Hid (∀ w, Calls Tryz.prog 214 #[.int .i64 (0)] w fun e w' => e = .returned (.bool true) ∧ w = w')) (hc2 : rcB (0) = true) (hf : fn.toList.isEmpty = false) (Hnf : Hid (∀ w, Calls Tryz.prog 56 #[.string fn] w fun e w' => e = .returned (.bool true) ∧ w = w')) (hnf : dg.nameB fn = true) (hn : name.toList.isEmpty = true) :
    Calls Tryz.prog 196 #[Nd.val ⟨2, fn, copy, name, 0, -1⟩] w (RPost (rightB ⟨2, fn, copy, name, 0, -1⟩) w) := by
  have Hv : Hid (rightB ⟨2, fn, copy, name, 0, -1⟩ = true) := Lib.hid (by unfold rightB; simp only [*]; unfold rightF; simp)
  unfold Nd.val Nd.cells
  go_enter Tryz.func196, Tryz.ntmps196
  go_wp2_with fail
  repeat (first | (with_reducible refine (Hc1.out _).mono ?_; rintro e w' ⟨rfl, rfl⟩; go_wp2_with fail) | (with_reducible refine (Hc2.out _).mono ?_; rintro e w' ⟨rfl, rfl⟩; go_wp2_with fail) | (with_reducible refine (Hc3.out _).mono ?_; rintro e w' ⟨rfl, rfl⟩; go_wp2_with fail) | (with_reducible refine (Hnf.out _).mono ?_; rintro e w' ⟨rfl, rfl⟩; go_wp2_with fail) | (with_reducible refine (Hnn.out _).mono ?_; rintro e w' ⟨rfl, rfl⟩; go_wp2_with fail))
  go_ret
  exact ⟨by rw [Hv.out]; try rfl, (Below.refl _ _).alloc (Nat.le_refl _) _⟩

set_option maxRecDepth 100000 in
set_option maxHeartbeats 400000 in
theorem right_2m_nz (fn name : ByteArray) (copy : Int) (n : Int) (w : World) (Hc1 : Hid (∀ w, Calls Tryz.prog 214 #[.int .i64 (copy)] w fun e w' => e = .returned (.bool true) ∧ w = w')) (hc1 : rcB (copy) = true) (Hc2 : Hid (∀ w, Calls Tryz.prog 214 #[.int .i64 (n)] w fun e w' => e = .returned (.bool true) ∧ w = w')) (hc2 : rcB (n) = true) (hf : fn.toList.isEmpty = false) (Hnf : Hid (∀ w, Calls Tryz.prog 56 #[.string fn] w fun e w' => e = .returned (.bool true) ∧ w = w')) (hnf : dg.nameB fn = true) (hn : name.toList.isEmpty = true) (hz1 : (n == 0) = false) (hz2 : (n != 0) = true) :
    Calls Tryz.prog 196 #[Nd.val ⟨2, fn, copy, name, n, -1⟩] w (RPost (rightB ⟨2, fn, copy, name, n, -1⟩) w) := by
  have Hv : Hid (rightB ⟨2, fn, copy, name, n, -1⟩ = true) := Lib.hid (by unfold rightB; simp only [*]; unfold rightF; simp only [*]; simp)
  unfold Nd.val Nd.cells
  go_enter Tryz.func196, Tryz.ntmps196
  go_wp2_with fail
  repeat (first | (with_reducible refine (Hc1.out _).mono ?_; rintro e w' ⟨rfl, rfl⟩; go_wp2_with fail) | (with_reducible refine (Hc2.out _).mono ?_; rintro e w' ⟨rfl, rfl⟩; go_wp2_with fail) | (with_reducible refine (Hc3.out _).mono ?_; rintro e w' ⟨rfl, rfl⟩; go_wp2_with fail) | (with_reducible refine (Hnf.out _).mono ?_; rintro e w' ⟨rfl, rfl⟩; go_wp2_with fail) | (with_reducible refine (Hnn.out _).mono ?_; rintro e w' ⟨rfl, rfl⟩; go_wp2_with fail))
  go_ret
  exact ⟨by rw [Hv.out]; try rfl, (Below.refl _ _).alloc (Nat.le_refl _) _⟩

set_option maxRecDepth 100000 in
set_option maxHeartbeats 400000 in
theorem right_2c_f (fn name : ByteArray) (copy : Int) (n : Int) (cell : Int) (w : World) (Hc1 : Hid (∀ w, Calls Tryz.prog 214 #[.int .i64 (copy)] w fun e w' => e = .returned (.bool true) ∧ w = w')) (hc1 : rcB (copy) = true) (Hc2 : Hid (∀ w, Calls Tryz.prog 214 #[.int .i64 (n)] w fun e w' => e = .returned (.bool true) ∧ w = w')) (hc2 : rcB (n) = true) (hz3 : (cell == -1) = false) (hz4 : (cell != -1) = true) (Hc3 : Hid (∀ w, Calls Tryz.prog 214 #[.int .i64 (cell)] w fun e w' => e = .returned (.bool true) ∧ w = w')) (hc3 : rcB cell = true) (hf : fn.toList.isEmpty = true) :
    Calls Tryz.prog 196 #[Nd.val ⟨2, fn, copy, name, n, cell⟩] w (RPost (rightB ⟨2, fn, copy, name, n, cell⟩) w) := by
  have Hv : Hid (rightB ⟨2, fn, copy, name, n, cell⟩ = false) := Lib.hid (by unfold rightB; simp only [*]; unfold rightF; simp only [*]; simp)
  unfold Nd.val Nd.cells
  go_enter Tryz.func196, Tryz.ntmps196
  go_wp2_with fail
  repeat (first | (with_reducible refine (Hc1.out _).mono ?_; rintro e w' ⟨rfl, rfl⟩; go_wp2_with fail) | (with_reducible refine (Hc2.out _).mono ?_; rintro e w' ⟨rfl, rfl⟩; go_wp2_with fail) | (with_reducible refine (Hc3.out _).mono ?_; rintro e w' ⟨rfl, rfl⟩; go_wp2_with fail) | (with_reducible refine (Hnf.out _).mono ?_; rintro e w' ⟨rfl, rfl⟩; go_wp2_with fail) | (with_reducible refine (Hnn.out _).mono ?_; rintro e w' ⟨rfl, rfl⟩; go_wp2_with fail))
  go_ret
  exact ⟨by rw [Hv.out]; try rfl, (Below.refl _ _).alloc (Nat.le_refl _) _⟩

set_option maxRecDepth 100000 in
set_option maxHeartbeats 400000 in
theorem right_2c_fn (fn name : ByteArray) (copy : Int) (n : Int) (cell : Int) (w : World) (Hc1 : Hid (∀ w, Calls Tryz.prog 214 #[.int .i64 (copy)] w fun e w' => e = .returned (.bool true) ∧ w = w')) (hc1 : rcB (copy) = true) (Hc2 : Hid (∀ w, Calls Tryz.prog 214 #[.int .i64 (n)] w fun e w' => e = .returned (.bool true) ∧ w = w')) (hc2 : rcB (n) = true) (hz3 : (cell == -1) = false) (hz4 : (cell != -1) = true) (Hc3 : Hid (∀ w, Calls Tryz.prog 214 #[.int .i64 (cell)] w fun e w' => e = .returned (.bool true) ∧ w = w')) (hc3 : rcB cell = true) (hf : fn.toList.isEmpty = false) (Hnf : Hid (∀ w, Calls Tryz.prog 56 #[.string fn] w fun e w' => e = .returned (.bool false) ∧ w = w')) (hnf : dg.nameB fn = false) :
    Calls Tryz.prog 196 #[Nd.val ⟨2, fn, copy, name, n, cell⟩] w (RPost (rightB ⟨2, fn, copy, name, n, cell⟩) w) := by
  have Hv : Hid (rightB ⟨2, fn, copy, name, n, cell⟩ = false) := Lib.hid (by unfold rightB; simp only [*]; unfold rightF; simp only [*]; simp)
  unfold Nd.val Nd.cells
  go_enter Tryz.func196, Tryz.ntmps196
  go_wp2_with fail
  repeat (first | (with_reducible refine (Hc1.out _).mono ?_; rintro e w' ⟨rfl, rfl⟩; go_wp2_with fail) | (with_reducible refine (Hc2.out _).mono ?_; rintro e w' ⟨rfl, rfl⟩; go_wp2_with fail) | (with_reducible refine (Hc3.out _).mono ?_; rintro e w' ⟨rfl, rfl⟩; go_wp2_with fail) | (with_reducible refine (Hnf.out _).mono ?_; rintro e w' ⟨rfl, rfl⟩; go_wp2_with fail) | (with_reducible refine (Hnn.out _).mono ?_; rintro e w' ⟨rfl, rfl⟩; go_wp2_with fail))
  go_ret
  exact ⟨by rw [Hv.out]; try rfl, (Below.refl _ _).alloc (Nat.le_refl _) _⟩
end Go.Proofs.YtdmmkjijgoiecaaGreatDoor.nm

/-
  weftref14.Right: its leaves, part b.
-/
set_option linter.all false
namespace Go.Proofs.YtdmmkjijgoiecaaGreatDoor.nm
open Go.RowKit Go.Sort

set_option maxRecDepth 100000 in
set_option maxHeartbeats 400000 in
theorem right_2c_n (fn name : ByteArray) (copy : Int) (n : Int) (cell : Int) (w : World) (Hc1 : Hid (∀ w, Calls Tryz.prog 214 #[.int .i64 (copy)] w fun e w' => e = .returned (.bool true) ∧ w = w')) (hc1 : rcB (copy) = true) (Hc2 : Hid (∀ w, Calls Tryz.prog 214 #[.int .i64 (n)] w fun e w' => e = .returned (.bool true) ∧ w = w')) (hc2 : rcB (n) = true) (hz3 : (cell == -1) = false) (hz4 : (cell != -1) = true) (Hc3 : Hid (∀ w, Calls Tryz.prog 214 #[.int .i64 (cell)] w fun e w' => e = .returned (.bool true) ∧ w = w')) (hc3 : rcB cell = true) (hf : fn.toList.isEmpty = false) (Hnf : Hid (∀ w, Calls Tryz.prog 56 #[.string fn] w fun e w' => e = .returned (.bool true) ∧ w = w')) (hnf : dg.nameB fn = true) (hn : name.toList.isEmpty = false) :
    Calls Tryz.prog 196 #[Nd.val ⟨2, fn, copy, name, n, cell⟩] w (RPost (rightB ⟨2, fn, copy, name, n, cell⟩) w) := by
  have Hv : Hid (rightB ⟨2, fn, copy, name, n, cell⟩ = false) := Lib.hid (by unfold rightB; simp only [*]; unfold rightF; simp only [*]; simp)
  unfold Nd.val Nd.cells
  go_enter Tryz.func196, Tryz.ntmps196
  go_wp2_with fail
  repeat (first | (with_reducible refine (Hc1.out _).mono ?_; rintro e w' ⟨rfl, rfl⟩; go_wp2_with fail) | (with_reducible refine (Hc2.out _).mono ?_; rintro e w' ⟨rfl, rfl⟩; go_wp2_with fail) | (with_reducible refine (Hc3.out _).mono ?_; rintro e w' ⟨rfl, rfl⟩; go_wp2_with fail) | (with_reducible refine (Hnf.out _).mono ?_; rintro e w' ⟨rfl, rfl⟩; go_wp2_with fail) | (with_reducible refine (Hnn.out _).mono ?_; rintro e w' ⟨rfl, rfl⟩; go_wp2_with fail))
  go_ret
  exact ⟨by rw [Hv.out]; try rfl, (Below.refl _ _).alloc (Nat.le_refl _) _⟩

set_option maxRecDepth 100000 in
set_option maxHeartbeats 400000 in
theorem right_2c_zz (fn name : ByteArray) (copy : Int) (cell : Int) (w : World) (Hc1 : Hid (∀ w, Calls Tryz.prog 214 #[.int .i64 (copy)] w fun e w' => e = .returned (.bool true) ∧ w = w')) (hc1 : rcB (copy) = true) (Hc2 : Hid (∀ w, Calls Tryz.prog 214 #[.int .i64 (0)] w fun e w' => e = .returned (.bool true) ∧ w = w')) (hc2 : rcB (0) = true) (hz3 : (cell == -1) = false) (hz4 : (cell != -1) = true) (Hc3 : Hid (∀ w, Calls Tryz.prog 214 #[.int .i64 (cell)] w fun e w' => e = .returned (.bool true) ∧ w = w')) (hc3 : rcB cell = true) (hf : fn.toList.isEmpty = false) (Hnf : Hid (∀ w, Calls Tryz.prog 56 #[.string fn] w fun e w' => e = .returned (.bool true) ∧ w = w')) (hnf : dg.nameB fn = true) (hn : name.toList.isEmpty = true) :
    Calls Tryz.prog 196 #[Nd.val ⟨2, fn, copy, name, 0, cell⟩] w (RPost (rightB ⟨2, fn, copy, name, 0, cell⟩) w) := by
  have Hv : Hid (rightB ⟨2, fn, copy, name, 0, cell⟩ = false) := Lib.hid (by unfold rightB; simp only [*]; unfold rightF; simp only [*]; simp)
  unfold Nd.val Nd.cells
  go_enter Tryz.func196, Tryz.ntmps196
  go_wp2_with fail
  repeat (first | (with_reducible refine (Hc1.out _).mono ?_; rintro e w' ⟨rfl, rfl⟩; go_wp2_with fail) | (with_reducible refine (Hc2.out _).mono ?_; rintro e w' ⟨rfl, rfl⟩; go_wp2_with fail) | (with_reducible refine (Hc3.out _).mono ?_; rintro e w' ⟨rfl, rfl⟩; go_wp2_with fail) | (with_reducible refine (Hnf.out _).mono ?_; rintro e w' ⟨rfl, rfl⟩; go_wp2_with fail) | (with_reducible refine (Hnn.out _).mono ?_; rintro e w' ⟨rfl, rfl⟩; go_wp2_with fail))
  go_ret
  exact ⟨by rw [Hv.out]; try rfl, (Below.refl _ _).alloc (Nat.le_refl _) _⟩

set_option maxRecDepth 100000 in
set_option maxHeartbeats 400000 in
theorem right_2c_nz (fn name : ByteArray) (copy : Int) (n : Int) (cell : Int) (w : World) (Hc1 : Hid (∀ w, Calls Tryz.prog 214 #[.int .i64 (copy)] w fun e w' => e = .returned (.bool true) ∧ w = w')) (hc1 : rcB (copy) = true) (Hc2 : Hid (∀ w, Calls Tryz.prog 214 #[.int .i64 (n)] w fun e w' => e = .returned (.bool true) ∧ w = w')) (hc2 : rcB (n) = true) (hz3 : (cell == -1) = false) (hz4 : (cell != -1) = true) (Hc3 : Hid (∀ w, Calls Tryz.prog 214 #[.int .i64 (cell)] w fun e w' => e = .returned (.bool true) ∧ w = w')) (hc3 : rcB cell = true) (hf : fn.toList.isEmpty = false) (Hnf : Hid (∀ w, Calls Tryz.prog 56 #[.string fn] w fun e w' => e = .returned (.bool true) ∧ w = w')) (hnf : dg.nameB fn = true) (hn : name.toList.isEmpty = true) (hz1 : (n == 0) = false) (hz2 : (n != 0) = true) :
    Calls Tryz.prog 196 #[Nd.val ⟨2, fn, copy, name, n, cell⟩] w (RPost (rightB ⟨2, fn, copy, name, n, cell⟩) w) := by
  have Hv : Hid (rightB ⟨2, fn, copy, name, n, cell⟩ = false) := Lib.hid (by unfold rightB; simp only [*]; unfold rightF; simp only [*]; simp)
  unfold Nd.val Nd.cells
  go_enter Tryz.func196, Tryz.ntmps196
  go_wp2_with fail
  repeat (first | (with_reducible refine (Hc1.out _).mono ?_; rintro e w' ⟨rfl, rfl⟩; go_wp2_with fail) | (with_reducible refine (Hc2.out _).mono ?_; rintro e w' ⟨rfl, rfl⟩; go_wp2_with fail) | (with_reducible refine (Hc3.out _).mono ?_; rintro e w' ⟨rfl, rfl⟩; go_wp2_with fail) | (with_reducible refine (Hnf.out _).mono ?_; rintro e w' ⟨rfl, rfl⟩; go_wp2_with fail) | (with_reducible refine (Hnn.out _).mono ?_; rintro e w' ⟨rfl, rfl⟩; go_wp2_with fail))
  go_ret
  exact ⟨by rw [Hv.out]; try rfl, (Below.refl _ _).alloc (Nat.le_refl _) _⟩

set_option maxRecDepth 100000 in
set_option maxHeartbeats 400000 in
theorem right_3m_f (fn name : ByteArray) (copy : Int) (n : Int) (w : World) (Hc1 : Hid (∀ w, Calls Tryz.prog 214 #[.int .i64 (copy)] w fun e w' => e = .returned (.bool true) ∧ w = w')) (hc1 : rcB (copy) = true) (Hc2 : Hid (∀ w, Calls Tryz.prog 214 #[.int .i64 (n)] w fun e w' => e = .returned (.bool true) ∧ w = w')) (hc2 : rcB (n) = true) (hf : fn.toList.isEmpty = true) :
    Calls Tryz.prog 196 #[Nd.val ⟨3, fn, copy, name, n, -1⟩] w (RPost (rightB ⟨3, fn, copy, name, n, -1⟩) w) := by
  have Hv : Hid (rightB ⟨3, fn, copy, name, n, -1⟩ = false) := Lib.hid (by unfold rightB; simp only [*]; unfold rightF; simp)
  unfold Nd.val Nd.cells
  go_enter Tryz.func196, Tryz.ntmps196
  go_wp2_with fail
  repeat (first | (with_reducible refine (Hc1.out _).mono ?_; rintro e w' ⟨rfl, rfl⟩; go_wp2_with fail) | (with_reducible refine (Hc2.out _).mono ?_; rintro e w' ⟨rfl, rfl⟩; go_wp2_with fail) | (with_reducible refine (Hc3.out _).mono ?_; rintro e w' ⟨rfl, rfl⟩; go_wp2_with fail) | (with_reducible refine (Hnf.out _).mono ?_; rintro e w' ⟨rfl, rfl⟩; go_wp2_with fail) | (with_reducible refine (Hnn.out _).mono ?_; rintro e w' ⟨rfl, rfl⟩; go_wp2_with fail))
  go_ret
  exact ⟨by rw [Hv.out]; try rfl, (Below.refl _ _).alloc (Nat.le_refl _) _⟩

set_option maxRecDepth 100000 in
set_option maxHeartbeats 400000 in
theorem right_3m_fn (fn name : ByteArray) (copy : Int) (n : Int) (w : World) (Hc1 : Hid (∀ w, Calls Tryz.prog 214 #[.int .i64 (copy)] w fun e w' => e = .returned (.bool true) ∧ w = w')) (hc1 : rcB (copy) = true) (Hc2 : Hid (∀ w, Calls Tryz.prog 214 #[.int .i64 (n)] w fun e w' => e = .returned (.bool true) ∧ w = w')) (hc2 : rcB (n) = true) (hf : fn.toList.isEmpty = false) (Hnf : Hid (∀ w, Calls Tryz.prog 56 #[.string fn] w fun e w' => e = .returned (.bool false) ∧ w = w')) (hnf : dg.nameB fn = false) :
    Calls Tryz.prog 196 #[Nd.val ⟨3, fn, copy, name, n, -1⟩] w (RPost (rightB ⟨3, fn, copy, name, n, -1⟩) w) := by
  have Hv : Hid (rightB ⟨3, fn, copy, name, n, -1⟩ = false) := Lib.hid (by unfold rightB; simp only [*]; unfold rightF; simp)
  unfold Nd.val Nd.cells
  go_enter Tryz.func196, Tryz.ntmps196
  go_wp2_with fail
  repeat (first | (with_reducible refine (Hc1.out _).mono ?_; rintro e w' ⟨rfl, rfl⟩; go_wp2_with fail) | (with_reducible refine (Hc2.out _).mono ?_; rintro e w' ⟨rfl, rfl⟩; go_wp2_with fail) | (with_reducible refine (Hc3.out _).mono ?_; rintro e w' ⟨rfl, rfl⟩; go_wp2_with fail) | (with_reducible refine (Hnf.out _).mono ?_; rintro e w' ⟨rfl, rfl⟩; go_wp2_with fail) | (with_reducible refine (Hnn.out _).mono ?_; rintro e w' ⟨rfl, rfl⟩; go_wp2_with fail))
  go_ret
  exact ⟨by rw [Hv.out]; try rfl, (Below.refl _ _).alloc (Nat.le_refl _) _⟩

set_option maxRecDepth 100000 in
set_option maxHeartbeats 400000 in
theorem right_3m_n (fn name : ByteArray) (copy : Int) (n : Int) (w : World) (Hc1 : Hid (∀ w, Calls Tryz.prog 214 #[.int .i64 (copy)] w fun e w' => e = .returned (.bool true) ∧ w = w')) (hc1 : rcB (copy) = true) (Hc2 : Hid (∀ w, Calls Tryz.prog 214 #[.int .i64 (n)] w fun e w' => e = .returned (.bool true) ∧ w = w')) (hc2 : rcB (n) = true) (hf : fn.toList.isEmpty = false) (Hnf : Hid (∀ w, Calls Tryz.prog 56 #[.string fn] w fun e w' => e = .returned (.bool true) ∧ w = w')) (hnf : dg.nameB fn = true) (hn : name.toList.isEmpty = false) :
    Calls Tryz.prog 196 #[Nd.val ⟨3, fn, copy, name, n, -1⟩] w (RPost (rightB ⟨3, fn, copy, name, n, -1⟩) w) := by
  have Hv : Hid (rightB ⟨3, fn, copy, name, n, -1⟩ = false) := Lib.hid (by unfold rightB; simp only [*]; unfold rightF; simp)
  unfold Nd.val Nd.cells
  go_enter Tryz.func196, Tryz.ntmps196
  go_wp2_with fail
  repeat (first | (with_reducible refine (Hc1.out _).mono ?_; rintro e w' ⟨rfl, rfl⟩; go_wp2_with fail) | (with_reducible refine (Hc2.out _).mono ?_; rintro e w' ⟨rfl, rfl⟩; go_wp2_with fail) | (with_reducible refine (Hc3.out _).mono ?_; rintro e w' ⟨rfl, rfl⟩; go_wp2_with fail) | (with_reducible refine (Hnf.out _).mono ?_; rintro e w' ⟨rfl, rfl⟩; go_wp2_with fail) | (with_reducible refine (Hnn.out _).mono ?_; rintro e w' ⟨rfl, rfl⟩; go_wp2_with fail))
  go_ret
  exact ⟨by rw [Hv.out]; try rfl, (Below.refl _ _).alloc (Nat.le_refl _) _⟩

set_option maxRecDepth 100000 in
set_option maxHeartbeats 400000 in
theorem right_3m_zz (fn name : ByteArray) (copy : Int) (w : World) (Hc1 : Hid (∀ w, Calls Tryz.prog 214 #[.int .i64 (copy)] w fun e w' => e = .returned (.bool true) ∧ w = w')) (hc1 : rcB (copy) = true) (Hc2 : Hid (∀ w, Calls Tryz.prog 214 #[.int .i64 (0)] w fun e w' => e = .returned (.bool true) ∧ w = w')) (hc2 : rcB (0) = true) (hf : fn.toList.isEmpty = false) (Hnf : Hid (∀ w, Calls Tryz.prog 56 #[.string fn] w fun e w' => e = .returned (.bool true) ∧ w = w')) (hnf : dg.nameB fn = true) (hn : name.toList.isEmpty = true) :
    Calls Tryz.prog 196 #[Nd.val ⟨3, fn, copy, name, 0, -1⟩] w (RPost (rightB ⟨3, fn, copy, name, 0, -1⟩) w) := by
  have Hv : Hid (rightB ⟨3, fn, copy, name, 0, -1⟩ = false) := Lib.hid (by unfold rightB; simp only [*]; unfold rightF; simp)
  unfold Nd.val Nd.cells
  go_enter Tryz.func196, Tryz.ntmps196
  go_wp2_with fail
  repeat (first | (with_reducible refine (Hc1.out _).mono ?_; rintro e w' ⟨rfl, rfl⟩; go_wp2_with fail) | (with_reducible refine (Hc2.out _).mono ?_; rintro e w' ⟨rfl, rfl⟩; go_wp2_with fail) | (with_reducible refine (Hc3.out _).mono ?_; rintro e w' ⟨rfl, rfl⟩; go_wp2_with fail) | (with_reducible refine (Hnf.out _).mono ?_; rintro e w' ⟨rfl, rfl⟩; go_wp2_with fail) | (with_reducible refine (Hnn.out _).mono ?_; rintro e w' ⟨rfl, rfl⟩; go_wp2_with fail))
  go_ret
  exact ⟨by rw [Hv.out]; try rfl, (Below.refl _ _).alloc (Nat.le_refl _) _⟩

set_option maxRecDepth 100000 in
set_option maxHeartbeats 400000 in
theorem right_3m_nz (fn name : ByteArray) (copy : Int) (n : Int) (w : World) (Hc1 : Hid (∀ w, Calls Tryz.prog 214 #[.int .i64 (copy)] w fun e w' => e = .returned (.bool true) ∧ w = w')) (hc1 : rcB (copy) = true) (Hc2 : Hid (∀ w, Calls Tryz.prog 214 #[.int .i64 (n)] w fun e w' => e = .returned (.bool true) ∧ w = w')) (hc2 : rcB (n) = true) (hf : fn.toList.isEmpty = false) (Hnf : Hid (∀ w, Calls Tryz.prog 56 #[.string fn] w fun e w' => e = .returned (.bool true) ∧ w = w')) (hnf : dg.nameB fn = true) (hn : name.toList.isEmpty = true) (hz1 : (n == 0) = false) (hz2 : (n != 0) = true) :
    Calls Tryz.prog 196 #[Nd.val ⟨3, fn, copy, name, n, -1⟩] w (RPost (rightB ⟨3, fn, copy, name, n, -1⟩) w) := by
  have Hv : Hid (rightB ⟨3, fn, copy, name, n, -1⟩ = true) := Lib.hid (by unfold rightB; simp only [*]; unfold rightF; simp only [*]; simp)
  unfold Nd.val Nd.cells
  go_enter Tryz.func196, Tryz.ntmps196
  go_wp2_with fail
  repeat (first | (with_reducible refine (Hc1.out _).mono ?_; rintro e w' ⟨rfl, rfl⟩; go_wp2_with fail) | (with_reducible refine (Hc2.out _).mono ?_; rintro e w' ⟨rfl, rfl⟩; go_wp2_with fail) | (with_reducible refine (Hc3.out _).mono ?_; rintro e w' ⟨rfl, rfl⟩; go_wp2_with fail) | (with_reducible refine (Hnf.out _).mono ?_; rintro e w' ⟨rfl, rfl⟩; go_wp2_with fail) | (with_reducible refine (Hnn.out _).mono ?_; rintro e w' ⟨rfl, rfl⟩; go_wp2_with fail))
  go_ret
  exact ⟨by rw [Hv.out]; try rfl, (Below.refl _ _).alloc (Nat.le_refl _) _⟩

set_option maxRecDepth 100000 in
set_option maxHeartbeats 400000 in
theorem right_3c_f (fn name : ByteArray) (copy : Int) (n : Int) (cell : Int) (w : World) (Hc1 : Hid (∀ w, Calls Tryz.prog 214 #[.int .i64 (copy)] w fun e w' => e = .returned (.bool true) ∧ w = w')) (hc1 : rcB (copy) = true) (Hc2 : Hid (∀ w, Calls Tryz.prog 214 #[.int .i64 (n)] w fun e w' => e = .returned (.bool true) ∧ w = w')) (hc2 : rcB (n) = true) (hz3 : (cell == -1) = false) (hz4 : (cell != -1) = true) (Hc3 : Hid (∀ w, Calls Tryz.prog 214 #[.int .i64 (cell)] w fun e w' => e = .returned (.bool true) ∧ w = w')) (hc3 : rcB cell = true) (hf : fn.toList.isEmpty = true) :
    Calls Tryz.prog 196 #[Nd.val ⟨3, fn, copy, name, n, cell⟩] w (RPost (rightB ⟨3, fn, copy, name, n, cell⟩) w) := by
  have Hv : Hid (rightB ⟨3, fn, copy, name, n, cell⟩ = false) := Lib.hid (by unfold rightB; simp only [*]; unfold rightF; simp only [*]; simp)
  unfold Nd.val Nd.cells
  go_enter Tryz.func196, Tryz.ntmps196
  go_wp2_with fail
  repeat (first | (with_reducible refine (Hc1.out _).mono ?_; rintro e w' ⟨rfl, rfl⟩; go_wp2_with fail) | (with_reducible refine (Hc2.out _).mono ?_; rintro e w' ⟨rfl, rfl⟩; go_wp2_with fail) | (with_reducible refine (Hc3.out _).mono ?_; rintro e w' ⟨rfl, rfl⟩; go_wp2_with fail) | (with_reducible refine (Hnf.out _).mono ?_; rintro e w' ⟨rfl, rfl⟩; go_wp2_with fail) | (with_reducible refine (Hnn.out _).mono ?_; rintro e w' ⟨rfl, rfl⟩; go_wp2_with fail))
  go_ret
  exact ⟨by rw [Hv.out]; try rfl, (Below.refl _ _).alloc (Nat.le_refl _) _⟩

set_option maxRecDepth 100000 in
set_option maxHeartbeats 400000 in
theorem right_3c_fn (fn name : ByteArray) (copy : Int) (n : Int) (cell : Int) (w : World) (Hc1 : Hid (∀ w, Calls Tryz.prog 214 #[.int .i64 (copy)] w fun e w' => e = .returned (.bool true) ∧ w = w')) (hc1 : rcB (copy) = true) (Hc2 : Hid (∀ w, Calls Tryz.prog 214 #[.int .i64 (n)] w fun e w' => e = .returned (.bool true) ∧ w = w')) (hc2 : rcB (n) = true) (hz3 : (cell == -1) = false) (hz4 : (cell != -1) = true) (Hc3 : Hid (∀ w, Calls Tryz.prog 214 #[.int .i64 (cell)] w fun e w' => e = .returned (.bool true) ∧ w = w')) (hc3 : rcB cell = true) (hf : fn.toList.isEmpty = false) (Hnf : Hid (∀ w, Calls Tryz.prog 56 #[.string fn] w fun e w' => e = .returned (.bool false) ∧ w = w')) (hnf : dg.nameB fn = false) :
    Calls Tryz.prog 196 #[Nd.val ⟨3, fn, copy, name, n, cell⟩] w (RPost (rightB ⟨3, fn, copy, name, n, cell⟩) w) := by
  have Hv : Hid (rightB ⟨3, fn, copy, name, n, cell⟩ = false) := Lib.hid (by unfold rightB; simp only [*]; unfold rightF; simp only [*]; simp)
  unfold Nd.val Nd.cells
  go_enter Tryz.func196, Tryz.ntmps196
  go_wp2_with fail
  repeat (first | (with_reducible refine (Hc1.out _).mono ?_; rintro e w' ⟨rfl, rfl⟩; go_wp2_with fail) | (with_reducible refine (Hc2.out _).mono ?_; rintro e w' ⟨rfl, rfl⟩; go_wp2_with fail) | (with_reducible refine (Hc3.out _).mono ?_; rintro e w' ⟨rfl, rfl⟩; go_wp2_with fail) | (with_reducible refine (Hnf.out _).mono ?_; rintro e w' ⟨rfl, rfl⟩; go_wp2_with fail) | (with_reducible refine (Hnn.out _).mono ?_; rintro e w' ⟨rfl, rfl⟩; go_wp2_with fail))
  go_ret
  exact ⟨by rw [Hv.out]; try rfl, (Below.refl _ _).alloc (Nat.le_refl _) _⟩

set_option maxRecDepth 100000 in
set_option maxHeartbeats 400000 in
theorem right_3c_n (fn name : ByteArray) (copy : Int) (n : Int) (cell : Int) (w : World) (Hc1 : Hid (∀ w, Calls Tryz.prog 214 #[.int .i64 (copy)] w fun e w' => e = .returned (.bool true) ∧ w = w')) (hc1 : rcB (copy) = true) (Hc2 : Hid (∀ w, Calls Tryz.prog 214 #[.int .i64 (n)] w fun e w' => e = .returned (.bool true) ∧ w = w')) (hc2 : rcB (n) = true) (hz3 : (cell == -1) = false) (hz4 : (cell != -1) = true) (Hc3 : Hid (∀ w, Calls Tryz.prog 214 #[.int .i64 (cell)] w fun e w' => e = .returned (.bool true) ∧ w = w')) (hc3 : rcB cell = true) (hf : fn.toList.isEmpty = false) (Hnf : Hid (∀ w, Calls Tryz.prog 56 #[.string fn] w fun e w' => e = .returned (.bool true) ∧ w = w')) (hnf : dg.nameB fn = true) (hn : name.toList.isEmpty = false) :
    Calls Tryz.prog 196 #[Nd.val ⟨3, fn, copy, name, n, cell⟩] w (RPost (rightB ⟨3, fn, copy, name, n, cell⟩) w) := by
  have Hv : Hid (rightB ⟨3, fn, copy, name, n, cell⟩ = false) := Lib.hid (by unfold rightB; simp only [*]; unfold rightF; simp only [*]; simp)
  unfold Nd.val Nd.cells
  go_enter Tryz.func196, Tryz.ntmps196
  go_wp2_with fail
  repeat (first | (with_reducible refine (Hc1.out _).mono ?_; rintro e w' ⟨rfl, rfl⟩; go_wp2_with fail) | (with_reducible refine (Hc2.out _).mono ?_; rintro e w' ⟨rfl, rfl⟩; go_wp2_with fail) | (with_reducible refine (Hc3.out _).mono ?_; rintro e w' ⟨rfl, rfl⟩; go_wp2_with fail) | (with_reducible refine (Hnf.out _).mono ?_; rintro e w' ⟨rfl, rfl⟩; go_wp2_with fail) | (with_reducible refine (Hnn.out _).mono ?_; rintro e w' ⟨rfl, rfl⟩; go_wp2_with fail))
  go_ret
  exact ⟨by rw [Hv.out]; try rfl, (Below.refl _ _).alloc (Nat.le_refl _) _⟩

set_option maxRecDepth 100000 in
set_option maxHeartbeats 400000 in
theorem right_3c_zz (fn name : ByteArray) (copy : Int) (cell : Int) (w : World) (Hc1 : Hid (∀ w, Calls Tryz.prog 214 #[.int .i64 (copy)] w fun e w' => e = .returned (.bool true) ∧ w = w')) (hc1 : rcB (copy) = true) (Hc2 : Hid (∀ w, Calls Tryz.prog 214 #[.int .i64 (0)] w fun e w' => e = .returned (.bool true) ∧ w = w')) (hc2 : rcB (0) = true) (hz3 : (cell == -1) = false) (hz4 : (cell != -1) = true) (Hc3 : Hid (∀ w, Calls Tryz.prog 214 #[.int .i64 (cell)] w fun e w' => e = .returned (.bool true) ∧ w = w')) (hc3 : rcB cell = true) (hf : fn.toList.isEmpty = false) (Hnf : Hid (∀ w, Calls Tryz.prog 56 #[.string fn] w fun e w' => e = .returned (.bool true) ∧ w = w')) (hnf : dg.nameB fn = true) (hn : name.toList.isEmpty = true) :
    Calls Tryz.prog 196 #[Nd.val ⟨3, fn, copy, name, 0, cell⟩] w (RPost (rightB ⟨3, fn, copy, name, 0, cell⟩) w) := by
  have Hv : Hid (rightB ⟨3, fn, copy, name, 0, cell⟩ = false) := Lib.hid (by unfold rightB; simp only [*]; unfold rightF; simp only [*]; simp)
  unfold Nd.val Nd.cells
  go_enter Tryz.func196, Tryz.ntmps196
  go_wp2_with fail
  repeat (first | (with_reducible refine (Hc1.out _).mono ?_; rintro e w' ⟨rfl, rfl⟩; go_wp2_with fail) | (with_reducible refine (Hc2.out _).mono ?_; rintro e w' ⟨rfl, rfl⟩; go_wp2_with fail) | (with_reducible refine (Hc3.out _).mono ?_; rintro e w' ⟨rfl, rfl⟩; go_wp2_with fail) | (with_reducible refine (Hnf.out _).mono ?_; rintro e w' ⟨rfl, rfl⟩; go_wp2_with fail) | (with_reducible refine (Hnn.out _).mono ?_; rintro e w' ⟨rfl, rfl⟩; go_wp2_with fail))
  go_ret
  exact ⟨by rw [Hv.out]; try rfl, (Below.refl _ _).alloc (Nat.le_refl _) _⟩

set_option maxRecDepth 100000 in
set_option maxHeartbeats 400000 in
theorem right_3c_nz (fn name : ByteArray) (copy : Int) (n : Int) (cell : Int) (w : World) (Hc1 : Hid (∀ w, Calls Tryz.prog 214 #[.int .i64 (copy)] w fun e w' => e = .returned (.bool true) ∧ w = w')) (hc1 : rcB (copy) = true) (Hc2 : Hid (∀ w, Calls Tryz.prog 214 #[.int .i64 (n)] w fun e w' => e = .returned (.bool true) ∧ w = w')) (hc2 : rcB (n) = true) (hz3 : (cell == -1) = false) (hz4 : (cell != -1) = true) (Hc3 : Hid (∀ w, Calls Tryz.prog 214 #[.int .i64 (cell)] w fun e w' => e = .returned (.bool true) ∧ w = w')) (hc3 : rcB cell = true) (hf : fn.toList.isEmpty = false) (Hnf : Hid (∀ w, Calls Tryz.prog 56 #[.string fn] w fun e w' => e = .returned (.bool true) ∧ w = w')) (hnf : dg.nameB fn = true) (hn : name.toList.isEmpty = true) (hz1 : (n == 0) = false) (hz2 : (n != 0) = true) :
    Calls Tryz.prog 196 #[Nd.val ⟨3, fn, copy, name, n, cell⟩] w (RPost (rightB ⟨3, fn, copy, name, n, cell⟩) w) := by
  have Hv : Hid (rightB ⟨3, fn, copy, name, n, cell⟩ = false) := Lib.hid (by unfold rightB; simp only [*]; unfold rightF; simp only [*]; simp)
  unfold Nd.val Nd.cells
  go_enter Tryz.func196, Tryz.ntmps196
  go_wp2_with fail
  repeat (first | (with_reducible refine (Hc1.out _).mono ?_; rintro e w' ⟨rfl, rfl⟩; go_wp2_with fail) | (with_reducible refine (Hc2.out _).mono ?_; rintro e w' ⟨rfl, rfl⟩; go_wp2_with fail) | (with_reducible refine (Hc3.out _).mono ?_; rintro e w' ⟨rfl, rfl⟩; go_wp2_with fail) | (with_reducible refine (Hnf.out _).mono ?_; rintro e w' ⟨rfl, rfl⟩; go_wp2_with fail) | (with_reducible refine (Hnn.out _).mono ?_; rintro e w' ⟨rfl, rfl⟩; go_wp2_with fail))
  go_ret
  exact ⟨by rw [Hv.out]; try rfl, (Below.refl _ _).alloc (Nat.le_refl _) _⟩

set_option maxRecDepth 100000 in
set_option maxHeartbeats 400000 in
theorem right_4m_f (fn name : ByteArray) (copy : Int) (n : Int) (w : World) (Hc1 : Hid (∀ w, Calls Tryz.prog 214 #[.int .i64 (copy)] w fun e w' => e = .returned (.bool true) ∧ w = w')) (hc1 : rcB (copy) = true) (Hc2 : Hid (∀ w, Calls Tryz.prog 214 #[.int .i64 (n)] w fun e w' => e = .returned (.bool true) ∧ w = w')) (hc2 : rcB (n) = true) (hf : fn.toList.isEmpty = true) :
    Calls Tryz.prog 196 #[Nd.val ⟨4, fn, copy, name, n, -1⟩] w (RPost (rightB ⟨4, fn, copy, name, n, -1⟩) w) := by
  have Hv : Hid (rightB ⟨4, fn, copy, name, n, -1⟩ = false) := Lib.hid (by unfold rightB; simp only [*]; unfold rightF; simp)
  unfold Nd.val Nd.cells
  go_enter Tryz.func196, Tryz.ntmps196
  go_wp2_with fail
  repeat (first | (with_reducible refine (Hc1.out _).mono ?_; rintro e w' ⟨rfl, rfl⟩; go_wp2_with fail) | (with_reducible refine (Hc2.out _).mono ?_; rintro e w' ⟨rfl, rfl⟩; go_wp2_with fail) | (with_reducible refine (Hc3.out _).mono ?_; rintro e w' ⟨rfl, rfl⟩; go_wp2_with fail) | (with_reducible refine (Hnf.out _).mono ?_; rintro e w' ⟨rfl, rfl⟩; go_wp2_with fail) | (with_reducible refine (Hnn.out _).mono ?_; rintro e w' ⟨rfl, rfl⟩; go_wp2_with fail))
  go_ret
  exact ⟨by rw [Hv.out]; try rfl, (Below.refl _ _).alloc (Nat.le_refl _) _⟩

set_option maxRecDepth 100000 in
set_option maxHeartbeats 400000 in
theorem right_4m_fn (fn name : ByteArray) (copy : Int) (n : Int) (w : World) (Hc1 : Hid (∀ w, Calls Tryz.prog 214 #[.int .i64 (copy)] w fun e w' => e = .returned (.bool true) ∧ w = w')) (hc1 : rcB (copy) = true) (Hc2 : Hid (∀ w, Calls Tryz.prog 214 #[.int .i64 (n)] w fun e w' => e = .returned (.bool true) ∧ w = w')) (hc2 : rcB (n) = true) (hf : fn.toList.isEmpty = false) (Hnf : Hid (∀ w, Calls Tryz.prog 56 #[.string fn] w fun e w' => e = .returned (.bool false) ∧ w = w')) (hnf : dg.nameB fn = false) :
    Calls Tryz.prog 196 #[Nd.val ⟨4, fn, copy, name, n, -1⟩] w (RPost (rightB ⟨4, fn, copy, name, n, -1⟩) w) := by
  have Hv : Hid (rightB ⟨4, fn, copy, name, n, -1⟩ = false) := Lib.hid (by unfold rightB; simp only [*]; unfold rightF; simp)
  unfold Nd.val Nd.cells
  go_enter Tryz.func196, Tryz.ntmps196
  go_wp2_with fail
  repeat (first | (with_reducible refine (Hc1.out _).mono ?_; rintro e w' ⟨rfl, rfl⟩; go_wp2_with fail) | (with_reducible refine (Hc2.out _).mono ?_; rintro e w' ⟨rfl, rfl⟩; go_wp2_with fail) | (with_reducible refine (Hc3.out _).mono ?_; rintro e w' ⟨rfl, rfl⟩; go_wp2_with fail) | (with_reducible refine (Hnf.out _).mono ?_; rintro e w' ⟨rfl, rfl⟩; go_wp2_with fail) | (with_reducible refine (Hnn.out _).mono ?_; rintro e w' ⟨rfl, rfl⟩; go_wp2_with fail))
  go_ret
  exact ⟨by rw [Hv.out]; try rfl, (Below.refl _ _).alloc (Nat.le_refl _) _⟩

set_option maxRecDepth 100000 in
set_option maxHeartbeats 400000 in
theorem right_4m_n (fn name : ByteArray) (copy : Int) (n : Int) (w : World) (Hc1 : Hid (∀ w, Calls Tryz.prog 214 #[.int .i64 (copy)] w fun e w' => e = .returned (.bool true) ∧ w = w')) (hc1 : rcB (copy) = true) (Hc2 : Hid (∀ w, Calls Tryz.prog 214 #[.int .i64 (n)] w fun e w' => e = .returned (.bool true) ∧ w = w')) (hc2 : rcB (n) = true) (hf : fn.toList.isEmpty = false) (Hnf : Hid (∀ w, Calls Tryz.prog 56 #[.string fn] w fun e w' => e = .returned (.bool true) ∧ w = w')) (hnf : dg.nameB fn = true) (hn : name.toList.isEmpty = false) :
    Calls Tryz.prog 196 #[Nd.val ⟨4, fn, copy, name, n, -1⟩] w (RPost (rightB ⟨4, fn, copy, name, n, -1⟩) w) := by
  have Hv : Hid (rightB ⟨4, fn, copy, name, n, -1⟩ = false) := Lib.hid (by unfold rightB; simp only [*]; unfold rightF; simp)
  unfold Nd.val Nd.cells
  go_enter Tryz.func196, Tryz.ntmps196
  go_wp2_with fail
  repeat (first | (with_reducible refine (Hc1.out _).mono ?_; rintro e w' ⟨rfl, rfl⟩; go_wp2_with fail) | (with_reducible refine (Hc2.out _).mono ?_; rintro e w' ⟨rfl, rfl⟩; go_wp2_with fail) | (with_reducible refine (Hc3.out _).mono ?_; rintro e w' ⟨rfl, rfl⟩; go_wp2_with fail) | (with_reducible refine (Hnf.out _).mono ?_; rintro e w' ⟨rfl, rfl⟩; go_wp2_with fail) | (with_reducible refine (Hnn.out _).mono ?_; rintro e w' ⟨rfl, rfl⟩; go_wp2_with fail))
  go_ret
  exact ⟨by rw [Hv.out]; try rfl, (Below.refl _ _).alloc (Nat.le_refl _) _⟩

set_option maxRecDepth 100000 in
set_option maxHeartbeats 400000 in
theorem right_4m_nz (fn name : ByteArray) (copy : Int) (n : Int) (w : World) (Hc1 : Hid (∀ w, Calls Tryz.prog 214 #[.int .i64 (copy)] w fun e w' => e = .returned (.bool true) ∧ w = w')) (hc1 : rcB (copy) = true) (Hc2 : Hid (∀ w, Calls Tryz.prog 214 #[.int .i64 (n)] w fun e w' => e = .returned (.bool true) ∧ w = w')) (hc2 : rcB (n) = true) (hf : fn.toList.isEmpty = false) (Hnf : Hid (∀ w, Calls Tryz.prog 56 #[.string fn] w fun e w' => e = .returned (.bool true) ∧ w = w')) (hnf : dg.nameB fn = true) (hn : name.toList.isEmpty = true) (hz1 : (n == 0) = false) (hz2 : (n != 0) = true) :
    Calls Tryz.prog 196 #[Nd.val ⟨4, fn, copy, name, n, -1⟩] w (RPost (rightB ⟨4, fn, copy, name, n, -1⟩) w) := by
  have Hv : Hid (rightB ⟨4, fn, copy, name, n, -1⟩ = false) := Lib.hid (by unfold rightB; simp only [*]; unfold rightF; simp only [*]; simp)
  unfold Nd.val Nd.cells
  go_enter Tryz.func196, Tryz.ntmps196
  go_wp2_with fail
  repeat (first | (with_reducible refine (Hc1.out _).mono ?_; rintro e w' ⟨rfl, rfl⟩; go_wp2_with fail) | (with_reducible refine (Hc2.out _).mono ?_; rintro e w' ⟨rfl, rfl⟩; go_wp2_with fail) | (with_reducible refine (Hc3.out _).mono ?_; rintro e w' ⟨rfl, rfl⟩; go_wp2_with fail) | (with_reducible refine (Hnf.out _).mono ?_; rintro e w' ⟨rfl, rfl⟩; go_wp2_with fail) | (with_reducible refine (Hnn.out _).mono ?_; rintro e w' ⟨rfl, rfl⟩; go_wp2_with fail))
  go_ret
  exact ⟨by rw [Hv.out]; try rfl, (Below.refl _ _).alloc (Nat.le_refl _) _⟩

set_option maxRecDepth 100000 in
set_option maxHeartbeats 400000 in
theorem right_4m_zz (fn name : ByteArray) (copy : Int) (w : World) (Hc1 : Hid (∀ w, Calls Tryz.prog 214 #[.int .i64 (copy)] w fun e w' => e = .returned (.bool true) ∧ w = w')) (hc1 : rcB (copy) = true) (Hc2 : Hid (∀ w, Calls Tryz.prog 214 #[.int .i64 (0)] w fun e w' => e = .returned (.bool true) ∧ w = w')) (hc2 : rcB (0) = true) (hf : fn.toList.isEmpty = false) (Hnf : Hid (∀ w, Calls Tryz.prog 56 #[.string fn] w fun e w' => e = .returned (.bool true) ∧ w = w')) (hnf : dg.nameB fn = true) (hn : name.toList.isEmpty = true) :
    Calls Tryz.prog 196 #[Nd.val ⟨4, fn, copy, name, 0, -1⟩] w (RPost (rightB ⟨4, fn, copy, name, 0, -1⟩) w) := by
  have Hv : Hid (rightB ⟨4, fn, copy, name, 0, -1⟩ = true) := Lib.hid (by unfold rightB; simp only [*]; unfold rightF; simp)
  unfold Nd.val Nd.cells
  go_enter Tryz.func196, Tryz.ntmps196
  go_wp2_with fail
  repeat (first | (with_reducible refine (Hc1.out _).mono ?_; rintro e w' ⟨rfl, rfl⟩; go_wp2_with fail) | (with_reducible refine (Hc2.out _).mono ?_; rintro e w' ⟨rfl, rfl⟩; go_wp2_with fail) | (with_reducible refine (Hc3.out _).mono ?_; rintro e w' ⟨rfl, rfl⟩; go_wp2_with fail) | (with_reducible refine (Hnf.out _).mono ?_; rintro e w' ⟨rfl, rfl⟩; go_wp2_with fail) | (with_reducible refine (Hnn.out _).mono ?_; rintro e w' ⟨rfl, rfl⟩; go_wp2_with fail))
  go_ret
  exact ⟨by rw [Hv.out]; try rfl, (Below.refl _ _).alloc (Nat.le_refl _) _⟩

set_option maxRecDepth 100000 in
set_option maxHeartbeats 400000 in
theorem right_4c_f (fn name : ByteArray) (copy : Int) (n : Int) (cell : Int) (w : World) (Hc1 : Hid (∀ w, Calls Tryz.prog 214 #[.int .i64 (copy)] w fun e w' => e = .returned (.bool true) ∧ w = w')) (hc1 : rcB (copy) = true) (Hc2 : Hid (∀ w, Calls Tryz.prog 214 #[.int .i64 (n)] w fun e w' => e = .returned (.bool true) ∧ w = w')) (hc2 : rcB (n) = true) (hz3 : (cell == -1) = false) (hz4 : (cell != -1) = true) (Hc3 : Hid (∀ w, Calls Tryz.prog 214 #[.int .i64 (cell)] w fun e w' => e = .returned (.bool true) ∧ w = w')) (hc3 : rcB cell = true) (hf : fn.toList.isEmpty = true) :
    Calls Tryz.prog 196 #[Nd.val ⟨4, fn, copy, name, n, cell⟩] w (RPost (rightB ⟨4, fn, copy, name, n, cell⟩) w) := by
  have Hv : Hid (rightB ⟨4, fn, copy, name, n, cell⟩ = false) := Lib.hid (by unfold rightB; simp only [*]; unfold rightF; simp only [*]; simp)
  unfold Nd.val Nd.cells
  go_enter Tryz.func196, Tryz.ntmps196
  go_wp2_with fail
  repeat (first | (with_reducible refine (Hc1.out _).mono ?_; rintro e w' ⟨rfl, rfl⟩; go_wp2_with fail) | (with_reducible refine (Hc2.out _).mono ?_; rintro e w' ⟨rfl, rfl⟩; go_wp2_with fail) | (with_reducible refine (Hc3.out _).mono ?_; rintro e w' ⟨rfl, rfl⟩; go_wp2_with fail) | (with_reducible refine (Hnf.out _).mono ?_; rintro e w' ⟨rfl, rfl⟩; go_wp2_with fail) | (with_reducible refine (Hnn.out _).mono ?_; rintro e w' ⟨rfl, rfl⟩; go_wp2_with fail))
  go_ret
  exact ⟨by rw [Hv.out]; try rfl, (Below.refl _ _).alloc (Nat.le_refl _) _⟩
end Go.Proofs.YtdmmkjijgoiecaaGreatDoor.nm
