import Derived.Test.YtdmmkjijgoiecaaGreatDoorV08
/-
  weftref14.Right: its leaves, part c.
-/
set_option linter.all false
namespace Go.Proofs.YtdmmkjijgoiecaaGreatDoor.nm
open Go.RowKit Go.Sort

set_option maxRecDepth 100000 in
set_option maxHeartbeats 400000 in
theorem right_4c_fn (fn name : ByteArray) (copy : Int) (n : Int) (cell : Int) (w : World) (Hc1 : Hid (∀ w, Calls Tryz.prog 214 #[.int .i64 (copy)] w fun e w' => e = .returned (.bool true) ∧ w = w')) (hc1 : rcB (copy) = true) (Hc2 : Hid (∀ w, Calls Tryz.prog 214 #[.int .i64 (n)] w fun e w' => e = .returned (.bool true) ∧ w = w')) (hc2 : rcB (n) = true) (hz3 : (cell == -1) = false) (hz4 : (cell != -1) = true) (Hc3 : Hid (∀ w, Calls Tryz.prog 214 #[.int .i64 (cell)] w fun e w' => e = .returned (.bool true) ∧ w = w')) (hc3 : rcB cell = true) (hf : fn.toList.isEmpty = false) (Hnf : Hid (∀ w, Calls Tryz.prog 56 #[.string fn] w fun e w' => e = .returned (.bool false) ∧ w = w')) (hnf : dg.nameB fn = false) :
    Calls Tryz.prog 196 #[Nd.val ⟨4, fn, copy, name, n, cell⟩] w (RPost (rightB ⟨4, fn, copy, name, n, cell⟩) w) := by
  have Hv : Hid (rightB ⟨4, fn, copy, name, n, cell⟩ = false) := Lib.hid (by unfold rightB; simp only [*]; unfold rightF; simp only [*]; simp)
  unfold Nd.val Nd.cells
  go_enter Tryz.func196, Tryz.ntmps196
  go_wp2_with fail
  repeat (first | (with_reducible refine (Hc1.out _).mono ?_; rintro e w' ⟨rfl, rfl⟩; go_wp2_with fail) | (with_reducible refine (Hc2.out _).mono ?_; rintro e w' ⟨rfl, rfl⟩; go_wp2_with fail) | (with_reducible refine (Hc3.out _).mono ?_; rintro e w' ⟨rfl, rfl⟩; go_wp2_with fail) | (with_reducible refine (Hnf.out _).mono ?_; rintro e w' ⟨rfl, rfl⟩; go_wp2_with fail) | (with_reducible refine (Hnn.out _).mono ?_; rintro e w' ⟨rfl, rfl⟩; go_wp2_with fail))
  go_ret
  exact ⟨by rw [Hv.out]; try rfl, (Below.refl _ _).alloc (Nat.le_refl _) _⟩

set_option maxRecDepth 100000 in
set_option maxHeartbeats 400000 in
theorem right_4c_n (fn name : ByteArray) (copy : Int) (n : Int) (cell : Int) (w : World) (Hc1 : Hid (∀ w, Calls Tryz.prog 214 #[.int .i64 (copy)] w fun e w' => e = .returned (.bool true) ∧ w = w')) (hc1 : rcB (copy) = true) (Hc2 : Hid (∀ w, Calls Tryz.prog 214 #[.int .i64 (n)] w fun e w' => e = .returned (.bool true) ∧ w = w')) (hc2 : rcB (n) = true) (hz3 : (cell == -1) = false) (hz4 : (cell != -1) = true) (Hc3 : Hid (∀ w, Calls Tryz.prog 214 #[.int .i64 (cell)] w fun e w' => e = .returned (.bool true) ∧ w = w')) (hc3 : rcB cell = true) (hf : fn.toList.isEmpty = false) (Hnf : Hid (∀ w, Calls Tryz.prog 56 #[.string fn] w fun e w' => e = .returned (.bool true) ∧ w = w')) (hnf : dg.nameB fn = true) (hn : name.toList.isEmpty = false) :
    Calls Tryz.prog 196 #[Nd.val ⟨4, fn, copy, name, n, cell⟩] w (RPost (rightB ⟨4, fn, copy, name, n, cell⟩) w) := by
  have Hv : Hid (rightB ⟨4, fn, copy, name, n, cell⟩ = false) := Lib.hid (by unfold rightB; simp only [*]; unfold rightF; simp only [*]; simp)
  unfold Nd.val Nd.cells
  go_enter Tryz.func196, Tryz.ntmps196
  go_wp2_with fail
  repeat (first | (with_reducible refine (Hc1.out _).mono ?_; rintro e w' ⟨rfl, rfl⟩; go_wp2_with fail) | (with_reducible refine (Hc2.out _).mono ?_; rintro e w' ⟨rfl, rfl⟩; go_wp2_with fail) | (with_reducible refine (Hc3.out _).mono ?_; rintro e w' ⟨rfl, rfl⟩; go_wp2_with fail) | (with_reducible refine (Hnf.out _).mono ?_; rintro e w' ⟨rfl, rfl⟩; go_wp2_with fail) | (with_reducible refine (Hnn.out _).mono ?_; rintro e w' ⟨rfl, rfl⟩; go_wp2_with fail))
  go_ret
  exact ⟨by rw [Hv.out]; try rfl, (Below.refl _ _).alloc (Nat.le_refl _) _⟩

set_option maxRecDepth 100000 in
set_option maxHeartbeats 400000 in
theorem right_4c_nz (fn name : ByteArray) (copy : Int) (n : Int) (cell : Int) (w : World) (Hc1 : Hid (∀ w, Calls Tryz.prog 214 #[.int .i64 (copy)] w fun e w' => e = .returned (.bool true) ∧ w = w')) (hc1 : rcB (copy) = true) (Hc2 : Hid (∀ w, Calls Tryz.prog 214 #[.int .i64 (n)] w fun e w' => e = .returned (.bool true) ∧ w = w')) (hc2 : rcB (n) = true) (hz3 : (cell == -1) = false) (hz4 : (cell != -1) = true) (Hc3 : Hid (∀ w, Calls Tryz.prog 214 #[.int .i64 (cell)] w fun e w' => e = .returned (.bool true) ∧ w = w')) (hc3 : rcB cell = true) (hf : fn.toList.isEmpty = false) (Hnf : Hid (∀ w, Calls Tryz.prog 56 #[.string fn] w fun e w' => e = .returned (.bool true) ∧ w = w')) (hnf : dg.nameB fn = true) (hn : name.toList.isEmpty = true) (hz1 : (n == 0) = false) (hz2 : (n != 0) = true) :
    Calls Tryz.prog 196 #[Nd.val ⟨4, fn, copy, name, n, cell⟩] w (RPost (rightB ⟨4, fn, copy, name, n, cell⟩) w) := by
  have Hv : Hid (rightB ⟨4, fn, copy, name, n, cell⟩ = false) := Lib.hid (by unfold rightB; simp only [*]; unfold rightF; simp only [*]; simp)
  unfold Nd.val Nd.cells
  go_enter Tryz.func196, Tryz.ntmps196
  go_wp2_with fail
  repeat (first | (with_reducible refine (Hc1.out _).mono ?_; rintro e w' ⟨rfl, rfl⟩; go_wp2_with fail) | (with_reducible refine (Hc2.out _).mono ?_; rintro e w' ⟨rfl, rfl⟩; go_wp2_with fail) | (with_reducible refine (Hc3.out _).mono ?_; rintro e w' ⟨rfl, rfl⟩; go_wp2_with fail) | (with_reducible refine (Hnf.out _).mono ?_; rintro e w' ⟨rfl, rfl⟩; go_wp2_with fail) | (with_reducible refine (Hnn.out _).mono ?_; rintro e w' ⟨rfl, rfl⟩; go_wp2_with fail))
  go_ret
  exact ⟨by rw [Hv.out]; try rfl, (Below.refl _ _).alloc (Nat.le_refl _) _⟩

set_option maxRecDepth 100000 in
set_option maxHeartbeats 400000 in
theorem right_4c_zz (fn name : ByteArray) (copy : Int) (cell : Int) (w : World) (Hc1 : Hid (∀ w, Calls Tryz.prog 214 #[.int .i64 (copy)] w fun e w' => e = .returned (.bool true) ∧ w = w')) (hc1 : rcB (copy) = true) (Hc2 : Hid (∀ w, Calls Tryz.prog 214 #[.int .i64 (0)] w fun e w' => e = .returned (.bool true) ∧ w = w')) (hc2 : rcB (0) = true) (hz3 : (cell == -1) = false) (hz4 : (cell != -1) = true) (Hc3 : Hid (∀ w, Calls Tryz.prog 214 #[.int .i64 (cell)] w fun e w' => e = .returned (.bool true) ∧ w = w')) (hc3 : rcB cell = true) (hf : fn.toList.isEmpty = false) (Hnf : Hid (∀ w, Calls Tryz.prog 56 #[.string fn] w fun e w' => e = .returned (.bool true) ∧ w = w')) (hnf : dg.nameB fn = true) (hn : name.toList.isEmpty = true) :
    Calls Tryz.prog 196 #[Nd.val ⟨4, fn, copy, name, 0, cell⟩] w (RPost (rightB ⟨4, fn, copy, name, 0, cell⟩) w) := by
  have Hv : Hid (rightB ⟨4, fn, copy, name, 0, cell⟩ = false) := Lib.hid (by unfold rightB; simp only [*]; unfold rightF; simp only [*]; simp)
  unfold Nd.val Nd.cells
  go_enter Tryz.func196, Tryz.ntmps196
  go_wp2_with fail
  repeat (first | (with_reducible refine (Hc1.out _).mono ?_; rintro e w' ⟨rfl, rfl⟩; go_wp2_with fail) | (with_reducible refine (Hc2.out _).mono ?_; rintro e w' ⟨rfl, rfl⟩; go_wp2_with fail) | (with_reducible refine (Hc3.out _).mono ?_; rintro e w' ⟨rfl, rfl⟩; go_wp2_with fail) | (with_reducible refine (Hnf.out _).mono ?_; rintro e w' ⟨rfl, rfl⟩; go_wp2_with fail) | (with_reducible refine (Hnn.out _).mono ?_; rintro e w' ⟨rfl, rfl⟩; go_wp2_with fail))
  go_ret
  exact ⟨by rw [Hv.out]; try rfl, (Below.refl _ _).alloc (Nat.le_refl _) _⟩

set_option maxRecDepth 100000 in
set_option maxHeartbeats 400000 in
theorem right_5m_f (fn name : ByteArray) (copy : Int) (n : Int) (w : World) (Hc1 : Hid (∀ w, Calls Tryz.prog 214 #[.int .i64 (copy)] w fun e w' => e = .returned (.bool true) ∧ w = w')) (hc1 : rcB (copy) = true) (Hc2 : Hid (∀ w, Calls Tryz.prog 214 #[.int .i64 (n)] w fun e w' => e = .returned (.bool true) ∧ w = w')) (hc2 : rcB (n) = true) (hf : fn.toList.isEmpty = false) :
    Calls Tryz.prog 196 #[Nd.val ⟨5, fn, copy, name, n, -1⟩] w (RPost (rightB ⟨5, fn, copy, name, n, -1⟩) w) := by
  have Hv : Hid (rightB ⟨5, fn, copy, name, n, -1⟩ = false) := Lib.hid (by unfold rightB; simp only [*]; unfold rightF; simp)
  unfold Nd.val Nd.cells
  go_enter Tryz.func196, Tryz.ntmps196
  go_wp2_with fail
  repeat (first | (with_reducible refine (Hc1.out _).mono ?_; rintro e w' ⟨rfl, rfl⟩; go_wp2_with fail) | (with_reducible refine (Hc2.out _).mono ?_; rintro e w' ⟨rfl, rfl⟩; go_wp2_with fail) | (with_reducible refine (Hc3.out _).mono ?_; rintro e w' ⟨rfl, rfl⟩; go_wp2_with fail) | (with_reducible refine (Hnf.out _).mono ?_; rintro e w' ⟨rfl, rfl⟩; go_wp2_with fail) | (with_reducible refine (Hnn.out _).mono ?_; rintro e w' ⟨rfl, rfl⟩; go_wp2_with fail))
  go_ret
  exact ⟨by rw [Hv.out]; try rfl, (Below.refl _ _).alloc (Nat.le_refl _) _⟩

set_option maxRecDepth 100000 in
set_option maxHeartbeats 400000 in
theorem right_5m_cp (fn name : ByteArray) (copy : Int) (n : Int) (w : World) (Hc1 : Hid (∀ w, Calls Tryz.prog 214 #[.int .i64 (copy)] w fun e w' => e = .returned (.bool true) ∧ w = w')) (hc1 : rcB (copy) = true) (Hc2 : Hid (∀ w, Calls Tryz.prog 214 #[.int .i64 (n)] w fun e w' => e = .returned (.bool true) ∧ w = w')) (hc2 : rcB (n) = true) (hf : fn.toList.isEmpty = true) (hz5 : (copy != 0) = true) :
    Calls Tryz.prog 196 #[Nd.val ⟨5, fn, copy, name, n, -1⟩] w (RPost (rightB ⟨5, fn, copy, name, n, -1⟩) w) := by
  have Hv : Hid (rightB ⟨5, fn, copy, name, n, -1⟩ = false) := Lib.hid (by unfold rightB; simp only [*]; unfold rightF; simp only [*]; simp)
  unfold Nd.val Nd.cells
  go_enter Tryz.func196, Tryz.ntmps196
  go_wp2_with fail
  repeat (first | (with_reducible refine (Hc1.out _).mono ?_; rintro e w' ⟨rfl, rfl⟩; go_wp2_with fail) | (with_reducible refine (Hc2.out _).mono ?_; rintro e w' ⟨rfl, rfl⟩; go_wp2_with fail) | (with_reducible refine (Hc3.out _).mono ?_; rintro e w' ⟨rfl, rfl⟩; go_wp2_with fail) | (with_reducible refine (Hnf.out _).mono ?_; rintro e w' ⟨rfl, rfl⟩; go_wp2_with fail) | (with_reducible refine (Hnn.out _).mono ?_; rintro e w' ⟨rfl, rfl⟩; go_wp2_with fail))
  go_ret
  exact ⟨by rw [Hv.out]; try rfl, (Below.refl _ _).alloc (Nat.le_refl _) _⟩

set_option maxRecDepth 100000 in
set_option maxHeartbeats 400000 in
theorem right_5m_n (fn name : ByteArray) (n : Int) (w : World) (Hc1 : Hid (∀ w, Calls Tryz.prog 214 #[.int .i64 (0)] w fun e w' => e = .returned (.bool true) ∧ w = w')) (hc1 : rcB (0) = true) (Hc2 : Hid (∀ w, Calls Tryz.prog 214 #[.int .i64 (n)] w fun e w' => e = .returned (.bool true) ∧ w = w')) (hc2 : rcB (n) = true) (hf : fn.toList.isEmpty = true) (hn : name.toList.isEmpty = true) :
    Calls Tryz.prog 196 #[Nd.val ⟨5, fn, 0, name, n, -1⟩] w (RPost (rightB ⟨5, fn, 0, name, n, -1⟩) w) := by
  have Hv : Hid (rightB ⟨5, fn, 0, name, n, -1⟩ = false) := Lib.hid (by unfold rightB; simp only [*]; unfold rightF; simp)
  unfold Nd.val Nd.cells
  go_enter Tryz.func196, Tryz.ntmps196
  go_wp2_with fail
  repeat (first | (with_reducible refine (Hc1.out _).mono ?_; rintro e w' ⟨rfl, rfl⟩; go_wp2_with fail) | (with_reducible refine (Hc2.out _).mono ?_; rintro e w' ⟨rfl, rfl⟩; go_wp2_with fail) | (with_reducible refine (Hc3.out _).mono ?_; rintro e w' ⟨rfl, rfl⟩; go_wp2_with fail) | (with_reducible refine (Hnf.out _).mono ?_; rintro e w' ⟨rfl, rfl⟩; go_wp2_with fail) | (with_reducible refine (Hnn.out _).mono ?_; rintro e w' ⟨rfl, rfl⟩; go_wp2_with fail))
  go_ret
  exact ⟨by rw [Hv.out]; try rfl, (Below.refl _ _).alloc (Nat.le_refl _) _⟩

set_option maxRecDepth 100000 in
set_option maxHeartbeats 400000 in
theorem right_5m_nn (fn name : ByteArray) (n : Int) (w : World) (Hc1 : Hid (∀ w, Calls Tryz.prog 214 #[.int .i64 (0)] w fun e w' => e = .returned (.bool true) ∧ w = w')) (hc1 : rcB (0) = true) (Hc2 : Hid (∀ w, Calls Tryz.prog 214 #[.int .i64 (n)] w fun e w' => e = .returned (.bool true) ∧ w = w')) (hc2 : rcB (n) = true) (hf : fn.toList.isEmpty = true) (hn : name.toList.isEmpty = false) (Hnn : Hid (∀ w, Calls Tryz.prog 56 #[.string name] w fun e w' => e = .returned (.bool false) ∧ w = w')) (hnn : dg.nameB name = false) :
    Calls Tryz.prog 196 #[Nd.val ⟨5, fn, 0, name, n, -1⟩] w (RPost (rightB ⟨5, fn, 0, name, n, -1⟩) w) := by
  have Hv : Hid (rightB ⟨5, fn, 0, name, n, -1⟩ = false) := Lib.hid (by unfold rightB; simp only [*]; unfold rightF; simp)
  unfold Nd.val Nd.cells
  go_enter Tryz.func196, Tryz.ntmps196
  go_wp2_with fail
  repeat (first | (with_reducible refine (Hc1.out _).mono ?_; rintro e w' ⟨rfl, rfl⟩; go_wp2_with fail) | (with_reducible refine (Hc2.out _).mono ?_; rintro e w' ⟨rfl, rfl⟩; go_wp2_with fail) | (with_reducible refine (Hc3.out _).mono ?_; rintro e w' ⟨rfl, rfl⟩; go_wp2_with fail) | (with_reducible refine (Hnf.out _).mono ?_; rintro e w' ⟨rfl, rfl⟩; go_wp2_with fail) | (with_reducible refine (Hnn.out _).mono ?_; rintro e w' ⟨rfl, rfl⟩; go_wp2_with fail))
  go_ret
  exact ⟨by rw [Hv.out]; try rfl, (Below.refl _ _).alloc (Nat.le_refl _) _⟩

set_option maxRecDepth 100000 in
set_option maxHeartbeats 400000 in
theorem right_5m_nz (fn name : ByteArray) (n : Int) (w : World) (Hc1 : Hid (∀ w, Calls Tryz.prog 214 #[.int .i64 (0)] w fun e w' => e = .returned (.bool true) ∧ w = w')) (hc1 : rcB (0) = true) (Hc2 : Hid (∀ w, Calls Tryz.prog 214 #[.int .i64 (n)] w fun e w' => e = .returned (.bool true) ∧ w = w')) (hc2 : rcB (n) = true) (hf : fn.toList.isEmpty = true) (hn : name.toList.isEmpty = false) (Hnn : Hid (∀ w, Calls Tryz.prog 56 #[.string name] w fun e w' => e = .returned (.bool true) ∧ w = w')) (hnn : dg.nameB name = true) (hz1 : (n == 0) = false) (hz2 : (n != 0) = true) :
    Calls Tryz.prog 196 #[Nd.val ⟨5, fn, 0, name, n, -1⟩] w (RPost (rightB ⟨5, fn, 0, name, n, -1⟩) w) := by
  have Hv : Hid (rightB ⟨5, fn, 0, name, n, -1⟩ = false) := Lib.hid (by unfold rightB; simp only [*]; unfold rightF; simp only [*]; simp)
  unfold Nd.val Nd.cells
  go_enter Tryz.func196, Tryz.ntmps196
  go_wp2_with fail
  repeat (first | (with_reducible refine (Hc1.out _).mono ?_; rintro e w' ⟨rfl, rfl⟩; go_wp2_with fail) | (with_reducible refine (Hc2.out _).mono ?_; rintro e w' ⟨rfl, rfl⟩; go_wp2_with fail) | (with_reducible refine (Hc3.out _).mono ?_; rintro e w' ⟨rfl, rfl⟩; go_wp2_with fail) | (with_reducible refine (Hnf.out _).mono ?_; rintro e w' ⟨rfl, rfl⟩; go_wp2_with fail) | (with_reducible refine (Hnn.out _).mono ?_; rintro e w' ⟨rfl, rfl⟩; go_wp2_with fail))
  go_ret
  exact ⟨by rw [Hv.out]; try rfl, (Below.refl _ _).alloc (Nat.le_refl _) _⟩

set_option maxRecDepth 100000 in
set_option maxHeartbeats 400000 in
theorem right_5m_zz (fn name : ByteArray)  (w : World) (Hc1 : Hid (∀ w, Calls Tryz.prog 214 #[.int .i64 (0)] w fun e w' => e = .returned (.bool true) ∧ w = w')) (hc1 : rcB (0) = true) (Hc2 : Hid (∀ w, Calls Tryz.prog 214 #[.int .i64 (0)] w fun e w' => e = .returned (.bool true) ∧ w = w')) (hc2 : rcB (0) = true) (hf : fn.toList.isEmpty = true) (hn : name.toList.isEmpty = false) (Hnn : Hid (∀ w, Calls Tryz.prog 56 #[.string name] w fun e w' => e = .returned (.bool true) ∧ w = w')) (hnn : dg.nameB name = true) :
    Calls Tryz.prog 196 #[Nd.val ⟨5, fn, 0, name, 0, -1⟩] w (RPost (rightB ⟨5, fn, 0, name, 0, -1⟩) w) := by
  have Hv : Hid (rightB ⟨5, fn, 0, name, 0, -1⟩ = true) := Lib.hid (by unfold rightB; simp only [*]; unfold rightF; simp)
  unfold Nd.val Nd.cells
  go_enter Tryz.func196, Tryz.ntmps196
  go_wp2_with fail
  repeat (first | (with_reducible refine (Hc1.out _).mono ?_; rintro e w' ⟨rfl, rfl⟩; go_wp2_with fail) | (with_reducible refine (Hc2.out _).mono ?_; rintro e w' ⟨rfl, rfl⟩; go_wp2_with fail) | (with_reducible refine (Hc3.out _).mono ?_; rintro e w' ⟨rfl, rfl⟩; go_wp2_with fail) | (with_reducible refine (Hnf.out _).mono ?_; rintro e w' ⟨rfl, rfl⟩; go_wp2_with fail) | (with_reducible refine (Hnn.out _).mono ?_; rintro e w' ⟨rfl, rfl⟩; go_wp2_with fail))
  go_ret
  exact ⟨by rw [Hv.out]; try rfl, (Below.refl _ _).alloc (Nat.le_refl _) _⟩

set_option maxRecDepth 100000 in
set_option maxHeartbeats 400000 in
theorem right_5c_f (fn name : ByteArray) (copy : Int) (n : Int) (cell : Int) (w : World) (Hc1 : Hid (∀ w, Calls Tryz.prog 214 #[.int .i64 (copy)] w fun e w' => e = .returned (.bool true) ∧ w = w')) (hc1 : rcB (copy) = true) (Hc2 : Hid (∀ w, Calls Tryz.prog 214 #[.int .i64 (n)] w fun e w' => e = .returned (.bool true) ∧ w = w')) (hc2 : rcB (n) = true) (hz3 : (cell == -1) = false) (hz4 : (cell != -1) = true) (Hc3 : Hid (∀ w, Calls Tryz.prog 214 #[.int .i64 (cell)] w fun e w' => e = .returned (.bool true) ∧ w = w')) (hc3 : rcB cell = true) (hf : fn.toList.isEmpty = false) :
    Calls Tryz.prog 196 #[Nd.val ⟨5, fn, copy, name, n, cell⟩] w (RPost (rightB ⟨5, fn, copy, name, n, cell⟩) w) := by
  have Hv : Hid (rightB ⟨5, fn, copy, name, n, cell⟩ = false) := Lib.hid (by unfold rightB; simp only [*]; unfold rightF; simp only [*]; simp)
  unfold Nd.val Nd.cells
  go_enter Tryz.func196, Tryz.ntmps196
  go_wp2_with fail
  repeat (first | (with_reducible refine (Hc1.out _).mono ?_; rintro e w' ⟨rfl, rfl⟩; go_wp2_with fail) | (with_reducible refine (Hc2.out _).mono ?_; rintro e w' ⟨rfl, rfl⟩; go_wp2_with fail) | (with_reducible refine (Hc3.out _).mono ?_; rintro e w' ⟨rfl, rfl⟩; go_wp2_with fail) | (with_reducible refine (Hnf.out _).mono ?_; rintro e w' ⟨rfl, rfl⟩; go_wp2_with fail) | (with_reducible refine (Hnn.out _).mono ?_; rintro e w' ⟨rfl, rfl⟩; go_wp2_with fail))
  go_ret
  exact ⟨by rw [Hv.out]; try rfl, (Below.refl _ _).alloc (Nat.le_refl _) _⟩

set_option maxRecDepth 100000 in
set_option maxHeartbeats 400000 in
theorem right_5c_cp (fn name : ByteArray) (copy : Int) (n : Int) (cell : Int) (w : World) (Hc1 : Hid (∀ w, Calls Tryz.prog 214 #[.int .i64 (copy)] w fun e w' => e = .returned (.bool true) ∧ w = w')) (hc1 : rcB (copy) = true) (Hc2 : Hid (∀ w, Calls Tryz.prog 214 #[.int .i64 (n)] w fun e w' => e = .returned (.bool true) ∧ w = w')) (hc2 : rcB (n) = true) (hz3 : (cell == -1) = false) (hz4 : (cell != -1) = true) (Hc3 : Hid (∀ w, Calls Tryz.prog 214 #[.int .i64 (cell)] w fun e w' => e = .returned (.bool true) ∧ w = w')) (hc3 : rcB cell = true) (hf : fn.toList.isEmpty = true) (hz5 : (copy != 0) = true) :
    Calls Tryz.prog 196 #[Nd.val ⟨5, fn, copy, name, n, cell⟩] w (RPost (rightB ⟨5, fn, copy, name, n, cell⟩) w) := by
  have Hv : Hid (rightB ⟨5, fn, copy, name, n, cell⟩ = false) := Lib.hid (by unfold rightB; simp only [*]; unfold rightF; simp only [*]; simp)
  unfold Nd.val Nd.cells
  go_enter Tryz.func196, Tryz.ntmps196
  go_wp2_with fail
  repeat (first | (with_reducible refine (Hc1.out _).mono ?_; rintro e w' ⟨rfl, rfl⟩; go_wp2_with fail) | (with_reducible refine (Hc2.out _).mono ?_; rintro e w' ⟨rfl, rfl⟩; go_wp2_with fail) | (with_reducible refine (Hc3.out _).mono ?_; rintro e w' ⟨rfl, rfl⟩; go_wp2_with fail) | (with_reducible refine (Hnf.out _).mono ?_; rintro e w' ⟨rfl, rfl⟩; go_wp2_with fail) | (with_reducible refine (Hnn.out _).mono ?_; rintro e w' ⟨rfl, rfl⟩; go_wp2_with fail))
  go_ret
  exact ⟨by rw [Hv.out]; try rfl, (Below.refl _ _).alloc (Nat.le_refl _) _⟩

set_option maxRecDepth 100000 in
set_option maxHeartbeats 400000 in
theorem right_5c_n (fn name : ByteArray) (n : Int) (cell : Int) (w : World) (Hc1 : Hid (∀ w, Calls Tryz.prog 214 #[.int .i64 (0)] w fun e w' => e = .returned (.bool true) ∧ w = w')) (hc1 : rcB (0) = true) (Hc2 : Hid (∀ w, Calls Tryz.prog 214 #[.int .i64 (n)] w fun e w' => e = .returned (.bool true) ∧ w = w')) (hc2 : rcB (n) = true) (hz3 : (cell == -1) = false) (hz4 : (cell != -1) = true) (Hc3 : Hid (∀ w, Calls Tryz.prog 214 #[.int .i64 (cell)] w fun e w' => e = .returned (.bool true) ∧ w = w')) (hc3 : rcB cell = true) (hf : fn.toList.isEmpty = true) (hn : name.toList.isEmpty = true) :
    Calls Tryz.prog 196 #[Nd.val ⟨5, fn, 0, name, n, cell⟩] w (RPost (rightB ⟨5, fn, 0, name, n, cell⟩) w) := by
  have Hv : Hid (rightB ⟨5, fn, 0, name, n, cell⟩ = false) := Lib.hid (by unfold rightB; simp only [*]; unfold rightF; simp only [*]; simp)
  unfold Nd.val Nd.cells
  go_enter Tryz.func196, Tryz.ntmps196
  go_wp2_with fail
  repeat (first | (with_reducible refine (Hc1.out _).mono ?_; rintro e w' ⟨rfl, rfl⟩; go_wp2_with fail) | (with_reducible refine (Hc2.out _).mono ?_; rintro e w' ⟨rfl, rfl⟩; go_wp2_with fail) | (with_reducible refine (Hc3.out _).mono ?_; rintro e w' ⟨rfl, rfl⟩; go_wp2_with fail) | (with_reducible refine (Hnf.out _).mono ?_; rintro e w' ⟨rfl, rfl⟩; go_wp2_with fail) | (with_reducible refine (Hnn.out _).mono ?_; rintro e w' ⟨rfl, rfl⟩; go_wp2_with fail))
  go_ret
  exact ⟨by rw [Hv.out]; try rfl, (Below.refl _ _).alloc (Nat.le_refl _) _⟩

set_option maxRecDepth 100000 in
set_option maxHeartbeats 400000 in
theorem right_5c_nn (fn name : ByteArray) (n : Int) (cell : Int) (w : World) (Hc1 : Hid (∀ w, Calls Tryz.prog 214 #[.int .i64 (0)] w fun e w' => e = .returned (.bool true) ∧ w = w')) (hc1 : rcB (0) = true) (Hc2 : Hid (∀ w, Calls Tryz.prog 214 #[.int .i64 (n)] w fun e w' => e = .returned (.bool true) ∧ w = w')) (hc2 : rcB (n) = true) (hz3 : (cell == -1) = false) (hz4 : (cell != -1) = true) (Hc3 : Hid (∀ w, Calls Tryz.prog 214 #[.int .i64 (cell)] w fun e w' => e = .returned (.bool true) ∧ w = w')) (hc3 : rcB cell = true) (hf : fn.toList.isEmpty = true) (hn : name.toList.isEmpty = false) (Hnn : Hid (∀ w, Calls Tryz.prog 56 #[.string name] w fun e w' => e = .returned (.bool false) ∧ w = w')) (hnn : dg.nameB name = false) :
    Calls Tryz.prog 196 #[Nd.val ⟨5, fn, 0, name, n, cell⟩] w (RPost (rightB ⟨5, fn, 0, name, n, cell⟩) w) := by
  have Hv : Hid (rightB ⟨5, fn, 0, name, n, cell⟩ = false) := Lib.hid (by unfold rightB; simp only [*]; unfold rightF; simp only [*]; simp)
  unfold Nd.val Nd.cells
  go_enter Tryz.func196, Tryz.ntmps196
  go_wp2_with fail
  repeat (first | (with_reducible refine (Hc1.out _).mono ?_; rintro e w' ⟨rfl, rfl⟩; go_wp2_with fail) | (with_reducible refine (Hc2.out _).mono ?_; rintro e w' ⟨rfl, rfl⟩; go_wp2_with fail) | (with_reducible refine (Hc3.out _).mono ?_; rintro e w' ⟨rfl, rfl⟩; go_wp2_with fail) | (with_reducible refine (Hnf.out _).mono ?_; rintro e w' ⟨rfl, rfl⟩; go_wp2_with fail) | (with_reducible refine (Hnn.out _).mono ?_; rintro e w' ⟨rfl, rfl⟩; go_wp2_with fail))
  go_ret
  exact ⟨by rw [Hv.out]; try rfl, (Below.refl _ _).alloc (Nat.le_refl _) _⟩

set_option maxRecDepth 100000 in
set_option maxHeartbeats 400000 in
theorem right_5c_nz (fn name : ByteArray) (n : Int) (cell : Int) (w : World) (Hc1 : Hid (∀ w, Calls Tryz.prog 214 #[.int .i64 (0)] w fun e w' => e = .returned (.bool true) ∧ w = w')) (hc1 : rcB (0) = true) (Hc2 : Hid (∀ w, Calls Tryz.prog 214 #[.int .i64 (n)] w fun e w' => e = .returned (.bool true) ∧ w = w')) (hc2 : rcB (n) = true) (hz3 : (cell == -1) = false) (hz4 : (cell != -1) = true) (Hc3 : Hid (∀ w, Calls Tryz.prog 214 #[.int .i64 (cell)] w fun e w' => e = .returned (.bool true) ∧ w = w')) (hc3 : rcB cell = true) (hf : fn.toList.isEmpty = true) (hn : name.toList.isEmpty = false) (Hnn : Hid (∀ w, Calls Tryz.prog 56 #[.string name] w fun e w' => e = .returned (.bool true) ∧ w = w')) (hnn : dg.nameB name = true) (hz1 : (n == 0) = false) (hz2 : (n != 0) = true) :
    Calls Tryz.prog 196 #[Nd.val ⟨5, fn, 0, name, n, cell⟩] w (RPost (rightB ⟨5, fn, 0, name, n, cell⟩) w) := by
  have Hv : Hid (rightB ⟨5, fn, 0, name, n, cell⟩ = false) := Lib.hid (by unfold rightB; simp only [*]; unfold rightF; simp only [*]; simp)
  unfold Nd.val Nd.cells
  go_enter Tryz.func196, Tryz.ntmps196
  go_wp2_with fail
  repeat (first | (with_reducible refine (Hc1.out _).mono ?_; rintro e w' ⟨rfl, rfl⟩; go_wp2_with fail) | (with_reducible refine (Hc2.out _).mono ?_; rintro e w' ⟨rfl, rfl⟩; go_wp2_with fail) | (with_reducible refine (Hc3.out _).mono ?_; rintro e w' ⟨rfl, rfl⟩; go_wp2_with fail) | (with_reducible refine (Hnf.out _).mono ?_; rintro e w' ⟨rfl, rfl⟩; go_wp2_with fail) | (with_reducible refine (Hnn.out _).mono ?_; rintro e w' ⟨rfl, rfl⟩; go_wp2_with fail))
  go_ret
  exact ⟨by rw [Hv.out]; try rfl, (Below.refl _ _).alloc (Nat.le_refl _) _⟩

set_option maxRecDepth 100000 in
set_option maxHeartbeats 400000 in
theorem right_5c_zz (fn name : ByteArray) (cell : Int) (w : World) (Hc1 : Hid (∀ w, Calls Tryz.prog 214 #[.int .i64 (0)] w fun e w' => e = .returned (.bool true) ∧ w = w')) (hc1 : rcB (0) = true) (Hc2 : Hid (∀ w, Calls Tryz.prog 214 #[.int .i64 (0)] w fun e w' => e = .returned (.bool true) ∧ w = w')) (hc2 : rcB (0) = true) (hz3 : (cell == -1) = false) (hz4 : (cell != -1) = true) (Hc3 : Hid (∀ w, Calls Tryz.prog 214 #[.int .i64 (cell)] w fun e w' => e = .returned (.bool true) ∧ w = w')) (hc3 : rcB cell = true) (hf : fn.toList.isEmpty = true) (hn : name.toList.isEmpty = false) (Hnn : Hid (∀ w, Calls Tryz.prog 56 #[.string name] w fun e w' => e = .returned (.bool true) ∧ w = w')) (hnn : dg.nameB name = true) :
    Calls Tryz.prog 196 #[Nd.val ⟨5, fn, 0, name, 0, cell⟩] w (RPost (rightB ⟨5, fn, 0, name, 0, cell⟩) w) := by
  have Hv : Hid (rightB ⟨5, fn, 0, name, 0, cell⟩ = true) := Lib.hid (by unfold rightB; simp only [*]; unfold rightF; simp only [*]; simp)
  unfold Nd.val Nd.cells
  go_enter Tryz.func196, Tryz.ntmps196
  go_wp2_with fail
  repeat (first | (with_reducible refine (Hc1.out _).mono ?_; rintro e w' ⟨rfl, rfl⟩; go_wp2_with fail) | (with_reducible refine (Hc2.out _).mono ?_; rintro e w' ⟨rfl, rfl⟩; go_wp2_with fail) | (with_reducible refine (Hc3.out _).mono ?_; rintro e w' ⟨rfl, rfl⟩; go_wp2_with fail) | (with_reducible refine (Hnf.out _).mono ?_; rintro e w' ⟨rfl, rfl⟩; go_wp2_with fail) | (with_reducible refine (Hnn.out _).mono ?_; rintro e w' ⟨rfl, rfl⟩; go_wp2_with fail))
  go_ret
  exact ⟨by rw [Hv.out]; try rfl, (Below.refl _ _).alloc (Nat.le_refl _) _⟩

set_option maxRecDepth 100000 in
set_option maxHeartbeats 400000 in
theorem right_6m_f (fn name : ByteArray) (copy : Int) (n : Int) (w : World) (Hc1 : Hid (∀ w, Calls Tryz.prog 214 #[.int .i64 (copy)] w fun e w' => e = .returned (.bool true) ∧ w = w')) (hc1 : rcB (copy) = true) (Hc2 : Hid (∀ w, Calls Tryz.prog 214 #[.int .i64 (n)] w fun e w' => e = .returned (.bool true) ∧ w = w')) (hc2 : rcB (n) = true) (hf : fn.toList.isEmpty = true) :
    Calls Tryz.prog 196 #[Nd.val ⟨6, fn, copy, name, n, -1⟩] w (RPost (rightB ⟨6, fn, copy, name, n, -1⟩) w) := by
  have Hv : Hid (rightB ⟨6, fn, copy, name, n, -1⟩ = false) := Lib.hid (by unfold rightB; simp only [*]; unfold rightF; simp)
  unfold Nd.val Nd.cells
  go_enter Tryz.func196, Tryz.ntmps196
  go_wp2_with fail
  repeat (first | (with_reducible refine (Hc1.out _).mono ?_; rintro e w' ⟨rfl, rfl⟩; go_wp2_with fail) | (with_reducible refine (Hc2.out _).mono ?_; rintro e w' ⟨rfl, rfl⟩; go_wp2_with fail) | (with_reducible refine (Hc3.out _).mono ?_; rintro e w' ⟨rfl, rfl⟩; go_wp2_with fail) | (with_reducible refine (Hnf.out _).mono ?_; rintro e w' ⟨rfl, rfl⟩; go_wp2_with fail) | (with_reducible refine (Hnn.out _).mono ?_; rintro e w' ⟨rfl, rfl⟩; go_wp2_with fail))
  go_ret
  exact ⟨by rw [Hv.out]; try rfl, (Below.refl _ _).alloc (Nat.le_refl _) _⟩

set_option maxRecDepth 100000 in
set_option maxHeartbeats 400000 in
theorem right_6m_fn (fn name : ByteArray) (copy : Int) (n : Int) (w : World) (Hc1 : Hid (∀ w, Calls Tryz.prog 214 #[.int .i64 (copy)] w fun e w' => e = .returned (.bool true) ∧ w = w')) (hc1 : rcB (copy) = true) (Hc2 : Hid (∀ w, Calls Tryz.prog 214 #[.int .i64 (n)] w fun e w' => e = .returned (.bool true) ∧ w = w')) (hc2 : rcB (n) = true) (hf : fn.toList.isEmpty = false) (Hnf : Hid (∀ w, Calls Tryz.prog 56 #[.string fn] w fun e w' => e = .returned (.bool false) ∧ w = w')) (hnf : dg.nameB fn = false) :
    Calls Tryz.prog 196 #[Nd.val ⟨6, fn, copy, name, n, -1⟩] w (RPost (rightB ⟨6, fn, copy, name, n, -1⟩) w) := by
  have Hv : Hid (rightB ⟨6, fn, copy, name, n, -1⟩ = false) := Lib.hid (by unfold rightB; simp only [*]; unfold rightF; simp)
  unfold Nd.val Nd.cells
  go_enter Tryz.func196, Tryz.ntmps196
  go_wp2_with fail
  repeat (first | (with_reducible refine (Hc1.out _).mono ?_; rintro e w' ⟨rfl, rfl⟩; go_wp2_with fail) | (with_reducible refine (Hc2.out _).mono ?_; rintro e w' ⟨rfl, rfl⟩; go_wp2_with fail) | (with_reducible refine (Hc3.out _).mono ?_; rintro e w' ⟨rfl, rfl⟩; go_wp2_with fail) | (with_reducible refine (Hnf.out _).mono ?_; rintro e w' ⟨rfl, rfl⟩; go_wp2_with fail) | (with_reducible refine (Hnn.out _).mono ?_; rintro e w' ⟨rfl, rfl⟩; go_wp2_with fail))
  go_ret
  exact ⟨by rw [Hv.out]; try rfl, (Below.refl _ _).alloc (Nat.le_refl _) _⟩

set_option maxRecDepth 100000 in
set_option maxHeartbeats 400000 in
theorem right_6m_n (fn name : ByteArray) (copy : Int) (n : Int) (w : World) (Hc1 : Hid (∀ w, Calls Tryz.prog 214 #[.int .i64 (copy)] w fun e w' => e = .returned (.bool true) ∧ w = w')) (hc1 : rcB (copy) = true) (Hc2 : Hid (∀ w, Calls Tryz.prog 214 #[.int .i64 (n)] w fun e w' => e = .returned (.bool true) ∧ w = w')) (hc2 : rcB (n) = true) (hf : fn.toList.isEmpty = false) (Hnf : Hid (∀ w, Calls Tryz.prog 56 #[.string fn] w fun e w' => e = .returned (.bool true) ∧ w = w')) (hnf : dg.nameB fn = true) (hn : name.toList.isEmpty = true) :
    Calls Tryz.prog 196 #[Nd.val ⟨6, fn, copy, name, n, -1⟩] w (RPost (rightB ⟨6, fn, copy, name, n, -1⟩) w) := by
  have Hv : Hid (rightB ⟨6, fn, copy, name, n, -1⟩ = false) := Lib.hid (by unfold rightB; simp only [*]; unfold rightF; simp)
  unfold Nd.val Nd.cells
  go_enter Tryz.func196, Tryz.ntmps196
  go_wp2_with fail
  repeat (first | (with_reducible refine (Hc1.out _).mono ?_; rintro e w' ⟨rfl, rfl⟩; go_wp2_with fail) | (with_reducible refine (Hc2.out _).mono ?_; rintro e w' ⟨rfl, rfl⟩; go_wp2_with fail) | (with_reducible refine (Hc3.out _).mono ?_; rintro e w' ⟨rfl, rfl⟩; go_wp2_with fail) | (with_reducible refine (Hnf.out _).mono ?_; rintro e w' ⟨rfl, rfl⟩; go_wp2_with fail) | (with_reducible refine (Hnn.out _).mono ?_; rintro e w' ⟨rfl, rfl⟩; go_wp2_with fail))
  go_ret
  exact ⟨by rw [Hv.out]; try rfl, (Below.refl _ _).alloc (Nat.le_refl _) _⟩
end Go.Proofs.YtdmmkjijgoiecaaGreatDoor.nm

/-
  weftref14.Right: its leaves, part d.
-/
set_option linter.all false
namespace Go.Proofs.YtdmmkjijgoiecaaGreatDoor.nm
open Go.RowKit Go.Sort

set_option maxRecDepth 100000 in
set_option maxHeartbeats 400000 in
theorem right_6m_nn (fn name : ByteArray) (copy : Int) (n : Int) (w : World) (Hc1 : Hid (∀ w, Calls Tryz.prog 214 #[.int .i64 (copy)] w fun e w' => e = .returned (.bool true) ∧ w = w')) (hc1 : rcB (copy) = true) (Hc2 : Hid (∀ w, Calls Tryz.prog 214 #[.int .i64 (n)] w fun e w' => e = .returned (.bool true) ∧ w = w')) (hc2 : rcB (n) = true) (hf : fn.toList.isEmpty = false) (Hnf : Hid (∀ w, Calls Tryz.prog 56 #[.string fn] w fun e w' => e = .returned (.bool true) ∧ w = w')) (hnf : dg.nameB fn = true) (hn : name.toList.isEmpty = false) (Hnn : Hid (∀ w, Calls Tryz.prog 56 #[.string name] w fun e w' => e = .returned (.bool false) ∧ w = w')) (hnn : dg.nameB name = false) :
    Calls Tryz.prog 196 #[Nd.val ⟨6, fn, copy, name, n, -1⟩] w (RPost (rightB ⟨6, fn, copy, name, n, -1⟩) w) := by
  have Hv : Hid (rightB ⟨6, fn, copy, name, n, -1⟩ = false) := Lib.hid (by unfold rightB; simp only [*]; unfold rightF; simp)
  unfold Nd.val Nd.cells
  go_enter Tryz.func196, Tryz.ntmps196
  go_wp2_with fail
  repeat (first | (with_reducible refine (Hc1.out _).mono ?_; rintro e w' ⟨rfl, rfl⟩; go_wp2_with fail) | (with_reducible refine (Hc2.out _).mono ?_; rintro e w' ⟨rfl, rfl⟩; go_wp2_with fail) | (with_reducible refine (Hc3.out _).mono ?_; rintro e w' ⟨rfl, rfl⟩; go_wp2_with fail) | (with_reducible refine (Hnf.out _).mono ?_; rintro e w' ⟨rfl, rfl⟩; go_wp2_with fail) | (with_reducible refine (Hnn.out _).mono ?_; rintro e w' ⟨rfl, rfl⟩; go_wp2_with fail))
  go_ret
  exact ⟨by rw [Hv.out]; try rfl, (Below.refl _ _).alloc (Nat.le_refl _) _⟩

set_option maxRecDepth 100000 in
set_option maxHeartbeats 400000 in
theorem right_6m_nz (fn name : ByteArray) (copy : Int) (n : Int) (w : World) (Hc1 : Hid (∀ w, Calls Tryz.prog 214 #[.int .i64 (copy)] w fun e w' => e = .returned (.bool true) ∧ w = w')) (hc1 : rcB (copy) = true) (Hc2 : Hid (∀ w, Calls Tryz.prog 214 #[.int .i64 (n)] w fun e w' => e = .returned (.bool true) ∧ w = w')) (hc2 : rcB (n) = true) (hf : fn.toList.isEmpty = false) (Hnf : Hid (∀ w, Calls Tryz.prog 56 #[.string fn] w fun e w' => e = .returned (.bool true) ∧ w = w')) (hnf : dg.nameB fn = true) (hn : name.toList.isEmpty = false) (Hnn : Hid (∀ w, Calls Tryz.prog 56 #[.string name] w fun e w' => e = .returned (.bool true) ∧ w = w')) (hnn : dg.nameB name = true) (hz1 : (n == 0) = false) (hz2 : (n != 0) = true) :
    Calls Tryz.prog 196 #[Nd.val ⟨6, fn, copy, name, n, -1⟩] w (RPost (rightB ⟨6, fn, copy, name, n, -1⟩) w) := by
  have Hv : Hid (rightB ⟨6, fn, copy, name, n, -1⟩ = false) := Lib.hid (by unfold rightB; simp only [*]; unfold rightF; simp only [*]; simp)
  unfold Nd.val Nd.cells
  go_enter Tryz.func196, Tryz.ntmps196
  go_wp2_with fail
  repeat (first | (with_reducible refine (Hc1.out _).mono ?_; rintro e w' ⟨rfl, rfl⟩; go_wp2_with fail) | (with_reducible refine (Hc2.out _).mono ?_; rintro e w' ⟨rfl, rfl⟩; go_wp2_with fail) | (with_reducible refine (Hc3.out _).mono ?_; rintro e w' ⟨rfl, rfl⟩; go_wp2_with fail) | (with_reducible refine (Hnf.out _).mono ?_; rintro e w' ⟨rfl, rfl⟩; go_wp2_with fail) | (with_reducible refine (Hnn.out _).mono ?_; rintro e w' ⟨rfl, rfl⟩; go_wp2_with fail))
  go_ret
  exact ⟨by rw [Hv.out]; try rfl, (Below.refl _ _).alloc (Nat.le_refl _) _⟩

set_option maxRecDepth 100000 in
set_option maxHeartbeats 400000 in
theorem right_6m_zz (fn name : ByteArray) (copy : Int) (w : World) (Hc1 : Hid (∀ w, Calls Tryz.prog 214 #[.int .i64 (copy)] w fun e w' => e = .returned (.bool true) ∧ w = w')) (hc1 : rcB (copy) = true) (Hc2 : Hid (∀ w, Calls Tryz.prog 214 #[.int .i64 (0)] w fun e w' => e = .returned (.bool true) ∧ w = w')) (hc2 : rcB (0) = true) (hf : fn.toList.isEmpty = false) (Hnf : Hid (∀ w, Calls Tryz.prog 56 #[.string fn] w fun e w' => e = .returned (.bool true) ∧ w = w')) (hnf : dg.nameB fn = true) (hn : name.toList.isEmpty = false) (Hnn : Hid (∀ w, Calls Tryz.prog 56 #[.string name] w fun e w' => e = .returned (.bool true) ∧ w = w')) (hnn : dg.nameB name = true) :
    Calls Tryz.prog 196 #[Nd.val ⟨6, fn, copy, name, 0, -1⟩] w (RPost (rightB ⟨6, fn, copy, name, 0, -1⟩) w) := by
  have Hv : Hid (rightB ⟨6, fn, copy, name, 0, -1⟩ = true) := Lib.hid (by unfold rightB; simp only [*]; unfold rightF; simp)
  unfold Nd.val Nd.cells
  go_enter Tryz.func196, Tryz.ntmps196
  go_wp2_with fail
  repeat (first | (with_reducible refine (Hc1.out _).mono ?_; rintro e w' ⟨rfl, rfl⟩; go_wp2_with fail) | (with_reducible refine (Hc2.out _).mono ?_; rintro e w' ⟨rfl, rfl⟩; go_wp2_with fail) | (with_reducible refine (Hc3.out _).mono ?_; rintro e w' ⟨rfl, rfl⟩; go_wp2_with fail) | (with_reducible refine (Hnf.out _).mono ?_; rintro e w' ⟨rfl, rfl⟩; go_wp2_with fail) | (with_reducible refine (Hnn.out _).mono ?_; rintro e w' ⟨rfl, rfl⟩; go_wp2_with fail))
  go_ret
  exact ⟨by rw [Hv.out]; try rfl, (Below.refl _ _).alloc (Nat.le_refl _) _⟩

set_option maxRecDepth 100000 in
set_option maxHeartbeats 400000 in
theorem right_6c_f (fn name : ByteArray) (copy : Int) (n : Int) (cell : Int) (w : World) (Hc1 : Hid (∀ w, Calls Tryz.prog 214 #[.int .i64 (copy)] w fun e w' => e = .returned (.bool true) ∧ w = w')) (hc1 : rcB (copy) = true) (Hc2 : Hid (∀ w, Calls Tryz.prog 214 #[.int .i64 (n)] w fun e w' => e = .returned (.bool true) ∧ w = w')) (hc2 : rcB (n) = true) (hz3 : (cell == -1) = false) (hz4 : (cell != -1) = true) (Hc3 : Hid (∀ w, Calls Tryz.prog 214 #[.int .i64 (cell)] w fun e w' => e = .returned (.bool true) ∧ w = w')) (hc3 : rcB cell = true) (hf : fn.toList.isEmpty = true) :
    Calls Tryz.prog 196 #[Nd.val ⟨6, fn, copy, name, n, cell⟩] w (RPost (rightB ⟨6, fn, copy, name, n, cell⟩) w) := by
  have Hv : Hid (rightB ⟨6, fn, copy, name, n, cell⟩ = false) := Lib.hid (by unfold rightB; simp only [*]; unfold rightF; simp only [*]; simp)
  unfold Nd.val Nd.cells
  go_enter Tryz.func196, Tryz.ntmps196
  go_wp2_with fail
  repeat (first | (with_reducible refine (Hc1.out _).mono ?_; rintro e w' ⟨rfl, rfl⟩; go_wp2_with fail) | (with_reducible refine (Hc2.out _).mono ?_; rintro e w' ⟨rfl, rfl⟩; go_wp2_with fail) | (with_reducible refine (Hc3.out _).mono ?_; rintro e w' ⟨rfl, rfl⟩; go_wp2_with fail) | (with_reducible refine (Hnf.out _).mono ?_; rintro e w' ⟨rfl, rfl⟩; go_wp2_with fail) | (with_reducible refine (Hnn.out _).mono ?_; rintro e w' ⟨rfl, rfl⟩; go_wp2_with fail))
  go_ret
  exact ⟨by rw [Hv.out]; try rfl, (Below.refl _ _).alloc (Nat.le_refl _) _⟩

set_option maxRecDepth 100000 in
set_option maxHeartbeats 400000 in
theorem right_6c_fn (fn name : ByteArray) (copy : Int) (n : Int) (cell : Int) (w : World) (Hc1 : Hid (∀ w, Calls Tryz.prog 214 #[.int .i64 (copy)] w fun e w' => e = .returned (.bool true) ∧ w = w')) (hc1 : rcB (copy) = true) (Hc2 : Hid (∀ w, Calls Tryz.prog 214 #[.int .i64 (n)] w fun e w' => e = .returned (.bool true) ∧ w = w')) (hc2 : rcB (n) = true) (hz3 : (cell == -1) = false) (hz4 : (cell != -1) = true) (Hc3 : Hid (∀ w, Calls Tryz.prog 214 #[.int .i64 (cell)] w fun e w' => e = .returned (.bool true) ∧ w = w')) (hc3 : rcB cell = true) (hf : fn.toList.isEmpty = false) (Hnf : Hid (∀ w, Calls Tryz.prog 56 #[.string fn] w fun e w' => e = .returned (.bool false) ∧ w = w')) (hnf : dg.nameB fn = false) :
    Calls Tryz.prog 196 #[Nd.val ⟨6, fn, copy, name, n, cell⟩] w (RPost (rightB ⟨6, fn, copy, name, n, cell⟩) w) := by
  have Hv : Hid (rightB ⟨6, fn, copy, name, n, cell⟩ = false) := Lib.hid (by unfold rightB; simp only [*]; unfold rightF; simp only [*]; simp)
  unfold Nd.val Nd.cells
  go_enter Tryz.func196, Tryz.ntmps196
  go_wp2_with fail
  repeat (first | (with_reducible refine (Hc1.out _).mono ?_; rintro e w' ⟨rfl, rfl⟩; go_wp2_with fail) | (with_reducible refine (Hc2.out _).mono ?_; rintro e w' ⟨rfl, rfl⟩; go_wp2_with fail) | (with_reducible refine (Hc3.out _).mono ?_; rintro e w' ⟨rfl, rfl⟩; go_wp2_with fail) | (with_reducible refine (Hnf.out _).mono ?_; rintro e w' ⟨rfl, rfl⟩; go_wp2_with fail) | (with_reducible refine (Hnn.out _).mono ?_; rintro e w' ⟨rfl, rfl⟩; go_wp2_with fail))
  go_ret
  exact ⟨by rw [Hv.out]; try rfl, (Below.refl _ _).alloc (Nat.le_refl _) _⟩

set_option maxRecDepth 100000 in
set_option maxHeartbeats 400000 in
theorem right_6c_n (fn name : ByteArray) (copy : Int) (n : Int) (cell : Int) (w : World) (Hc1 : Hid (∀ w, Calls Tryz.prog 214 #[.int .i64 (copy)] w fun e w' => e = .returned (.bool true) ∧ w = w')) (hc1 : rcB (copy) = true) (Hc2 : Hid (∀ w, Calls Tryz.prog 214 #[.int .i64 (n)] w fun e w' => e = .returned (.bool true) ∧ w = w')) (hc2 : rcB (n) = true) (hz3 : (cell == -1) = false) (hz4 : (cell != -1) = true) (Hc3 : Hid (∀ w, Calls Tryz.prog 214 #[.int .i64 (cell)] w fun e w' => e = .returned (.bool true) ∧ w = w')) (hc3 : rcB cell = true) (hf : fn.toList.isEmpty = false) (Hnf : Hid (∀ w, Calls Tryz.prog 56 #[.string fn] w fun e w' => e = .returned (.bool true) ∧ w = w')) (hnf : dg.nameB fn = true) (hn : name.toList.isEmpty = true) :
    Calls Tryz.prog 196 #[Nd.val ⟨6, fn, copy, name, n, cell⟩] w (RPost (rightB ⟨6, fn, copy, name, n, cell⟩) w) := by
  have Hv : Hid (rightB ⟨6, fn, copy, name, n, cell⟩ = false) := Lib.hid (by unfold rightB; simp only [*]; unfold rightF; simp only [*]; simp)
  unfold Nd.val Nd.cells
  go_enter Tryz.func196, Tryz.ntmps196
  go_wp2_with fail
  repeat (first | (with_reducible refine (Hc1.out _).mono ?_; rintro e w' ⟨rfl, rfl⟩; go_wp2_with fail) | (with_reducible refine (Hc2.out _).mono ?_; rintro e w' ⟨rfl, rfl⟩; go_wp2_with fail) | (with_reducible refine (Hc3.out _).mono ?_; rintro e w' ⟨rfl, rfl⟩; go_wp2_with fail) | (with_reducible refine (Hnf.out _).mono ?_; rintro e w' ⟨rfl, rfl⟩; go_wp2_with fail) | (with_reducible refine (Hnn.out _).mono ?_; rintro e w' ⟨rfl, rfl⟩; go_wp2_with fail))
  go_ret
  exact ⟨by rw [Hv.out]; try rfl, (Below.refl _ _).alloc (Nat.le_refl _) _⟩

set_option maxRecDepth 100000 in
set_option maxHeartbeats 400000 in
theorem right_6c_nn (fn name : ByteArray) (copy : Int) (n : Int) (cell : Int) (w : World) (Hc1 : Hid (∀ w, Calls Tryz.prog 214 #[.int .i64 (copy)] w fun e w' => e = .returned (.bool true) ∧ w = w')) (hc1 : rcB (copy) = true) (Hc2 : Hid (∀ w, Calls Tryz.prog 214 #[.int .i64 (n)] w fun e w' => e = .returned (.bool true) ∧ w = w')) (hc2 : rcB (n) = true) (hz3 : (cell == -1) = false) (hz4 : (cell != -1) = true) (Hc3 : Hid (∀ w, Calls Tryz.prog 214 #[.int .i64 (cell)] w fun e w' => e = .returned (.bool true) ∧ w = w')) (hc3 : rcB cell = true) (hf : fn.toList.isEmpty = false) (Hnf : Hid (∀ w, Calls Tryz.prog 56 #[.string fn] w fun e w' => e = .returned (.bool true) ∧ w = w')) (hnf : dg.nameB fn = true) (hn : name.toList.isEmpty = false) (Hnn : Hid (∀ w, Calls Tryz.prog 56 #[.string name] w fun e w' => e = .returned (.bool false) ∧ w = w')) (hnn : dg.nameB name = false) :
    Calls Tryz.prog 196 #[Nd.val ⟨6, fn, copy, name, n, cell⟩] w (RPost (rightB ⟨6, fn, copy, name, n, cell⟩) w) := by
  have Hv : Hid (rightB ⟨6, fn, copy, name, n, cell⟩ = false) := Lib.hid (by unfold rightB; simp only [*]; unfold rightF; simp only [*]; simp)
  unfold Nd.val Nd.cells
  go_enter Tryz.func196, Tryz.ntmps196
  go_wp2_with fail
  repeat (first | (with_reducible refine (Hc1.out _).mono ?_; rintro e w' ⟨rfl, rfl⟩; go_wp2_with fail) | (with_reducible refine (Hc2.out _).mono ?_; rintro e w' ⟨rfl, rfl⟩; go_wp2_with fail) | (with_reducible refine (Hc3.out _).mono ?_; rintro e w' ⟨rfl, rfl⟩; go_wp2_with fail) | (with_reducible refine (Hnf.out _).mono ?_; rintro e w' ⟨rfl, rfl⟩; go_wp2_with fail) | (with_reducible refine (Hnn.out _).mono ?_; rintro e w' ⟨rfl, rfl⟩; go_wp2_with fail))
  go_ret
  exact ⟨by rw [Hv.out]; try rfl, (Below.refl _ _).alloc (Nat.le_refl _) _⟩

set_option maxRecDepth 100000 in
set_option maxHeartbeats 400000 in
theorem right_6c_nz (fn name : ByteArray) (copy : Int) (n : Int) (cell : Int) (w : World) (Hc1 : Hid (∀ w, Calls Tryz.prog 214 #[.int .i64 (copy)] w fun e w' => e = .returned (.bool true) ∧ w = w')) (hc1 : rcB (copy) = true) (Hc2 : Hid (∀ w, Calls Tryz.prog 214 #[.int .i64 (n)] w fun e w' => e = .returned (.bool true) ∧ w = w')) (hc2 : rcB (n) = true) (hz3 : (cell == -1) = false) (hz4 : (cell != -1) = true) (Hc3 : Hid (∀ w, Calls Tryz.prog 214 #[.int .i64 (cell)] w fun e w' => e = .returned (.bool true) ∧ w = w')) (hc3 : rcB cell = true) (hf : fn.toList.isEmpty = false) (Hnf : Hid (∀ w, Calls Tryz.prog 56 #[.string fn] w fun e w' => e = .returned (.bool true) ∧ w = w')) (hnf : dg.nameB fn = true) (hn : name.toList.isEmpty = false) (Hnn : Hid (∀ w, Calls Tryz.prog 56 #[.string name] w fun e w' => e = .returned (.bool true) ∧ w = w')) (hnn : dg.nameB name = true) (hz1 : (n == 0) = false) (hz2 : (n != 0) = true) :
    Calls Tryz.prog 196 #[Nd.val ⟨6, fn, copy, name, n, cell⟩] w (RPost (rightB ⟨6, fn, copy, name, n, cell⟩) w) := by
  have Hv : Hid (rightB ⟨6, fn, copy, name, n, cell⟩ = false) := Lib.hid (by unfold rightB; simp only [*]; unfold rightF; simp only [*]; simp)
  unfold Nd.val Nd.cells
  go_enter Tryz.func196, Tryz.ntmps196
  go_wp2_with fail
  repeat (first | (with_reducible refine (Hc1.out _).mono ?_; rintro e w' ⟨rfl, rfl⟩; go_wp2_with fail) | (with_reducible refine (Hc2.out _).mono ?_; rintro e w' ⟨rfl, rfl⟩; go_wp2_with fail) | (with_reducible refine (Hc3.out _).mono ?_; rintro e w' ⟨rfl, rfl⟩; go_wp2_with fail) | (with_reducible refine (Hnf.out _).mono ?_; rintro e w' ⟨rfl, rfl⟩; go_wp2_with fail) | (with_reducible refine (Hnn.out _).mono ?_; rintro e w' ⟨rfl, rfl⟩; go_wp2_with fail))
  go_ret
  exact ⟨by rw [Hv.out]; try rfl, (Below.refl _ _).alloc (Nat.le_refl _) _⟩

set_option maxRecDepth 100000 in
set_option maxHeartbeats 400000 in
theorem right_6c_zz (fn name : ByteArray) (copy : Int) (cell : Int) (w : World) (Hc1 : Hid (∀ w, Calls Tryz.prog 214 #[.int .i64 (copy)] w fun e w' => e = .returned (.bool true) ∧ w = w')) (hc1 : rcB (copy) = true) (Hc2 : Hid (∀ w, Calls Tryz.prog 214 #[.int .i64 (0)] w fun e w' => e = .returned (.bool true) ∧ w = w')) (hc2 : rcB (0) = true) (hz3 : (cell == -1) = false) (hz4 : (cell != -1) = true) (Hc3 : Hid (∀ w, Calls Tryz.prog 214 #[.int .i64 (cell)] w fun e w' => e = .returned (.bool true) ∧ w = w')) (hc3 : rcB cell = true) (hf : fn.toList.isEmpty = false) (Hnf : Hid (∀ w, Calls Tryz.prog 56 #[.string fn] w fun e w' => e = .returned (.bool true) ∧ w = w')) (hnf : dg.nameB fn = true) (hn : name.toList.isEmpty = false) (Hnn : Hid (∀ w, Calls Tryz.prog 56 #[.string name] w fun e w' => e = .returned (.bool true) ∧ w = w')) (hnn : dg.nameB name = true) :
    Calls Tryz.prog 196 #[Nd.val ⟨6, fn, copy, name, 0, cell⟩] w (RPost (rightB ⟨6, fn, copy, name, 0, cell⟩) w) := by
  have Hv : Hid (rightB ⟨6, fn, copy, name, 0, cell⟩ = true) := Lib.hid (by unfold rightB; simp only [*]; unfold rightF; simp only [*]; simp)
  unfold Nd.val Nd.cells
  go_enter Tryz.func196, Tryz.ntmps196
  go_wp2_with fail
  repeat (first | (with_reducible refine (Hc1.out _).mono ?_; rintro e w' ⟨rfl, rfl⟩; go_wp2_with fail) | (with_reducible refine (Hc2.out _).mono ?_; rintro e w' ⟨rfl, rfl⟩; go_wp2_with fail) | (with_reducible refine (Hc3.out _).mono ?_; rintro e w' ⟨rfl, rfl⟩; go_wp2_with fail) | (with_reducible refine (Hnf.out _).mono ?_; rintro e w' ⟨rfl, rfl⟩; go_wp2_with fail) | (with_reducible refine (Hnn.out _).mono ?_; rintro e w' ⟨rfl, rfl⟩; go_wp2_with fail))
  go_ret
  exact ⟨by rw [Hv.out]; try rfl, (Below.refl _ _).alloc (Nat.le_refl _) _⟩

set_option maxRecDepth 100000 in
set_option maxHeartbeats 400000 in
theorem right_7m_f (fn name : ByteArray) (copy : Int) (n : Int) (w : World) (Hc1 : Hid (∀ w, Calls Tryz.prog 214 #[.int .i64 (copy)] w fun e w' => e = .returned (.bool true) ∧ w = w')) (hc1 : rcB (copy) = true) (Hc2 : Hid (∀ w, Calls Tryz.prog 214 #[.int .i64 (n)] w fun e w' => e = .returned (.bool true) ∧ w = w')) (hc2 : rcB (n) = true) (hf : fn.toList.isEmpty = true) :
    Calls Tryz.prog 196 #[Nd.val ⟨7, fn, copy, name, n, -1⟩] w (RPost (rightB ⟨7, fn, copy, name, n, -1⟩) w) := by
  have Hv : Hid (rightB ⟨7, fn, copy, name, n, -1⟩ = false) := Lib.hid (by unfold rightB; simp only [*]; unfold rightF; simp)
  unfold Nd.val Nd.cells
  go_enter Tryz.func196, Tryz.ntmps196
  go_wp2_with fail
  repeat (first | (with_reducible refine (Hc1.out _).mono ?_; rintro e w' ⟨rfl, rfl⟩; go_wp2_with fail) | (with_reducible refine (Hc2.out _).mono ?_; rintro e w' ⟨rfl, rfl⟩; go_wp2_with fail) | (with_reducible refine (Hc3.out _).mono ?_; rintro e w' ⟨rfl, rfl⟩; go_wp2_with fail) | (with_reducible refine (Hnf.out _).mono ?_; rintro e w' ⟨rfl, rfl⟩; go_wp2_with fail) | (with_reducible refine (Hnn.out _).mono ?_; rintro e w' ⟨rfl, rfl⟩; go_wp2_with fail))
  go_ret
  exact ⟨by rw [Hv.out]; try rfl, (Below.refl _ _).alloc (Nat.le_refl _) _⟩

set_option maxRecDepth 100000 in
set_option maxHeartbeats 400000 in
theorem right_7m_fn (fn name : ByteArray) (copy : Int) (n : Int) (w : World) (Hc1 : Hid (∀ w, Calls Tryz.prog 214 #[.int .i64 (copy)] w fun e w' => e = .returned (.bool true) ∧ w = w')) (hc1 : rcB (copy) = true) (Hc2 : Hid (∀ w, Calls Tryz.prog 214 #[.int .i64 (n)] w fun e w' => e = .returned (.bool true) ∧ w = w')) (hc2 : rcB (n) = true) (hf : fn.toList.isEmpty = false) (Hnf : Hid (∀ w, Calls Tryz.prog 56 #[.string fn] w fun e w' => e = .returned (.bool false) ∧ w = w')) (hnf : dg.nameB fn = false) :
    Calls Tryz.prog 196 #[Nd.val ⟨7, fn, copy, name, n, -1⟩] w (RPost (rightB ⟨7, fn, copy, name, n, -1⟩) w) := by
  have Hv : Hid (rightB ⟨7, fn, copy, name, n, -1⟩ = false) := Lib.hid (by unfold rightB; simp only [*]; unfold rightF; simp)
  unfold Nd.val Nd.cells
  go_enter Tryz.func196, Tryz.ntmps196
  go_wp2_with fail
  repeat (first | (with_reducible refine (Hc1.out _).mono ?_; rintro e w' ⟨rfl, rfl⟩; go_wp2_with fail) | (with_reducible refine (Hc2.out _).mono ?_; rintro e w' ⟨rfl, rfl⟩; go_wp2_with fail) | (with_reducible refine (Hc3.out _).mono ?_; rintro e w' ⟨rfl, rfl⟩; go_wp2_with fail) | (with_reducible refine (Hnf.out _).mono ?_; rintro e w' ⟨rfl, rfl⟩; go_wp2_with fail) | (with_reducible refine (Hnn.out _).mono ?_; rintro e w' ⟨rfl, rfl⟩; go_wp2_with fail))
  go_ret
  exact ⟨by rw [Hv.out]; try rfl, (Below.refl _ _).alloc (Nat.le_refl _) _⟩

set_option maxRecDepth 100000 in
set_option maxHeartbeats 400000 in
theorem right_7m_n (fn name : ByteArray) (copy : Int) (n : Int) (w : World) (Hc1 : Hid (∀ w, Calls Tryz.prog 214 #[.int .i64 (copy)] w fun e w' => e = .returned (.bool true) ∧ w = w')) (hc1 : rcB (copy) = true) (Hc2 : Hid (∀ w, Calls Tryz.prog 214 #[.int .i64 (n)] w fun e w' => e = .returned (.bool true) ∧ w = w')) (hc2 : rcB (n) = true) (hf : fn.toList.isEmpty = false) (Hnf : Hid (∀ w, Calls Tryz.prog 56 #[.string fn] w fun e w' => e = .returned (.bool true) ∧ w = w')) (hnf : dg.nameB fn = true) (hn : name.toList.isEmpty = false) :
    Calls Tryz.prog 196 #[Nd.val ⟨7, fn, copy, name, n, -1⟩] w (RPost (rightB ⟨7, fn, copy, name, n, -1⟩) w) := by
  have Hv : Hid (rightB ⟨7, fn, copy, name, n, -1⟩ = false) := Lib.hid (by unfold rightB; simp only [*]; unfold rightF; simp)
  unfold Nd.val Nd.cells
  go_enter Tryz.func196, Tryz.ntmps196
  go_wp2_with fail
  repeat (first | (with_reducible refine (Hc1.out _).mono ?_; rintro e w' ⟨rfl, rfl⟩; go_wp2_with fail) | (with_reducible refine (Hc2.out _).mono ?_; rintro e w' ⟨rfl, rfl⟩; go_wp2_with fail) | (with_reducible refine (Hc3.out _).mono ?_; rintro e w' ⟨rfl, rfl⟩; go_wp2_with fail) | (with_reducible refine (Hnf.out _).mono ?_; rintro e w' ⟨rfl, rfl⟩; go_wp2_with fail) | (with_reducible refine (Hnn.out _).mono ?_; rintro e w' ⟨rfl, rfl⟩; go_wp2_with fail))
  go_ret
  exact ⟨by rw [Hv.out]; try rfl, (Below.refl _ _).alloc (Nat.le_refl _) _⟩

set_option maxRecDepth 100000 in
set_option maxHeartbeats 400000 in
theorem right_7m_zz (fn name : ByteArray) (copy : Int) (w : World) (Hc1 : Hid (∀ w, Calls Tryz.prog 214 #[.int .i64 (copy)] w fun e w' => e = .returned (.bool true) ∧ w = w')) (hc1 : rcB (copy) = true) (Hc2 : Hid (∀ w, Calls Tryz.prog 214 #[.int .i64 (0)] w fun e w' => e = .returned (.bool true) ∧ w = w')) (hc2 : rcB (0) = true) (hf : fn.toList.isEmpty = false) (Hnf : Hid (∀ w, Calls Tryz.prog 56 #[.string fn] w fun e w' => e = .returned (.bool true) ∧ w = w')) (hnf : dg.nameB fn = true) (hn : name.toList.isEmpty = true) :
    Calls Tryz.prog 196 #[Nd.val ⟨7, fn, copy, name, 0, -1⟩] w (RPost (rightB ⟨7, fn, copy, name, 0, -1⟩) w) := by
  have Hv : Hid (rightB ⟨7, fn, copy, name, 0, -1⟩ = false) := Lib.hid (by unfold rightB; simp only [*]; unfold rightF; simp)
  unfold Nd.val Nd.cells
  go_enter Tryz.func196, Tryz.ntmps196
  go_wp2_with fail
  repeat (first | (with_reducible refine (Hc1.out _).mono ?_; rintro e w' ⟨rfl, rfl⟩; go_wp2_with fail) | (with_reducible refine (Hc2.out _).mono ?_; rintro e w' ⟨rfl, rfl⟩; go_wp2_with fail) | (with_reducible refine (Hc3.out _).mono ?_; rintro e w' ⟨rfl, rfl⟩; go_wp2_with fail) | (with_reducible refine (Hnf.out _).mono ?_; rintro e w' ⟨rfl, rfl⟩; go_wp2_with fail) | (with_reducible refine (Hnn.out _).mono ?_; rintro e w' ⟨rfl, rfl⟩; go_wp2_with fail))
  go_ret
  exact ⟨by rw [Hv.out]; try rfl, (Below.refl _ _).alloc (Nat.le_refl _) _⟩

set_option maxRecDepth 100000 in
set_option maxHeartbeats 400000 in
theorem right_7m_nz (fn name : ByteArray) (copy : Int) (n : Int) (w : World) (Hc1 : Hid (∀ w, Calls Tryz.prog 214 #[.int .i64 (copy)] w fun e w' => e = .returned (.bool true) ∧ w = w')) (hc1 : rcB (copy) = true) (Hc2 : Hid (∀ w, Calls Tryz.prog 214 #[.int .i64 (n)] w fun e w' => e = .returned (.bool true) ∧ w = w')) (hc2 : rcB (n) = true) (hf : fn.toList.isEmpty = false) (Hnf : Hid (∀ w, Calls Tryz.prog 56 #[.string fn] w fun e w' => e = .returned (.bool true) ∧ w = w')) (hnf : dg.nameB fn = true) (hn : name.toList.isEmpty = true) (hz1 : (n == 0) = false) (hz2 : (n != 0) = true) :
    Calls Tryz.prog 196 #[Nd.val ⟨7, fn, copy, name, n, -1⟩] w (RPost (rightB ⟨7, fn, copy, name, n, -1⟩) w) := by
  have Hv : Hid (rightB ⟨7, fn, copy, name, n, -1⟩ = true) := Lib.hid (by unfold rightB; simp only [*]; unfold rightF; simp only [*]; simp)
  unfold Nd.val Nd.cells
  go_enter Tryz.func196, Tryz.ntmps196
  go_wp2_with fail
  repeat (first | (with_reducible refine (Hc1.out _).mono ?_; rintro e w' ⟨rfl, rfl⟩; go_wp2_with fail) | (with_reducible refine (Hc2.out _).mono ?_; rintro e w' ⟨rfl, rfl⟩; go_wp2_with fail) | (with_reducible refine (Hc3.out _).mono ?_; rintro e w' ⟨rfl, rfl⟩; go_wp2_with fail) | (with_reducible refine (Hnf.out _).mono ?_; rintro e w' ⟨rfl, rfl⟩; go_wp2_with fail) | (with_reducible refine (Hnn.out _).mono ?_; rintro e w' ⟨rfl, rfl⟩; go_wp2_with fail))
  go_ret
  exact ⟨by rw [Hv.out]; try rfl, (Below.refl _ _).alloc (Nat.le_refl _) _⟩

set_option maxRecDepth 100000 in
set_option maxHeartbeats 400000 in
theorem right_7c_f (fn name : ByteArray) (copy : Int) (n : Int) (cell : Int) (w : World) (Hc1 : Hid (∀ w, Calls Tryz.prog 214 #[.int .i64 (copy)] w fun e w' => e = .returned (.bool true) ∧ w = w')) (hc1 : rcB (copy) = true) (Hc2 : Hid (∀ w, Calls Tryz.prog 214 #[.int .i64 (n)] w fun e w' => e = .returned (.bool true) ∧ w = w')) (hc2 : rcB (n) = true) (hz3 : (cell == -1) = false) (hz4 : (cell != -1) = true) (Hc3 : Hid (∀ w, Calls Tryz.prog 214 #[.int .i64 (cell)] w fun e w' => e = .returned (.bool true) ∧ w = w')) (hc3 : rcB cell = true) (hf : fn.toList.isEmpty = true) :
    Calls Tryz.prog 196 #[Nd.val ⟨7, fn, copy, name, n, cell⟩] w (RPost (rightB ⟨7, fn, copy, name, n, cell⟩) w) := by
  have Hv : Hid (rightB ⟨7, fn, copy, name, n, cell⟩ = false) := Lib.hid (by unfold rightB; simp only [*]; unfold rightF; simp only [*]; simp)
  unfold Nd.val Nd.cells
  go_enter Tryz.func196, Tryz.ntmps196
  go_wp2_with fail
  repeat (first | (with_reducible refine (Hc1.out _).mono ?_; rintro e w' ⟨rfl, rfl⟩; go_wp2_with fail) | (with_reducible refine (Hc2.out _).mono ?_; rintro e w' ⟨rfl, rfl⟩; go_wp2_with fail) | (with_reducible refine (Hc3.out _).mono ?_; rintro e w' ⟨rfl, rfl⟩; go_wp2_with fail) | (with_reducible refine (Hnf.out _).mono ?_; rintro e w' ⟨rfl, rfl⟩; go_wp2_with fail) | (with_reducible refine (Hnn.out _).mono ?_; rintro e w' ⟨rfl, rfl⟩; go_wp2_with fail))
  go_ret
  exact ⟨by rw [Hv.out]; try rfl, (Below.refl _ _).alloc (Nat.le_refl _) _⟩

set_option maxRecDepth 100000 in
set_option maxHeartbeats 400000 in
theorem right_7c_fn (fn name : ByteArray) (copy : Int) (n : Int) (cell : Int) (w : World) (Hc1 : Hid (∀ w, Calls Tryz.prog 214 #[.int .i64 (copy)] w fun e w' => e = .returned (.bool true) ∧ w = w')) (hc1 : rcB (copy) = true) (Hc2 : Hid (∀ w, Calls Tryz.prog 214 #[.int .i64 (n)] w fun e w' => e = .returned (.bool true) ∧ w = w')) (hc2 : rcB (n) = true) (hz3 : (cell == -1) = false) (hz4 : (cell != -1) = true) (Hc3 : Hid (∀ w, Calls Tryz.prog 214 #[.int .i64 (cell)] w fun e w' => e = .returned (.bool true) ∧ w = w')) (hc3 : rcB cell = true) (hf : fn.toList.isEmpty = false) (Hnf : Hid (∀ w, Calls Tryz.prog 56 #[.string fn] w fun e w' => e = .returned (.bool false) ∧ w = w')) (hnf : dg.nameB fn = false) :
    Calls Tryz.prog 196 #[Nd.val ⟨7, fn, copy, name, n, cell⟩] w (RPost (rightB ⟨7, fn, copy, name, n, cell⟩) w) := by
  have Hv : Hid (rightB ⟨7, fn, copy, name, n, cell⟩ = false) := Lib.hid (by unfold rightB; simp only [*]; unfold rightF; simp only [*]; simp)
  unfold Nd.val Nd.cells
  go_enter Tryz.func196, Tryz.ntmps196
  go_wp2_with fail
  repeat (first | (with_reducible refine (Hc1.out _).mono ?_; rintro e w' ⟨rfl, rfl⟩; go_wp2_with fail) | (with_reducible refine (Hc2.out _).mono ?_; rintro e w' ⟨rfl, rfl⟩; go_wp2_with fail) | (with_reducible refine (Hc3.out _).mono ?_; rintro e w' ⟨rfl, rfl⟩; go_wp2_with fail) | (with_reducible refine (Hnf.out _).mono ?_; rintro e w' ⟨rfl, rfl⟩; go_wp2_with fail) | (with_reducible refine (Hnn.out _).mono ?_; rintro e w' ⟨rfl, rfl⟩; go_wp2_with fail))
  go_ret
  exact ⟨by rw [Hv.out]; try rfl, (Below.refl _ _).alloc (Nat.le_refl _) _⟩

set_option maxRecDepth 100000 in
set_option maxHeartbeats 400000 in
theorem right_7c_n (fn name : ByteArray) (copy : Int) (n : Int) (cell : Int) (w : World) (Hc1 : Hid (∀ w, Calls Tryz.prog 214 #[.int .i64 (copy)] w fun e w' => e = .returned (.bool true) ∧ w = w')) (hc1 : rcB (copy) = true) (Hc2 : Hid (∀ w, Calls Tryz.prog 214 #[.int .i64 (n)] w fun e w' => e = .returned (.bool true) ∧ w = w')) (hc2 : rcB (n) = true) (hz3 : (cell == -1) = false) (hz4 : (cell != -1) = true) (Hc3 : Hid (∀ w, Calls Tryz.prog 214 #[.int .i64 (cell)] w fun e w' => e = .returned (.bool true) ∧ w = w')) (hc3 : rcB cell = true) (hf : fn.toList.isEmpty = false) (Hnf : Hid (∀ w, Calls Tryz.prog 56 #[.string fn] w fun e w' => e = .returned (.bool true) ∧ w = w')) (hnf : dg.nameB fn = true) (hn : name.toList.isEmpty = false) :
    Calls Tryz.prog 196 #[Nd.val ⟨7, fn, copy, name, n, cell⟩] w (RPost (rightB ⟨7, fn, copy, name, n, cell⟩) w) := by
  have Hv : Hid (rightB ⟨7, fn, copy, name, n, cell⟩ = false) := Lib.hid (by unfold rightB; simp only [*]; unfold rightF; simp only [*]; simp)
  unfold Nd.val Nd.cells
  go_enter Tryz.func196, Tryz.ntmps196
  go_wp2_with fail
  repeat (first | (with_reducible refine (Hc1.out _).mono ?_; rintro e w' ⟨rfl, rfl⟩; go_wp2_with fail) | (with_reducible refine (Hc2.out _).mono ?_; rintro e w' ⟨rfl, rfl⟩; go_wp2_with fail) | (with_reducible refine (Hc3.out _).mono ?_; rintro e w' ⟨rfl, rfl⟩; go_wp2_with fail) | (with_reducible refine (Hnf.out _).mono ?_; rintro e w' ⟨rfl, rfl⟩; go_wp2_with fail) | (with_reducible refine (Hnn.out _).mono ?_; rintro e w' ⟨rfl, rfl⟩; go_wp2_with fail))
  go_ret
  exact ⟨by rw [Hv.out]; try rfl, (Below.refl _ _).alloc (Nat.le_refl _) _⟩

set_option maxRecDepth 100000 in
set_option maxHeartbeats 400000 in
theorem right_7c_zz (fn name : ByteArray) (copy : Int) (cell : Int) (w : World) (Hc1 : Hid (∀ w, Calls Tryz.prog 214 #[.int .i64 (copy)] w fun e w' => e = .returned (.bool true) ∧ w = w')) (hc1 : rcB (copy) = true) (Hc2 : Hid (∀ w, Calls Tryz.prog 214 #[.int .i64 (0)] w fun e w' => e = .returned (.bool true) ∧ w = w')) (hc2 : rcB (0) = true) (hz3 : (cell == -1) = false) (hz4 : (cell != -1) = true) (Hc3 : Hid (∀ w, Calls Tryz.prog 214 #[.int .i64 (cell)] w fun e w' => e = .returned (.bool true) ∧ w = w')) (hc3 : rcB cell = true) (hf : fn.toList.isEmpty = false) (Hnf : Hid (∀ w, Calls Tryz.prog 56 #[.string fn] w fun e w' => e = .returned (.bool true) ∧ w = w')) (hnf : dg.nameB fn = true) (hn : name.toList.isEmpty = true) :
    Calls Tryz.prog 196 #[Nd.val ⟨7, fn, copy, name, 0, cell⟩] w (RPost (rightB ⟨7, fn, copy, name, 0, cell⟩) w) := by
  have Hv : Hid (rightB ⟨7, fn, copy, name, 0, cell⟩ = false) := Lib.hid (by unfold rightB; simp only [*]; unfold rightF; simp only [*]; simp)
  unfold Nd.val Nd.cells
  go_enter Tryz.func196, Tryz.ntmps196
  go_wp2_with fail
  repeat (first | (with_reducible refine (Hc1.out _).mono ?_; rintro e w' ⟨rfl, rfl⟩; go_wp2_with fail) | (with_reducible refine (Hc2.out _).mono ?_; rintro e w' ⟨rfl, rfl⟩; go_wp2_with fail) | (with_reducible refine (Hc3.out _).mono ?_; rintro e w' ⟨rfl, rfl⟩; go_wp2_with fail) | (with_reducible refine (Hnf.out _).mono ?_; rintro e w' ⟨rfl, rfl⟩; go_wp2_with fail) | (with_reducible refine (Hnn.out _).mono ?_; rintro e w' ⟨rfl, rfl⟩; go_wp2_with fail))
  go_ret
  exact ⟨by rw [Hv.out]; try rfl, (Below.refl _ _).alloc (Nat.le_refl _) _⟩

set_option maxRecDepth 100000 in
set_option maxHeartbeats 400000 in
theorem right_7c_nz (fn name : ByteArray) (copy : Int) (n : Int) (cell : Int) (w : World) (Hc1 : Hid (∀ w, Calls Tryz.prog 214 #[.int .i64 (copy)] w fun e w' => e = .returned (.bool true) ∧ w = w')) (hc1 : rcB (copy) = true) (Hc2 : Hid (∀ w, Calls Tryz.prog 214 #[.int .i64 (n)] w fun e w' => e = .returned (.bool true) ∧ w = w')) (hc2 : rcB (n) = true) (hz3 : (cell == -1) = false) (hz4 : (cell != -1) = true) (Hc3 : Hid (∀ w, Calls Tryz.prog 214 #[.int .i64 (cell)] w fun e w' => e = .returned (.bool true) ∧ w = w')) (hc3 : rcB cell = true) (hf : fn.toList.isEmpty = false) (Hnf : Hid (∀ w, Calls Tryz.prog 56 #[.string fn] w fun e w' => e = .returned (.bool true) ∧ w = w')) (hnf : dg.nameB fn = true) (hn : name.toList.isEmpty = true) (hz1 : (n == 0) = false) (hz2 : (n != 0) = true) :
    Calls Tryz.prog 196 #[Nd.val ⟨7, fn, copy, name, n, cell⟩] w (RPost (rightB ⟨7, fn, copy, name, n, cell⟩) w) := by
  have Hv : Hid (rightB ⟨7, fn, copy, name, n, cell⟩ = true) := Lib.hid (by unfold rightB; simp only [*]; unfold rightF; simp only [*]; simp)
  unfold Nd.val Nd.cells
  go_enter Tryz.func196, Tryz.ntmps196
  go_wp2_with fail
  repeat (first | (with_reducible refine (Hc1.out _).mono ?_; rintro e w' ⟨rfl, rfl⟩; go_wp2_with fail) | (with_reducible refine (Hc2.out _).mono ?_; rintro e w' ⟨rfl, rfl⟩; go_wp2_with fail) | (with_reducible refine (Hc3.out _).mono ?_; rintro e w' ⟨rfl, rfl⟩; go_wp2_with fail) | (with_reducible refine (Hnf.out _).mono ?_; rintro e w' ⟨rfl, rfl⟩; go_wp2_with fail) | (with_reducible refine (Hnn.out _).mono ?_; rintro e w' ⟨rfl, rfl⟩; go_wp2_with fail))
  go_ret
  exact ⟨by rw [Hv.out]; try rfl, (Below.refl _ _).alloc (Nat.le_refl _) _⟩
end Go.Proofs.YtdmmkjijgoiecaaGreatDoor.nm
