/-
  bound: fuel that is enough: the program's and the reference's.
-/
import Derived.Test.YtdmmkjijgoiecaaGreatDoorBd2
import Derived.BigQuiet
import Derived.Deep.QuietTactic
set_option linter.all false
namespace Go.Proofs.YtdmmkjijgoiecaaGreatDoor.bd
open Go.RowKit Go.Proofs.YtdmmkjijgoiecaaGreatDoor.mem

def wi (n : Int) : Int := min (max n 0) 100000
theorem wi_in {n : Int} (h0 : 0 ≤ n) (h1 : n ≤ 100000) : wi n = n := by unfold wi; omega
theorem same_wi (n k : Int) : sameZ n k (wi n) (wi k) = decide (0 ≤ n ∧ n ≤ 100000 ∧ 0 ≤ k ∧ k ≤ 100000) := by
  unfold sameZ wi
  rw [Bool.eq_iff_iff, Bool.and_eq_true, beq_iff_eq, beq_iff_eq, decide_eq_true_iff]
  omega
theorem fuel_in {n k : Int} (h : 0 ≤ n ∧ n ≤ 100000 ∧ 0 ≤ k ∧ k ≤ 100000) : fuelZ n k = (n + k + 1) * (n + k + 1) * (n + k + 1) := by
  unfold fuelZ
  rw [if_neg (by omega)]
theorem fuel_out {n k : Int} (h : ¬ (0 ≤ n ∧ n ≤ 100000 ∧ 0 ≤ k ∧ k ≤ 100000)) : fuelZ n k = 0 := by
  unfold fuelZ
  rw [if_pos (by omega)]
/-- a third power that is no greater than a number may be -/
theorem cube {m : Int} (h0 : 0 ≤ m) (h1 : m ≤ 200001) : IntKind.i64.wrap (m * m) = m * m ∧ IntKind.i64.wrap (m * m * m) = m * m * m := by
  have a : 0 ≤ m * m := Int.mul_nonneg h0 h0
  have b : m * m ≤ 200001 * 200001 := Int.mul_le_mul h1 h1 h0 (by omega)
  have c : 0 ≤ m * m * m := Int.mul_nonneg a h0
  have d : m * m * m ≤ 200001 * 200001 * 200001 := Int.mul_le_mul b h1 h0 (by omega)
  rw [IntWalk.i64_left, IntWalk.i64_left]
  exact ⟨IntWalk.wrap64_in _ (by omega), IntWalk.wrap64_in _ (by omega)⟩

def VPost (x : Int) (w : World) (e : Ending) (w' : World) : Prop := e = .returned (.int .i64 x) ∧ w' = w
def WPost (x : Int) (w : World) (e : Ending) (w' : World) : Prop := e = .returned (.int .i64 x) ∧ Below w.heap.size w w'

theorem within_any (n : Int) (w : World) : Calls Tryz.prog 69 #[.int .i64 n] w (VPost (wi n) w) := by
  obtain ⟨m, hm⟩ : ∃ m, max n 0 = m := ⟨_, rfl⟩
  obtain ⟨k, hk⟩ : ∃ k, min m 100000 = k := ⟨_, rfl⟩
  have hv : Hid (k = wi n) := Lib.hid (by unfold wi; rw [hm, hk])
  unfold VPost
  go_enter Tryz.func69, Tryz.ntmps69
  go_wp2_with fail
  go_ret
  exact ⟨congrArg (fun z => Ending.returned (.int .i64 z)) hv.out, rfl⟩

set_option maxRecDepth 100000 in
theorem fuel_any (hz : HeldZ) (n k : Int) (w : World) : Calls Tryz.prog 21 #[szV n k] w (WPost (fuelZ n k) w) := by
  have KA := Lib.hid (fun W => within_any n W)
  have KB := Lib.hid (fun W => within_any k W)
  have Hg := Lib.hid hz.guard
  have hne := fun W => hz.ne n k (wi n) (wi k) W
  have hgu := fun xs ys W => hz.guard .neq (.tmp 4) (.tmp 11) xs ys W
  rw [same_wi] at hne
  unfold szV at hne ⊢
  unfold VPost at KA KB
  unfold WPost
  by_cases hin : 0 ≤ n ∧ n ≤ 100000 ∧ 0 ≤ k ∧ k ≤ 100000
  · have hf := Lib.hid (fuel_in hin)
    rw [decide_eq_true hin] at hne
    obtain ⟨c1, c2⟩ := cube (m := n + k + 1) (by omega) (by omega)
    have s1 : IntKind.i64.wrap (n + k) = n + k := by rw [IntWalk.i64_left]; exact IntWalk.wrap64_in _ (by omega)
    have s2 : IntKind.i64.wrap (n + k + 1) = n + k + 1 := by rw [IntWalk.i64_left]; exact IntWalk.wrap64_in _ (by omega)
    obtain ⟨a, b, c, d⟩ := hin
    generalize wi n = n' at *
    generalize wi k = k' at *
    go_enter Tryz.func21, Tryz.ntmps21
    go_wp2_with fail
    go_quiet ((go_at_call 69; with_reducible first | exact Calls.quiet_of_same (KA.out _) | exact Calls.quiet_of_same (KB.out _)))
    go_wp2_with fail
    go_ret
    exact ⟨congrArg (fun z => Ending.returned (.int .i64 z)) hf.out.symm, (((Fr.refl [] w).alloc _).drewN _).all⟩
  · have hf := Lib.hid (fuel_out hin)
    rw [decide_eq_false hin] at hne
    clear hin
    generalize wi n = n' at *
    generalize wi k = k' at *
    go_enter Tryz.func21, Tryz.ntmps21
    go_wp2_with fail
    go_quiet ((go_at_call 69; with_reducible first | exact Calls.quiet_of_same (KA.out _) | exact Calls.quiet_of_same (KB.out _)))
    go_wp2_with fail
    go_ret
    exact ⟨congrArg (fun z => Ending.returned (.int .i64 z)) hf.out.symm, (((Fr.refl [] w).alloc _).drewN _).all⟩

set_option maxRecDepth 100000 in
theorem rfuel_any (n k : Int) (w : World) : Calls Tryz.prog 22 #[.int .i64 n, .int .i64 k] w (WPost (fuelZ n k) w) := by
  unfold WPost
  by_cases hin : 0 ≤ n ∧ n ≤ 100000 ∧ 0 ≤ k ∧ k ≤ 100000
  · have hf := Lib.hid (fuel_in hin)
    obtain ⟨c1, c2⟩ := cube (m := n + k + 1) (by omega) (by omega)
    have s1 : IntKind.i64.wrap (n + k) = n + k := by rw [IntWalk.i64_left]; exact IntWalk.wrap64_in _ (by omega)
    have s2 : IntKind.i64.wrap (n + k + 1) = n + k + 1 := by rw [IntWalk.i64_left]; exact IntWalk.wrap64_in _ (by omega)
    obtain ⟨a, b, c, d⟩ := hin
    have d1 : decide (n < 0) = false := decide_eq_false (by omega)
    have d2 : decide (k < 0) = false := decide_eq_false (by omega)
    have d3 : decide (100000 < n) = false := decide_eq_false (by omega)
    have d4 : decide (100000 < k) = false := decide_eq_false (by omega)
    go_enter Tryz.func22, Tryz.ntmps22
    go_wp2_with fail
    go_ret
    exact ⟨congrArg (fun z => Ending.returned (.int .i64 z)) hf.out.symm, Below.refl _ _⟩
  · have hf := Lib.hid (fuel_out hin)
    by_cases h1 : n < 0
    · have d1 : decide (n < 0) = true := decide_eq_true h1
      go_enter Tryz.func22, Tryz.ntmps22
      go_wp2_with fail
      go_ret
      exact ⟨congrArg (fun z => Ending.returned (.int .i64 z)) hf.out.symm, Below.refl _ _⟩
    have d1 : decide (n < 0) = false := decide_eq_false h1
    by_cases h2 : k < 0
    · have d2 : decide (k < 0) = true := decide_eq_true h2
      go_enter Tryz.func22, Tryz.ntmps22
      go_wp2_with fail
      go_ret
      exact ⟨congrArg (fun z => Ending.returned (.int .i64 z)) hf.out.symm, Below.refl _ _⟩
    have d2 : decide (k < 0) = false := decide_eq_false h2
    by_cases h3 : 100000 < n
    · have d3 : decide (100000 < n) = true := decide_eq_true h3
      go_enter Tryz.func22, Tryz.ntmps22
      go_wp2_with fail
      go_ret
      exact ⟨congrArg (fun z => Ending.returned (.int .i64 z)) hf.out.symm, Below.refl _ _⟩
    have d3 : decide (100000 < n) = false := decide_eq_false h3
    have d4 : decide (100000 < k) = true := decide_eq_true (by omega)
    go_enter Tryz.func22, Tryz.ntmps22
    go_wp2_with fail
    go_ret
    exact ⟨congrArg (fun z => Ending.returned (.int .i64 z)) hf.out.symm, Below.refl _ _⟩
end Go.Proofs.YtdmmkjijgoiecaaGreatDoor.bd
