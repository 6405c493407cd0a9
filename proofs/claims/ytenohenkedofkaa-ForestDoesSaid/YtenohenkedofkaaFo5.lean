/-
  forest: the reference's Find.
-/
import Derived.Test.YtenohenkedofkaaFo4
namespace Go.Proofs.Ytenohenkedofkaa.fo
open Go.RowKit Go.Proofs.Ytenohenkedofkaa.mem

set_option maxRecDepth 100000 in
theorem rfind_any (w : World) (g : Nat) (F : List Nat) (n : Int) (h : Box w g 3 (natv F)) :
    Calls Try.prog 19 #[.slice (some ⟨g, 0, none⟩) F.length F.length, .int .i64 n] w fun e w' => e = .returned (.int .i64 (fd F n)) ∧ w = w' := by
  unfold fd inB
  by_cases h0 : n < 0
  · have d1 : decide (n < 0) = true := decide_eq_true h0
    have hv : Hid ((if (decide (0 ≤ n) && decide (n < (F.length : Int))) = true then ((F.getD n.toNat 0 : Nat) : Int) else -1) = -1) := Lib.hid (if_neg (by simp; omega))
    rw [hv.out]
    clear h hv
    go_enter Try.func19, Try.ntmps19
    go_wp2_with fail
    go_ret
    exact ⟨rfl, rfl⟩
  · have d1 : decide (n < 0) = false := decide_eq_false h0
    by_cases h1 : (F.length : Int) ≤ n
    · have d2 : decide ((F.length : Int) ≤ n) = true := decide_eq_true h1
      have hv : Hid ((if (decide (0 ≤ n) && decide (n < (F.length : Int))) = true then ((F.getD n.toNat 0 : Nat) : Int) else -1) = -1) := Lib.hid (if_neg (by simp; omega))
      rw [hv.out]
      clear h hv
      go_enter Try.func19, Try.ntmps19
      go_wp2_with fail
      go_ret
      exact ⟨rfl, rfl⟩
    · have d2 : decide ((F.length : Int) ≤ n) = false := decide_eq_false h1
      obtain ⟨k, rfl⟩ := Int.eq_ofNat_of_zero_le (by omega : 0 ≤ n)
      have hk : k < F.length := by omega
      have hv : Hid ((if (decide (0 ≤ (k : Int)) && decide ((k : Int) < (F.length : Int))) = true then ((F.getD (k : Int).toNat 0 : Nat) : Int) else -1) = ((F.getD k 0 : Nat) : Int)) := Lib.hid (by rw [if_pos (by simp; omega)]; rfl)
      rw [hv.out]
      have ck : w.cell? ⟨g, k, none⟩ = some (.int .i64 (F.getD k 0 : Nat)) := by rw [h.cell, natv_at _ _ hk]
      clear h hv
      generalize F.getD k 0 = x at *
      go_enter Try.func19, Try.ntmps19
      go_wp2_with fail
      go_ret
      exact ⟨rfl, rfl⟩
end Go.Proofs.Ytenohenkedofkaa.fo
