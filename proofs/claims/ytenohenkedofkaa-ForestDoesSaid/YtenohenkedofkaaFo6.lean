/-
  forest: the reference's Parts.
-/
import Derived.Test.YtenohenkedofkaaFo5
namespace Go.Proofs.Ytenohenkedofkaa.fo
open Go.RowKit Go.Proofs.Ytenohenkedofkaa.mem

def rootsTo (F : List Nat) (k : Nat) : Nat := ((List.range k).filter fun i => F.getD i 0 == i).length
theorem rootsTo_succ (F : List Nat) (k : Nat) : rootsTo F (k + 1) = rootsTo F k + if F.getD k 0 = k then 1 else 0 := by
  unfold rootsTo
  rw [List.range_succ, List.filter_append, List.length_append]
  congr 1
  by_cases h : F.getD k 0 = k
  · rw [if_pos h, List.filter_cons_of_pos (by simpa using h)]; rfl
  · rw [if_neg h, List.filter_cons_of_neg (by simpa using h)]; rfl
theorem rootsTo_le (F : List Nat) (k : Nat) : rootsTo F k ≤ k := by
  unfold rootsTo
  exact Nat.le_trans (List.length_filter_le _ _) (by simp)

set_option maxRecDepth 100000 in
theorem rparts_any (w : World) (g : Nat) (F : List Nat) (h : Box w g 3 (natv F)) (hl : F.length ≤ 100000) :
    Calls Try.prog 17 #[.slice (some ⟨g, 0, none⟩) F.length F.length] w fun e w' => e = .returned (.int .i64 (roots F)) ∧ w = w' := by
  have H := Lib.hid h
  clear h
  go_enter Try.func17, Try.ntmps17
  go_wp2_with fail
  go_loopw [3, 4] (fun c i wr => wr = w ∧ ∃ k : Nat, k ≤ F.length ∧ c = .int .i64 (rootsTo F k) ∧ i = .int .i64 k) (fun _ i _ => F.length - (intOf i).toNat)
  case atStart => exact ⟨rfl, 0, by omega, rfl, rfl⟩
  case round =>
    obtain ⟨hwr, k, hk, rfl, rfl⟩ := hrel
    subst hwr
    have hrl := rootsTo_le F k
    by_cases hkl : k < F.length
    · have d1 : decide ((k : Int) < (F.length : Int)) = true := decide_eq_true (by omega)
      have ck : wr.cell? ⟨g, k, none⟩ = some (.int .i64 (F.getD k 0 : Nat)) := by rw [H.out.cell, natv_at _ _ hkl]
      have hs := Lib.hid (rootsTo_succ F k)
      generalize F.getD k 0 = x at *
      have hsum : IntKind.i64.wrap ((rootsTo F k : Int) + 1) = (rootsTo F k : Int) + 1 := IntWalk.i64_in _ (by omega)
      generalize rootsTo F k = c at *
      by_cases hxk : x = k
      · subst hxk
        have d2 : (((x : Nat) : Int) == (x : Int)) = true := by simp
        go_wp2_with fail
        go_roundw
        case rel => exact ⟨trivial, x + 1, by omega, by rw [hs.out, if_pos rfl]; rfl, by go_num⟩
        case measure => simp [intOf]; omega
      · have d2 : (((x : Nat) : Int) == (k : Int)) = false := by simp; omega
        have d3 : ¬ (((x : Nat) : Int) = (k : Int)) := by omega
        have d4 : (x == k) = false := by simp; omega
        go_wp2_with fail
        go_roundw
        case rel => exact ⟨trivial, k + 1, by omega, by rw [hs.out, if_neg hxk]; rfl, by go_num⟩
        case measure => simp [intOf]; omega
    · obtain rfl : k = F.length := by omega
      have d1 : decide ((F.length : Int) < (F.length : Int)) = false := decide_eq_false (by omega)
      go_wp2_with fail
      go_ret
      exact ⟨rfl, rfl⟩
end Go.Proofs.Ytenohenkedofkaa.fo
