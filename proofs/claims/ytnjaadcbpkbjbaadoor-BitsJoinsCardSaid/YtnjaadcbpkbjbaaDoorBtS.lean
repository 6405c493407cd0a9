/-
  Bits: a set joined into itself.
-/
import Derived.Test.YtnjaadcbpkbjbaaDoorBtI
namespace Go.Proofs.YtnjaadcbpkbjbaaDoor.bt
open Go.RowKit Go.Sort Go.Proofs.YtnjaadcbpkbjbaaDoor.mem

theorem joinN_in : ∀ (M L : List Nat), (∀ x ∈ M, x ∈ L) → joinN L M = 0
  | [], _, _ => rfl
  | x :: r, L, h => by
    have e : addR (x : Nat) L = false := by
      unfold addR
      rw [Int.toNat_natCast, decide_eq_true (h x (by simp))]
      simp
    have e2 : addL (x : Nat) L = L := by unfold addL; rw [if_neg (by simp [e])]
    show (if addR (x : Nat) L = true then 1 else 0) + joinN (addL (x : Nat) L) r = 0
    rw [e2, joinN_in r L fun y hy => h y (List.mem_cons_of_mem _ hy), e]
    rfl

theorem join_self {B : List Blk} (hB : Ok B) (hs : ∀ y ∈ flat B, y ≤ 268435456) : misN (prs B B) = 0 := by
  rw [misN_join hB hB hs]
  exact joinN_in _ _ fun _ h => h
end Go.Proofs.YtnjaadcbpkbjbaaDoor.bt
