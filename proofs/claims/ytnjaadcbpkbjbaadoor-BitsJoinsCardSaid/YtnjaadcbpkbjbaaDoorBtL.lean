/-
  Bits: the numbers of a block, from the lowest on.
-/
import Derived.Test.YtnjaadcbpkbjbaaDoorBtC
import Derived.Lib.TrailingZeros
namespace Go.Proofs.YtnjaadcbpkbjbaaDoor.bt
open Go.RowKit Go.Sort Go.Proofs.YtnjaadcbpkbjbaaDoor.mem

/-- what is left without the lowest one -/
def rst (x : Nat) : Nat := x &&& (x - 1)

theorem rst_bits {x c m : Nat} (hx : x = 2 ^ c * (2 * m + 1)) : ∀ i, (rst x).testBit i = (x.testBit i && !decide (i = c)) := by
  intro i
  have h1 : x - 1 = 2 ^ c * (2 * m) + (2 ^ c - 1) := by
    have hp : 0 < 2 ^ c := Nat.two_pow_pos c
    rw [hx, Nat.mul_add, Nat.mul_one]
    omega
  unfold rst
  rw [Nat.testBit_and, h1]
  have hlt : 2 ^ c - 1 < 2 ^ c := by have := Nat.two_pow_pos c; omega
  rw [Nat.testBit_two_pow_mul_add _ hlt, hx, Nat.testBit_two_pow_mul]
  rcases Nat.lt_trichotomy i c with h | h | h
  · have : ¬ c ≤ i := by omega
    simp [this]
  · subst h
    simp [Nat.testBit_zero]
  · obtain ⟨j, rfl⟩ : ∃ j, i = c + (j + 1) := ⟨i - c - 1, by omega⟩
    have e1 : c ≤ c + (j + 1) := by omega
    have e2 : ¬ c + (j + 1) < c := by omega
    have e3 : c + (j + 1) - c = j + 1 := by omega
    simp only [e1, e2, decide_true, Bool.true_and, if_false, e3, Nat.testBit_succ]
    rw [show (2 * m + 1) / 2 = m by omega, show 2 * m / 2 = m by omega]
    simp

/-- the numbers of a block: the lowest, and then the others' -/
theorem bitsB_low {a x : Nat} (h0 : x ≠ 0) (h1 : x < 2 ^ 64) : bitsB a x = (a * 64 + Lib.ctz 64 x) :: bitsB a (rst x) ∧ rst x < x := by
  obtain ⟨m, hm, hk⟩ := Lib.ctzFrom_spec 64 x (by omega) h1
  have e : Lib.ctz 64 x = Lib.ctzFrom 64 x := by simp [Lib.ctz, h0]
  rw [e]
  generalize Lib.ctzFrom 64 x = c at *
  have hb := rst_bits hm
  have hx : ∀ i, x.testBit i = (decide (c ≤ i) && (2 * m + 1).testBit (i - c)) := fun i => by rw [hm, Nat.testBit_two_pow_mul]
  refine ⟨?_, ?_⟩
  · refine srt_ext (srt_bitsF _ _ _) ?_ fun y => ?_
    · refine List.pairwise_cons.2 ⟨fun y hy => ?_, srt_bitsF _ _ _⟩
      obtain ⟨e1, e2⟩ := mem_bitsB.1 hy
      rw [hb, hx] at e2
      simp only [Bool.and_eq_true, decide_eq_true_eq, Bool.not_eq_true', decide_eq_false_iff_not] at e2
      omega
    · rw [List.mem_cons, mem_bitsB, mem_bitsB, hb]
      have hc : x.testBit c = true := by rw [hx]; simp [Nat.testBit_zero]
      constructor
      · rintro ⟨e1, e2⟩
        by_cases h : y % 64 = c
        · exact Or.inl (by omega)
        · exact Or.inr ⟨e1, by simp [e2, h]⟩
      · rintro (rfl | ⟨e1, e2⟩)
        · refine ⟨by omega, ?_⟩
          rw [show (a * 64 + c) % 64 = c by omega]
          exact hc
        · simp only [Bool.and_eq_true] at e2
          exact ⟨e1, e2.1⟩
  · have : rst x ≤ x - 1 := Nat.and_le_right
    omega
end Go.Proofs.YtnjaadcbpkbjbaaDoor.bt
