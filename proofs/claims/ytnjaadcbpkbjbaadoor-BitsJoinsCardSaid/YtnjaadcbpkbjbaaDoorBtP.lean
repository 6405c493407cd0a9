/-
  Bits: the reference's Has, of whatever number; and what the two sides have in common, set by set.
-/
import Derived.Test.YtnjaadcbpkbjbaaDoorBtC
import Derived.Test.YtnjaadcbpkbjbaaDoorBt6
namespace Go.Proofs.YtnjaadcbpkbjbaaDoor.bt
open Go.RowKit Go.Sort Go.Proofs.YtnjaadcbpkbjbaaDoor.mem

set_option maxRecDepth 100000 in
theorem rhas_neg (w : World) (A : Option Addr) (cap : Nat) (L : List Nat) (h : Rd w A (natI L)) (hl : L.length ≤ 1000000000) (n : Int) (hn : n < 0) :
    Calls Tryd.prog 10 #[.slice A L.length cap, .int .i64 n] w fun e w' => e = .returned (.bool false) ∧ w = w' := by
  have H := Lib.hid h
  clear h
  go_enter Tryd.func10, Tryd.ntmps10
  go_wp2_with fail
  go_loopw [5] (fun i wr => ∃ j : Nat, j ≤ L.length ∧ i = .int .i64 j ∧ w = wr) (fun i _ => L.length - (intOf i).toNat)
  case atStart => exact ⟨0, by omega, rfl, rfl⟩
  case round =>
    obtain ⟨j, hj, rfl, rfl⟩ := hrel
    by_cases hjl : j < L.length
    · have e1 : decide ((j : Int) < (L.length : Int)) = true := decide_eq_true (by omega)
      obtain ⟨b, off, rfl, hlt, k0⟩ := rd_nat H.out hjl
      have d1 : ((L[j] : Int) == n) = false := by simp; omega
      generalize L[j] = x at *
      go_wp2_with fail
      go_roundw
      case rel => exact ⟨j + 1, by omega, by go_num, trivial⟩
      case measure => simp [intOf]; omega
    · obtain rfl : j = L.length := by omega
      have e1 : decide ((L.length : Int) < (L.length : Int)) = false := decide_eq_false (by omega)
      go_wp2_with fail
      go_ret
      exact ⟨rfl, rfl⟩

/-- what Has tells, on either side -/
theorem rhas_flat (w : World) (A : Option Addr) (cap : Nat) (B : List Blk) (h : Rd w A (natI (flat B))) (hl : (flat B).length ≤ 1000000000) (hx : ∀ x ∈ flat B, x ≤ 268435456) (n : Int) :
    Calls Tryd.prog 10 #[.slice A (flat B).length cap, .int .i64 n] w fun e w' => e = .returned (.bool (hasZ n B)) ∧ w = w' := by
  by_cases hn : 0 ≤ n
  · have K := rhas_any w A cap (flat B) h hl n hn
    have e : decide (n.toNat ∈ flat B) = hasZ n B := by
      unfold hasZ
      by_cases hm : mayB n = true
      · rw [hm, Bool.true_and]
      · rw [Bool.eq_false_iff.2 hm, Bool.false_and]
        refine decide_eq_false fun hmem => ?_
        exact small_flat hx hm _ hmem (by omega)
    rw [e] at K
    exact K
  · have K := rhas_neg w A cap (flat B) h hl n (by omega)
    have e : hasZ n B = false := by
      unfold hasZ mayB
      rw [decide_eq_false hn]
      rfl
    rw [e]
    exact K
end Go.Proofs.YtnjaadcbpkbjbaaDoor.bt
