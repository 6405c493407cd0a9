/-
  crc: the sum's steps: crc.with does eight of them; the reference's sum of a text.
-/
import Derived.Test.YtidmcifckbpgbaaRows
import Derived.WalkKit
import Derived.ProofKit
import Derived.WalkSpells
import Derived.BigQuiet
import Derived.Deep.QuietTactic
import Derived.Lib.Hide
import Derived.Laws.BitsAllLaws
namespace Go.Proofs.Ytidmcifckbpgbaa.cr
open Go.RowKit

/-- one bit's step of the sum -/
def stepN (v : Nat) : Nat := if 2 * v < 16777216 then 2 * v else (2 * v) ^^^ 25578747
def iterN : Nat → Nat → Nat
  | 0, v => v
  | k + 1, v => stepN (iterN k v)
def withN (v : Nat) (b : Nat) : Nat := iterN 8 (v ^^^ b * 65536)
def sumFrom : Nat → List UInt8 → Nat
  | v, [] => v
  | v, c :: r => sumFrom (withN v c.toNat) r
def sumN (l : List UInt8) : Nat := sumFrom 11994318 l

theorem xor_small (a b : Nat) (ha : a < 16777216) (hb : b < 16777216) : a ^^^ b < 16777216 := Nat.xor_lt_two_pow (n := 24) ha hb

theorem xor_top (a : Nat) (h1 : 16777216 ≤ a) (h2 : a < 33554432) : a ^^^ 25578747 < 16777216 := by
  refine Nat.lt_pow_two_of_testBit (n := 24) _ fun i hi => ?_
  rw [Nat.testBit_xor]
  by_cases h : i = 24
  · subst h
    rw [Nat.testBit_eq_decide_div_mod_eq, Nat.testBit_eq_decide_div_mod_eq]
    have : a / 2 ^ 24 = 1 := by omega
    rw [this]
    decide
  · have h25 : 25 ≤ i := by omega
    have hp : 2 ^ 25 ≤ 2 ^ i := Nat.pow_le_pow_right (by omega) h25
    rw [Nat.testBit_lt_two_pow (by omega), Nat.testBit_lt_two_pow (by omega)]
    rfl

theorem stepN_lt (v : Nat) (hv : v < 16777216) : stepN v < 16777216 := by
  unfold stepN
  split
  · assumption
  · exact xor_top _ (by omega) (by omega)

theorem iterN_lt (k v : Nat) (hv : v < 16777216) : iterN k v < 16777216 := by
  induction k with
  | zero => exact hv
  | succ k ih => exact stepN_lt _ ih

theorem withN_lt (v b : Nat) (hv : v < 16777216) (hb : b < 256) : withN v b < 16777216 := iterN_lt _ _ (xor_small _ _ hv (by omega))

theorem sumFrom_lt (v : Nat) (l : List UInt8) (hv : v < 16777216) : sumFrom v l < 16777216 := by
  induction l generalizing v with
  | nil => exact hv
  | cons c r ih =>
    have h := withN_lt v c.toNat hv (by have := c.toNat_lt; omega)
    rw [sumFrom]
    exact ih _ h

theorem sumN_lt (l : List UInt8) : sumN l < 16777216 := by
  unfold sumN
  exact sumFrom_lt 11994318 l (by omega)

theorem sumFrom_append (v : Nat) (l r : List UInt8) : sumFrom v (l ++ r) = sumFrom (sumFrom v l) r := by
  induction l generalizing v with
  | nil => rw [List.nil_append, sumFrom]
  | cons c l ih => rw [List.cons_append, sumFrom, sumFrom, ih]

/-- what the walk writes for the steps -/
theorem and_top (n : Nat) (hn : n < 16777216) : bits .and .u32 ((n : Int) * 2) 16777216 = if 2 * n < 16777216 then 0 else 16777216 := by
  have e := u32_and_nat (n * 2) 16777216 (by omega) (by omega)
  rw [show ((n : Int) * 2) = ((n * 2 : Nat) : Int) by omega]
  rw [show (16777216 : Int) = ((16777216 : Nat) : Int) from rfl, e, show (16777216 : Nat) = 2 ^ 24 from rfl, nat_bit 24]
  split
  · have : n * 2 / 2 ^ 24 = 0 := by omega
    rw [this]; try rfl
  · have : n * 2 / 2 ^ 24 = 1 := by omega
    rw [this]; try rfl

theorem xor_poly (n : Nat) (hn : n < 16777216) (h : ¬ 2 * n < 16777216) : bits .xor .u32 ((n : Int) * 2) 25578747 = (stepN n : Nat) := by
  have e := u32_xor_nat (n * 2) 25578747 (by omega) (by omega)
  rw [show ((n : Int) * 2) = ((n * 2 : Nat) : Int) by omega]
  rw [show (25578747 : Int) = ((25578747 : Nat) : Int) from rfl, e]
  unfold stepN
  rw [if_neg h, Nat.mul_comm]

theorem xor_in (v b : Nat) (hv : v < 16777216) (hb : b < 256) : bits .xor .u32 (v : Int) ((b : Int) * 65536) = (v ^^^ b * 65536 : Nat) := by
  have e := u32_xor_nat v (b * 65536) (by omega) (by omega)
  rw [show ((b : Int) * 65536) = ((b * 65536 : Nat) : Int) by omega, e]

set_option maxHeartbeats 400000 in
theorem with_any (v b : Nat) (w : World) (hv : v < 16777216) (hb : b < 256) :
    Calls Try.prog 55 #[.int .u32 v, .int .u8 b] w fun e w' => e = .returned (.int .u32 (withN v b : Nat)) ∧ w = w' := by
  have hx := xor_in v b hv hb
  have hxl := xor_small v (b * 65536) hv (by omega)
  have Hw : Hid (withN v b = iterN 8 (v ^^^ b * 65536)) := Lib.hid rfl
  generalize v ^^^ b * 65536 = x at *
  generalize withN v b = y at *
  go_enter Try.func55, Try.ntmps55
  go_wp2_with fail
  clear hx
  go_loop [0, 10] (fun s i => ∃ (k n : Nat), k ≤ 8 ∧ n < 16777216 ∧ i = .int .i64 k ∧ s = .int .u32 n ∧ Hid (n = iterN k x)) (fun _ i => 8 - (intOf i).toNat)
  case atStart => exact ⟨0, x, by omega, hxl, rfl, rfl, Lib.hid rfl⟩
  case round =>
    obtain ⟨k, n, hk, hn, rfl, rfl, hi⟩ := hrel
    by_cases hk8 : k < 8
    · by_cases ht : 2 * n < 16777216
      · have h1 : (bits .and .u32 ((n : Int) * 2) 16777216 != 0) = false := by rw [and_top n hn, if_pos ht]; rfl
        go_wp2_with fail
        go_round
        case rel => exact ⟨k + 1, stepN n, by omega, stepN_lt n hn, by go_num, by unfold stepN; rw [if_pos ht]; go_num, Lib.hid (by rw [hi.out]; rfl)⟩
        case measure => simp [intOf]; omega
      · have h1 : (bits .and .u32 ((n : Int) * 2) 16777216 != 0) = true := by rw [and_top n hn, if_neg ht]; rfl
        have h2 := xor_poly n hn ht
        have h3 := stepN_lt n hn
        have H4 : Hid (stepN n = stepN (iterN k x)) := Lib.hid (by rw [hi.out])
        generalize stepN n = m at *
        go_wp2_with fail
        go_round
        case rel => exact ⟨k + 1, m, by omega, h3, by go_num, rfl, Lib.hid H4.out⟩
        case measure => simp [intOf]; omega
    · obtain rfl : k = 8 := by omega
      go_wp2_with fail
      go_ret
      exact ⟨by rw [Hw.out, ← hi.out]; rfl, rfl⟩
end Go.Proofs.Ytidmcifckbpgbaa.cr
