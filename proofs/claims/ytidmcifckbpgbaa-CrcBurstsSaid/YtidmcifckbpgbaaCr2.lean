/-
  crc: the reference's sum of a text.
-/
import Derived.Test.YtidmcifckbpgbaaCr
namespace Go.Proofs.Ytidmcifckbpgbaa.cr
open Go.RowKit

theorem size_list (s : ByteArray) : s.data.toList.length = s.size := by rw [Array.length_toList]; rfl

theorem sum_step (s : ByteArray) (k : Nat) (hk : k < s.size) : sumN (s.data.toList.take (k + 1)) = withN (sumN (s.data.toList.take k)) s[k].toNat := by
  have hl := size_list s
  rw [List.take_succ_eq_append_getElem (by omega)]
  unfold sumN
  rw [sumFrom_append, sumFrom, sumFrom]
  rfl

theorem sum_all (s : ByteArray) (k : Nat) (hk : ¬ k < s.size) : sumN (s.data.toList.take k) = sumN s.data.toList := by
  have hl := size_list s
  rw [List.take_of_length_le (by omega)]

set_option maxHeartbeats 400000 in
theorem rof_any (s : ByteArray) (w : World) (hs : s.size ≤ maxLen) :
    Calls Try.prog 35 #[.string s] w fun e w' => e = .returned (.int .u32 (sumN s.data.toList : Nat)) ∧ w = w' := by
  unfold maxLen at hs
  have Hs : Hid (sumN (s.data.toList.take 0) = 11994318) := Lib.hid rfl
  have Hstep := Lib.hid (sum_step s)
  have Hall := Lib.hid (sum_all s)
  have Hlt := Lib.hid (fun k => sumN_lt (s.data.toList.take k))
  generalize hf : (fun k => sumN (s.data.toList.take k)) = f
  replace Hs : Hid (f 0 = 11994318) := by subst hf; exact Hs
  replace Hstep : Hid (∀ k (h : k < s.size), f (k + 1) = withN (f k) s[k].toNat) := by subst hf; exact Hstep
  replace Hall : Hid (∀ k, ¬ k < s.size → f k = sumN s.data.toList) := by subst hf; exact Hall
  replace Hlt : Hid (∀ k, f k < 16777216) := by subst hf; exact Hlt
  clear hf
  go_enter Try.func35, Try.ntmps35
  go_wp2_with fail
  go_loop [3, 4, 5] (fun v i _ => ∃ (k n : Nat), k ≤ s.size ∧ i = .int .i64 k ∧ v = .int .u32 n ∧ Hid (n = f k)) (fun _ i _ => s.size - (intOf i).toNat)
  case atStart => exact ⟨0, 11994318, by omega, rfl, rfl, Lib.hid Hs.out.symm⟩
  case round =>
    obtain ⟨k, n, hk, rfl, rfl, hn⟩ := hrel
    have hn1 : n < 16777216 := by rw [hn.out]; exact Hlt.out k
    by_cases hlt : k < s.size
    · have hb1 : s[k].toNat < 256 := by have := s[k].toNat_lt; omega
      have hx := xor_in n s[k].toNat hn1 hb1
      have hxl := xor_small n (s[k].toNat * 65536) hn1 (by omega)
      have Hw : Hid (withN n s[k].toNat = iterN 8 (n ^^^ s[k].toNat * 65536)) := Lib.hid rfl
      generalize n ^^^ s[k].toNat * 65536 = x at *
      go_wp2_with fail
      clear hx
      go_loop [3, 5] (fun v i => ∃ (j m : Nat), j ≤ 8 ∧ m < 16777216 ∧ i = .int .i64 j ∧ v = .int .u32 m ∧ Hid (m = iterN j x)) (fun _ i => 8 - (intOf i).toNat)
      case atStart => exact ⟨0, x, by omega, hxl, rfl, rfl, Lib.hid rfl⟩
      case round =>
        obtain ⟨j, m, hj, hm, rfl, rfl, hi⟩ := hrel
        by_cases hj8 : j < 8
        · clear hn hn1 hb1 Hw hs
          by_cases ht : 2 * m < 16777216
          · have h0 : (m : Int) * 2 / 16777216 = 0 := by omega
            go_wp2_with fail
            go_round
            case rel => exact ⟨j + 1, stepN m, by omega, stepN_lt m hm, by go_num, by unfold stepN; rw [if_pos ht]; go_num, Lib.hid (by rw [hi.out]; rfl)⟩
            case measure => simp [intOf]; omega
          · have h0 : (m : Int) * 2 / 16777216 = 1 := by omega
            have h2 := xor_poly m hm ht
            have h3 := stepN_lt m hm
            have H4 : Hid (stepN m = stepN (iterN j x)) := Lib.hid (by rw [hi.out])
            generalize stepN m = q at *
            go_wp2_with fail
            go_round
            case rel => exact ⟨j + 1, q, by omega, h3, by go_num, rfl, Lib.hid H4.out⟩
            case measure => simp [intOf]; omega
        · obtain rfl : j = 8 := by omega
          go_wp2_with fail
          go_round
          case rel => exact ⟨k + 1, m, by omega, by go_num, rfl, Lib.hid (by rw [Hstep.out k hlt, ← hn.out, Hw.out, hi.out])⟩
          case measure => simp [intOf]; omega
    · have hall := Lib.hid (Hall.out k hlt)
      go_wp2_with fail
      go_ret
      exact ⟨by rw [← hall.out, ← hn.out]; rfl, rfl⟩
end Go.Proofs.Ytidmcifckbpgbaa.cr
