/-
  crc: the running sum: Write, Value, Of, over memory.
-/
import Derived.Test.YtidmcifckbpgbaaCr2
import Derived.Below
namespace Go.Proofs.Ytidmcifckbpgbaa.cr
open Go.RowKit

theorem xor_begin (t : Nat) (ht : t < 16777216) : bits .xor .u32 (t : Int) 11994318 = (t ^^^ 11994318 : Nat) := by
  have e := u32_xor_nat t 11994318 (by omega) (by omega)
  rw [show (11994318 : Int) = ((11994318 : Nat) : Int) from rfl, e]

theorem value_any (a : Addr) (t : Nat) (w : World) (ht : t < 16777216) (hc : w.cell? a = some (.int .u32 t)) :
    Calls Try.prog 42 #[.pointer (some a)] w fun e w' => e = .returned (.int .u32 (t ^^^ 11994318 : Nat)) ∧ w = w' := by
  have hx := xor_begin t ht
  generalize t ^^^ 11994318 = x at *
  go_enter Try.func42, Try.ntmps42
  go_wp2_with fail
  go_ret
  exact ⟨rfl, rfl⟩

theorem from_step (v : Nat) (s : ByteArray) (k : Nat) (hk : k < s.size) : sumFrom v (s.data.toList.take (k + 1)) = withN (sumFrom v (s.data.toList.take k)) s[k].toNat := by
  have hl := size_list s
  rw [List.take_succ_eq_append_getElem (by omega), sumFrom_append, sumFrom, sumFrom]
  rfl

theorem from_all (v : Nat) (s : ByteArray) (k : Nat) (hk : ¬ k < s.size) : sumFrom v (s.data.toList.take k) = sumFrom v s.data.toList := by
  have hl := size_list s
  rw [List.take_of_length_le (by omega)]

set_option maxHeartbeats 400000 in
theorem write_any (a : Addr) (t : Nat) (s : ByteArray) (w : World) (hs : s.size ≤ maxLen) (ht : t < 16777216) (hc : w.cell? a = some (.int .u32 t)) (hf : w.frozen? a = false) :
    Calls Try.prog 41 #[.pointer (some a), .string s] w fun e w' => e = .returned (.tuple #[]) ∧ w' = w.setCell a (.int .u32 (sumFrom (t ^^^ 11994318) s.data.toList ^^^ 11994318 : Nat)) := by
  unfold maxLen at hs
  have Hv := Lib.hid (value_any a t w ht hc)
  have hv : t ^^^ 11994318 < 16777216 := xor_small _ _ ht (by omega)
  generalize t ^^^ 11994318 = v at *
  have Hs : Hid (sumFrom v (s.data.toList.take 0) = v) := Lib.hid (by rw [List.take_zero, sumFrom])
  have Hstep := Lib.hid (from_step v s)
  have Hall := Lib.hid (from_all v s)
  have Hlt := Lib.hid (fun k => sumFrom_lt v (s.data.toList.take k) hv)
  generalize hf2 : (fun k => sumFrom v (s.data.toList.take k)) = f
  replace Hs : Hid (f 0 = v) := by subst hf2; exact Hs
  replace Hstep : Hid (∀ k (h : k < s.size), f (k + 1) = withN (f k) s[k].toNat) := by subst hf2; exact Hstep
  replace Hall : Hid (∀ k, ¬ k < s.size → f k = sumFrom v s.data.toList) := by subst hf2; exact Hall
  replace Hlt : Hid (∀ k, f k < 16777216) := by subst hf2; exact Hlt
  clear hf2
  generalize sumFrom v s.data.toList = z at *
  go_enter Try.func41, Try.ntmps41
  go_wp2_with fail
  refine Hv.out.mono ?_
  rintro e w' ⟨rfl, rfl⟩
  go_wp2_with fail
  go_loop [4, 5, 12] (fun v _ i => ∃ (k n : Nat), k ≤ s.size ∧ i = .int .i64 k ∧ v = .int .u32 n ∧ n < 16777216 ∧ Hid (n = f k)) (fun _ _ i => s.size - (intOf i).toNat)
  case atStart => exact ⟨0, v, by omega, rfl, rfl, hv, Lib.hid Hs.out.symm⟩
  case round =>
    obtain ⟨k, n, hk, rfl, rfl, hn1, hn⟩ := hrel
    by_cases hlt : k < s.size
    · have hb1 : s[k].toNat < 256 := by have := s[k].toNat_lt; omega
      have Hw := Lib.hid (fun w => with_any n s[k].toNat w hn1 hb1)
      go_wp2_with fail
      refine (Hw.out _).mono ?_
      rintro e w' ⟨rfl, rfl⟩
      go_wp2_with fail
      go_round
      case rel => exact ⟨k + 1, withN n s[k].toNat, by omega, by go_num, rfl, withN_lt _ _ hn1 hb1, Lib.hid (by rw [Hstep.out k hlt, ← hn.out])⟩
      case measure => simp [intOf]; omega
    · have hall : n = z := by rw [hn.out, Hall.out k hlt]
      subst hall
      have hx := xor_begin n hn1
      go_wp2_with fail
      go_end0
      exact ⟨rfl, rfl⟩
end Go.Proofs.Ytidmcifckbpgbaa.cr
