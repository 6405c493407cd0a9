/-
  crc.Of: a text's sum; Seal, and the reference's.
-/
import Derived.Test.YtidmcifckbpgbaaCr3
namespace Go.Proofs.Ytidmcifckbpgbaa.cr
open Go.RowKit

def SumPost (n : Nat) (w : World) (e : Ending) (w' : World) : Prop := e = .returned (.int .u32 (n : Int)) ∧ Below w.heap.size w w'

set_option maxHeartbeats 400000 in
theorem of_any (s : ByteArray) (w : World) (hs : s.size ≤ maxLen) :
    Calls Try.prog 34 #[.string s] w (SumPost (sumN s.data.toList) w) := by
  have hm := sumFrom_lt 11994318 s.data.toList (by omega)
  have Hw := Lib.hid (fun a w hc hf => write_any a 0 s w hs (by omega) hc hf)
  have He : Hid (sumFrom (0 ^^^ 11994318) s.data.toList = sumN s.data.toList) := Lib.hid (by rw [Nat.zero_xor]; rfl)
  have hx : (sumFrom (0 ^^^ 11994318) s.data.toList) ^^^ 11994318 < 16777216 := by rw [Nat.zero_xor]; exact xor_small _ _ hm (by omega)
  have hxx : (sumFrom (0 ^^^ 11994318) s.data.toList) ^^^ 11994318 ^^^ 11994318 = sumN s.data.toList := by rw [He.out, Nat.xor_assoc, Nat.xor_self, Nat.xor_zero]
  have Hxx := Lib.hid hxx
  clear hxx He hm
  generalize sumN s.data.toList = z at *
  generalize sumFrom (0 ^^^ 11994318) s.data.toList ^^^ 11994318 = y at *
  go_enter Try.func34, Try.ntmps34
  go_wp2_with fail
  refine (Hw.out _ _ (by simp) (by simp)).mono ?_
  rintro e w' ⟨rfl, rfl⟩
  go_wp2_with fail
  refine (value_any _ y _ hx (by simp)).mono ?_
  rintro e w' ⟨rfl, rfl⟩
  rw [Hxx.out]
  go_wp2_with fail
  go_ret
  exact ⟨rfl, (Below.refl _ _).alloc (Nat.le_refl _) _⟩

theorem conv3 (a b c : Int) (W : World) : (convert 63 9 (.slice (some ⟨W.heap.size, 0, none⟩) 3 3)).run Try.prog (W.alloc (.cells #[.int .u8 a, .int .u8 b, .int .u8 c] 5)) = .ok (.string (strOfNums [a, b, c])) (W.alloc (.cells #[.int .u8 a, .int .u8 b, .int .u8 c] 5)) := by
  refine run_convert_bytes_arg _ _ 5 Try.underlying63 Try.underlying5 _ 0 3 3 [a, b, c] rfl ?_ _ Try.underlying9
  intro i hi
  rcases (by omega : i = 0 ∨ i = 1 ∨ i = 2) with rfl | rfl | rfl <;> simp

/-- the three bytes of a sum -/
def tailN (z : Nat) : ByteArray := strOfNums [(z : Int) / 65536, (z : Int) / 256 % 256, (z : Int) % 256]
def sealS (s : ByteArray) : ByteArray := s ++ tailN (sumN s.data.toList)

def SealPost (s : ByteArray) (w : World) (e : Ending) (w' : World) : Prop := e = .returned (.string (sealS s)) ∧ Below w.heap.size w w'

set_option maxHeartbeats 400000 in
theorem seal_any (s : ByteArray) (w : World) (hs : s.size + 3 ≤ maxLen) :
    Calls Try.prog 36 #[.string s] w (SealPost s w) := by
  have H1 := Lib.hid (fun w => of_any s w (by omega))
  have hm := sumN_lt s.data.toList
  have He : Hid (sealS s = s ++ tailN (sumN s.data.toList)) := Lib.hid rfl
  generalize sumN s.data.toList = z at *
  unfold SumPost at H1
  have hconv := conv3
  have hsz : ∀ a b c : Int, (strOfNums [a, b, c]).size = 3 := fun _ _ _ => strOfNums_size _
  unfold maxLen at hs
  go_enter Try.func36, Try.ntmps36
  go_wp2_with fail
  refine (H1.out _).mono ?_
  rintro e w' ⟨rfl, hb⟩
  go_wp2_with fail
  go_ret
  exact ⟨by rw [He.out]; rfl, hb.alloc hb.size _⟩

set_option maxHeartbeats 400000 in
theorem rseal_any (s : ByteArray) (w : World) (hs : s.size + 3 ≤ maxLen) :
    Calls Try.prog 37 #[.string s] w (SealPost s w) := by
  have H1 := Lib.hid (fun w => rof_any s w (by omega))
  have hm := sumN_lt s.data.toList
  have He : Hid (sealS s = s ++ tailN (sumN s.data.toList)) := Lib.hid rfl
  generalize sumN s.data.toList = z at *
  have hconv := conv3
  have hsz : ∀ a b c : Int, (strOfNums [a, b, c]).size = 3 := fun _ _ _ => strOfNums_size _
  unfold maxLen at hs
  go_enter Try.func37, Try.ntmps37
  go_wp2_with fail
  refine (H1.out _).mono ?_
  rintro e w' ⟨rfl, rfl⟩
  go_wp2_with fail
  go_ret
  exact ⟨by rw [He.out]; rfl, (Below.refl _ _).alloc (Nat.le_refl _) _⟩
end Go.Proofs.Ytidmcifckbpgbaa.cr
