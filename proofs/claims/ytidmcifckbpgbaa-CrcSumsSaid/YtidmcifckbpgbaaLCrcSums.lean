/- The law CrcSums, walked. -/
import Derived.Test.YtidmcifckbpgbaaCr4
namespace Go.Proofs.Ytidmcifckbpgbaa.cr
open Go.RowKit

theorem below_drewN (B : Nat) (w w' : World) (h : Below B w w') (n : Nat) : Below B w (w'.drewN n) := ⟨h.os, h.tape, h.output, h.size, h.block⟩

theorem law_sums (s : ByteArray) (hs : s.size ≤ maxLen) (w : World) :
    Calls Try.prog 9 #[.string s] w fun e w' => e = .returned (.bool true) ∧ Below w.heap.size w w' := by
  by_cases h : s.size ≤ 30000
  · have hm : s.size + 3 ≤ maxLen := by unfold maxLen; omega
    have h1 := Lib.hid (fun w => of_any s w hs)
    have h2 := Lib.hid (fun w => rof_any s w hs)
    have h3 := Lib.hid (fun w => seal_any s w hm)
    have h4 := Lib.hid (fun w => rseal_any s w hm)
    unfold SumPost at h1
    unfold SealPost at h3 h4
    generalize sumN s.data.toList = z at *
    generalize sealS s = t at *
    unfold maxLen at hs
    clear hm
    go_enter Try.func9, Try.ntmps9
    go_wp2_with fail
    refine (h1.out _).mono ?_
    rintro e w1 ⟨rfl, b1⟩
    go_wp2_with fail
    refine (h2.out _).mono ?_
    rintro e w' ⟨rfl, rfl⟩
    go_wp2_with fail
    refine (h3.out _).mono ?_
    rintro e w2 ⟨rfl, b2⟩
    go_wp2_with fail
    refine (h4.out _).mono ?_
    rintro e w3 ⟨rfl, b3⟩
    go_wp2_with fail
    go_ret
    exact ⟨rfl, (b1.trans (b2.mono b1.size)).trans (b3.mono (Nat.le_trans b1.size b2.size))⟩
  · unfold maxLen at hs
    go_enter Try.func9, Try.ntmps9
    go_wp2_with fail
    go_ret
    exact ⟨rfl, Below.refl _ _⟩
end Go.Proofs.Ytidmcifckbpgbaa.cr
