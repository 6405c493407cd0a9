/- The law DigitsNames, walked: digits.Split and Name and their references answer the same. -/
import Derived.Test.YtidmcifckbpgbaaDg6
import Derived.Below
namespace Go.Proofs.Ytidmcifckbpgbaa.dg
open Go.RowKit Go.ChangeShapes Go.WideShapes Go.ChangeAt

theorem grown_drewN (w : World) (n : Nat) : Below w.heap.size w (w.drewN n) := ⟨rfl, rfl, rfl, Nat.le_refl _, fun _ _ => rfl⟩

theorem law_names (s : ByteArray) (hs : s.size ≤ maxLen) (w : World) :
    Calls Try.prog 4 #[.string s] w fun e w' => e = .returned (.bool true) ∧ Below w.heap.size w w' := by
  have h1 := Lib.hid (split_any s · hs)
  have h2 := Lib.hid (rsplit_any s · hs)
  have h3 := Lib.hid (name_any s · hs)
  have h4 := Lib.hid (rname_any s · hs)
  unfold SplitPost at h1 h2
  generalize s.extract 0 (splN s) = a at *
  generalize s.extract (splN s) s.size = b at *
  generalize nameB s = c at *
  go_enter Try.func4, Try.ntmps4
  go_wp2_with fail
  refine (h1.out _).mono ?_
  rintro e w' ⟨rfl, n1, rfl⟩
  go_wp2_with fail
  refine (h2.out _).mono ?_
  rintro e w' ⟨rfl, n2, rfl⟩
  go_wp2_with fail
  refine (h3.out _).mono ?_
  rintro e w' ⟨rfl, rfl⟩
  go_wp2_with fail
  refine (h4.out _).mono ?_
  rintro e w' ⟨rfl, rfl⟩
  go_wp2_with fail
  go_ret
  exact ⟨rfl, grown_drewN _ _⟩
end Go.Proofs.Ytidmcifckbpgbaa.dg
