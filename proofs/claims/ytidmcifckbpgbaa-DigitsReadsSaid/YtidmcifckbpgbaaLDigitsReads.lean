/- The law DigitsReads, walked: digits.Read and its reference answer the same. -/
import Derived.Test.YtidmcifckbpgbaaDg4
import Derived.Below
import Derived.ProofKit
namespace Go.Proofs.Ytidmcifckbpgbaa.dg
open Go.RowKit Go.ChangeShapes Go.WideShapes Go.ChangeAt

theorem law_reads (s : ByteArray) (hs : s.size ≤ maxLen) (w : World) :
    Calls Try.prog 3 #[.string s] w fun e w' => e = .returned (.bool true) ∧ Below w.heap.size w w' := by
  have h1 := Lib.hid (read_any s · hs)
  have h2 := Lib.hid (rread_any s · hs)
  generalize (rd s).1 = a at *
  generalize (rd s).2 = b at *
  go_enter Try.func3, Try.ntmps3
  go_wp2_with fail
  refine (h1.out _).mono ?_
  rintro e w' ⟨rfl, rfl⟩
  go_wp2_with fail
  refine (h2.out _).mono ?_
  rintro e w' ⟨rfl, rfl⟩
  go_wp2_with fail
  go_ret
  exact ⟨rfl, Below.refl _ _⟩
end Go.Proofs.Ytidmcifckbpgbaa.dg
