import Derived.Test.YtdmmkjijgoiecaaRows
import Derived.Test.YtdmmkjijgoiecaaV11
import Derived.WalkKit
import Derived.ProofKit
import Derived.WalkSpells
import Derived.BigQuiet
import Derived.Deep.QuietTactic
import Derived.Lib.Hide
import Derived.Laws.BytesArg
import Derived.Laws.Bits64
import Derived.Lib.ItoaNum
import Derived.Test.YtdmmkjijgoiecaaV17
/-
  digits.Text, and its reference: a number's numeral.
-/
set_option linter.all false
namespace Go.Proofs.Ytdmmkjijgoiecaa.dt
open Go.RowKit Go.Sort

theorem conv1 (a : Int) (W : World) : (convert 55 9 (.slice (some ⟨W.heap.size, 0, none⟩) 1 1)).run Try.prog (W.alloc (.cells #[.int .u8 a] 5)) = .ok (.string (strOfNums [a])) (W.alloc (.cells #[.int .u8 a] 5)) := by
  refine run_convert_bytes_arg _ _ 5 Try.underlying55 Try.underlying5 _ 0 1 1 [a] rfl ?_ _ Try.underlying9
  intro i hi
  obtain rfl : i = 0 := by omega
  simp

/-- what the digits so far leave to be put ahead -/
def ahead (m : Nat) : List UInt8 := if m < 10 then [] else Lib.decDigits (m / 10)

end Go.Proofs.Ytdmmkjijgoiecaa.dt

/-
  Numerals are read as they were written, and what is read is written as it was: plain facts on lists of bytes.
-/
set_option linter.all false
namespace Go.Proofs.Ytdmmkjijgoiecaa.dg
open Go.RowKit

theorem list_size (l : List UInt8) : (ByteArray.mk l.toArray).size = l.length := by simp [ByteArray.size]

end Go.Proofs.Ytdmmkjijgoiecaa.dg
