import Derived.Test.YtdmmkjijgoiecaaV18
import Derived.Lib.SmallJoins
/-
  names: what belongs to a node's kind; whether a node may be written.
-/
set_option linter.all false
namespace Go.Proofs.Ytdmmkjijgoiecaa.nm
open Go.RowKit

end Go.Proofs.Ytdmmkjijgoiecaa.nm
