import Derived.Test.YtdmmkjijgoiecaaUNm3
import Derived.Test.YtdmmkjijgoiecaaV21
import Derived.Laws.StructEq
/-
  Two nodes held against each other by ==.
-/
set_option linter.all false
namespace Go.Proofs.Ytdmmkjijgoiecaa.nm
open Go.RowKit

end Go.Proofs.Ytdmmkjijgoiecaa.nm
