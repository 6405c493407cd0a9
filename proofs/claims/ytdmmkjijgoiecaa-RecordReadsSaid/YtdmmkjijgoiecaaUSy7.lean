import Derived.Test.YtdmmkjijgoiecaaV22
import Derived.Test.YtdmmkjijgoiecaaV11
import Derived.Shelf.Strings.SlTrimAscii
/-
  system: kinds: the program's.
-/
set_option linter.all false
namespace Go.Proofs.Ytdmmkjijgoiecaa.sy
open Go.RowKit Go.Proofs.Ytdmmkjijgoiecaa.mem

end Go.Proofs.Ytdmmkjijgoiecaa.sy
