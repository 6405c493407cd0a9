import Derived.Test.YtdmmkjijgoiecaaUNm
import Derived.Lib.QuietBelow
import Derived.Deep.QuietTactic
/-
  names.may: whether a node may be written.
-/
set_option linter.all false
namespace Go.Proofs.Ytdmmkjijgoiecaa.nm
open Go.RowKit Go.Sort

def BPost (b : Bool) (w : World) (e : Ending) (w' : World) : Prop := e = .returned (.bool b) ∧ Below w.heap.size w w'

end Go.Proofs.Ytdmmkjijgoiecaa.nm
