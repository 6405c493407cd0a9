import Derived.Test.YtdmmkjijgoiecaaUSy4
import Derived.Test.YtdmmkjijgoiecaaV22
import Derived.Test.YtdmmkjijgoiecaaUSy7
import Derived.Lib.IndexBytes
import Derived.BigQuiet
import Derived.Deep.QuietTactic
/-
  system: tags, arguments, functions.
-/
set_option linter.all false
namespace Go.Proofs.Ytdmmkjijgoiecaa.sy
open Go.RowKit Go.Proofs.Ytdmmkjijgoiecaa.mem

end Go.Proofs.Ytdmmkjijgoiecaa.sy

/-
  system: strings.Cut at a '>'; what a call's Tag and Args say: the program's.
-/
set_option linter.all false
namespace Go.Proofs.Ytdmmkjijgoiecaa.sy
open Go.RowKit Go.Proofs.Ytdmmkjijgoiecaa.mem

def TPost (P R : ByteArray) (b : Bool) (w : World) (e : Ending) (w' : World) : Prop := e = .returned (.tuple #[.string P, .string R, .bool b]) ∧ Below w.heap.size w w'

end Go.Proofs.Ytdmmkjijgoiecaa.sy

/-
  system: what a call's Tag and Args say: the program's call.
-/
set_option linter.all false
namespace Go.Proofs.Ytdmmkjijgoiecaa.sy
open Go.RowKit Go.Proofs.Ytdmmkjijgoiecaa.mem

end Go.Proofs.Ytdmmkjijgoiecaa.sy

/-
  system: a call's Tag and Args: the reference's.
-/
set_option linter.all false
namespace Go.Proofs.Ytdmmkjijgoiecaa.sy
open Go.RowKit Go.Proofs.Ytdmmkjijgoiecaa.mem

end Go.Proofs.Ytdmmkjijgoiecaa.sy

/-
  system: what a call's Tag and Args say: the reference's call.
-/
set_option linter.all false
namespace Go.Proofs.Ytdmmkjijgoiecaa.sy
open Go.RowKit Go.Proofs.Ytdmmkjijgoiecaa.mem

end Go.Proofs.Ytdmmkjijgoiecaa.sy

/-
  system: objects: the program's.
-/
set_option linter.all false
namespace Go.Proofs.Ytdmmkjijgoiecaa.sy
open Go.RowKit Go.Proofs.Ytdmmkjijgoiecaa.mem

end Go.Proofs.Ytdmmkjijgoiecaa.sy
