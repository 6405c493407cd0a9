/-
  names: NamesMade, as the frame calls it.
-/
import Derived.Test.YtenohenkedofkabDoorNm3
import Derived.Test.YtenohenkedofkabDoorNmE
import Derived.Test.YtenohenkedofkabDoorLNamesMade
namespace Go.Proofs.YtenohenkedofkabDoor.nm
open Go.RowKit Go.Sort
theorem pf_made (kind : Int) (_ : (Lit.int .i64 kind).wf = true) (name : ByteArray) (hs : name.size ≤ maxLen) (n : Int) (_ : (Lit.int .i64 n).wf = true) (w : World) (htab : Tab w) : Calls Tryd.prog 5 #[.int .i64 kind, .string name, .int .i64 n] w (WorksPost w) := law_made held heldE kind name n w hs htab
end Go.Proofs.YtenohenkedofkabDoor.nm
