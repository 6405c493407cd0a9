/-
  names: NamesReads, as the frame calls it.
-/
import Derived.Test.YtenohenkedofkabDoorNm3
import Derived.Test.YtenohenkedofkabDoorNmE
import Derived.Test.YtenohenkedofkabDoorLNamesReads
namespace Go.Proofs.YtenohenkedofkabDoor.nm
open Go.RowKit Go.Sort
theorem pf_reads (s : ByteArray) (hs : s.size ≤ maxLen) (w : World) (htab : Tab w) : Calls Tryd.prog 4 #[.string s] w (WorksPost w) := law_reads held heldE s w hs htab
end Go.Proofs.YtenohenkedofkabDoor.nm
