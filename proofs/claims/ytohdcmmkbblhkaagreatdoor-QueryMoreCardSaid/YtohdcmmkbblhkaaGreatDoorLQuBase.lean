import Derived.Test.YtohdcmmkbblhkaaGreatDoorV35
import Derived.Test.YtohdcmmkbblhkaaGreatDoorV23
/-
  query: all that its laws stand on (merge.py's root: the laws' own texts import this alone).
-/
set_option linter.all false
namespace Go.Proofs.YtohdcmmkbblhkaaGreatDoor.qy
end Go.Proofs.YtohdcmmkbblhkaaGreatDoor.qy
