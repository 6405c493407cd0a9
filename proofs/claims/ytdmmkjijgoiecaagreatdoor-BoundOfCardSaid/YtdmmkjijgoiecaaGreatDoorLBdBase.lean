import Derived.Test.YtdmmkjijgoiecaaGreatDoorV28
import Derived.Test.YtdmmkjijgoiecaaGreatDoorV29
import Derived.Test.YtdmmkjijgoiecaaGreatDoorV30
import Derived.Test.YtdmmkjijgoiecaaGreatDoorUSyR
import Derived.Test.YtdmmkjijgoiecaaGreatDoorV16
import Derived.Test.YtdmmkjijgoiecaaGreatDoorV33
/-
  bound: all that its law stands on (merge.py's root).
-/
set_option linter.all false
namespace Go.Proofs.YtdmmkjijgoiecaaGreatDoor.bd
end Go.Proofs.YtdmmkjijgoiecaaGreatDoor.bd
