/- SumfileDecodes: for every input the call returns true, and each argument reads behind it as it read before. No conditions. -/
import Derived.Test.YtdmmkjijgoiecaaGreatDoorPdA
import Derived.Test.YtdmmkjijgoiecaaGreatDoorY50
namespace Go.Proofs.YtdmmkjijgoiecaaGreatDoor.sumfileDecodes
theorem proved : Rows.SumfileDecodesCardSaid := proved_of fun a wa ra W h => sf.pf_decodes a wa ra W h
#print axioms proved
end Go.Proofs.YtdmmkjijgoiecaaGreatDoor.sumfileDecodes
