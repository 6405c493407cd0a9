/-
  names: NamesOne, as the frame calls it.
-/
import Derived.Test.YtenohenkedofkabDoorNmF
import Derived.Test.YtenohenkedofkabDoorNmE
import Derived.Test.YtenohenkedofkabDoorLNames
import Derived.Test.YtenohenkedofkabDoorLNamesOne
namespace Go.Proofs.YtenohenkedofkabDoor.nm
open Go.RowKit Go.Sort Go.ChangeShapes Go.WideShapes
theorem pf_one (H : Type) (enc : TypeId × Value → H) (W : World) {b0 b1 : Nat} (v0 : Value) (d0 : DataW H) (p0 : List MemPlace) (k0 : DataW.Trod enc Tryd.prog W 0 (fun _ => true) true 23 v0 d0 p0) (o0 : Value.okWide Tryd.prog W .any b0 23 v0)
    (v1 : Value) (d1 : DataW H) (p1 : List MemPlace) (k1 : DataW.Trod enc Tryd.prog W 0 (fun _ => true) true 23 v1 d1 p1) (o1 : Value.okWide Tryd.prog W .any b1 23 v1) (s : ByteArray) (hs : s.size ≤ maxLen) (htab : Tab W) :
    Calls Tryd.prog 6 #[v0, v1, .string s] W (WorksPost W) := by
  obtain ⟨a, rfl, h1, h2⟩ := nd_of k0 o0
  obtain ⟨b, rfl, h3, h4⟩ := nd_of k1 o1
  exact law_one held heldE heldR a b s W h1 h2 h3 h4 hs htab
end Go.Proofs.YtenohenkedofkabDoor.nm
