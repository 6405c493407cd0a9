/-
  query: the law of what is reached, of arguments as they come in.
-/
import Derived.Test.YtohdcmmkbblhkaaGreatDoorLQuA
import Derived.Test.YtohdcmmkbblhkaaGreatDoorV44
set_option linter.all false
namespace Go.Proofs.YtohdcmmkbblhkaaGreatDoor.qy
open Go.RowKit Go.ChangeShapes Go.WideShapes Go.Sort Go.Shelf Go.Proofs.YtohdcmmkbblhkaaGreatDoor.mem Go.Proofs.YtohdcmmkbblhkaaGreatDoor.wd
open Go.Proofs.YtohdcmmkbblhkaaGreatDoor.nm (Tab tab_below)

set_option maxRecDepth 100000 in
theorem pf_reach (H : Type) (enc : TypeId × Value → H) (W : World) {base base2 : Nat} (v : Value) (d : DataW H) (p : List MemPlace) (k : DataW.Trod enc Tryz.prog W 0 (fun _ => true) true 29 v d p) (o : Value.okWide Tryz.prog W .any base 29 v) (hw : ∀ n ∈ d.weights Tryz.prog 29, n ≤ reachBytes)
    (v2 : Value) (d2 : DataW H) (p2 : List MemPlace) (k2 : DataW.Trod enc Tryz.prog W 0 (fun _ => true) true 26 v2 d2 p2) (o2 : Value.okWide Tryz.prog W .any base2 26 v2) (hw2 : ∀ n ∈ d2.weights Tryz.prog 26, n ≤ reachBytes) (htab : Tab W) :
    Calls Tryz.prog 4 #[v, v2] W (BP true W) := by
  obtain ⟨A, c, l, rfl, hf, hb⟩ := calls_of v d p k o hw
  obtain ⟨A2, c2, l2, rfl, hf2, hb2⟩ := txts_of v2 d2 p2 k2 o2 hw2
  exact law_reach_of W A A2 c c2 l l2 hf hf2 hb hb2 (fun W' hb => works_any W' (tab_below htab hb))
end Go.Proofs.YtohdcmmkbblhkaaGreatDoor.qy
