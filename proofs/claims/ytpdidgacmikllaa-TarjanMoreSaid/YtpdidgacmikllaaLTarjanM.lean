/-
  tarjan: more edges, no more parts, of arguments as they come in.
-/
import Derived.Test.YtpdidgacmikllaaTjC2
import Derived.Test.YtpdidgacmikllaaTjLa
namespace Go.Proofs.Ytpdidgacmikllaa.tj
open Go.RowKit Go.Proofs.Ytpdidgacmikllaa.mem

set_option maxRecDepth 100000 in
theorem pf_more (H : Type) (enc : TypeId × Value → H) (W : World) {base : Nat} (n : Int) (wn : (Lit.int .i64 n).wf = true) (v : Value) (d : DataW H) (p : List MemPlace) (k : DataW.Trod enc Try.prog W 0 (fun _ => true) true 22 v d p) (o : Value.okWide Try.prog W .any base 22 v) (u : Value) (d2 : DataW H) (p2 : List MemPlace) (k2 : DataW.Trod enc Try.prog W 0 (fun _ => true) true 22 u d2 p2) (o2 : Value.okWide Try.prog W .any base 22 u) :
    Calls Try.prog 6 #[.int .i64 n, v, u] W (SaPost true W) := by
  obtain ⟨A, cap, l, rfl, hr, hm⟩ := edges_of v d p k o
  obtain ⟨B, bc, l2, rfl, hr2, hm2⟩ := edges_of u d2 p2 k2 o2
  exact law_more n A cap l B bc l2 W hr hr2
end Go.Proofs.Ytpdidgacmikllaa.tj
