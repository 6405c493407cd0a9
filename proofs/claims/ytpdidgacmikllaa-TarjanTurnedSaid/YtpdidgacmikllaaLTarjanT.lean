/-
  tarjan: the other way round, of arguments as they come in.
-/
import Derived.Test.YtpdidgacmikllaaTjC3
import Derived.Test.YtpdidgacmikllaaTjLa
namespace Go.Proofs.Ytpdidgacmikllaa.tj
open Go.RowKit Go.Proofs.Ytpdidgacmikllaa.mem

set_option maxRecDepth 100000 in
theorem pf_turned (H : Type) (enc : TypeId × Value → H) (W : World) {base : Nat} (n : Int) (wn : (Lit.int .i64 n).wf = true) (v : Value) (d : DataW H) (p : List MemPlace) (k : DataW.Trod enc Try.prog W 0 (fun _ => true) true 22 v d p) (o : Value.okWide Try.prog W .any base 22 v) :
    Calls Try.prog 7 #[.int .i64 n, v] W (SaPost true W) := by
  obtain ⟨A, cap, l, rfl, hr, hm⟩ := edges_of v d p k o
  exact law_turned n A cap l W hr
end Go.Proofs.Ytpdidgacmikllaa.tj
