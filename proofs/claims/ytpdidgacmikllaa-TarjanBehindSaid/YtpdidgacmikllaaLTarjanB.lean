/-
  tarjan: what is led to stands ahead, of arguments as they come in.
-/
import Derived.Test.YtpdidgacmikllaaTjB2
import Derived.Test.YtpdidgacmikllaaTjLa
namespace Go.Proofs.Ytpdidgacmikllaa.tj
open Go.RowKit Go.Proofs.Ytpdidgacmikllaa.mem

set_option maxRecDepth 100000 in
theorem pf_behind (H : Type) (enc : TypeId × Value → H) (W : World) {base : Nat} (n : Int) (wn : (Lit.int .i64 n).wf = true) (v : Value) (d : DataW H) (p : List MemPlace) (k : DataW.Trod enc Try.prog W 0 (fun _ => true) true 22 v d p) (o : Value.okWide Try.prog W .any base 22 v) :
    Calls Try.prog 5 #[.int .i64 n, v] W (SaPost true W) := by
  obtain ⟨A, cap, l, rfl, hr, hm⟩ := edges_of v d p k o
  exact law_behind n A cap l W hr
end Go.Proofs.Ytpdidgacmikllaa.tj
