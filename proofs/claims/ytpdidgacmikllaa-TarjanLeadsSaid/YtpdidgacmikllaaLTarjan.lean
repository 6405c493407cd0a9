/-
  tarjan: the laws of parts, and of what some lead to, of arguments as they come in.
-/
import Derived.Test.YtpdidgacmikllaaTjL1
import Derived.Test.YtpdidgacmikllaaTjLa
namespace Go.Proofs.Ytpdidgacmikllaa.tj
open Go.RowKit Go.Proofs.Ytpdidgacmikllaa.mem

set_option maxRecDepth 100000 in
theorem pf_parts (H : Type) (enc : TypeId × Value → H) (W : World) {base : Nat} (n : Int) (wn : (Lit.int .i64 n).wf = true) (v : Value) (d : DataW H) (p : List MemPlace) (k : DataW.Trod enc Try.prog W 0 (fun _ => true) true 22 v d p) (o : Value.okWide Try.prog W .any base 22 v) :
    Calls Try.prog 3 #[.int .i64 n, v] W (SaPost true W) := by
  obtain ⟨A, cap, l, rfl, hr, hm⟩ := edges_of v d p k o
  exact law_parts n A cap l W hr

set_option maxRecDepth 100000 in
theorem pf_leads (H : Type) (enc : TypeId × Value → H) (W : World) {base : Nat} (n : Int) (wn : (Lit.int .i64 n).wf = true) (v : Value) (d : DataW H) (p : List MemPlace) (k : DataW.Trod enc Try.prog W 0 (fun _ => true) true 22 v d p) (o : Value.okWide Try.prog W .any base 22 v) (u : Value) (d2 : DataW H) (p2 : List MemPlace) (k2 : DataW.Trod enc Try.prog W 0 (fun _ => true) true 32 u d2 p2) (o2 : Value.okWide Try.prog W .any base 32 u) :
    Calls Try.prog 4 #[.int .i64 n, v, u] W (SaPost true W) := by
  obtain ⟨A, cap, l, rfl, hr, hm⟩ := edges_of v d p k o
  obtain ⟨F, fc, fs, rfl, hF, _, _⟩ := ints_of Try.underlying32 Try.underlying3 cIntT k2 o2
  exact law_leads n A cap l F fc fs W hr hF
end Go.Proofs.Ytpdidgacmikllaa.tj
