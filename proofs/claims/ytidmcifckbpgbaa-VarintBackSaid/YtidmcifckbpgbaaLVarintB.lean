/-
  varint: what is put is taken again, of an argument as it comes in.
-/
import Derived.Test.YtidmcifckbpgbaaVrP
import Derived.Test.YtidmcifckbpgbaaVrI
namespace Go.Proofs.Ytidmcifckbpgbaa.vr
open Go.RowKit Go.Proofs.Ytidmcifckbpgbaa.mem

set_option maxRecDepth 100000 in
theorem pf_back (H : Type) (enc : TypeId × Value → H) (W : World) {base : Nat} (v : Value) (d : DataW H) (p : List MemPlace) (k : DataW.Trod enc Try.prog W 0 (fun _ => true) true 28 v d p) (o : Value.okWide Try.prog W .any base 28 v) :
    Calls Try.prog 7 #[v] W (WorksPost W) := by
  obtain ⟨A, cap, l, rfl, hr, hm⟩ := puts_of v d p k o
  exact law_back W A cap l hr hm
end Go.Proofs.Ytidmcifckbpgbaa.vr
