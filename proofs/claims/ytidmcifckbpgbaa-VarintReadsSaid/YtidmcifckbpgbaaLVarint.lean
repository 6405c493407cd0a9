/-
  varint: the laws on writing and on reading, of arguments as they come in.
-/
import Derived.Test.YtidmcifckbpgbaaVrP
import Derived.Test.YtidmcifckbpgbaaVrF
namespace Go.Proofs.Ytidmcifckbpgbaa.vr
open Go.RowKit Go.Proofs.Ytidmcifckbpgbaa.mem

set_option maxRecDepth 100000 in
theorem pf_writes (H : Type) (enc : TypeId × Value → H) (W : World) {base : Nat} (v : Value) (d : DataW H) (p : List MemPlace) (k : DataW.Trod enc Try.prog W 0 (fun _ => true) true 28 v d p) (o : Value.okWide Try.prog W .any base 28 v) :
    Calls Try.prog 5 #[v] W (WorksPost W) := by
  obtain ⟨A, cap, l, rfl, hr, hm⟩ := puts_of v d p k o
  exact law_writes W A cap l hr hm

set_option maxRecDepth 100000 in
theorem pf_reads (H : Type) (enc : TypeId × Value → H) (W : World) {base : Nat} (s : ByteArray) (ws : s.size ≤ maxLen) (v : Value) (d : DataW H) (p : List MemPlace) (k : DataW.Trod enc Try.prog W 0 (fun _ => true) true 40 v d p) (o : Value.okWide Try.prog W .any base 40 v) :
    Calls Try.prog 6 #[.string s, v] W (WorksPost W) := by
  obtain ⟨A, cap, l, rfl, hr, _, hm⟩ := ints_of Try.underlying40 Try.underlying3 cInt k o
  exact law_reads s A cap l W hr hm ws
end Go.Proofs.Ytidmcifckbpgbaa.vr
