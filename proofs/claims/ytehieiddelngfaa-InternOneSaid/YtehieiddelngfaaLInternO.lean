/-
  intern: the law on numbers, of arguments as they come in.
-/
import Derived.Test.YtehieiddelngfaaInR
import Derived.Test.YtehieiddelngfaaPar
namespace Go.Proofs.Ytehieiddelngfaa.inn
open Go.RowKit Go.Shelf Go.Sort Go.Proofs.Ytehieiddelngfaa.mem

theorem cInt : Try.prog.cellsOf 3 = 1 := by kernel_rfl

set_option maxRecDepth 100000 in
theorem pf_one (H : Type) (enc : TypeId × Value → H) (W : World) {base : Nat} (v : Value) (d : DataW H) (p : List MemPlace) (k : DataW.Trod enc Try.prog W 0 (fun _ => true) true 39 v d p) (o : Value.okWide Try.prog W .any base 39 v) (n : Int) (wn : (Lit.int .i64 n).wf = true) :
    Calls Try.prog 5 #[v, .int .i64 n] W (OnePost W) := by
  obtain ⟨A, cap, l, rfl, hr, hw, hm⟩ := ints_of Try.underlying39 Try.underlying3 cInt k o
  exact law_one W A cap l n hr hm hw wn
end Go.Proofs.Ytehieiddelngfaa.inn
