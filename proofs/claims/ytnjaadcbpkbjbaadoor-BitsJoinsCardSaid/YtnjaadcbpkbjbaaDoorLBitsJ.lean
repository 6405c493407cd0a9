/-
  Bits: the law of joining, of arguments as they come in.
-/
import Derived.Test.YtnjaadcbpkbjbaaDoorBtLx
import Derived.Test.YtnjaadcbpkbjbaaDoorLBits
namespace Go.Proofs.YtnjaadcbpkbjbaaDoor.bt
open Go.RowKit Go.Proofs.YtnjaadcbpkbjbaaDoor.mem

set_option maxRecDepth 100000 in
theorem pf_joins (H : Type) (enc : TypeId × Value → H) (W : World) {base : Nat} (v : Value) (d : DataW H) (p : List MemPlace) (k : DataW.Trod enc Tryd.prog W 0 (fun _ => true) true 27 v d p) (o : Value.okWide Tryd.prog W .any base 27 v) (v' : Value) (d' : DataW H) (p' : List MemPlace) (k' : DataW.Trod enc Tryd.prog W 0 (fun _ => true) true 27 v' d' p') (o' : Value.okWide Tryd.prog W .any base 27 v') (stop : Int) (ws : (Lit.int .i64 stop).wf = true) (ht : Lib.TabIs Tryd.prog W "math/bits.deBruijn64tab" .u8 (Lib.deBruijn64tab.map Int.ofNat)) :
    Calls Tryd.prog 4 #[v, v', .int .i64 stop] W (DoesPost W) := by
  obtain ⟨A, cap, l, rfl, hr, _, hm⟩ := ints_of Tryd.underlying27 Tryd.underlying3 cInt k o
  obtain ⟨A', cap', l', rfl, hr', _, hm'⟩ := ints_of Tryd.underlying27 Tryd.underlying3 cInt k' o'
  have hT := tab_of ht
  exact law_joins A A' cap cap' l l' stop W hr hr' hm hm' hT (lt_of_cell (hT 0 (by decide)))
end Go.Proofs.YtnjaadcbpkbjbaaDoor.bt
