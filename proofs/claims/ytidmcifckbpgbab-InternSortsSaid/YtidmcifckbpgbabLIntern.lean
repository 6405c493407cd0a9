/-
  intern: the law on what is sorted, of arguments as they come in.
-/
import Derived.Test.YtidmcifckbpgbabInD
import Derived.Test.YtidmcifckbpgbabPar
namespace Go.Proofs.Ytidmcifckbpgbab.inn
open Go.RowKit Go.Shelf Go.Proofs.Ytidmcifckbpgbab.mem

theorem cStr : Try.prog.cellsOf 9 = 1 := by kernel_rfl

theorem enc_texts (l : List ByteArray) : l.map Value.string = (l.map fun x => x.data.toList).map encStr := by
  rw [List.map_map]
  refine List.map_congr_left fun x _ => ?_
  simp [encStr]

set_option maxRecDepth 100000 in
theorem pf_sorts (H : Type) (enc : TypeId × Value → H) (W : World) {base : Nat} (v : Value) (d : DataW H) (p : List MemPlace) (k : DataW.Trod enc Try.prog W 0 (fun _ => true) true 22 v d p) (o : Value.okWide Try.prog W .any base 22 v) :
    Calls Try.prog 4 #[v] W (WorksPost W) := by
  obtain ⟨A, cap, l, rfl, hr, _, hm⟩ := texts_of Try.underlying22 Try.underlying9 cStr k o
  have h := law_sorts W A cap (l.map fun x => x.data.toList) (enc_texts l ▸ hr) (by simpa using hm)
  rw [List.length_map] at h
  exact h
end Go.Proofs.Ytidmcifckbpgbab.inn
