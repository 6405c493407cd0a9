/-
  intern: the law on texts, of arguments as they come in.
-/
import Derived.Test.YtehieiddelngfaaInN
import Derived.Test.YtehieiddelngfaaPar
namespace Go.Proofs.Ytehieiddelngfaa.ins
open Go.RowKit Go.Shelf Go.Proofs.Ytehieiddelngfaa.mem Go.Proofs.Ytehieiddelngfaa.inn

theorem cStr : Try.prog.cellsOf 9 = 1 := by kernel_rfl

theorem enc_texts (l : List ByteArray) : l.map Value.string = (l.map fun x => x.data.toList).map encStr := by
  rw [List.map_map]
  refine List.map_congr_left fun x _ => ?_
  simp [encStr]

theorem wf_of {y : ByteArray} (h : y.size ≤ maxLen) : WF y.data.toList := by
  unfold WF
  rw [Array.length_toList]
  exact h

set_option maxRecDepth 100000 in
theorem pf_texts (H : Type) (enc : TypeId × Value → H) (W : World) {base : Nat} (v : Value) (d : DataW H) (p : List MemPlace) (k : DataW.Trod enc Try.prog W 0 (fun _ => true) true 22 v d p) (o : Value.okWide Try.prog W .any base 22 v)
    (v' : Value) (d' : DataW H) (p' : List MemPlace) (k' : DataW.Trod enc Try.prog W 0 (fun _ => true) true 22 v' d' p') (o' : Value.okWide Try.prog W .any base 22 v') (n : Int) (wn : (Lit.int .i64 n).wf = true) :
    Calls Try.prog 3 #[v, v', .int .i64 n] W (WorksPost W) := by
  obtain ⟨A, cap, l, rfl, hr, hw, hm⟩ := texts_of Try.underlying22 Try.underlying9 cStr k o
  obtain ⟨A', cap', l', rfl, hr', hw', hm'⟩ := texts_of Try.underlying22 Try.underlying9 cStr k' o'
  have h := law_texts W A A' cap cap' (l.map fun x => x.data.toList) (l'.map fun x => x.data.toList) n (enc_texts l ▸ hr) (enc_texts l' ▸ hr') (by simpa using hm) (by simpa using hm')
    (fun x hx => by obtain ⟨y, hy, rfl⟩ := List.mem_map.1 hx; exact wf_of (hw y hy)) (fun x hx => by obtain ⟨y, hy, rfl⟩ := List.mem_map.1 hx; exact wf_of (hw' y hy))
  rw [List.length_map, List.length_map] at h
  exact h
end Go.Proofs.Ytehieiddelngfaa.ins
