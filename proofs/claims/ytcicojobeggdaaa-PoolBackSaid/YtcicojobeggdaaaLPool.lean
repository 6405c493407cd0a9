/-
  pool: the laws of arguments as they come in.
-/
import Derived.Test.YtcicojobeggdaaaPoH
import Derived.Test.YtcicojobeggdaaaSz
namespace Go.Proofs.Ytcicojobeggdaaa.po
open Go.RowKit Go.Sort Go.Proofs.Ytcicojobeggdaaa.mem Go.Proofs.Ytcicojobeggdaaa.inn

theorem cStr : Try.prog.cellsOf 9 = 1 := by kernel_rfl

theorem enc_texts (l : List ByteArray) : l.map Value.string = (l.map fun x => x.data.toList).map encStr := by
  rw [List.map_map]
  refine List.map_congr_left fun x _ => ?_
  simp [encStr]

theorem enc_one1 (x : ByteArray) : Value.string x = encStr x.data.toList := by simp [encStr]

theorem reach_eq : reachBytes ≤ 140737488355328 := by decide

set_option maxRecDepth 100000 in
theorem pf_of (H : Type) (enc : TypeId × Value → H) (W : World) {base : Nat} (v : Value) (d : DataW H) (p : List MemPlace) (k : DataW.Trod enc Try.prog W 0 (fun _ => true) true 22 v d p) (o : Value.okWide Try.prog W .any base 22 v) (hw : ∀ n ∈ d.weights Try.prog 22, n ≤ reachBytes)
    (a : ByteArray) (wa : a.size ≤ maxLen) (ra : a.size ≤ reachBytes) :
    Calls Try.prog 3 #[v, .string a] W (WkPost W) := by
  obtain ⟨A, cap, l, rfl, hr, hx, hm⟩ := texts_sized Try.underlying22 Try.underlying9 cStr k o hw
  have h := law_of W A cap (l.map fun x => x.data.toList) a.data.toList (enc_texts l ▸ hr) (by simpa using hm) (fun x hx' => by
    obtain ⟨y, hy, rfl⟩ := List.mem_map.1 hx'
    have h1 := hx y hy
    have h2 := reach_eq
    rw [Array.length_toList]
    exact Nat.le_trans h1 h2)
  rw [List.length_map, ← enc_one1] at h
  exact h
end Go.Proofs.Ytcicojobeggdaaa.po
