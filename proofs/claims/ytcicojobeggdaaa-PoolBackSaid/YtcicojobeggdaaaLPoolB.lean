/-
  pool: the law that a pool is read as it was, of arguments as they come in.
-/
import Derived.Test.YtcicojobeggdaaaPoM
import Derived.Test.YtcicojobeggdaaaLPool
namespace Go.Proofs.Ytcicojobeggdaaa.po
open Go.RowKit Go.Sort Go.Proofs.Ytcicojobeggdaaa.mem Go.Proofs.Ytcicojobeggdaaa.inn

theorem reach_of {a : ByteArray} (h : a.size ≤ reachBytes) : a.data.toList.length ≤ 140737488355328 := by
  have h2 := reach_eq
  rw [Array.length_toList]
  exact Nat.le_trans h h2

set_option maxRecDepth 100000 in
theorem pf_back (H : Type) (enc : TypeId × Value → H) (W : World) {base : Nat} (v : Value) (d : DataW H) (p : List MemPlace) (k : DataW.Trod enc Try.prog W 0 (fun _ => true) true 22 v d p) (o : Value.okWide Try.prog W .any base 22 v) (hw : ∀ n ∈ d.weights Try.prog 22, n ≤ reachBytes)
    (a : ByteArray) (wa : a.size ≤ maxLen) (ra : a.size ≤ reachBytes) (a' : ByteArray) (wa' : a'.size ≤ maxLen) (ra' : a'.size ≤ reachBytes) :
    Calls Try.prog 4 #[v, .string a, .string a'] W (WkPost W) := by
  obtain ⟨A, cap, l, rfl, hr, hx, hm⟩ := texts_sized Try.underlying22 Try.underlying9 cStr k o hw
  have h := law_back W A cap (l.map fun x => x.data.toList) a.data.toList a'.data.toList (enc_texts l ▸ hr) (by simpa using hm) (fun x hx' => by
    obtain ⟨y, hy, rfl⟩ := List.mem_map.1 hx'
    exact reach_of (hx y hy)) (reach_of ra) (reach_of ra')
  rw [List.length_map, ← enc_one1, ← enc_one1] at h
  exact h
end Go.Proofs.Ytcicojobeggdaaa.po
