import Derived.Test.YtdmmkjijgoiecaaWLRe1
set_option linter.all false
/-
  record: RecordBytes: of arguments as they come in.
-/
namespace Go.Proofs.Ytdmmkjijgoiecaa.re
open Go.RowKit Go.ChangeShapes Go.WideShapes Go.Proofs.Ytdmmkjijgoiecaa.mem Go.Proofs.Ytdmmkjijgoiecaa.sy

set_option maxRecDepth 100000 in
theorem reach_RB : reachBytes = RB := of_decide_eq_true (by kernel_rfl)

set_option maxRecDepth 100000 in
theorem txts_of {H : Type} {enc : TypeId × Value → H} {W : World} {base : Nat} {v : Value} {d : DataW H} {p : List MemPlace} (k : DataW.Trod enc Try.prog W 0 (fun _ => true) true 22 v d p) (o : Value.okWide Try.prog W .any base 22 v) (hw : ∀ n ∈ d.weights Try.prog 22, n ≤ reachBytes) :
    ∃ (A : Option Addr) (cap : Nat) (l : List ByteArray), v = .slice A l.length cap ∧ Rd W A ((l.map tx).map encStr) ∧ l.length ≤ maxLen ∧ (∀ s ∈ l, s.size ≤ maxLen) := by
  obtain ⟨a0, len, cap, rfl⟩ := okWide_slice Try.underlying22 o
  obtain ⟨fuel, hk⟩ := k
  obtain ⟨A, c2, l, he, hr, hl, _, hs, _⟩ := txts_el (B := reachBytes) (c := .slice a0 len cap) hk hw
  injection he with e1 e2 e3
  subst e1 e2 e3
  exact ⟨a0, cap, l, rfl, by rw [map_tx]; exact hr, hl, fun s h => (hs s h).1⟩

set_option maxRecDepth 100000 in
theorem pf_bytes (H : Type) (enc : TypeId × Value → H) (W : World) {base base2 : Nat} (v : Value) (d : DataW H) (p : List MemPlace) (k : DataW.Trod enc Try.prog W 0 (fun _ => true) true 29 v d p) (o : Value.okWide Try.prog W .any base 29 v) (hw : ∀ n ∈ d.weights Try.prog 29, n ≤ reachBytes)
    (v2 : Value) (d2 : DataW H) (p2 : List MemPlace) (k2 : DataW.Trod enc Try.prog W 0 (fun _ => true) true 22 v2 d2 p2) (o2 : Value.okWide Try.prog W .any base2 22 v2) (hw2 : ∀ n ∈ d2.weights Try.prog 22, n ≤ reachBytes) :
    Calls Try.prog 3 #[v, v2] W (WkP W) := by
  obtain ⟨u, rfl, hs, hb⟩ := sum_of (B := RB) v d p k o (fun n hn => by rw [← reach_RB]; exact hw n hn)
  obtain ⟨A, cap, l, rfl, hr, hl, _⟩ := txts_of k2 o2 hw2
  have h := law_bytes u A cap (l.map tx) W hs hb hr (by rw [List.length_map]; exact hl)
  rw [List.length_map] at h
  exact h
end Go.Proofs.Ytdmmkjijgoiecaa.re
