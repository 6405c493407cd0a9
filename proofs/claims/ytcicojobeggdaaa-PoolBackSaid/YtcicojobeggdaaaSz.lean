/-
  Arguments with what the row says of their weights: texts in a slice are within the reach.
-/
import Derived.Test.YtcicojobeggdaaaPar
import Derived.SizedLaws
namespace Go.Proofs.Ytcicojobeggdaaa.mem
open Go.RowKit Go.ChangeShapes Go.WideShapes

theorem mem_weightsAll {H : Type} {P : Program} {e : TypeId} : ∀ {l : List (DataW H)} {d : DataW H}, d ∈ l → ∀ n ∈ d.weights P e, n ∈ DataW.weightsAll P e l
  | [], d, h, _, _ => by simp at h
  | x :: l, d, h, n, hn => by
    simp only [DataW.weightsAll, List.mem_append]
    rcases List.mem_cons.1 h with rfl | h
    · exact Or.inl hn
    · exact Or.inr (mem_weightsAll h n hn)

/-- a slice whose elements have one cell each, with their data -/
theorem rowD_of {P : Program} {t e : TypeId} {H : Type} {enc : TypeId × Value → H} {W : World} {v : Value} {d : DataW H} {ps : List MemPlace} {base : Nat} {α : Type} [Inhabited α] (f : α → Value) (Q : α → DataW H → Prop)
    (ht : P.underlying t = some (.slice e)) (hc : P.cellsOf e = 1) (hf : ∀ (n : Nat) (u : Value) (y : DataW H × List MemPlace), DataW.trod enc P W 0 (fun _ => true) true n e [u] = some y → ∃ x, u = f x ∧ Q x y.1)
    (k : DataW.Trod enc P W 0 (fun _ => true) true t v d ps) (o : Value.okWide P W .any base t v) : ∃ (A : Option Addr) (cap : Nat) (xs : List α), v = .slice A xs.length cap ∧ Rd W A (xs.map f) ∧ (∀ x ∈ xs, ∃ dd, Q x dd ∧ ∀ n ∈ dd.weights P e, n ∈ d.weights P t) ∧ xs.length ≤ 9223372036854775807 := by
  obtain ⟨a0, len, cap, rfl⟩ := okWide_slice ht o
  obtain ⟨fuel, hk⟩ := k
  rcases Go.Deep.open_slice1 ht hc hk with ⟨hcs, _⟩ | ⟨a, l, c, m, n, V, D, Pl, hcs, _, hl, hm, hmm, hxd, hx⟩
  · simp [Value.cells] at hcs
    obtain ⟨rfl, rfl, rfl⟩ := hcs
    exact ⟨none, 0, [], rfl, rd_nil _ _, by simp, by simp⟩
  · simp [Value.cells] at hcs
    obtain ⟨rfl, rfl, rfl⟩ := hcs
    simp only [if_true] at hmm
    subst hmm
    have hd : d = .slice ((List.range len).map D) ((List.range (m - len)).map fun j => D (len + j)) := congrArg Prod.fst hxd
    obtain ⟨X, hX⟩ := Go.Deep.choose_lt (α := α) (p := fun i x => V i = f x ∧ Q x (D i)) (n := m) (fun i hi => hf n _ _ (hx i hi).2)
    refine ⟨some a, m, (List.range len).map X, by simp, rd_of (fun j hj => ?_), fun x hx' => ?_, by simp; unfold maxLen at hm; omega⟩
    · simp only [List.length_map, List.length_range] at hj
      rw [(hx j (by omega)).1, (hX j (by omega)).1]
      simp
    · obtain ⟨i, hi, rfl⟩ := List.mem_map.1 hx'
      have hi := List.mem_range.1 hi
      refine ⟨D i, (hX i (by omega)).2, fun n hn => ?_⟩
      rw [hd]
      simp only [DataW.weights, ht, List.mem_cons, List.mem_append]
      exact Or.inr (Or.inl (mem_weightsAll (List.mem_map.2 ⟨i, List.mem_range.2 hi, rfl⟩) n hn))

theorem texts_sized {P : Program} {t e : TypeId} {H : Type} {enc : TypeId × Value → H} {W : World} {v : Value} {d : DataW H} {ps : List MemPlace} {base : Nat} (ht : P.underlying t = some (.slice e)) (he : P.underlying e = some .string) (hc : P.cellsOf e = 1)
    (k : DataW.Trod enc P W 0 (fun _ => true) true t v d ps) (o : Value.okWide P W .any base t v) (hw : ∀ n ∈ d.weights P t, n ≤ reachBytes) : ∃ (A : Option Addr) (cap : Nat) (xs : List ByteArray), v = .slice A xs.length cap ∧ Rd W A (xs.map Value.string) ∧ (∀ x ∈ xs, x.size ≤ reachBytes) ∧ xs.length ≤ 9223372036854775807 := by
  have : Inhabited ByteArray := ⟨ByteArray.empty⟩
  obtain ⟨A, cap, xs, h1, h2, h3, h4⟩ := rowD_of Value.string (fun x dd => dd = .lit (.string x.data.toList)) ht hc (fun n u y h => by
    obtain ⟨x, hx, hd, hw⟩ := DataW.trod_string he h
    simp only [List.cons.injEq, and_true] at hx
    exact ⟨x, hx, by rw [hd]⟩) k o
  refine ⟨A, cap, xs, h1, h2, fun x hx => ?_, h4⟩
  obtain ⟨dd, rfl, h⟩ := h3 x hx
  have := hw x.data.toList.length (h _ (by simp [DataW.weights]))
  rw [Array.length_toList] at this
  exact this
end Go.Proofs.Ytcicojobeggdaaa.mem
