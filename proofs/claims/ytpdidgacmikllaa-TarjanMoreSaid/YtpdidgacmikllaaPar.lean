/-
  Arguments as the walks take them: slices of numbers, of texts, of structs of two numbers.
-/
import Derived.Test.YtpdidgacmikllaaMem
import Derived.OpenShut
import Derived.Deep.Slices
import Derived.SliceStrings
namespace Go.Proofs.Ytpdidgacmikllaa.mem
open Go.RowKit Go.ChangeShapes Go.WideShapes

theorem lt_of_cell {w : World} {a : Addr} {v : Value} (h : w.cell? a = some v) : a.block < w.heap.size := by
  unfold World.cell? at h
  rcases Nat.lt_or_ge a.block w.heap.size with h1 | h1
  · exact h1
  · rw [Array.getElem?_eq_none h1] at h; cases h

theorem rd_nil (w : World) (A : Option Addr) : Rd w A [] := fun h => by simp at h

/-- cells behind an address -/
theorem rd_of {w : World} {a : Addr} {vs : List Value} (h : ∀ j (hj : j < vs.length), w.cell? (a.add j) = some vs[j]) : Rd w (some a) vs := fun hz => by
  have h0 := h 0 hz
  obtain ⟨g, off, spot⟩ := a
  have hs : spot = none := by simpa [Addr.add] using World.cell?_spot h0
  subst hs
  refine ⟨g, off, rfl, by have := lt_of_cell h0; simpa [Addr.add] using this, fun j hj => ?_⟩
  have := h j hj
  rwa [Go.WideShapes.add_plain] at this

/-- a slice whose elements have one cell each -/
theorem row_of {P : Program} {t e : TypeId} {H : Type} {enc : TypeId × Value → H} {W : World} {v : Value} {d : DataW H} {ps : List MemPlace} {base : Nat} {α : Type} [Inhabited α] (f : α → Value) (Q : α → Prop)
    (ht : P.underlying t = some (.slice e)) (hc : P.cellsOf e = 1) (hf : ∀ (n : Nat) (u : Value) (y : DataW H × List MemPlace), DataW.trod enc P W 0 (fun _ => true) true n e [u] = some y → ∃ x, u = f x ∧ Q x)
    (k : DataW.Trod enc P W 0 (fun _ => true) true t v d ps) (o : Value.okWide P W .any base t v) : ∃ (A : Option Addr) (cap : Nat) (xs : List α), v = .slice A xs.length cap ∧ Rd W A (xs.map f) ∧ (∀ x ∈ xs, Q x) ∧ xs.length ≤ 9223372036854775807 := by
  obtain ⟨a0, len, cap, rfl⟩ := okWide_slice ht o
  obtain ⟨fuel, hk⟩ := k
  rcases Go.Deep.open_slice1 ht hc hk with ⟨hcs, _⟩ | ⟨a, l, c, m, n, V, D, Pl, hcs, _, hl, hm, hmm, _, hx⟩
  · simp [Value.cells] at hcs
    obtain ⟨rfl, rfl, rfl⟩ := hcs
    exact ⟨none, 0, [], rfl, rd_nil _ _, by simp, by simp⟩
  · simp [Value.cells] at hcs
    obtain ⟨rfl, rfl, rfl⟩ := hcs
    simp only [if_true] at hmm
    subst hmm
    obtain ⟨X, hX⟩ := Go.Deep.choose_lt (α := α) (p := fun i x => V i = f x ∧ Q x) (n := m) (fun i hi => hf n _ _ (hx i hi).2)
    refine ⟨some a, m, (List.range len).map X, by simp, rd_of (fun j hj => ?_), fun x hx' => ?_, by simp; unfold maxLen at hm; omega⟩
    · simp only [List.length_map, List.length_range] at hj
      rw [(hx j (by omega)).1, (hX j (by omega)).1]
      simp
    · obtain ⟨i, hi, rfl⟩ := List.mem_map.1 hx'
      exact (hX i (by have := List.mem_range.1 hi; omega)).2

theorem ints_of {P : Program} {t e : TypeId} {H : Type} {enc : TypeId × Value → H} {W : World} {v : Value} {d : DataW H} {ps : List MemPlace} {base : Nat} (ht : P.underlying t = some (.slice e)) (he : P.underlying e = some (.int .i64)) (hc : P.cellsOf e = 1)
    (k : DataW.Trod enc P W 0 (fun _ => true) true t v d ps) (o : Value.okWide P W .any base t v) : ∃ (A : Option Addr) (cap : Nat) (xs : List Int), v = .slice A xs.length cap ∧ Rd W A (xs.map (Value.int .i64)) ∧ (∀ x ∈ xs, (Lit.int .i64 x).wf = true) ∧ xs.length ≤ 9223372036854775807 :=
  row_of (Value.int .i64) (fun x => (Lit.int .i64 x).wf = true) ht hc (fun n u y h => by
    obtain ⟨x, hx, _, hw⟩ := DataW.trod_int he h
    simp only [List.cons.injEq, and_true] at hx
    exact ⟨x, hx, hw⟩) k o

theorem texts_of {P : Program} {t e : TypeId} {H : Type} {enc : TypeId × Value → H} {W : World} {v : Value} {d : DataW H} {ps : List MemPlace} {base : Nat} (ht : P.underlying t = some (.slice e)) (he : P.underlying e = some .string) (hc : P.cellsOf e = 1)
    (k : DataW.Trod enc P W 0 (fun _ => true) true t v d ps) (o : Value.okWide P W .any base t v) : ∃ (A : Option Addr) (cap : Nat) (xs : List ByteArray), v = .slice A xs.length cap ∧ Rd W A (xs.map Value.string) ∧ (∀ x ∈ xs, x.size ≤ maxLen) ∧ xs.length ≤ 9223372036854775807 := by
  have : Inhabited ByteArray := ⟨ByteArray.empty⟩
  exact row_of Value.string (fun x => x.size ≤ maxLen) ht hc (fun n u y h => by
    obtain ⟨x, hx, _, hw⟩ := DataW.trod_string he h
    simp only [List.cons.injEq, and_true] at hx
    exact ⟨x, hx, hw⟩) k o

/-- a slice whose elements have two cells each -/
theorem row2_of {P : Program} {t e : TypeId} {H : Type} {enc : TypeId × Value → H} {W : World} {v : Value} {d : DataW H} {ps : List MemPlace} {base : Nat} {α : Type} [Inhabited α] (f g : α → Value) (Q : α → Prop)
    (ht : P.underlying t = some (.slice e)) (hc : P.cellsOf e = 2) (hf : ∀ (n : Nat) (u v : Value) (y : DataW H × List MemPlace), DataW.trod enc P W 0 (fun _ => true) true n e [u, v] = some y → ∃ x, u = f x ∧ v = g x ∧ Q x)
    (k : DataW.Trod enc P W 0 (fun _ => true) true t v d ps) (o : Value.okWide P W .any base t v) : ∃ (A : Option Addr) (cap : Nat) (xs : List α), v = .slice A xs.length cap ∧ (0 < xs.length → ∃ b off, A = some ⟨b, off, none⟩ ∧ b < W.heap.size ∧ ∀ j (hj : j < xs.length), W.cell? ⟨b, off + j * 2, none⟩ = some (f xs[j]) ∧ W.cell? ⟨b, off + (j * 2 + 1), none⟩ = some (g xs[j])) ∧ (∀ x ∈ xs, Q x) ∧ xs.length ≤ 9223372036854775807 := by
  obtain ⟨a0, len, cap, rfl⟩ := okWide_slice ht o
  obtain ⟨fuel, hk⟩ := k
  rcases Go.Deep.open_slice ht hk with ⟨hcs, _⟩ | ⟨a, l, c, m, n, D, Pl, hcs, _, hl, hm, hmm, _, hx⟩
  · simp [Value.cells] at hcs
    obtain ⟨rfl, rfl, rfl⟩ := hcs
    exact ⟨none, 0, [], rfl, fun h => by simp at h, by simp, by simp⟩
  · simp [Value.cells] at hcs
    obtain ⟨rfl, rfl, rfl⟩ := hcs
    simp only [if_true] at hmm
    subst hmm
    rw [hc] at hx
    obtain ⟨X, hX⟩ := Go.Deep.choose_lt (α := α) (p := fun i x => W.cell? (a.add (i * 2)) = some (f x) ∧ W.cell? (a.add (i * 2 + 1)) = some (g x) ∧ Q x) (n := m) (fun i hi => by
      obtain ⟨cs', h1, h2⟩ := hx i hi
      obtain ⟨_, hcl, hat⟩ := World.cells?_some h1
      match cs', hcl with
      | [u, v], _ =>
        obtain ⟨x, rfl, rfl, hq⟩ := hf n _ _ _ h2
        have h0 := hat 0 (by omega)
        have h1 := hat 1 (by omega)
        rw [Go.Deep.add_add] at h0 h1
        exact ⟨x, by simpa using h0, by simpa using h1, hq⟩)
    refine ⟨some a, m, (List.range len).map X, by simp, fun hz => ?_, fun x hx' => ?_, by simp; unfold maxLen at hm; omega⟩
    · simp only [List.length_map, List.length_range] at hz
      have h0 := (hX 0 (by omega)).1
      obtain ⟨b, off, spot⟩ := a
      have hs : spot = none := by simpa [Addr.add] using World.cell?_spot h0
      subst hs
      refine ⟨b, off, rfl, by have := lt_of_cell h0; simpa [Addr.add] using this, fun j hj => ?_⟩
      simp only [List.length_map, List.length_range] at hj
      obtain ⟨h1, h2, _⟩ := hX j (by omega)
      rw [Go.WideShapes.add_plain] at h1 h2
      simpa using ⟨h1, h2⟩
    · obtain ⟨i, hi, rfl⟩ := List.mem_map.1 hx'
      exact (hX i (by have := List.mem_range.1 hi; omega)).2.2
end Go.Proofs.Ytpdidgacmikllaa.mem
