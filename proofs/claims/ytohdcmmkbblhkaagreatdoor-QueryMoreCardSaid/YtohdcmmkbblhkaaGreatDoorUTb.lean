import Derived.Test.YtohdcmmkbblhkaaGreatDoorV01
import Derived.OpenShut
import Derived.Deep.Slices
import Derived.SizedLaws
/-
  Arguments: slices whose elements have several cells each, nested; with what the row says of their weights.
-/
set_option linter.all false
namespace Go.Proofs.YtohdcmmkbblhkaaGreatDoor.wd
open Go.RowKit Go.ChangeShapes Go.WideShapes Go.Proofs.YtohdcmmkbblhkaaGreatDoor.mem

/-- rows of some cells each, one behind another -/
def Tbl (w : World) (A : Option Addr) (sz : Nat) (rows : List (List Value)) : Prop := 0 < rows.length → ∃ b off, A = some ⟨b, off, none⟩ ∧ b < w.heap.size ∧ ∀ (j : Nat) (hj : j < rows.length) (i : Nat) (v : Value), rows[j][i]? = some v → w.cell? ⟨b, off + j * sz + i, none⟩ = some v

theorem Tbl.below {w w' : World} {A : Option Addr} {sz : Nat} {rows : List (List Value)} (h : Tbl w A sz rows) (hb : Below w.heap.size w w') : Tbl w' A sz rows := fun hz => by
  obtain ⟨b, off, e, hl, hc⟩ := h hz
  exact ⟨b, off, e, Nat.lt_of_lt_of_le hl hb.size, fun j hj i v hv => (hb.cell (p := ⟨b, off + j * sz + i, none⟩) hl).trans (hc j hj i v hv)⟩

/-- an element's cells -/
theorem Tbl.row {w : World} {A : Option Addr} {sz : Nat} {α : Type} {f : α → List Value} {xs : List α} (h : Tbl w A sz (xs.map f)) {j : Nat} (hj : j < xs.length) : ∃ b off, A = some ⟨b, off, none⟩ ∧ b < w.heap.size ∧ ∀ i v, (f xs[j])[i]? = some v → w.cell? ⟨b, off + j * sz + i, none⟩ = some v := by
  obtain ⟨b, off, e, hl, hc⟩ := h (by rw [List.length_map]; omega)
  exact ⟨b, off, e, hl, fun i v hv => hc j (by rw [List.length_map]; exact hj) i v (by rw [List.getElem_map]; exact hv)⟩

theorem block_of_cell {w : World} {a : Addr} {v : Value} (h : w.cell? a = some v) : a.block < w.heap.size := by
  unfold World.cell? at h
  rcases Nat.lt_or_ge a.block w.heap.size with h1 | h1
  · exact h1
  · rw [Array.getElem?_eq_none h1] at h; cases h

theorem mem_all {H : Type} {P : Program} {e : TypeId} : ∀ {l : List (DataW H)} {d : DataW H}, d ∈ l → ∀ n ∈ d.weights P e, n ∈ DataW.weightsAll P e l
  | [], d, h, _, _ => by simp at h
  | x :: l, d, h, n, hn => by
    simp only [DataW.weightsAll, List.mem_append]
    rcases List.mem_cons.1 h with rfl | h
    · exact Or.inl hn
    · exact Or.inr (mem_all h n hn)

theorem wide_of {P : Program} {t e : TypeId} {H : Type} {enc : TypeId × Value → H} {W : World} {fuel : Nat} {u : Value} {x : DataW H × List MemPlace} {α : Type} [Inhabited α] {B sz : Nat} (row : α → List Value) (Q : α → Prop)
    (ht : P.underlying t = some (.slice e)) (hc : P.cellsOf e = sz) (hz : 0 < sz) (hr : ∀ x, (row x).length = sz)
    (hf : ∀ (n : Nat) (cs : List Value) (y : DataW H × List MemPlace), DataW.trod enc P W 0 (fun _ => true) true n e cs = some y → cs.length = sz → (∀ m ∈ y.1.weights P e, m ≤ B) → ∃ x, cs = row x ∧ Q x)
    (h : DataW.trod enc P W 0 (fun _ => true) true fuel t [u] = some x) (hw : ∀ m ∈ x.1.weights P t, m ≤ B) :
    ∃ (A : Option Addr) (cap : Nat) (xs : List α), u = .slice A xs.length cap ∧ Tbl W A sz (xs.map row) ∧ (∀ x ∈ xs, Q x) ∧ xs.length ≤ cap ∧ cap ≤ maxLen ∧ xs.length * P.bytesOf e ≤ B := by
  rcases Go.Deep.open_slice ht h with ⟨hcs, _⟩ | ⟨a, l, c, m, n, D, Pl, hcs, _, hl, hm, hmm, hxd, hx⟩
  · simp only [List.cons.injEq, and_true] at hcs
    subst hcs
    exact ⟨none, 0, [], rfl, fun h => by simp at h, by simp, Nat.le_refl _, Nat.zero_le _, by simp⟩
  · simp only [List.cons.injEq, and_true] at hcs
    subst hcs
    simp only [if_true] at hmm
    subst hmm
    have hd : x.1 = .slice ((List.range l).map D) ((List.range (m - l)).map fun j => D (l + j)) := congrArg Prod.fst hxd
    rw [hd] at hw
    simp only [DataW.weights, ht, List.mem_cons, List.mem_append, List.length_map, List.length_range] at hw
    have hwd : ∀ i, i < m → ∀ q ∈ (D i).weights P e, q ≤ B := fun i hi q hq => by
      rcases Nat.lt_or_ge i l with h1 | h1
      · exact hw q (Or.inr (Or.inl (mem_all (List.mem_map.2 ⟨i, List.mem_range.2 h1, rfl⟩) q hq)))
      · exact hw q (Or.inr (Or.inr (mem_all (List.mem_map.2 ⟨i - l, List.mem_range.2 (by omega), by rw [show l + (i - l) = i by omega]⟩) q hq)))
    have hb := hw _ (Or.inl rfl)
    rw [show l + (m - l) = m by omega] at hb
    rw [hc] at hx
    obtain ⟨X, hX⟩ := Go.Deep.choose_lt (α := α) (p := fun i x => (∀ (j : Nat) (v : Value), (row x)[j]? = some v → W.cell? (a.add (i * sz + j)) = some v) ∧ Q x) (n := m) (fun i hi => by
      obtain ⟨cs', h1, h2⟩ := hx i hi
      obtain ⟨_, hcl, hat⟩ := World.cells?_some h1
      obtain ⟨x, rfl, hq⟩ := hf n _ _ h2 hcl (hwd i hi)
      refine ⟨x, fun j v hv => ?_, hq⟩
      have hj : j < sz := by rw [← hcl]; exact (List.getElem?_eq_some_iff.1 hv).1
      have h0 := hat j hj
      rw [Go.Deep.add_add] at h0
      rw [h0, ← hv])
    refine ⟨some a, m, (List.range l).map X, by simp, fun hzz => ?_, fun x hx' => ?_, by simpa using hl, hm, ?_⟩
    · simp only [List.length_map, List.length_range] at hzz
      obtain ⟨v0, hv0⟩ : ∃ v, (row (X 0))[0]? = some v := ⟨_, List.getElem?_eq_getElem (by rw [hr]; exact hz)⟩
      have h0 := (hX 0 (by omega)).1 0 v0 hv0
      obtain ⟨b, off, spot⟩ := a
      have hs : spot = none := by simpa [Addr.add] using World.cell?_spot h0
      subst hs
      refine ⟨b, off, rfl, by have := block_of_cell h0; simpa [Addr.add] using this, fun j hj i v hv => ?_⟩
      simp only [List.length_map, List.length_range] at hj
      have hv2 : (row (X j))[i]? = some v := by simpa using hv
      have := (hX j (by omega)).1 i v hv2
      rwa [Go.WideShapes.add_plain, ← Nat.add_assoc] at this
    · obtain ⟨i, hi, rfl⟩ := List.mem_map.1 hx'
      exact (hX i (by have := List.mem_range.1 hi; omega)).2
    · simp only [List.length_map, List.length_range]
      exact Nat.le_trans (Nat.mul_le_mul_right _ hl) hb

/-- a struct's field -/
theorem fld {P : Program} {e : TypeId} {H : Type} {enc : TypeId × Value → H} {W : World} {tys : List (TypeId × Nat)} (hq : (P.fieldsOf e).toList.map (fun f => (f.type, f.offset)) = tys) {ys : List (DataW H × List MemPlace)} {n : Nat} {cs : List Value} (hl : ys.length = (P.fieldsOf e).size)
    (hf : ∀ (i : Nat) (f : Field), (P.fieldsOf e)[i]? = some f → DataW.trod enc P W 0 (fun _ => true) true n f.type ((cs.drop f.offset).take (P.cellsOf f.type)) = ys[i]?) (hu : P.underlying e = some (.struct (P.fieldsOf e))) {B : Nat} (hw : ∀ m ∈ (DataW.agg (ys.map (·.1))).weights P e, m ≤ B)
    (i : Nat) (t : TypeId) (o : Nat) (hi : tys[i]? = some (t, o)) : ∃ y, DataW.trod enc P W 0 (fun _ => true) true n t ((cs.drop o).take (P.cellsOf t)) = some y ∧ ∀ m ∈ y.1.weights P t, m ≤ B := by
  rw [← hq, List.getElem?_map] at hi
  obtain ⟨f, h1, h2⟩ := Option.map_eq_some_iff.1 hi
  rw [Array.getElem?_toList] at h1
  simp only [Prod.mk.injEq] at h2
  have hlt : i < ys.length := by rw [hl]; exact (Array.getElem?_eq_some_iff.1 h1).1
  have h3 := hf i f h1
  rw [h2.1, h2.2, List.getElem?_eq_getElem hlt] at h3
  refine ⟨ys[i], h3, fun m hm => hw m ?_⟩
  simp only [DataW.weights, hu]
  exact DataW.weights_mem_each (j := i) (t := t) (d := ys[i].1) (by rw [List.getElem?_map, Array.getElem?_toList, h1]; simp [h2.1]) (by rw [List.getElem?_map, List.getElem?_eq_getElem hlt]; rfl) m hm
end Go.Proofs.YtohdcmmkbblhkaaGreatDoor.wd
