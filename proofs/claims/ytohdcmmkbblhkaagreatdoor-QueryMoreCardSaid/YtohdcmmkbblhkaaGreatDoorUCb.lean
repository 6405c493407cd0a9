import Derived.Test.YtohdcmmkbblhkaaGreatDoorV01
import Derived.Sort.OwnSorted
import Derived.Lib.RowBridge
/-
  A row of a block's own, copied, sorted: whatever its elements are.
-/
set_option linter.all false
namespace Go.Proofs.YtohdcmmkbblhkaaGreatDoor.cb
open Go.RowKit Go.Sort Go.Proofs.YtohdcmmkbblhkaaGreatDoor.mem

section
variable {α : Type} [Inhabited α] (enc : α → Value)

theorem heap_put {w : World} {g n : Nat} {os : Array Obj} {cur : Array Value} {e : TypeId} {fr : Nat × Nat} (d : Array α) (hb : w.heap[g]? = some (.cells cur e fr)) :
    (grow (putRow enc (Sort.ahead w n) g 0 d) os).heap[g]? = some (.cells (putCells enc 0 d cur) e fr) := by
  have hg : g < w.heap.size := (Array.getElem?_eq_some_iff.1 hb).1
  rw [heap_grow_old _ _ (by simpa using hg)]
  simp [putRow, mapBlock, Sort.ahead, Array.getElem?_modify, hb, onCells]

theorem put_fr (w : World) (n g off : Nat) (d : Array α) (os : Array Obj) : Fr [g] w (grow (putRow enc (Sort.ahead w n) g off d) os) := by
  refine ⟨rfl, rfl, rfl, by simp [grow], fun k hk hne => ?_⟩
  rw [heap_grow_old _ _ (by simpa using hk)]
  have : g ≠ k := fun e => hne (by rw [e]; simp)
  simp [putRow, mapBlock, Sort.ahead, Array.getElem?_modify, this]

theorem take_put (cur : Array Value) (ts : List α) (h : ts.length ≤ cur.size) : (putCells enc 0 ts.toArray cur).toList.take ts.length = ts.map enc := by
  apply List.ext_getElem?
  intro j
  by_cases hj : j < ts.length
  · rw [List.getElem?_take_of_lt hj, Array.getElem?_toList]
    simp [putCells, hj, show j < cur.size by omega]
  · rw [List.getElem?_take_eq_none (by omega), List.getElem?_eq_none (by simp; omega)]

theorem holds_of {w : World} {g : Nat} {cur : Array Value} {e : TypeId} {ss : List α} (hb : w.heap[g]? = some (.cells cur e (0, 0))) (ht : cur.toList.take ss.length = ss.map enc) : Holds enc w g 0 ss.toArray := by
  intro j hj
  have hj' : j < ss.length := by simpa using hj
  refine ⟨?_, by simp [World.frozen?, hb]⟩
  have h1 : (cur.toList.take ss.length)[j]? = (ss.map enc)[j]? := by rw [ht]
  rw [List.getElem?_take_of_lt hj'] at h1
  simp only [World.cell?, hb, Nat.zero_add]
  simp only [Option.isSome_none, Bool.false_eq_true, if_false]
  rw [← Array.getElem?_toList, h1]
  simp [hj']

end

section
variable {α : Type} (enc : α → Value)

/-- a row of a block's own -/
structure CB (e : TypeId) (w : World) (g cap : Nat) (xs : List α) : Prop where
  ex : ∃ cur, w.heap[g]? = some (.cells cur e (0, 0)) ∧ cur.size = cap ∧ cur.toList.take xs.length = xs.map enc
  le : xs.length ≤ cap
  max : cap ≤ maxLen

theorem CB.lt {e : TypeId} {w : World} {g cap : Nat} {xs : List α} (h : CB enc e w g cap xs) : g < w.heap.size := by
  obtain ⟨cur, hb, _⟩ := h.ex
  exact (Array.getElem?_eq_some_iff.1 hb).1

theorem CB.kept {e : TypeId} {w w' : World} {g cap : Nat} {xs : List α} (h : CB enc e w g cap xs) (hb : w'.heap[g]? = w.heap[g]?) : CB enc e w' g cap xs := by
  obtain ⟨cur, h1, h2, h3⟩ := h.ex
  exact ⟨⟨cur, hb.trans h1, h2, h3⟩, h.le, h.max⟩

theorem CB.cut {e : TypeId} {w : World} {g cap : Nat} {xs ys : List α} (h : CB enc e w g cap (xs ++ ys)) : CB enc e w g cap xs := by
  obtain ⟨cur, h1, h2, h3⟩ := h.ex
  have hl := h.le
  rw [List.length_append] at hl
  refine ⟨⟨cur, h1, h2, ?_⟩, by omega, h.max⟩
  have := congrArg (List.take xs.length) h3
  rw [List.take_take, List.length_append, Nat.min_eq_left (by omega), List.map_append, List.take_left' (by simp)] at this
  exact this

theorem cb_of_own {e : TypeId} {w : World} {B n : Nat} {v : Value} {xs : List α} (h : w.ownsRow B e 1 v n (xs.map enc)) (hv : v ≠ .slice none 0 0) : ∃ g cap, v = .slice (some ⟨g, 0, none⟩) n cap ∧ B ≤ g ∧ CB enc e w g cap xs := by
  obtain ⟨h0, h | ⟨g, cap, cur, rfl, hb, hh, h1, h2, h3, h4⟩⟩ := h
  · exact absurd h.1 hv
  · have hn : xs.length = n := by simpa using h0
    refine ⟨g, cap, rfl, hb, ⟨cur, hh, by omega, by rw [Nat.mul_one] at h4; rw [hn]; exact h4⟩, by omega, h2⟩
end

section
variable {α : Type} [Inhabited α] (enc : α → Value)

theorem CB.holds {e : TypeId} {w : World} {g cap : Nat} {xs : List α} (h : CB enc e w g cap xs) : Holds enc w g 0 xs.toArray := by
  obtain ⟨cur, hb, _, ht⟩ := h.ex
  exact holds_of enc hb ht

theorem CB.cell {e : TypeId} {w : World} {g cap : Nat} {xs : List α} (h : CB enc e w g cap xs) (j : Nat) (hj : j < xs.length) : w.cell? ⟨g, j, none⟩ = some (enc xs[j]) := by
  have := (h.holds enc j (by simpa using hj)).1
  simpa [hj] using this

theorem CB.put {e : TypeId} {w : World} {g cap n : Nat} {xs ys : List α} {os : Array Obj} (h : CB enc e w g cap xs) (hl : ys.length = xs.length) : CB enc e (grow (putRow enc (Sort.ahead w n) g 0 ys.toArray) os) g cap ys := by
  obtain ⟨cur, h1, h2, h3⟩ := h.ex
  refine ⟨⟨_, heap_put enc _ h1, by simp [putCells, h2], take_put enc cur ys (by have := h.le; omega)⟩, by have := h.le; omega, h.max⟩

end

theorem CB.seg {α : Type} {enc : α → Value} {e : TypeId} {w : World} {g cap : Nat} {xs : List α} (h : CB enc e w g cap xs) : Seg w e (some ⟨g, 0, none⟩) cap (xs.map enc) := by
  obtain ⟨cur, h1, h2, h3⟩ := h.ex
  refine ⟨by simpa using h.le, h.max, fun hn => (by cases hn), fun a ha => ?_⟩
  cases ha
  refine ⟨rfl, cur, h1, by show 0 + cap ≤ cur.size; omega, fun j u hu => ?_⟩
  have hj : j < xs.length := by have := (List.getElem?_eq_some_iff.1 hu).1; simpa using this
  have h4 := congrArg (fun l => l[j]?) h3
  simp only [List.getElem?_take_of_lt hj, Array.getElem?_toList] at h4
  show cur[0 + j]? = some u
  rw [Nat.zero_add, h4, hu]
end Go.Proofs.YtohdcmmkbblhkaaGreatDoor.cb
