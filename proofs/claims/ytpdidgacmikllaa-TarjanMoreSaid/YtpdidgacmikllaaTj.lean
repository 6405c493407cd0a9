/-
  tarjan: what leads to what, plain: the closure by middle members, its laws.
-/
import Derived.Test.YtpdidgacmikllaaRows
namespace Go.Proofs.Ytpdidgacmikllaa.tj

/-- by members below k in the middle -/
def rk (E : List (Nat × Nat)) : Nat → Nat → Nat → Bool
  | 0, i, j => i == j || E.contains (i, j)
  | k + 1, i, j => rk E k i j || (rk E k i k && rk E k k j)

theorem rk_refl (E : List (Nat × Nat)) : ∀ k i, rk E k i i = true
  | 0, i => by simp [rk]
  | k + 1, i => by simp [rk, rk_refl E k i]

theorem rk_edge {E : List (Nat × Nat)} {i j : Nat} (h : (i, j) ∈ E) : ∀ k, rk E k i j = true
  | 0 => by simp [rk, h]
  | k + 1 => by simp [rk, rk_edge h k]

theorem rk_trans_lt {E : List (Nat × Nat)} : ∀ k {i j l : Nat}, j < k → rk E k i j = true → rk E k j l = true → rk E k i l = true
  | 0, _, _, _, h, _, _ => by omega
  | k + 1, i, j, l, hj, h1, h2 => by
    simp only [rk, Bool.or_eq_true, Bool.and_eq_true] at *
    by_cases e : j = k
    · subst e
      have a : rk E j i j = true := by rcases h1 with h | h; exact h; exact h.1
      have b : rk E j j l = true := by rcases h2 with h | h; exact h; exact h.2
      exact Or.inr ⟨a, b⟩
    · have hk : j < k := by omega
      rcases h1 with h1 | h1 <;> rcases h2 with h2 | h2
      · exact Or.inl (rk_trans_lt k hk h1 h2)
      · exact Or.inr ⟨rk_trans_lt k hk h1 h2.1, h2.2⟩
      · exact Or.inr ⟨h1.1, rk_trans_lt k hk h1.2 h2⟩
      · exact Or.inr ⟨h1.1, h2.2⟩

/-- what is closed under edges is closed under leading -/
theorem rk_closed {E : List (Nat × Nat)} {X : Nat → Prop} (hX : ∀ a b, (a, b) ∈ E → X a → X b) : ∀ k {i j : Nat}, X i → rk E k i j = true → X j
  | 0, i, j, hi, h => by
    simp only [rk, Bool.or_eq_true, beq_iff_eq, List.contains_iff_mem] at h
    rcases h with rfl | h
    · exact hi
    · exact hX i j h hi
  | k + 1, i, j, hi, h => by
    simp only [rk, Bool.or_eq_true, Bool.and_eq_true] at h
    rcases h with h | h
    · exact rk_closed hX k hi h
    · exact rk_closed hX k (rk_closed hX k hi h.1) h.2

/-- a graph: its members are those below n; its edges are between members -/
structure G where
  n : Nat
  E : List (Nat × Nat)

def G.ok (g : G) : Prop := ∀ x ∈ g.E, x.1 < g.n ∧ x.2 < g.n
def G.R (g : G) (i j : Nat) : Bool := rk g.E g.n i j

theorem G.refl (g : G) (i : Nat) : g.R i i = true := rk_refl _ _ _
theorem G.edge (g : G) {i j : Nat} (h : (i, j) ∈ g.E) : g.R i j = true := rk_edge h _
theorem G.trans (g : G) {i j l : Nat} (hj : j < g.n) (h1 : g.R i j = true) (h2 : g.R j l = true) : g.R i l = true := rk_trans_lt _ hj h1 h2
theorem G.closed (g : G) {X : Nat → Prop} (hX : ∀ a b, (a, b) ∈ g.E → X a → X b) {i j : Nat} (hi : X i) (h : g.R i j = true) : X j := rk_closed hX _ hi h
/-- to a member only members lead, and from one -/
theorem G.mem (g : G) (hg : g.ok) {i j : Nat} (hi : i < g.n) (h : g.R i j = true) : j < g.n := g.closed (X := fun k => k < g.n) (fun a b hab _ => (hg _ hab).2) hi h

/-- each leads to the other -/
def G.Q (g : G) (i j : Nat) : Bool := g.R i j && g.R j i
theorem G.q_refl (g : G) (i : Nat) : g.Q i i = true := by simp [G.Q, g.refl]
theorem G.q_symm (g : G) (i j : Nat) : g.Q i j = g.Q j i := by unfold G.Q; rw [Bool.and_comm]
theorem G.q_trans (g : G) {i j l : Nat} (hj : j < g.n) (h1 : g.Q i j = true) (h2 : g.Q j l = true) : g.Q i l = true := by
  unfold G.Q at *
  simp only [Bool.and_eq_true] at *
  exact ⟨g.trans hj h1.1 h2.1, g.trans hj h2.2 h1.2⟩

/-- a member's part -/
def G.cls (g : G) (i : Nat) : List Nat := (List.range g.n).filter fun j => g.Q i j
theorem G.mem_cls (g : G) {i j : Nat} : j ∈ g.cls i ↔ j < g.n ∧ g.Q i j = true := by simp [G.cls]
theorem G.cls_self (g : G) {i : Nat} (hi : i < g.n) : i ∈ g.cls i := g.mem_cls.2 ⟨hi, g.q_refl i⟩
theorem G.cls_eq (g : G) {i j : Nat} (hi : i < g.n) (hj : j < g.n) (h : g.Q i j = true) : g.cls i = g.cls j := by
  unfold G.cls
  refine List.filter_congr fun k hk => ?_
  have hk : k < g.n := by simpa using hk
  rw [Bool.eq_iff_iff]
  exact ⟨fun h2 => g.q_trans hi (by rw [g.q_symm]; exact h) h2, fun h2 => g.q_trans hj h h2⟩
theorem G.cls_srt (g : G) (i : Nat) : (g.cls i).Pairwise (· < ·) := List.Pairwise.filter _ List.pairwise_lt_range

/-- do all others to which a member's part leads stand already? -/
def G.free (g : G) (done : Nat → Bool) (i : Nat) : Bool := (List.range g.n).all fun j => !(g.R i j && !g.R j i && !done j)
theorem G.free_iff (g : G) {done : Nat → Bool} {i : Nat} : g.free done i = true ↔ ∀ j, j < g.n → g.R i j = true → g.R j i = false → done j = true := by
  unfold G.free
  rw [List.all_eq_true]
  constructor
  · intro h j hj h1 h2
    have := h j (by simpa using hj)
    rw [h1, h2] at this
    simpa using this
  · intro h j hj
    have hj : j < g.n := by simpa using hj
    by_cases h1 : g.R i j = true
    · by_cases h2 : g.R j i = true
      · simp [h1, h2]
      · simp [h j hj h1 (by simpa using h2)]
    · simp [h1]

def G.next (g : G) (done : Nat → Bool) : Option Nat := (List.range g.n).find? fun i => !done i && g.free done i
def G.add (g : G) (done : Nat → Bool) (i : Nat) : Nat → Bool := fun j => done j || g.Q i j

/-- the parts, one by one -/
def G.ord (g : G) : Nat → (Nat → Bool) → List (List Nat)
  | 0, _ => []
  | f + 1, done => match g.next done with
    | none => []
    | some i => g.cls i :: g.ord f (g.add done i)

def G.parts (g : G) : List (List Nat) := g.ord g.n fun _ => false

theorem G.next_some (g : G) {done : Nat → Bool} {i : Nat} (h : g.next done = some i) : i < g.n ∧ done i = false ∧ g.free done i = true ∧ ∀ k, k < i → done k = true ∨ g.free done k = false := by
  unfold G.next at h
  rw [List.find?_eq_some_iff_getElem] at h
  obtain ⟨h1, k, hk, e, h2⟩ := h
  rw [List.getElem_range] at e
  subst e
  simp only [Bool.and_eq_true, Bool.not_eq_true'] at h1
  refine ⟨by simpa using hk, h1.1, h1.2, fun q hq => ?_⟩
  have := h2 q hq
  rw [List.getElem_range] at this
  by_cases a : done q = true
  · exact Or.inl a
  · right
    simpa [a] using this

theorem G.next_of (g : G) {done : Nat → Bool} {i : Nat} (hi : i < g.n) (hd : done i = false) (hf : g.free done i = true) (hm : ∀ k, k < i → done k = true ∨ g.free done k = false) : g.next done = some i := by
  unfold G.next
  rw [List.find?_eq_some_iff_getElem]
  refine ⟨by simp [hd, hf], i, by simpa using hi, by simp, fun k hk => ?_⟩
  rw [List.getElem_range]
  rcases hm k hk with h | h <;> simp [h]

theorem G.next_none (g : G) {done : Nat → Bool} : g.next done = none ↔ ∀ i, i < g.n → done i = true ∨ g.free done i = false := by
  unfold G.next
  rw [List.find?_eq_none]
  constructor
  · intro h i hi
    have := h i (by simpa using hi)
    by_cases a : done i = true
    · exact Or.inl a
    · right
      simpa [a] using this
  · intro h i hi
    rcases h i (by simpa using hi) with h | h <;> simp [h]
end Go.Proofs.Ytpdidgacmikllaa.tj
