import Derived.Test.YtohdcmmkbblhkaaGreatDoorRows
/-
  tarjan: what leads to what, plain: the closure by middle members, its laws.
-/
set_option linter.all false
namespace Go.Proofs.YtohdcmmkbblhkaaGreatDoor.tj

/-- by members below k in the middle -/
def rk (E : List (Nat × Nat)) : Nat → Nat → Nat → Bool
  | 0, i, j => i == j || E.contains (i, j)
  | k + 1, i, j => rk E k i j || (rk E k i k && rk E k k j)

theorem rk_refl (E : List (Nat × Nat)) : ∀ k i, rk E k i i = true
  | 0, i => by simp [rk]
  | k + 1, i => by simp [rk, rk_refl E k i]

theorem rk_edge {E : List (Nat × Nat)} {i j : Nat} (h : (i, j) ∈ E) : ∀ k, rk E k i j = true
  | 0 => by simp [rk, h]
  | k + 1 => by simp [rk, rk_edge h k]

theorem rk_trans_lt {E : List (Nat × Nat)} : ∀ k {i j l : Nat}, j < k → rk E k i j = true → rk E k j l = true → rk E k i l = true
  | 0, _, _, _, h, _, _ => by omega
  | k + 1, i, j, l, hj, h1, h2 => by
    simp only [rk, Bool.or_eq_true, Bool.and_eq_true] at *
    by_cases e : j = k
    · subst e
      have a : rk E j i j = true := by rcases h1 with h | h; exact h; exact h.1
      have b : rk E j j l = true := by rcases h2 with h | h; exact h; exact h.2
      exact Or.inr ⟨a, b⟩
    · have hk : j < k := by omega
      rcases h1 with h1 | h1 <;> rcases h2 with h2 | h2
      · exact Or.inl (rk_trans_lt k hk h1 h2)
      · exact Or.inr ⟨rk_trans_lt k hk h1 h2.1, h2.2⟩
      · exact Or.inr ⟨h1.1, rk_trans_lt k hk h1.2 h2⟩
      · exact Or.inr ⟨h1.1, h2.2⟩

/-- what is closed under edges is closed under leading -/
theorem rk_closed {E : List (Nat × Nat)} {X : Nat → Prop} (hX : ∀ a b, (a, b) ∈ E → X a → X b) : ∀ k {i j : Nat}, X i → rk E k i j = true → X j
  | 0, i, j, hi, h => by
    simp only [rk, Bool.or_eq_true, beq_iff_eq, List.contains_iff_mem] at h
    rcases h with rfl | h
    · exact hi
    · exact hX i j h hi
  | k + 1, i, j, hi, h => by
    simp only [rk, Bool.or_eq_true, Bool.and_eq_true] at h
    rcases h with h | h
    · exact rk_closed hX k hi h
    · exact rk_closed hX k (rk_closed hX k hi h.1) h.2

/-- a graph: its members are those below n; its edges are between members -/
structure G where
  n : Nat
  E : List (Nat × Nat)

def G.ok (g : G) : Prop := ∀ x ∈ g.E, x.1 < g.n ∧ x.2 < g.n
def G.R (g : G) (i j : Nat) : Bool := rk g.E g.n i j

theorem G.refl (g : G) (i : Nat) : g.R i i = true := rk_refl _ _ _
theorem G.edge (g : G) {i j : Nat} (h : (i, j) ∈ g.E) : g.R i j = true := rk_edge h _
theorem G.trans (g : G) {i j l : Nat} (hj : j < g.n) (h1 : g.R i j = true) (h2 : g.R j l = true) : g.R i l = true := rk_trans_lt _ hj h1 h2
theorem G.closed (g : G) {X : Nat → Prop} (hX : ∀ a b, (a, b) ∈ g.E → X a → X b) {i j : Nat} (hi : X i) (h : g.R i j = true) : X j := rk_closed hX _ hi h
/-- to a member only members lead, and from one -/
theorem G.mem (g : G) (hg : g.ok) {i j : Nat} (hi : i < g.n) (h : g.R i j = true) : j < g.n := g.closed (X := fun k => k < g.n) (fun a b hab _ => (hg _ hab).2) hi h

/-- each leads to the other -/
def G.Q (g : G) (i j : Nat) : Bool := g.R i j && g.R j i
theorem G.q_refl (g : G) (i : Nat) : g.Q i i = true := by simp [G.Q, g.refl]
theorem G.q_symm (g : G) (i j : Nat) : g.Q i j = g.Q j i := by unfold G.Q; rw [Bool.and_comm]
theorem G.q_trans (g : G) {i j l : Nat} (hj : j < g.n) (h1 : g.Q i j = true) (h2 : g.Q j l = true) : g.Q i l = true := by
  unfold G.Q at *
  simp only [Bool.and_eq_true] at *
  exact ⟨g.trans hj h1.1 h2.1, g.trans hj h2.2 h1.2⟩

/-- a member's part -/
def G.cls (g : G) (i : Nat) : List Nat := (List.range g.n).filter fun j => g.Q i j
theorem G.mem_cls (g : G) {i j : Nat} : j ∈ g.cls i ↔ j < g.n ∧ g.Q i j = true := by simp [G.cls]
theorem G.cls_self (g : G) {i : Nat} (hi : i < g.n) : i ∈ g.cls i := g.mem_cls.2 ⟨hi, g.q_refl i⟩
theorem G.cls_eq (g : G) {i j : Nat} (hi : i < g.n) (hj : j < g.n) (h : g.Q i j = true) : g.cls i = g.cls j := by
  unfold G.cls
  refine List.filter_congr fun k hk => ?_
  have hk : k < g.n := by simpa using hk
  rw [Bool.eq_iff_iff]
  exact ⟨fun h2 => g.q_trans hi (by rw [g.q_symm]; exact h) h2, fun h2 => g.q_trans hj h h2⟩
theorem G.cls_srt (g : G) (i : Nat) : (g.cls i).Pairwise (· < ·) := List.Pairwise.filter _ List.pairwise_lt_range

/-- do all others to which a member's part leads stand already? -/
def G.free (g : G) (done : Nat → Bool) (i : Nat) : Bool := (List.range g.n).all fun j => !(g.R i j && !g.R j i && !done j)
theorem G.free_iff (g : G) {done : Nat → Bool} {i : Nat} : g.free done i = true ↔ ∀ j, j < g.n → g.R i j = true → g.R j i = false → done j = true := by
  unfold G.free
  rw [List.all_eq_true]
  constructor
  · intro h j hj h1 h2
    have := h j (by simpa using hj)
    rw [h1, h2] at this
    simpa using this
  · intro h j hj
    have hj : j < g.n := by simpa using hj
    by_cases h1 : g.R i j = true
    · by_cases h2 : g.R j i = true
      · simp [h1, h2]
      · simp [h j hj h1 (by simpa using h2)]
    · simp [h1]

def G.next (g : G) (done : Nat → Bool) : Option Nat := (List.range g.n).find? fun i => !done i && g.free done i
def G.add (g : G) (done : Nat → Bool) (i : Nat) : Nat → Bool := fun j => done j || g.Q i j

/-- the parts, one by one -/
def G.ord (g : G) : Nat → (Nat → Bool) → List (List Nat)
  | 0, _ => []
  | f + 1, done => match g.next done with
    | none => []
    | some i => g.cls i :: g.ord f (g.add done i)

def G.parts (g : G) : List (List Nat) := g.ord g.n fun _ => false

theorem G.next_some (g : G) {done : Nat → Bool} {i : Nat} (h : g.next done = some i) : i < g.n ∧ done i = false ∧ g.free done i = true ∧ ∀ k, k < i → done k = true ∨ g.free done k = false := by
  unfold G.next at h
  rw [List.find?_eq_some_iff_getElem] at h
  obtain ⟨h1, k, hk, e, h2⟩ := h
  rw [List.getElem_range] at e
  subst e
  simp only [Bool.and_eq_true, Bool.not_eq_true'] at h1
  refine ⟨by simpa using hk, h1.1, h1.2, fun q hq => ?_⟩
  have := h2 q hq
  rw [List.getElem_range] at this
  by_cases a : done q = true
  · exact Or.inl a
  · right
    simpa [a] using this

theorem G.next_of (g : G) {done : Nat → Bool} {i : Nat} (hi : i < g.n) (hd : done i = false) (hf : g.free done i = true) (hm : ∀ k, k < i → done k = true ∨ g.free done k = false) : g.next done = some i := by
  unfold G.next
  rw [List.find?_eq_some_iff_getElem]
  refine ⟨by simp [hd, hf], i, by simpa using hi, by simp, fun k hk => ?_⟩
  rw [List.getElem_range]
  rcases hm k hk with h | h <;> simp [h]

theorem G.next_none (g : G) {done : Nat → Bool} : g.next done = none ↔ ∀ i, i < g.n → done i = true ∨ g.free done i = false := by
  unfold G.next
  rw [List.find?_eq_none]
  constructor
  · intro h i hi
    have := h i (by simpa using hi)
    by_cases a : done i = true
    · exact Or.inl a
    · right
      simpa [a] using this
  · intro h i hi
    rcases h i (by simpa using hi) with h | h <;> simp [h]
end Go.Proofs.YtohdcmmkbblhkaaGreatDoor.tj

/-
  tarjan: the parts in their order, plain.
-/
set_option linter.all false
namespace Go.Proofs.YtohdcmmkbblhkaaGreatDoor.tj

def G.Qc (g : G) (done : Nat → Bool) : Prop := ∀ i j, i < g.n → j < g.n → g.Q i j = true → done i = true → done j = true

theorem G.qc_none (g : G) : g.Qc fun _ => false := fun _ _ _ _ _ h => by cases h
theorem G.qc_add (g : G) {done : Nat → Bool} {k : Nat} (hk : k < g.n) (h : g.Qc done) : g.Qc (g.add done k) := by
  intro i j hi hj hq hd
  unfold G.add at *
  rw [Bool.or_eq_true] at *
  rcases hd with hd | hd
  · exact Or.inl (h i j hi hj hq hd)
  · exact Or.inr (g.q_trans hi hd hq)

theorem G.free_cls (g : G) {done : Nat → Bool} {i j : Nat} (hi : i < g.n) (hj : j < g.n) (hq : g.Q i j = true) : g.free done i = g.free done j := by
  suffices H : ∀ a b, a < g.n → b < g.n → g.Q a b = true → g.free done a = true → g.free done b = true by
    rw [Bool.eq_iff_iff]
    exact ⟨H i j hi hj hq, H j i hj hi (by rw [g.q_symm]; exact hq)⟩
  intro a b ha hb hq h
  rw [g.free_iff] at *
  unfold G.Q at hq
  rw [Bool.and_eq_true] at hq
  intro k hk h1 h2
  refine h k hk (g.trans hb hq.1 h1) ?_
  rw [Bool.eq_false_iff] at *
  exact fun h3 => h2 (g.trans ha h3 hq.1)

/-- how many do not stand yet -/
def G.und (g : G) (done : Nat → Bool) : Nat := ((List.range g.n).filter fun i => !done i).length

theorem filter_lt {α : Type} {p q : α → Bool} {l : List α} (hpq : ∀ x, p x = true → q x = true) {a : α} (ha : a ∈ l) (h1 : q a = true) (h2 : p a = false) : (l.filter p).length < (l.filter q).length := by
  induction l with
  | nil => cases ha
  | cons x r ih =>
    have hle : (r.filter p).length ≤ (r.filter q).length := by
      have := List.countP_mono_left (l := r) (p := p) (q := q) (fun x _ => hpq x)
      rwa [List.countP_eq_length_filter, List.countP_eq_length_filter] at this
    rcases List.mem_cons.1 ha with rfl | ha
    · rw [List.filter_cons_of_neg (by simp [h2]), List.filter_cons_of_pos h1, List.length_cons]
      omega
    · have := ih ha
      by_cases hp : p x = true
      · rw [List.filter_cons_of_pos hp, List.filter_cons_of_pos (hpq x hp), List.length_cons, List.length_cons]
        omega
      · rw [List.filter_cons_of_neg hp]
        by_cases hq : q x = true
        · rw [List.filter_cons_of_pos hq, List.length_cons]
          omega
        · rw [List.filter_cons_of_neg hq]
          exact this

theorem G.und_add (g : G) {done : Nat → Bool} {i : Nat} (hi : i < g.n) (hd : done i = false) : g.und (g.add done i) < g.und done :=
  filter_lt (fun x h => by unfold G.add at h; cases hx : done x <;> simp [hx] at h ⊢) (a := i) (by simpa using hi) (by simp [hd]) (by simp [G.add, g.q_refl])

theorem G.und_pos (g : G) {done : Nat → Bool} {i : Nat} (hi : i < g.n) (hd : done i = false) : 0 < g.und done :=
  List.length_pos_of_mem (a := i) (List.mem_filter.2 ⟨by simpa using hi, by simp [hd]⟩)

theorem G.ord_fuel (g : G) : ∀ (f : Nat) (done : Nat → Bool), g.und done ≤ f → ∀ f', g.und done ≤ f' → g.ord f done = g.ord f' done
  | 0, done, h, f', _ => by
    cases f' with
    | zero => rfl
    | succ f' =>
      unfold G.ord
      cases hn : g.next done with
      | none => rfl
      | some i =>
        obtain ⟨h1, h2, _⟩ := g.next_some hn
        have := g.und_pos h1 h2
        omega
  | f + 1, done, h, f', h' => by
    cases hn : g.next done with
    | none =>
      cases f' with
      | zero => simp [G.ord, hn]
      | succ f' => simp [G.ord, hn]
    | some i =>
      obtain ⟨h1, h2, _⟩ := g.next_some hn
      have hu := g.und_add h1 h2
      have hp := g.und_pos h1 h2
      cases f' with
      | zero => omega
      | succ f' =>
        simp only [G.ord, hn]
        rw [g.ord_fuel f (g.add done i) (by omega) f' (by omega)]

/-- what is still to come -/
def G.rest (g : G) (done : Nat → Bool) : List (List Nat) := g.ord (g.und done) done

theorem G.und_none (g : G) : g.und (fun _ => false) = g.n := by
  unfold G.und
  rw [List.filter_eq_self.2 (by simp), List.length_range]
theorem G.parts_rest (g : G) : g.parts = g.rest fun _ => false := by unfold G.parts G.rest; rw [g.und_none]
theorem G.rest_none (g : G) {done : Nat → Bool} (h : g.next done = none) : g.rest done = [] := by
  unfold G.rest
  cases g.und done with
  | zero => rfl
  | succ f => simp [G.ord, h]
theorem G.rest_some (g : G) {done : Nat → Bool} {i : Nat} (h : g.next done = some i) : g.rest done = g.cls i :: g.rest (g.add done i) := by
  obtain ⟨h1, h2, _⟩ := g.next_some h
  have hu := g.und_add h1 h2
  have hp := g.und_pos h1 h2
  unfold G.rest
  obtain ⟨f, hf⟩ : ∃ f, g.und done = f + 1 := ⟨g.und done - 1, by omega⟩
  rw [hf]
  simp only [G.ord, h]
  rw [g.ord_fuel f (g.add done i) (by omega) _ (Nat.le_refl _)]

/-- there is always one that is free -/
theorem G.next_ex (g : G) (hg : g.ok) {done : Nat → Bool} {i : Nat} (hi : i < g.n) (hd : done i = false) : ∃ k, g.next done = some k := by
  suffices H : ∀ m i, i < g.n → done i = false → ((List.range g.n).filter fun j => g.R i j).length ≤ m → ∃ k, k < g.n ∧ done k = false ∧ g.free done k = true by
    obtain ⟨k, h1, h2, h3⟩ := H _ i hi hd (Nat.le_refl _)
    cases hn : g.next done with
    | some q => exact ⟨q, rfl⟩
    | none =>
      rcases g.next_none.1 hn k h1 with h | h
      · rw [h2] at h; cases h
      · rw [h3] at h; cases h
  intro m
  induction m with
  | zero =>
    intro i hi hd hm
    have : 0 < ((List.range g.n).filter fun j => g.R i j).length := List.length_pos_of_mem (a := i) (List.mem_filter.2 ⟨by simpa using hi, g.refl i⟩)
    omega
  | succ m ih =>
    intro i hi hd hm
    by_cases hf : g.free done i = true
    · exact ⟨i, hi, hd, hf⟩
    · rw [g.free_iff] at hf
      simp only [Classical.not_forall] at hf
      obtain ⟨j, hj, h1, h2, h3⟩ := hf
      have h3 : done j = false := by simpa using h3
      refine ih j hj h3 ?_
      have := filter_lt (l := List.range g.n) (p := fun k => g.R j k) (q := fun k => g.R i k) (fun k hk => g.trans hj h1 hk) (a := i) (by simpa using hi) (g.refl i) h2
      omega

structure Parted (g : G) (done : Nat → Bool) (L : List (List Nat)) : Prop where
  cls : ∀ p ∈ L, ∃ i, i < g.n ∧ done i = false ∧ p = g.cls i
  nodup : L.flatten.Nodup
  mem : ∀ i, i ∈ L.flatten ↔ i < g.n ∧ done i = false
  behind : ∀ (a b : Nat) (p q : List Nat), a < b → L[a]? = some p → L[b]? = some q → ∀ i ∈ p, ∀ j ∈ q, (i, j) ∉ g.E

theorem G.rest_parted (g : G) (hg : g.ok) : ∀ (m : Nat) (done : Nat → Bool), g.und done ≤ m → g.Qc done → Parted g done (g.rest done) := by
  intro m
  induction m with
  | zero =>
    intro done hm hq
    have hno : ∀ i, i < g.n → done i = true := fun i hi => by
      cases hd : done i with
      | true => rfl
      | false => have := g.und_pos hi hd; omega
    have e : g.rest done = [] := by unfold G.rest; rw [show g.und done = 0 by omega]; rfl
    rw [e]
    exact ⟨by simp, by simp, fun i => by simp; intro hi; exact hno i hi, by simp⟩
  | succ m ih =>
    intro done hm hq
    cases hn : g.next done with
    | none =>
      rw [g.rest_none hn]
      have hno : ∀ i, i < g.n → done i = true := fun i hi => by
        cases hd : done i with
        | true => rfl
        | false =>
          obtain ⟨k, hk⟩ := g.next_ex hg hi hd
          rw [hk] at hn
          cases hn
      exact ⟨by simp, by simp, fun i => by simp; intro hi; exact hno i hi, by simp⟩
    | some i =>
      obtain ⟨h1, h2, h3, _⟩ := g.next_some hn
      have hu := g.und_add h1 h2
      have hP := ih (g.add done i) (by omega) (g.qc_add h1 hq)
      rw [g.rest_some hn]
      have hout : ∀ j, j ∈ g.cls i → j < g.n ∧ done j = false := fun j hj => by
        obtain ⟨hj1, hj2⟩ := g.mem_cls.1 hj
        refine ⟨hj1, ?_⟩
        cases hd : done j with
        | false => rfl
        | true =>
          have := hq j i hj1 h1 (by rw [g.q_symm]; exact hj2) hd
          rw [this] at h2
          cases h2
      refine ⟨fun p hp => ?_, ?_, fun j => ?_, fun a b p q hab ha hb x hx y hy => ?_⟩
      · rcases List.mem_cons.1 hp with rfl | hp
        · exact ⟨i, h1, h2, rfl⟩
        · obtain ⟨k, k1, k2, k3⟩ := hP.cls p hp
          unfold G.add at k2
          rw [Bool.or_eq_false_iff] at k2
          exact ⟨k, k1, k2.1, k3⟩
      · rw [List.flatten_cons, List.nodup_append]
        refine ⟨(g.cls_srt i).imp (fun h => Nat.ne_of_lt h), hP.nodup, fun x hx y hy e => ?_⟩
        subst e
        have := ((hP.mem x).1 hy).2
        unfold G.add at this
        rw [Bool.or_eq_false_iff] at this
        rw [(g.mem_cls.1 hx).2] at this
        exact absurd this.2 (by simp)
      · rw [List.flatten_cons, List.mem_append, hP.mem]
        unfold G.add
        rw [Bool.or_eq_false_iff]
        constructor
        · rintro (h | h)
          · exact hout j h
          · exact ⟨h.1, h.2.1⟩
        · rintro ⟨a, b⟩
          by_cases hqj : g.Q i j = true
          · exact Or.inl (g.mem_cls.2 ⟨a, hqj⟩)
          · exact Or.inr ⟨a, b, by simpa using hqj⟩
      · cases b with
        | zero => omega
        | succ b =>
          rw [List.getElem?_cons_succ] at hb
          cases a with
          | succ a =>
            rw [List.getElem?_cons_succ] at ha
            exact hP.behind a b p q (by omega) ha hb x hx y hy
          | zero =>
            rw [List.getElem?_cons_zero] at ha
            cases ha
            have hq' : y ∈ (g.rest (g.add done i)).flatten := List.mem_flatten.2 ⟨q, List.mem_of_getElem? hb, hy⟩
            obtain ⟨y1, y2⟩ := (hP.mem y).1 hq'
            intro he
            have hfx : g.free done x = true := by
              rw [← g.free_cls h1 (g.mem_cls.1 hx).1 (g.mem_cls.1 hx).2]
              exact h3
            have hyx : g.R x y = true := g.edge he
            have hd := hP
            unfold G.add at y2
            rw [Bool.or_eq_false_iff] at y2
            by_cases hb2 : g.R y x = true
            · have hqxy : g.Q i y = true := g.q_trans (g.mem_cls.1 hx).1 (g.mem_cls.1 hx).2 (by unfold G.Q; rw [hyx, hb2]; rfl)
              rw [hqxy] at y2
              exact absurd y2.2 (by simp)
            · have := g.free_iff.1 hfx y y1 hyx (by simpa using hb2)
              rw [this] at y2
              exact absurd y2.1 (by simp)

theorem G.parts_parted (g : G) (hg : g.ok) : Parted g (fun _ => false) g.parts := by
  rw [g.parts_rest]
  exact g.rest_parted hg _ _ (Nat.le_refl _) g.qc_none

theorem nodup_len {α : Type} [BEq α] [LawfulBEq α] : ∀ {l m : List α}, l.Nodup → (∀ x ∈ l, x ∈ m) → l.length ≤ m.length
  | [], _, _, _ => Nat.zero_le _
  | x :: r, m, h, hs => by
    have h1 := List.nodup_cons.1 h
    have hx : x ∈ m := hs x (by simp)
    have := nodup_len (l := r) (m := m.erase x) h1.2 fun y hy => (List.mem_erase_of_ne (fun (e : y = x) => h1.1 (by rw [← e]; exact hy))).2 (hs y (List.mem_cons_of_mem _ hy))
    rw [List.length_erase_of_mem hx] at this
    have := List.length_pos_of_mem hx
    rw [List.length_cons]
    omega

theorem Parted.ne {g : G} {done : Nat → Bool} {L : List (List Nat)} (h : Parted g done L) : ∀ p ∈ L, p ≠ [] := fun p hp e => by
  obtain ⟨i, hi, _, rfl⟩ := h.cls p hp
  have := g.cls_self hi
  rw [e] at this
  cases this

theorem nodup_of_flat : ∀ {L : List (List Nat)}, L.flatten.Nodup → (∀ p ∈ L, p ≠ []) → L.Nodup
  | [], _, _ => by simp
  | p :: r, h, hne => by
    rw [List.flatten_cons, List.nodup_append] at h
    refine List.nodup_cons.2 ⟨fun hp => ?_, nodup_of_flat h.2.1 fun q hq => hne q (List.mem_cons_of_mem _ hq)⟩
    obtain ⟨x, hx⟩ := List.exists_mem_of_ne_nil p (hne p (by simp))
    exact h.2.2 x hx x (List.mem_flatten.2 ⟨p, hp, hx⟩) rfl

theorem Parted.all {g : G} {L : List (List Nat)} (h : Parted g (fun _ => false) L) : ∀ p, p ∈ L ↔ ∃ i, i < g.n ∧ p = g.cls i := by
  intro p
  constructor
  · intro hp
    obtain ⟨i, hi, _, e⟩ := h.cls p hp
    exact ⟨i, hi, e⟩
  · rintro ⟨i, hi, rfl⟩
    have := (h.mem i).2 ⟨hi, rfl⟩
    obtain ⟨q, hq, hm⟩ := List.mem_flatten.1 this
    obtain ⟨j, hj, _, rfl⟩ := h.cls q hq
    rw [g.cls_eq hi hj (by rw [g.q_symm]; exact (g.mem_cls.1 hm).2)]
    exact hq

theorem Parted.nd {g : G} {done : Nat → Bool} {L : List (List Nat)} (h : Parted g done L) : L.Nodup := nodup_of_flat h.nodup h.ne

/-- all in all as many as there are members -/
theorem Parted.len {g : G} {L : List (List Nat)} (h : Parted g (fun _ => false) L) : L.flatten.length = g.n := by
  have h1 := nodup_len (l := L.flatten) (m := List.range g.n) h.nodup fun x hx => by simpa using ((h.mem x).1 hx).1
  have h2 := nodup_len (l := List.range g.n) (m := L.flatten) List.nodup_range fun x hx => (h.mem x).2 ⟨by simpa using hx, rfl⟩
  rw [List.length_range] at *
  omega
end Go.Proofs.YtohdcmmkbblhkaaGreatDoor.tj

/-
  tarjan: the search, plain: its state, what holds between its steps, and that it does.
-/
set_option linter.all false
namespace Go.Proofs.YtohdcmmkbblhkaaGreatDoor.tj

/-- the members to which edges lead from one -/
def G.out (g : G) (v : Nat) : List Nat := (g.E.filter fun x => x.1 == v).map (·.2)
theorem G.mem_out (g : G) {v w : Nat} : w ∈ g.out v ↔ (v, w) ∈ g.E := by
  unfold G.out
  rw [List.mem_map]
  constructor
  · rintro ⟨⟨a, b⟩, h, rfl⟩
    rw [List.mem_filter] at h
    have : a = v := by simpa using h.2
    subst this
    exact h.1
  · intro h
    exact ⟨(v, w), List.mem_filter.2 ⟨h, by simp⟩, rfl⟩

structure TS where
  tried : Nat → Nat
  num : Nat → Nat
  low : Nat → Nat
  part : Nat → Int
  S : List (Nat × List Nat)
  parts : List (List Nat)
  count : Nat

def upd {α : Type} (f : Nat → α) (m : Nat) (v : α) : Nat → α := fun i => if i = m then v else f i
theorem upd_same {α : Type} (f : Nat → α) (m : Nat) (v : α) : upd f m v m = v := by simp [upd]
theorem upd_ne {α : Type} (f : Nat → α) {m i : Nat} (v : α) (h : i ≠ m) : upd f m v i = f i := by simp [upd, h]

def stk (S : List (Nat × List Nat)) : List Nat := S.reverse.flatMap fun x => x.1 :: x.2
def pth (S : List (Nat × List Nat)) : List Nat := (S.map (·.1)).reverse

theorem stk_cons (x : Nat × List Nat) (S : List (Nat × List Nat)) : stk (x :: S) = stk S ++ (x.1 :: x.2) := by simp [stk]
theorem pth_cons (x : Nat × List Nat) (S : List (Nat × List Nat)) : pth (x :: S) = pth S ++ [x.1] := by simp [pth]
theorem mem_stk {S : List (Nat × List Nat)} {v : Nat} : v ∈ stk S ↔ ∃ x ∈ S, v = x.1 ∨ v ∈ x.2 := by simp [stk]

structure Inv (g : G) (T : TS) : Prop where
  rise : (stk T.S).Pairwise fun a b => T.num a < T.num b
  vis : ∀ v ∈ stk T.S, v < g.n ∧ 0 < T.num v ∧ T.num v ≤ T.count ∧ T.part v < 0
  three : ∀ v, v < g.n → (T.num v = 0 ∧ T.part v < 0 ∧ T.tried v = 0) ∨ v ∈ stk T.S ∨ (0 < T.num v ∧ 0 ≤ T.part v)
  fin : ∀ u, u < g.n → 0 ≤ T.part u → ∀ w ∈ g.out u, 0 ≤ T.part w
  left : ∀ x ∈ T.S, ∀ v ∈ x.2, g.R x.1 v = true ∧ T.low x.1 ≤ T.low v ∧ T.low v < T.num v ∧ ∀ w ∈ g.out v, 0 < T.num w ∧ (T.part w < 0 → T.low v ≤ T.num w)
  low : ∀ v ∈ stk T.S, T.low v ≤ T.num v ∧ ∃ w ∈ stk T.S, T.low v = T.num w ∧ g.R v w = true
  chain : ∀ (i : Nat) (x y : Nat × List Nat), T.S[i]? = some x → T.S[i + 1]? = some y → g.R y.1 x.1 = true
  trd : ∀ (i : Nat) (x : Nat × List Nat), T.S[i]? = some x → T.tried x.1 ≤ (g.out x.1).length ∧ ∀ k w, k < T.tried x.1 → (g.out x.1)[k]? = some w → 0 < T.num w ∧ (T.part w < 0 → T.low x.1 ≤ T.num w ∨ ∃ j y, i = j + 1 ∧ T.S[j]? = some y ∧ y.1 = w)
  cls : ∀ p ∈ T.parts, ∃ i, i < g.n ∧ p = g.cls i
  idx : ∀ (k : Nat) (p : List Nat), T.parts[k]? = some p → ∀ v ∈ p, T.part v = (k : Int)
  done : ∀ v, v < g.n → 0 ≤ T.part v → v ∈ T.parts.flatten
  cnt : ((List.range g.n).filter fun v => decide (0 < T.num v)).length = T.count
  rng : ∀ v, v < g.n → T.part v < T.parts.length

theorem Inv.nodup {g : G} {T : TS} (h : Inv g T) : (stk T.S).Nodup := h.rise.imp (fun hlt e => by subst e; omega)
theorem Inv.act {g : G} {T : TS} (h : Inv g T) {v : Nat} (hv : v < g.n) (h0 : 0 < T.num v) : v ∈ stk T.S ↔ T.part v < 0 := by
  constructor
  · exact fun hm => (h.vis v hm).2.2.2
  · intro hp
    rcases h.three v hv with a | a | a
    · omega
    · exact a
    · omega
theorem Inv.count_le {g : G} {T : TS} (h : Inv g T) : T.count ≤ g.n := by
  rw [← h.cnt]
  have := List.length_filter_le (fun v => decide (0 < T.num v)) (List.range g.n)
  rwa [List.length_range] at this

theorem nodup_add {l : List Nat} {p : Nat → Bool} {m : Nat} (hl : l.Nodup) (hm : m ∈ l) (h0 : p m = false) : (l.filter fun v => p v || decide (v = m)).length = (l.filter p).length + 1 := by
  induction l with
  | nil => cases hm
  | cons x r ih =>
    have h1 := List.nodup_cons.1 hl
    rcases List.mem_cons.1 hm with rfl | hm
    · have e : (r.filter fun v => p v || decide (v = m)) = r.filter p := List.filter_congr fun v hv => by
        have : v ≠ m := fun e => h1.1 (e ▸ hv)
        simp [this]
      rw [List.filter_cons_of_pos (by simp), List.filter_cons_of_neg (by simp [h0]), e, List.length_cons]
    · have hne : x ≠ m := fun e => h1.1 (e ▸ hm)
      have := ih h1.2 hm
      by_cases hx : p x = true
      · rw [List.filter_cons_of_pos (by simp [hx]), List.filter_cons_of_pos hx, List.length_cons, List.length_cons, this]
      · rw [List.filter_cons_of_neg (by simp [hx, hne]), List.filter_cons_of_neg hx, this]

/-- one is come to -/
def TS.enter (T : TS) (m : Nat) : TS := { T with num := upd T.num m (T.count + 1), low := upd T.low m (T.count + 1), S := (m, []) :: T.S, count := T.count + 1 }
/-- an edge is tried -/
def TS.try_ (T : TS) (m : Nat) : TS := { T with tried := upd T.tried m (T.tried m + 1) }

def T0 : TS := ⟨fun _ => 0, fun _ => 0, fun _ => 0, fun _ => -1, [], [], 0⟩
theorem inv0 (g : G) : Inv g T0 where
  rise := by simp [T0, stk]
  vis := by simp [T0, stk]
  three := fun v _ => Or.inl ⟨rfl, by simp [T0], rfl⟩
  fin := fun u _ h => by simp [T0] at h
  left := by simp [T0]
  low := by simp [T0, stk]
  chain := by simp [T0]
  trd := by simp [T0]
  cls := by simp [T0]
  idx := by simp [T0]
  done := fun v _ h => by simp [T0] at h
  cnt := by simp [T0]
  rng := fun v _ => by simp [T0]

theorem enter_cnt {g : G} {T : TS} (hc : ((List.range g.n).filter fun v => decide (0 < T.num v)).length = T.count) {m : Nat} (hm : m < g.n) (h0 : T.num m = 0) : ((List.range g.n).filter fun v => decide (0 < upd T.num m (T.count + 1) v)).length = T.count + 1 := by
  have h1 := nodup_add (p := fun v => decide (0 < T.num v)) List.nodup_range (m := m) (l := List.range g.n) (by simpa using hm) (by simp [h0])
  rw [hc] at h1
  rw [← h1]
  refine congrArg List.length (List.filter_congr fun v _ => ?_)
  by_cases e : v = m
  · subst e
    simp [upd_same, h1]
  · simp [upd_ne _ _ e, e]

/-- a search begins -/
theorem inv_start {g : G} {T : TS} (h : Inv g T) (hS : T.S = []) {m : Nat} (hm : m < g.n) (h0 : T.num m = 0) : Inv g (T.enter m) := by
  have hp : T.part m < 0 ∧ T.tried m = 0 := by
    rcases h.three m hm with a | a | a
    · exact a.2
    · rw [hS] at a; simp [stk] at a
    · omega
  have es : stk ((m, []) :: T.S) = [m] := by rw [stk_cons, hS]; simp [stk]
  have hne : ∀ v, v < g.n → 0 ≤ T.part v → v ≠ m := fun v _ hv e => by subst e; omega
  refine ⟨?_, ?_, fun v hv => ?_, fun u hu hpu w hw => ?_, ?_, ?_, ?_, ?_, h.cls, h.idx, h.done, enter_cnt h.cnt hm h0, h.rng⟩
  · show (stk ((m, []) :: T.S)).Pairwise _
    rw [es]
    simp
  · intro v hv
    have hv : v ∈ stk ((m, []) :: T.S) := hv
    rw [es] at hv
    obtain rfl := List.mem_singleton.1 hv
    exact ⟨hm, by simp [TS.enter, upd_same], by simp [TS.enter, upd_same], hp.1⟩
  · by_cases e : v = m
    · subst e
      refine Or.inr (Or.inl ?_)
      show v ∈ stk ((v, []) :: T.S)
      rw [es]
      simp
    · rcases h.three v hv with a | a | a
      · exact Or.inl ⟨by simp only [TS.enter]; rw [upd_ne _ _ e]; exact a.1, a.2⟩
      · rw [hS] at a; simp [stk] at a
      · exact Or.inr (Or.inr ⟨by simp only [TS.enter]; rw [upd_ne _ _ e]; exact a.1, a.2⟩)
  · exact h.fin u hu hpu w hw
  · intro x hx v hv
    have hx : x ∈ (m, []) :: T.S := hx
    rw [hS, List.mem_singleton] at hx
    subst hx
    cases hv
  · intro v hv
    have hv : v ∈ stk ((m, []) :: T.S) := hv
    rw [es] at hv
    obtain rfl := List.mem_singleton.1 hv
    refine ⟨by simp [TS.enter, upd_same], v, ?_, by simp [TS.enter, upd_same], g.refl v⟩
    show v ∈ stk ((v, []) :: T.S)
    rw [es]
    simp
  · intro i x y hx hy
    have hy : ((m, []) :: T.S)[i + 1]? = some y := hy
    rw [hS] at hy
    simp at hy
  · intro i x hx
    have hx : ((m, []) :: T.S)[i]? = some x := hx
    rw [hS] at hx
    cases i with
    | succ i => simp at hx
    | zero =>
      simp at hx
      subst hx
      have ht : T.tried m = 0 := hp.2
      exact ⟨by simp [TS.enter, ht], fun k w hk => by simp [TS.enter, ht] at hk⟩

/-- an edge leads to one that was not come to: the search goes deeper -/
theorem inv_deeper {g : G} {T : TS} (hg : g.ok) (h : Inv g T) {b : Nat} {ls : List Nat} {rest : List (Nat × List Nat)} (hS : T.S = (b, ls) :: rest) {to : Nat} (hk : (g.out b)[T.tried b]? = some to) (h0 : T.num to = 0) : Inv g ((T.try_ b).enter to) := by
  have hmem : to ∈ g.out b := List.mem_of_getElem? hk
  have hedge := g.mem_out.1 hmem
  obtain ⟨hb, hto⟩ := hg _ hedge
  have hp : T.part to < 0 ∧ T.tried to = 0 ∧ to ∉ stk T.S := by
    rcases h.three to hto with a | a | a
    · exact ⟨a.2.1, a.2.2, fun hm => by have := (h.vis to hm).2.1; omega⟩
    · have := (h.vis to a).2.1; omega
    · omega
  have hbs : b ∈ stk T.S := mem_stk.2 ⟨(b, ls), by rw [hS]; simp, Or.inl rfl⟩
  have hbne : b ≠ to := fun e => hp.2.2 (e ▸ hbs)
  have hsn : ∀ v ∈ stk T.S, v ≠ to := fun v hv e => hp.2.2 (e ▸ hv)
  have es : stk ((to, []) :: T.S) = stk T.S ++ [to] := by rw [stk_cons]
  have hnum : ∀ v, v ≠ to → ((T.try_ b).enter to).num v = T.num v := fun v hv => by simp only [TS.enter, TS.try_]; exact upd_ne _ _ hv
  have hlow : ∀ v, v ≠ to → ((T.try_ b).enter to).low v = T.low v := fun v hv => by simp only [TS.enter, TS.try_]; exact upd_ne _ _ hv
  have hnt : ((T.try_ b).enter to).num to = T.count + 1 := by simp only [TS.enter, TS.try_]; exact upd_same _ _ _
  have hlt : ((T.try_ b).enter to).low to = T.count + 1 := by simp only [TS.enter, TS.try_]; exact upd_same _ _ _
  have hpart : ((T.try_ b).enter to).part = T.part := rfl
  have hSt : ((T.try_ b).enter to).S = (to, []) :: T.S := rfl
  have hpos : ∀ w, 0 < T.num w → 0 < ((T.try_ b).enter to).num w ∧ ((T.try_ b).enter to).num w = T.num w := fun w hw => by
    have : w ≠ to := fun e => by subst e; omega
    rw [hnum w this]
    exact ⟨hw, rfl⟩
  refine ⟨?_, ?_, fun v hv => ?_, fun u hu hpu w hw => h.fin u hu hpu w hw, ?_, ?_, ?_, ?_, h.cls, h.idx, h.done, enter_cnt (T := T.try_ b) h.cnt hto h0, h.rng⟩
  · rw [hSt, es, List.pairwise_append]
    refine ⟨h.rise.imp_of_mem (fun {x y} hx hy hlt => by rw [hnum x (hsn x hx), hnum y (hsn y hy)]; exact hlt), by simp, fun x hx y hy => ?_⟩
    obtain rfl := List.mem_singleton.1 hy
    rw [hnum x (hsn x hx), hnt]
    have := (h.vis x hx).2.2.1
    omega
  · intro v hv
    rw [hSt, es, List.mem_append, List.mem_singleton] at hv
    rcases hv with hv | rfl
    · rw [hnum v (hsn v hv)]
      obtain ⟨a, b', c, d⟩ := h.vis v hv
      exact ⟨a, b', Nat.le_succ_of_le c, d⟩
    · rw [hnt]
      exact ⟨hto, by omega, Nat.le_refl _, hp.1⟩
  · by_cases e : v = to
    · subst e
      refine Or.inr (Or.inl ?_)
      rw [hSt, es]
      simp
    · rw [hnum v e]
      rcases h.three v hv with a | a | a
      · by_cases e2 : v = b
        · subst e2
          have := (h.vis v hbs).2.1
          omega
        · exact Or.inl ⟨a.1, a.2.1, by simp only [TS.enter, TS.try_]; rw [upd_ne _ _ e2]; exact a.2.2⟩
      · refine Or.inr (Or.inl ?_)
        rw [hSt, es]
        exact List.mem_append_left _ a
      · exact Or.inr (Or.inr a)
  · intro x hx v hv
    rw [hSt] at hx
    rcases List.mem_cons.1 hx with rfl | hx
    · cases hv
    · have hxs : x.1 ∈ stk T.S := mem_stk.2 ⟨x, hx, Or.inl rfl⟩
      have hvs : v ∈ stk T.S := mem_stk.2 ⟨x, hx, Or.inr hv⟩
      obtain ⟨a, b', c, d⟩ := h.left x hx v hv
      rw [hlow x.1 (hsn _ hxs), hlow v (hsn v hvs), hnum v (hsn v hvs)]
      refine ⟨a, b', c, fun w hw => ?_⟩
      obtain ⟨d1, d2⟩ := d w hw
      obtain ⟨p1, p2⟩ := hpos w d1
      rw [p2]
      exact ⟨d1, d2⟩
  · intro v hv
    rw [hSt, es, List.mem_append, List.mem_singleton] at hv
    rcases hv with hv | rfl
    · obtain ⟨a, w, hw, b', c⟩ := h.low v hv
      rw [hnum v (hsn v hv), hlow v (hsn v hv)]
      refine ⟨a, w, ?_, ?_, c⟩
      · rw [hSt, es]
        exact List.mem_append_left _ hw
      · rw [hnum w (hsn w hw)]
        exact b'
    · rw [hnt, hlt]
      refine ⟨Nat.le_refl _, v, ?_, hnt.symm, g.refl v⟩
      rw [hSt, es]
      simp
  · intro i x y hx hy
    rw [hSt] at hx hy
    rw [List.getElem?_cons_succ] at hy
    cases i with
    | succ i =>
      rw [List.getElem?_cons_succ] at hx
      exact h.chain i x y hx hy
    | zero =>
      simp at hx
      subst hx
      rw [hS] at hy
      simp at hy
      subst hy
      exact g.edge hedge
  · intro i x hx
    rw [hSt] at hx
    cases i with
    | zero =>
      simp at hx
      subst hx
      have ht : ((T.try_ b).enter to).tried to = 0 := by simp only [TS.enter, TS.try_]; rw [upd_ne _ _ (Ne.symm hbne)]; exact hp.2.1
      show ((T.try_ b).enter to).tried to ≤ _ ∧ ∀ k w, k < ((T.try_ b).enter to).tried to → _
      rw [ht]
      exact ⟨Nat.zero_le _, fun k w hk => by omega⟩
    | succ i =>
      rw [List.getElem?_cons_succ] at hx
      obtain ⟨t1, t2⟩ := h.trd i x hx
      have hxS : x ∈ T.S := List.mem_of_getElem? hx
      have hxs : x.1 ∈ stk T.S := mem_stk.2 ⟨x, hxS, Or.inl rfl⟩
      have old : ∀ k w, k < T.tried x.1 → (g.out x.1)[k]? = some w → 0 < ((T.try_ b).enter to).num w ∧ (((T.try_ b).enter to).part w < 0 → ((T.try_ b).enter to).low x.1 ≤ ((T.try_ b).enter to).num w ∨ ∃ j y, i + 1 = j + 1 ∧ ((T.try_ b).enter to).S[j]? = some y ∧ y.1 = w) := by
        intro k w hk' hw
        obtain ⟨a, b'⟩ := t2 k w hk' hw
        obtain ⟨p1, p2⟩ := hpos w a
        rw [hlow x.1 (hsn _ hxs), p2]
        refine ⟨a, fun hq => (b' hq).imp id fun ⟨j, y, e1, e2, e3⟩ => ⟨j + 1, y, by omega, ?_, e3⟩⟩
        rw [hSt, List.getElem?_cons_succ]
        exact e2
      by_cases e : x.1 = b
      · have hi : i = 0 := by
          -- the path's members are all different
          rcases Nat.eq_zero_or_pos i with h0 | h0
          · exact h0
          · exfalso
            obtain ⟨i', rfl⟩ : ∃ i', i = i' + 1 := ⟨i - 1, by omega⟩
            have hx2 := hx
            rw [hS, List.getElem?_cons_succ] at hx2
            have hxr : x ∈ rest := List.mem_of_getElem? hx2
            have hnd := h.nodup
            rw [hS, stk_cons, List.nodup_append] at hnd
            exact hnd.2.2 x.1 (mem_stk.2 ⟨x, hxr, Or.inl rfl⟩) b (by simp) e
        subst hi
        have ht : ((T.try_ b).enter to).tried x.1 = T.tried x.1 + 1 := by simp only [TS.enter, TS.try_]; rw [e, upd_same]
        have hkl : T.tried b < (g.out b).length := (List.getElem?_eq_some_iff.1 hk).1
        rw [ht]
        refine ⟨by rw [e]; omega, fun k w hk' hw => ?_⟩
        rcases Nat.lt_or_ge k (T.tried x.1) with hl | hl
        · exact old k w hl hw
        · have : k = T.tried x.1 := by omega
          subst this
          rw [e, hk] at hw
          cases hw
          rw [hnt]
          exact ⟨by omega, fun _ => Or.inr ⟨0, (to, []), rfl, by rw [hSt]; rfl, rfl⟩⟩
      · have ht : ((T.try_ b).enter to).tried x.1 = T.tried x.1 := by simp only [TS.enter, TS.try_]; rw [upd_ne _ _ e]
        rw [ht]
        exact ⟨t1, old⟩
end Go.Proofs.YtohdcmmkbblhkaaGreatDoor.tj

/-
  tarjan: the search, plain: edges tried, members left, parts closed.
-/
set_option linter.all false
namespace Go.Proofs.YtohdcmmkbblhkaaGreatDoor.tj

def TS.lower (T : TS) (b x : Nat) : TS := { T with low := upd T.low b (min (T.low b) x) }

/-- a member of the path is known to lead to one on the stack -/
theorem inv_lower {g : G} {T : TS} (h : Inv g T) {y : Nat × List Nat} (hy : y ∈ T.S) {w : Nat} (hw : w ∈ stk T.S) (hR : g.R y.1 w = true) {x : Nat} (hx : x = T.num w) : Inv g (T.lower y.1 x) := by
  have hys : y.1 ∈ stk T.S := mem_stk.2 ⟨y, hy, Or.inl rfl⟩
  have lle : ∀ v, (T.lower y.1 x).low v ≤ T.low v := fun v => by
    show upd _ _ _ v ≤ _
    by_cases e : v = y.1
    · subst e; rw [upd_same]; exact Nat.min_le_left _ _
    · rw [upd_ne _ _ e]; exact Nat.le_refl _
  have lne : ∀ v, v ≠ y.1 → (T.lower y.1 x).low v = T.low v := fun v e => upd_ne _ _ e
  refine ⟨h.rise, h.vis, h.three, h.fin, fun z hz v hv => ?_, fun v hv => ?_, h.chain, fun i z hz => ?_, h.cls, h.idx, h.done, h.cnt, h.rng⟩
  · have hz : z ∈ T.S := hz
    obtain ⟨a, b, c, d⟩ := h.left z hz v hv
    have hvy : v ≠ y.1 := by
      -- a member that is left is not on the path
      intro e
      have hnd := h.nodup
      obtain ⟨s1, s2, e1⟩ := List.append_of_mem hz
      obtain ⟨l1, l2, e2⟩ := List.append_of_mem hv
      have hzs : stk T.S = stk s2 ++ (z.1 :: (l1 ++ v :: l2)) ++ stk s1 := by
        rw [e1]
        simp [stk, ← e2]
      rw [hzs] at hnd
      have hy2 : y ∈ s1 ++ z :: s2 := by rw [← e1]; exact hy
      rw [List.nodup_append, List.nodup_append] at hnd
      obtain ⟨⟨n1, n2, n3⟩, n4, n5⟩ := hnd
      rcases List.mem_append.1 hy2 with hy3 | hy3
      · exact n5 v (by simp) y.1 (mem_stk.2 ⟨y, hy3, Or.inl rfl⟩) e
      · rcases List.mem_cons.1 hy3 with rfl | hy3
        · have := (List.nodup_cons.1 n2).1
          exact this (by rw [← e]; simp)
        · exact n3 y.1 (mem_stk.2 ⟨y, hy3, Or.inl rfl⟩) v (by simp) e.symm
    rw [lne v hvy]
    exact ⟨a, Nat.le_trans (lle _) b, c, d⟩
  · obtain ⟨a, u, hu, b, c⟩ := h.low v hv
    refine ⟨Nat.le_trans (lle v) a, ?_⟩
    by_cases e : v = y.1
    · subst e
      show ∃ w ∈ stk T.S, upd _ _ _ _ = _ ∧ _
      rw [upd_same]
      rcases Nat.le_total (T.low y.1) x with hl | hl
      · rw [Nat.min_eq_left hl]
        exact ⟨u, hu, b, c⟩
      · rw [Nat.min_eq_right hl]
        exact ⟨w, hw, hx, hR⟩
    · rw [lne v e]
      exact ⟨u, hu, b, c⟩
  · obtain ⟨a, b⟩ := h.trd i z hz
    refine ⟨a, fun k u hk hu => ?_⟩
    obtain ⟨c, d⟩ := b k u hk hu
    exact ⟨c, fun hp => (d hp).imp (fun hl => Nat.le_trans (lle _) hl) id⟩

/-- an edge leads to one that was come to -/
theorem inv_skip {g : G} {T : TS} (h : Inv g T) {b : Nat} {ls : List Nat} {rest : List (Nat × List Nat)} (hS : T.S = (b, ls) :: rest) {to : Nat} (hk : (g.out b)[T.tried b]? = some to) (h0 : 0 < T.num to) (hl : T.part to < 0 → T.low b ≤ T.num to) : Inv g (T.try_ b) := by
  have hbs : b ∈ stk T.S := mem_stk.2 ⟨(b, ls), by rw [hS]; simp, Or.inl rfl⟩
  refine ⟨h.rise, h.vis, fun v hv => ?_, h.fin, h.left, h.low, h.chain, fun i x hx => ?_, h.cls, h.idx, h.done, h.cnt, h.rng⟩
  · rcases h.three v hv with a | a | a
    · have : v ≠ b := fun e => by subst e; have := (h.vis v hbs).2.1; omega
      exact Or.inl ⟨a.1, a.2.1, by show upd _ _ _ _ = _; rw [upd_ne _ _ this]; exact a.2.2⟩
    · exact Or.inr (Or.inl a)
    · exact Or.inr (Or.inr a)
  · obtain ⟨t1, t2⟩ := h.trd i x hx
    by_cases e : x.1 = b
    · have ht : (T.try_ b).tried x.1 = T.tried x.1 + 1 := by show upd _ _ _ _ = _; rw [e, upd_same]
      have hkl : T.tried b < (g.out b).length := (List.getElem?_eq_some_iff.1 hk).1
      rw [ht]
      refine ⟨by rw [e]; omega, fun k w hk' hw => ?_⟩
      rcases Nat.lt_or_ge k (T.tried x.1) with hl' | hl'
      · exact t2 k w hl' hw
      · have : k = T.tried x.1 := by omega
        subst this
        rw [e, hk] at hw
        cases hw
        exact ⟨h0, fun hp => Or.inl (by rw [e]; exact hl hp)⟩
    · have ht : (T.try_ b).tried x.1 = T.tried x.1 := by show upd _ _ _ _ = _; rw [upd_ne _ _ e]
      rw [ht]
      exact ⟨t1, t2⟩

def TS.merge (T : TS) (S : List (Nat × List Nat)) : TS := { T with S := S }

/-- a member is left that leads further back -/
theorem inv_merge {g : G} {T : TS} (h : Inv g T) {m b : Nat} {ls ls' : List Nat} {rest : List (Nat × List Nat)} (hS : T.S = (m, ls) :: (b, ls') :: rest) (ht : T.tried m = (g.out m).length) (hl : T.low m < T.num m) (hb : T.low b ≤ T.low m) (hmn : m < g.n) : Inv g (T.merge ((b, ls' ++ m :: ls) :: rest)) := by
  have es : stk ((b, ls' ++ m :: ls) :: rest) = stk T.S := by rw [hS, stk_cons, stk_cons, stk_cons]; simp
  have h0 := h.trd 0 (m, ls) (by rw [hS]; rfl)
  have hRbm : g.R b m = true := h.chain 0 (m, ls) (b, ls') (by rw [hS]; rfl) (by rw [hS]; rfl)
  refine ⟨?_, ?_, ?_, h.fin, fun x hx v hv => ?_, ?_, fun i x y hx hy => ?_, fun i x hx => ?_, h.cls, h.idx, h.done, h.cnt, h.rng⟩
  · show (stk ((b, ls' ++ m :: ls) :: rest)).Pairwise _
    rw [es]; exact h.rise
  · show ∀ v ∈ stk ((b, ls' ++ m :: ls) :: rest), _
    rw [es]; exact h.vis
  · intro v hv
    show _ ∨ v ∈ stk ((b, ls' ++ m :: ls) :: rest) ∨ _
    rw [es]
    exact h.three v hv
  · have hx : x ∈ (b, ls' ++ m :: ls) :: rest := hx
    rcases List.mem_cons.1 hx with rfl | hx
    · have hv : v ∈ ls' ++ m :: ls := hv
      rcases List.mem_append.1 hv with hv | hv
      · exact h.left (b, ls') (by rw [hS]; simp) v hv
      · rcases List.mem_cons.1 hv with rfl | hv
        · refine ⟨hRbm, hb, hl, fun w hw => ?_⟩
          obtain ⟨k, hk, e⟩ := List.getElem_of_mem hw
          obtain ⟨c, d⟩ := h0.2 k w (by show k < T.tried v; omega) (by rw [List.getElem?_eq_getElem hk, e])
          refine ⟨c, fun hp => ?_⟩
          rcases d hp with d | ⟨j, y, e1, _⟩
          · exact d
          · omega
        · obtain ⟨a, b', c, d⟩ := h.left (m, ls) (by rw [hS]; simp) v hv
          exact ⟨g.trans hmn hRbm a, Nat.le_trans hb b', c, d⟩
    · exact h.left x (by rw [hS]; simp [hx]) v hv
  · show ∀ v ∈ stk ((b, ls' ++ m :: ls) :: rest), T.low v ≤ T.num v ∧ ∃ w ∈ stk ((b, ls' ++ m :: ls) :: rest), _
    rw [es]
    exact h.low
  · have hx : ((b, ls' ++ m :: ls) :: rest)[i]? = some x := hx
    have hy : ((b, ls' ++ m :: ls) :: rest)[i + 1]? = some y := hy
    rw [List.getElem?_cons_succ] at hy
    cases i with
    | zero =>
      simp at hx
      subst hx
      exact h.chain 1 (b, ls') y (by rw [hS]; rfl) (by rw [hS]; exact hy)
    | succ i =>
      rw [List.getElem?_cons_succ] at hx
      exact h.chain (i + 2) x y (by rw [hS]; exact hx) (by rw [hS]; exact hy)
  · have hx : ((b, ls' ++ m :: ls) :: rest)[i]? = some x := hx
    cases i with
    | zero =>
      simp at hx
      subst hx
      obtain ⟨a, c⟩ := h.trd 1 (b, ls') (by rw [hS]; rfl)
      refine ⟨a, fun k w hk hw => ?_⟩
      obtain ⟨d, e⟩ := c k w hk hw
      refine ⟨d, fun hp => Or.inl ?_⟩
      rcases e hp with e | ⟨j, y, e1, e2, e3⟩
      · exact e
      · have : j = 0 := by omega
        subst this
        rw [hS] at e2
        simp at e2
        subst e2
        have e3 : m = w := e3
        subst e3
        exact Nat.le_trans hb (Nat.le_of_lt hl)
    | succ i =>
      rw [List.getElem?_cons_succ] at hx
      obtain ⟨a, c⟩ := h.trd (i + 2) x (by rw [hS]; exact hx)
      refine ⟨a, fun k w hk hw => ?_⟩
      obtain ⟨d, e⟩ := c k w hk hw
      refine ⟨d, fun hp => (e hp).imp id fun ⟨j, y, e1, e2, e3⟩ => ?_⟩
      have : j = i + 1 := by omega
      subst this
      rw [hS, List.getElem?_cons_succ] at e2
      cases i with
      | zero =>
        simp at e2
        subst e2
        exact ⟨0, (b, ls' ++ m :: ls), rfl, rfl, e3⟩
      | succ i =>
        rw [List.getElem?_cons_succ] at e2
        exact ⟨i + 1, y, rfl, by show ((b, ls' ++ m :: ls) :: rest)[i + 1]? = _; rw [List.getElem?_cons_succ]; exact e2, e3⟩

/-- what stands on the stack from m on is m's part -/
theorem close_cls {g : G} {T : TS} (hg : g.ok) (h : Inv g T) {m : Nat} {ls : List Nat} {rest : List (Nat × List Nat)} (hS : T.S = (m, ls) :: rest) (ht : T.tried m = (g.out m).length) (hl : ¬ T.low m < T.num m) (v : Nat) : v ∈ m :: ls ↔ v ∈ g.cls m := by
  have es : stk T.S = stk rest ++ (m :: ls) := by rw [hS, stk_cons]
  have hseg : ∀ u, u ∈ m :: ls → u ∈ stk T.S := fun u hu => by rw [es]; exact List.mem_append_right _ hu
  have hmn : m < g.n := (h.vis m (hseg m (by simp))).1
  have hlm : T.low m = T.num m := by have := (h.low m (hseg m (by simp))).1; omega
  have h0 := h.trd 0 (m, ls) (by rw [hS]; rfl)
  have hL := h.left (m, ls) (by rw [hS]; simp)
  -- the numbers from m on
  have hge : ∀ u, u ∈ stk T.S → (u ∈ m :: ls ↔ T.num m ≤ T.num u) := by
    intro u hu
    have hr := h.rise
    rw [es] at hr hu
    rw [List.pairwise_append] at hr
    obtain ⟨_, r2, r3⟩ := hr
    constructor
    · intro hm
      rcases List.mem_cons.1 hm with rfl | hm
      · exact Nat.le_refl _
      · exact Nat.le_of_lt ((List.pairwise_cons.1 r2).1 u hm)
    · intro hle
      rcases List.mem_append.1 hu with hu | hu
      · have := r3 u hu m (by simp)
        omega
      · exact hu
  have hlow : ∀ u, u ∈ m :: ls → T.num m ≤ T.low u := fun u hu => by
    rcases List.mem_cons.1 hu with rfl | hu
    · omega
    · have := (hL u hu).2.1
      show T.num m ≤ T.low u
      have : T.low m ≤ T.low u := this
      omega
  -- m leads to all of them
  have hfrom : ∀ u, u ∈ m :: ls → g.R m u = true := fun u hu => by
    rcases List.mem_cons.1 hu with rfl | hu
    · exact g.refl u
    · exact (hL u hu).1
  -- all of them lead to m
  have hto : ∀ k u, T.num u ≤ k → u ∈ m :: ls → g.R u m = true := by
    intro k
    induction k with
    | zero => intro u hk hu; have := (h.vis u (hseg u hu)).2.1; omega
    | succ k ih =>
      intro u hk hu
      rcases List.mem_cons.1 hu with e | hu'
      · rw [e]; exact g.refl m
      · obtain ⟨_, w, hw, e1, hR⟩ := h.low u (hseg u hu)
        have h1 := hlow u hu
        have h2 : T.low u < T.num u := (hL u hu').2.2.1
        have hws : w ∈ m :: ls := (hge w hw).2 (by omega)
        exact g.trans (h.vis w hw).1 hR (ih w (by omega) hws)
  -- no edge leads out of them but to what is finished
  have hclosed : ∀ a b, (a, b) ∈ g.E → (a ∈ m :: ls ∨ (a < g.n ∧ 0 ≤ T.part a)) → (b ∈ m :: ls ∨ (b < g.n ∧ 0 ≤ T.part b)) := by
    intro a b hab ha
    have hb := (hg _ hab).2
    have hout := g.mem_out.2 hab
    rcases ha with ha | ha
    · have hv : 0 < T.num b ∧ (T.part b < 0 → T.low a ≤ T.num b) := by
        rcases List.mem_cons.1 ha with e | ha'
        · subst e
          obtain ⟨k, hk, e⟩ := List.getElem_of_mem hout
          obtain ⟨c, d⟩ := h0.2 k b (by show k < T.tried a; omega) (by rw [List.getElem?_eq_getElem hk, e])
          refine ⟨c, fun hp => ?_⟩
          rcases d hp with d | ⟨j, y, e1, _⟩
          · exact d
          · omega
        · exact (hL a ha').2.2.2 b hout
      by_cases hp : T.part b < 0
      · have hbs := (h.act hb hv.1).2 hp
        exact Or.inl ((hge b hbs).2 (Nat.le_trans (hlow a ha) (hv.2 hp)))
      · exact Or.inr ⟨hb, by omega⟩
    · exact Or.inr ⟨hb, h.fin a ha.1 ha.2 b hout⟩
  have hfin : ∀ a b, (a, b) ∈ g.E → (a < g.n ∧ 0 ≤ T.part a) → (b < g.n ∧ 0 ≤ T.part b) := fun a b hab ha => ⟨(hg _ hab).2, h.fin a ha.1 ha.2 b (g.mem_out.2 hab)⟩
  rw [g.mem_cls]
  constructor
  · intro hv
    refine ⟨(h.vis v (hseg v hv)).1, ?_⟩
    unfold G.Q
    rw [hfrom v hv, hto _ v (Nat.le_refl _) hv]
    rfl
  · rintro ⟨hvn, hq⟩
    unfold G.Q at hq
    rw [Bool.and_eq_true] at hq
    rcases g.closed (X := fun u => u ∈ m :: ls ∨ (u < g.n ∧ 0 ≤ T.part u)) hclosed (Or.inl (by simp)) hq.1 with h1 | h1
    · exact h1
    · have h2 := g.closed (X := fun u => u < g.n ∧ 0 ≤ T.part u) hfin h1 hq.2
      have h3 := (h.vis m (hseg m (by simp))).2.2.2
      have h4 := h2.2
      omega

def TS.close (g : G) (T : TS) (m : Nat) (rest : List (Nat × List Nat)) : TS := { T with S := rest, part := fun v => if v ∈ g.cls m then (T.parts.length : Int) else T.part v, parts := T.parts ++ [g.cls m] }

theorem inv_close {g : G} {T : TS} (hg : g.ok) (h : Inv g T) {m : Nat} {ls : List Nat} {rest : List (Nat × List Nat)} (hS : T.S = (m, ls) :: rest) (ht : T.tried m = (g.out m).length) (hl : ¬ T.low m < T.num m) : Inv g (T.close g m rest) := by
  have hc := close_cls hg h hS ht hl
  have es : stk T.S = stk rest ++ (m :: ls) := by rw [hS, stk_cons]
  have hmn : m < g.n := (h.vis m (by rw [es]; simp)).1
  have hnd := h.nodup
  rw [es, List.nodup_append] at hnd
  have hno : ∀ v, v ∈ stk rest → v ∉ g.cls m := fun v hv hm => hnd.2.2 v hv v ((hc v).2 hm) rfl
  have hps : ∀ v, v ∉ g.cls m → (T.close g m rest).part v = T.part v := fun v hv => by show (if _ then _ else _) = _; rw [if_neg hv]
  have hpi : ∀ v, v ∈ g.cls m → (T.close g m rest).part v = (T.parts.length : Int) := fun v hv => by show (if _ then _ else _) = _; rw [if_pos hv]
  have hrs : ∀ v, v ∈ stk rest → v ∈ stk T.S := fun v hv => by rw [es]; exact List.mem_append_left _ hv
  have hneg : ∀ v, (T.close g m rest).part v < 0 → T.part v < 0 := fun v hv => by
    by_cases hm : v ∈ g.cls m
    · rw [hpi v hm] at hv; omega
    · rwa [hps v hm] at hv
  have hmseg : ∀ v, v ∈ g.cls m → v < g.n ∧ 0 < T.num v ∧ T.part v < 0 := fun v hv => by
    obtain ⟨a, b, _, d⟩ := h.vis v (by rw [es]; exact List.mem_append_right _ ((hc v).2 hv))
    exact ⟨a, b, d⟩
  refine ⟨?_, fun v hv => ?_, fun v hv => ?_, fun u hu hp w hw => ?_, fun x hx v hv => ?_, fun v hv => ?_, fun i x y hx hy => ?_, fun i x hx => ?_, fun p hp => ?_, fun k p hk v hv => ?_, fun v hv hp => ?_, h.cnt, fun v hv => ?_⟩
  · show (stk rest).Pairwise _
    have := h.rise
    rw [es, List.pairwise_append] at this
    exact this.1
  · obtain ⟨a, b, c, d⟩ := h.vis v (hrs v hv)
    exact ⟨a, b, c, by rw [hps v (hno v hv)]; exact d⟩
  · show _ ∨ v ∈ stk rest ∨ _
    by_cases hm : v ∈ g.cls m
    · exact Or.inr (Or.inr ⟨(hmseg v hm).2.1, by rw [hpi v hm]; omega⟩)
    · rw [hps v hm]
      rcases h.three v hv with a | a | a
      · exact Or.inl a
      · rw [es, List.mem_append] at a
        rcases a with a | a
        · exact Or.inr (Or.inl a)
        · exact absurd ((hc v).1 a) hm
      · exact Or.inr (Or.inr a)
  · have hwn : w < g.n := (hg _ (g.mem_out.1 hw)).2
    by_cases hwm : w ∈ g.cls m
    · rw [hpi w hwm]; omega
    · rw [hps w hwm]
      by_cases hum : u ∈ g.cls m
      · -- an edge out of the part leads to what is finished
        rcases h.three w hwn with a | a | a
        · exfalso
          have hus := (hc u).2 hum
          have hR : 0 < T.num w := by
            rcases List.mem_cons.1 hus with e | hus
            · subst e
              obtain ⟨k, hk, e⟩ := List.getElem_of_mem hw
              exact ((h.trd 0 (u, ls) (by rw [hS]; rfl)).2 k w (by show k < T.tried u; omega) (by rw [List.getElem?_eq_getElem hk, e])).1
            · exact ((h.left (m, ls) (by rw [hS]; simp) u hus).2.2.2 w hw).1
          omega
        · exfalso
          have hus := (hc u).2 hum
          have hwp := (h.vis w a).2.2.2
          -- it stands on the stack ahead of m
          have hlm : T.low m = T.num m := by have := (h.low m (by rw [es]; simp)).1; omega
          have hwr : w ∈ stk rest := by
            rw [es, List.mem_append] at a
            rcases a with a | a
            · exact a
            · exact absurd ((hc w).1 a) hwm
          have hlt : T.num w < T.num m := by
            have := h.rise
            rw [es, List.pairwise_append] at this
            exact this.2.2 w hwr m (by simp)
          have hle : T.num m ≤ T.num w := by
            rcases List.mem_cons.1 hus with e | hus
            · subst e
              obtain ⟨k, hk, e⟩ := List.getElem_of_mem hw
              rcases ((h.trd 0 (u, ls) (by rw [hS]; rfl)).2 k w (by show k < T.tried u; omega) (by rw [List.getElem?_eq_getElem hk, e])).2 hwp with d | ⟨j, y, e1, _⟩
              · have d : T.low u ≤ T.num w := d
                omega
              · omega
            · obtain ⟨_, b1, _, b3⟩ := h.left (m, ls) (by rw [hS]; simp) u hus
              have b1 : T.low m ≤ T.low u := b1
              have := (b3 w hw).2 hwp
              omega
          omega
        · exact a.2
      · rw [hps u hum] at hp
        exact h.fin u hu hp w hw
  · have hx : x ∈ rest := hx
    have hxs : v ∈ stk rest := mem_stk.2 ⟨x, hx, Or.inr hv⟩
    obtain ⟨a, b, c, d⟩ := h.left x (by rw [hS]; simp [hx]) v hv
    exact ⟨a, b, c, fun w hw => ⟨(d w hw).1, fun hp => (d w hw).2 (hneg w hp)⟩⟩
  · have hv : v ∈ stk rest := hv
    obtain ⟨a, w, hw, b, c⟩ := h.low v (hrs v hv)
    refine ⟨a, w, ?_, b, c⟩
    show w ∈ stk rest
    rw [es, List.mem_append] at hw
    rcases hw with hw | hw
    · exact hw
    · exfalso
      have hr := h.rise
      rw [es, List.pairwise_append] at hr
      have h1 := hr.2.2 v hv m (by simp)
      have h2 : T.num m ≤ T.num w := by
        rcases List.mem_cons.1 hw with rfl | hw
        · exact Nat.le_refl _
        · exact Nat.le_of_lt ((List.pairwise_cons.1 hr.2.1).1 w hw)
      omega
  · exact h.chain (i + 1) x y (by rw [hS]; exact hx) (by rw [hS]; exact hy)
  · have hx : rest[i]? = some x := hx
    obtain ⟨a, b⟩ := h.trd (i + 1) x (by rw [hS]; exact hx)
    refine ⟨a, fun k w hk hw => ?_⟩
    obtain ⟨c, d⟩ := b k w hk hw
    refine ⟨c, fun hp => ?_⟩
    rcases d (hneg w hp) with d | ⟨j, y, e1, e2, e3⟩
    · exact Or.inl d
    · right
      have : j = i := by omega
      subst this
      rw [hS] at e2
      cases j with
      | zero =>
        simp at e2
        subst e2
        -- the part that is closed has no part below 0
        have e3 : m = w := e3
        have : w ∈ g.cls m := by rw [← e3]; exact g.cls_self hmn
        rw [hpi w this] at hp
        omega
      | succ j => exact ⟨j, y, rfl, by rw [List.getElem?_cons_succ] at e2; exact e2, e3⟩
  · have hp : p ∈ T.parts ++ [g.cls m] := hp
    rcases List.mem_append.1 hp with hp | hp
    · exact h.cls p hp
    · exact ⟨m, hmn, List.mem_singleton.1 hp⟩
  · have hk : (T.parts ++ [g.cls m])[k]? = some p := hk
    rcases Nat.lt_or_ge k T.parts.length with hlt | hge
    · rw [List.getElem?_append_left hlt] at hk
      have h1 := h.idx k p hk v hv
      have : v ∉ g.cls m := fun hm => by have := (hmseg v hm).2.2; omega
      rw [hps v this]
      exact h1
    · rw [List.getElem?_append_right hge] at hk
      have h1 := (List.getElem?_eq_some_iff.1 hk).1
      simp at h1
      have : k = T.parts.length := by omega
      subst this
      simp at hk
      subst hk
      exact hpi v hv
  · show v ∈ (T.parts ++ [g.cls m]).flatten
    rw [List.flatten_append, List.mem_append]
    by_cases hm : v ∈ g.cls m
    · right
      simpa using hm
    · rw [hps v hm] at hp
      exact Or.inl (h.done v hv hp)
  · show _ < (((T.parts ++ [g.cls m]).length : Nat) : Int)
    rw [List.length_append, List.length_singleton]
    by_cases hm : v ∈ g.cls m
    · rw [hpi v hm]; omega
    · rw [hps v hm]
      have := h.rng v hv
      omega

structure Parted2 (g : G) (T : TS) : Prop where
  cls : ∀ p ∈ T.parts, ∃ i, i < g.n ∧ p = g.cls i
  idx : ∀ i, i < g.n → ∃ k : Nat, T.part i = (k : Int) ∧ T.parts[k]? = some (g.cls i)
  one : ∀ (k k' : Nat) (p : List Nat), T.parts[k]? = some p → T.parts[k']? = some p → k = k'

theorem parted_done {g : G} {T : TS} (h : Inv g T) (hS : T.S = []) (hall : ∀ v, v < g.n → 0 < T.num v) : Parted2 g T := by
  refine ⟨h.cls, fun i hi => ?_, fun k k' p h1 h2 => ?_⟩
  · have hp : 0 ≤ T.part i := by
      rcases h.three i hi with a | a | a
      · have := hall i hi; omega
      · rw [hS] at a; simp [stk] at a
      · exact a.2
    obtain ⟨p, hp2, hip⟩ := List.mem_flatten.1 (h.done i hi hp)
    obtain ⟨k, hk, e⟩ := List.getElem_of_mem hp2
    have hk2 : T.parts[k]? = some p := by rw [List.getElem?_eq_getElem hk, e]
    obtain ⟨j, hj, rfl⟩ := h.cls p hp2
    refine ⟨k, h.idx k _ hk2 i hip, ?_⟩
    rw [hk2, g.cls_eq hj hi (g.mem_cls.1 hip).2]
  · obtain ⟨j, hj, rfl⟩ := h.cls p (List.mem_of_getElem? h1)
    have a := h.idx k _ h1 j (g.cls_self hj)
    have b := h.idx k' _ h2 j (g.cls_self hj)
    omega
end Go.Proofs.YtohdcmmkbblhkaaGreatDoor.tj

/-
  tarjan: a heap, plain.
-/
set_option linter.all false
namespace Go.Proofs.YtohdcmmkbblhkaaGreatDoor.tj

def gd (xs : List Nat) (i : Nat) : Nat := xs.getD i 0
def sw (xs : List Nat) (i j : Nat) : List Nat := (xs.set i (gd xs j)).set j (gd xs i)

theorem sw_len (xs : List Nat) (i j : Nat) : (sw xs i j).length = xs.length := by simp [sw]
theorem gd_set {xs : List Nat} {i k v : Nat} (hk : k < xs.length) : gd (xs.set i v) k = if i = k then v else gd xs k := by
  unfold gd
  rw [List.getD_eq_getElem?_getD, List.getElem?_set]
  by_cases h : i = k
  · subst h
    simp [hk]
  · simp [h]
theorem gd_sw {xs : List Nat} {i j k : Nat} (hk : k < xs.length) : gd (sw xs i j) k = if j = k then gd xs i else if i = k then gd xs j else gd xs k := by
  unfold sw
  rw [gd_set (by simpa using hk)]
  by_cases h : j = k
  · rw [if_pos h, if_pos h]
  · rw [if_neg h, if_neg h, gd_set hk]

theorem sw_perm {xs : List Nat} {i j : Nat} (hi : i < xs.length) (hj : j < xs.length) : (sw xs i j).Perm xs := by
  have h := Array.swap_perm (xs := xs.toArray) (i := i) (j := j) (by simpa using hi) (by simpa using hj)
  have e : (xs.toArray.swap i j (by simpa using hi) (by simpa using hj)).toList = sw xs i j := by
    unfold sw gd
    simp [Array.swap, List.getD_eq_getElem?_getD, hi, hj]
  have := h.toList
  rw [e] at this
  simpa using this

/-- a heap, but that one may be less than its parent -/
structure HU (xs : List Nat) (j : Nat) : Prop where
  up : ∀ i, 0 < i → i < xs.length → i ≠ j → gd xs ((i - 1) / 2) ≤ gd xs i
  over : ∀ c, 0 < c → c < xs.length → (c - 1) / 2 = j → 0 < j → gd xs ((j - 1) / 2) ≤ gd xs c
def Hp (xs : List Nat) : Prop := ∀ i, 0 < i → i < xs.length → gd xs ((i - 1) / 2) ≤ gd xs i

theorem HU.done {xs : List Nat} {j : Nat} (h : HU xs j) (hd : j = 0 ∨ gd xs ((j - 1) / 2) ≤ gd xs j) : Hp xs := fun i h0 hi => by
  by_cases e : i = j
  · subst e
    rcases hd with h | h
    · omega
    · exact h
  · exact h.up i h0 hi e

theorem HU.step {xs : List Nat} {j : Nat} (h : HU xs j) (hj : j < xs.length) (h0 : 0 < j) (hlt : gd xs j < gd xs ((j - 1) / 2)) : HU (sw xs ((j - 1) / 2) j) ((j - 1) / 2) := by
  refine ⟨fun i hi0 hi hne => ?_, fun c hc0 hc hcp hp0 => ?_⟩
  · rw [sw_len] at hi
    rw [gd_sw (by omega), gd_sw hi]
    by_cases e : j = i
    · subst e
      rw [if_pos rfl, if_neg (by omega), if_pos rfl]
      omega
    · rw [if_neg e, if_neg (Ne.symm hne)]
      have hu := h.up i hi0 hi (Ne.symm e)
      by_cases e1 : j = (i - 1) / 2
      · rw [if_pos e1]
        exact h.over i hi0 hi e1.symm h0
      · rw [if_neg e1]
        by_cases e2 : (j - 1) / 2 = (i - 1) / 2
        · rw [if_pos e2]
          rw [← e2] at hu
          omega
        · rw [if_neg e2]
          exact hu
  · rw [sw_len] at hc
    rw [gd_sw (by omega), gd_sw hc, if_neg (by omega), if_neg (by omega)]
    have hpp := h.up ((j - 1) / 2) hp0 (by omega) (by omega)
    by_cases e : j = c
    · rw [if_pos e]
      exact hpp
    · rw [if_neg e, if_neg (by omega)]
      have := h.up c hc0 hc (Ne.symm e)
      rw [hcp] at this
      omega

theorem Hp.push {xs : List Nat} (h : Hp xs) (x : Nat) : HU (xs ++ [x]) xs.length := by
  have e : ∀ k, k < xs.length → gd (xs ++ [x]) k = gd xs k := fun k hk => by
    unfold gd
    rw [List.getD_eq_getElem?_getD, List.getD_eq_getElem?_getD, List.getElem?_append_left hk]
  refine ⟨fun i h0 hi hne => ?_, fun c h0 hc hp hj => ?_⟩
  · rw [List.length_append, List.length_singleton] at hi
    rw [e _ (by omega), e _ (by omega)]
    exact h i h0 (by omega)
  · rw [List.length_append, List.length_singleton] at hc
    omega

/-- the least one is the first one -/
theorem Hp.min {xs : List Nat} (h : Hp xs) : ∀ k i, i ≤ k → i < xs.length → gd xs 0 ≤ gd xs i
  | 0, i, hk, _ => by rw [show i = 0 by omega]; exact Nat.le_refl _
  | k + 1, i, hk, hi => by
    rcases Nat.eq_zero_or_pos i with h0 | h0
    · rw [h0]; exact Nat.le_refl _
    · exact Nat.le_trans (h.min k ((i - 1) / 2) (by omega) (by omega)) (h i h0 hi)

/-- the first n are a heap, but that one may be more than its children -/
structure HD (xs : List Nat) (n i : Nat) : Prop where
  dn : ∀ c, 0 < c → c < n → (c - 1) / 2 ≠ i → gd xs ((c - 1) / 2) ≤ gd xs c
  over : ∀ c, 0 < c → c < n → (c - 1) / 2 = i → 0 < i → gd xs ((i - 1) / 2) ≤ gd xs c

/-- the lesser one of two children -/
def lc (xs : List Nat) (n i : Nat) : Nat := if 2 * i + 2 < n ∧ gd xs (2 * i + 2) < gd xs (2 * i + 1) then 2 * i + 2 else 2 * i + 1

theorem lc_le {xs : List Nat} {n i : Nat} (c : Nat) (h0 : 0 < c) (hc : c < n) (hp : (c - 1) / 2 = i) : gd xs (lc xs n i) ≤ gd xs c := by
  unfold lc
  have : c = 2 * i + 1 ∨ c = 2 * i + 2 := by omega
  rcases this with rfl | rfl
  · split
    · rename_i h; omega
    · exact Nat.le_refl _
  · split
    · exact Nat.le_refl _
    · rename_i h; omega

theorem lc_lt {xs : List Nat} {n i : Nat} (h : 2 * i + 1 < n) : lc xs n i < n ∧ (lc xs n i - 1) / 2 = i ∧ i < lc xs n i := by
  unfold lc
  split
  · rename_i h; omega
  · omega

def Hn (xs : List Nat) (n : Nat) : Prop := ∀ i, 0 < i → i < n → gd xs ((i - 1) / 2) ≤ gd xs i

theorem HD.leaf {xs : List Nat} {n i : Nat} (h : HD xs n i) (hn : n ≤ 2 * i + 1) : Hn xs n := fun c h0 hc => h.dn c h0 hc (by omega)
theorem HD.done {xs : List Nat} {n i : Nat} (h : HD xs n i) (hl : gd xs i ≤ gd xs (lc xs n i)) : Hn xs n := fun c h0 hc => by
  by_cases e : (c - 1) / 2 = i
  · rw [e]
    exact Nat.le_trans hl (lc_le c h0 hc e)
  · exact h.dn c h0 hc e

theorem HD.step {xs : List Nat} {n i : Nat} (h : HD xs n i) (hn : 2 * i + 1 < n) (hx : n ≤ xs.length) (hl : gd xs (lc xs n i) < gd xs i) : HD (sw xs i (lc xs n i)) n (lc xs n i) := by
  obtain ⟨l1, l2, l3⟩ := lc_lt (xs := xs) hn
  have lmin := fun c h0 hc hp => lc_le (xs := xs) (n := n) (i := i) c h0 hc hp
  generalize lc xs n i = j at *
  refine ⟨fun c h0 hc hne => ?_, fun c h0 hc hp hj => ?_⟩
  · rw [gd_sw (by omega), gd_sw (by omega), if_neg (Ne.symm hne)]
    by_cases e : (c - 1) / 2 = i
    · rw [if_pos e.symm]
      by_cases e1 : j = c
      · rw [if_pos e1]; omega
      · rw [if_neg e1, if_neg (by omega)]
        exact lmin c h0 hc e
    · rw [if_neg (Ne.symm e), if_neg (by omega)]
      by_cases e2 : i = c
      · rw [if_pos e2, ← e2]
        exact h.over j (by omega) l1 l2 (by omega)
      · rw [if_neg e2]
        exact h.dn c h0 hc e
  · rw [gd_sw (by omega), gd_sw (by omega), if_neg (by omega), if_pos l2.symm, if_neg (by omega), if_neg (by omega)]
    have := h.dn c h0 hc (by omega)
    rw [hp] at this
    exact this

/-- the first one and the last one are exchanged -/
theorem Hp.pop {xs : List Nat} (h : Hp xs) (h0 : 0 < xs.length) : HD (sw xs 0 (xs.length - 1)) (xs.length - 1) 0 := by
  refine ⟨fun c hc0 hc hne => ?_, fun c _ _ _ h0 => by omega⟩
  rw [gd_sw (by omega), gd_sw (by omega), if_neg (by omega), if_neg (by omega), if_neg (by omega), if_neg (by omega)]
  exact h c hc0 (by omega)

theorem Hn.take {xs : List Nat} {n : Nat} (h : Hn xs n) (hn : n ≤ xs.length) : Hp (xs.take n) := fun i h0 hi => by
  rw [List.length_take] at hi
  have e : ∀ k, k < n → gd (xs.take n) k = gd xs k := fun k hk => by
    unfold gd
    rw [List.getD_eq_getElem?_getD, List.getD_eq_getElem?_getD, List.getElem?_take, if_pos hk]
  rw [e _ (by omega), e _ (by omega)]
  exact h i h0 (by omega)
end Go.Proofs.YtohdcmmkbblhkaaGreatDoor.tj
