/-
  tarjan: the parts in their order, plain.
-/
import Derived.Test.YtpdidgacmikllaaTj
namespace Go.Proofs.Ytpdidgacmikllaa.tj

def G.Qc (g : G) (done : Nat → Bool) : Prop := ∀ i j, i < g.n → j < g.n → g.Q i j = true → done i = true → done j = true

theorem G.qc_none (g : G) : g.Qc fun _ => false := fun _ _ _ _ _ h => by cases h
theorem G.qc_add (g : G) {done : Nat → Bool} {k : Nat} (hk : k < g.n) (h : g.Qc done) : g.Qc (g.add done k) := by
  intro i j hi hj hq hd
  unfold G.add at *
  rw [Bool.or_eq_true] at *
  rcases hd with hd | hd
  · exact Or.inl (h i j hi hj hq hd)
  · exact Or.inr (g.q_trans hi hd hq)

theorem G.free_cls (g : G) {done : Nat → Bool} {i j : Nat} (hi : i < g.n) (hj : j < g.n) (hq : g.Q i j = true) : g.free done i = g.free done j := by
  suffices H : ∀ a b, a < g.n → b < g.n → g.Q a b = true → g.free done a = true → g.free done b = true by
    rw [Bool.eq_iff_iff]
    exact ⟨H i j hi hj hq, H j i hj hi (by rw [g.q_symm]; exact hq)⟩
  intro a b ha hb hq h
  rw [g.free_iff] at *
  unfold G.Q at hq
  rw [Bool.and_eq_true] at hq
  intro k hk h1 h2
  refine h k hk (g.trans hb hq.1 h1) ?_
  rw [Bool.eq_false_iff] at *
  exact fun h3 => h2 (g.trans ha h3 hq.1)

/-- how many do not stand yet -/
def G.und (g : G) (done : Nat → Bool) : Nat := ((List.range g.n).filter fun i => !done i).length

theorem filter_lt {α : Type} {p q : α → Bool} {l : List α} (hpq : ∀ x, p x = true → q x = true) {a : α} (ha : a ∈ l) (h1 : q a = true) (h2 : p a = false) : (l.filter p).length < (l.filter q).length := by
  induction l with
  | nil => cases ha
  | cons x r ih =>
    have hle : (r.filter p).length ≤ (r.filter q).length := by
      have := List.countP_mono_left (l := r) (p := p) (q := q) (fun x _ => hpq x)
      rwa [List.countP_eq_length_filter, List.countP_eq_length_filter] at this
    rcases List.mem_cons.1 ha with rfl | ha
    · rw [List.filter_cons_of_neg (by simp [h2]), List.filter_cons_of_pos h1, List.length_cons]
      omega
    · have := ih ha
      by_cases hp : p x = true
      · rw [List.filter_cons_of_pos hp, List.filter_cons_of_pos (hpq x hp), List.length_cons, List.length_cons]
        omega
      · rw [List.filter_cons_of_neg hp]
        by_cases hq : q x = true
        · rw [List.filter_cons_of_pos hq, List.length_cons]
          omega
        · rw [List.filter_cons_of_neg hq]
          exact this

theorem G.und_add (g : G) {done : Nat → Bool} {i : Nat} (hi : i < g.n) (hd : done i = false) : g.und (g.add done i) < g.und done :=
  filter_lt (fun x h => by unfold G.add at h; cases hx : done x <;> simp [hx] at h ⊢) (a := i) (by simpa using hi) (by simp [hd]) (by simp [G.add, g.q_refl])

theorem G.und_pos (g : G) {done : Nat → Bool} {i : Nat} (hi : i < g.n) (hd : done i = false) : 0 < g.und done :=
  List.length_pos_of_mem (a := i) (List.mem_filter.2 ⟨by simpa using hi, by simp [hd]⟩)

theorem G.ord_fuel (g : G) : ∀ (f : Nat) (done : Nat → Bool), g.und done ≤ f → ∀ f', g.und done ≤ f' → g.ord f done = g.ord f' done
  | 0, done, h, f', _ => by
    cases f' with
    | zero => rfl
    | succ f' =>
      unfold G.ord
      cases hn : g.next done with
      | none => rfl
      | some i =>
        obtain ⟨h1, h2, _⟩ := g.next_some hn
        have := g.und_pos h1 h2
        omega
  | f + 1, done, h, f', h' => by
    cases hn : g.next done with
    | none =>
      cases f' with
      | zero => simp [G.ord, hn]
      | succ f' => simp [G.ord, hn]
    | some i =>
      obtain ⟨h1, h2, _⟩ := g.next_some hn
      have hu := g.und_add h1 h2
      have hp := g.und_pos h1 h2
      cases f' with
      | zero => omega
      | succ f' =>
        simp only [G.ord, hn]
        rw [g.ord_fuel f (g.add done i) (by omega) f' (by omega)]

/-- what is still to come -/
def G.rest (g : G) (done : Nat → Bool) : List (List Nat) := g.ord (g.und done) done

theorem G.und_none (g : G) : g.und (fun _ => false) = g.n := by
  unfold G.und
  rw [List.filter_eq_self.2 (by simp), List.length_range]
theorem G.parts_rest (g : G) : g.parts = g.rest fun _ => false := by unfold G.parts G.rest; rw [g.und_none]
theorem G.rest_none (g : G) {done : Nat → Bool} (h : g.next done = none) : g.rest done = [] := by
  unfold G.rest
  cases g.und done with
  | zero => rfl
  | succ f => simp [G.ord, h]
theorem G.rest_some (g : G) {done : Nat → Bool} {i : Nat} (h : g.next done = some i) : g.rest done = g.cls i :: g.rest (g.add done i) := by
  obtain ⟨h1, h2, _⟩ := g.next_some h
  have hu := g.und_add h1 h2
  have hp := g.und_pos h1 h2
  unfold G.rest
  obtain ⟨f, hf⟩ : ∃ f, g.und done = f + 1 := ⟨g.und done - 1, by omega⟩
  rw [hf]
  simp only [G.ord, h]
  rw [g.ord_fuel f (g.add done i) (by omega) _ (Nat.le_refl _)]

/-- there is always one that is free -/
theorem G.next_ex (g : G) (hg : g.ok) {done : Nat → Bool} {i : Nat} (hi : i < g.n) (hd : done i = false) : ∃ k, g.next done = some k := by
  suffices H : ∀ m i, i < g.n → done i = false → ((List.range g.n).filter fun j => g.R i j).length ≤ m → ∃ k, k < g.n ∧ done k = false ∧ g.free done k = true by
    obtain ⟨k, h1, h2, h3⟩ := H _ i hi hd (Nat.le_refl _)
    cases hn : g.next done with
    | some q => exact ⟨q, rfl⟩
    | none =>
      rcases g.next_none.1 hn k h1 with h | h
      · rw [h2] at h; cases h
      · rw [h3] at h; cases h
  intro m
  induction m with
  | zero =>
    intro i hi hd hm
    have : 0 < ((List.range g.n).filter fun j => g.R i j).length := List.length_pos_of_mem (a := i) (List.mem_filter.2 ⟨by simpa using hi, g.refl i⟩)
    omega
  | succ m ih =>
    intro i hi hd hm
    by_cases hf : g.free done i = true
    · exact ⟨i, hi, hd, hf⟩
    · rw [g.free_iff] at hf
      simp only [Classical.not_forall] at hf
      obtain ⟨j, hj, h1, h2, h3⟩ := hf
      have h3 : done j = false := by simpa using h3
      refine ih j hj h3 ?_
      have := filter_lt (l := List.range g.n) (p := fun k => g.R j k) (q := fun k => g.R i k) (fun k hk => g.trans hj h1 hk) (a := i) (by simpa using hi) (g.refl i) h2
      omega

structure Parted (g : G) (done : Nat → Bool) (L : List (List Nat)) : Prop where
  cls : ∀ p ∈ L, ∃ i, i < g.n ∧ done i = false ∧ p = g.cls i
  nodup : L.flatten.Nodup
  mem : ∀ i, i ∈ L.flatten ↔ i < g.n ∧ done i = false
  behind : ∀ (a b : Nat) (p q : List Nat), a < b → L[a]? = some p → L[b]? = some q → ∀ i ∈ p, ∀ j ∈ q, (i, j) ∉ g.E

theorem G.rest_parted (g : G) (hg : g.ok) : ∀ (m : Nat) (done : Nat → Bool), g.und done ≤ m → g.Qc done → Parted g done (g.rest done) := by
  intro m
  induction m with
  | zero =>
    intro done hm hq
    have hno : ∀ i, i < g.n → done i = true := fun i hi => by
      cases hd : done i with
      | true => rfl
      | false => have := g.und_pos hi hd; omega
    have e : g.rest done = [] := by unfold G.rest; rw [show g.und done = 0 by omega]; rfl
    rw [e]
    exact ⟨by simp, by simp, fun i => by simp; intro hi; exact hno i hi, by simp⟩
  | succ m ih =>
    intro done hm hq
    cases hn : g.next done with
    | none =>
      rw [g.rest_none hn]
      have hno : ∀ i, i < g.n → done i = true := fun i hi => by
        cases hd : done i with
        | true => rfl
        | false =>
          obtain ⟨k, hk⟩ := g.next_ex hg hi hd
          rw [hk] at hn
          cases hn
      exact ⟨by simp, by simp, fun i => by simp; intro hi; exact hno i hi, by simp⟩
    | some i =>
      obtain ⟨h1, h2, h3, _⟩ := g.next_some hn
      have hu := g.und_add h1 h2
      have hP := ih (g.add done i) (by omega) (g.qc_add h1 hq)
      rw [g.rest_some hn]
      have hout : ∀ j, j ∈ g.cls i → j < g.n ∧ done j = false := fun j hj => by
        obtain ⟨hj1, hj2⟩ := g.mem_cls.1 hj
        refine ⟨hj1, ?_⟩
        cases hd : done j with
        | false => rfl
        | true =>
          have := hq j i hj1 h1 (by rw [g.q_symm]; exact hj2) hd
          rw [this] at h2
          cases h2
      refine ⟨fun p hp => ?_, ?_, fun j => ?_, fun a b p q hab ha hb x hx y hy => ?_⟩
      · rcases List.mem_cons.1 hp with rfl | hp
        · exact ⟨i, h1, h2, rfl⟩
        · obtain ⟨k, k1, k2, k3⟩ := hP.cls p hp
          unfold G.add at k2
          rw [Bool.or_eq_false_iff] at k2
          exact ⟨k, k1, k2.1, k3⟩
      · rw [List.flatten_cons, List.nodup_append]
        refine ⟨(g.cls_srt i).imp (fun h => Nat.ne_of_lt h), hP.nodup, fun x hx y hy e => ?_⟩
        subst e
        have := ((hP.mem x).1 hy).2
        unfold G.add at this
        rw [Bool.or_eq_false_iff] at this
        rw [(g.mem_cls.1 hx).2] at this
        exact absurd this.2 (by simp)
      · rw [List.flatten_cons, List.mem_append, hP.mem]
        unfold G.add
        rw [Bool.or_eq_false_iff]
        constructor
        · rintro (h | h)
          · exact hout j h
          · exact ⟨h.1, h.2.1⟩
        · rintro ⟨a, b⟩
          by_cases hqj : g.Q i j = true
          · exact Or.inl (g.mem_cls.2 ⟨a, hqj⟩)
          · exact Or.inr ⟨a, b, by simpa using hqj⟩
      · cases b with
        | zero => omega
        | succ b =>
          rw [List.getElem?_cons_succ] at hb
          cases a with
          | succ a =>
            rw [List.getElem?_cons_succ] at ha
            exact hP.behind a b p q (by omega) ha hb x hx y hy
          | zero =>
            rw [List.getElem?_cons_zero] at ha
            cases ha
            have hq' : y ∈ (g.rest (g.add done i)).flatten := List.mem_flatten.2 ⟨q, List.mem_of_getElem? hb, hy⟩
            obtain ⟨y1, y2⟩ := (hP.mem y).1 hq'
            intro he
            have hfx : g.free done x = true := by
              rw [← g.free_cls h1 (g.mem_cls.1 hx).1 (g.mem_cls.1 hx).2]
              exact h3
            have hyx : g.R x y = true := g.edge he
            have hd := hP
            unfold G.add at y2
            rw [Bool.or_eq_false_iff] at y2
            by_cases hb2 : g.R y x = true
            · have hqxy : g.Q i y = true := g.q_trans (g.mem_cls.1 hx).1 (g.mem_cls.1 hx).2 (by unfold G.Q; rw [hyx, hb2]; rfl)
              rw [hqxy] at y2
              exact absurd y2.2 (by simp)
            · have := g.free_iff.1 hfx y y1 hyx (by simpa using hb2)
              rw [this] at y2
              exact absurd y2.1 (by simp)

theorem G.parts_parted (g : G) (hg : g.ok) : Parted g (fun _ => false) g.parts := by
  rw [g.parts_rest]
  exact g.rest_parted hg _ _ (Nat.le_refl _) g.qc_none

theorem nodup_len {α : Type} [BEq α] [LawfulBEq α] : ∀ {l m : List α}, l.Nodup → (∀ x ∈ l, x ∈ m) → l.length ≤ m.length
  | [], _, _, _ => Nat.zero_le _
  | x :: r, m, h, hs => by
    have h1 := List.nodup_cons.1 h
    have hx : x ∈ m := hs x (by simp)
    have := nodup_len (l := r) (m := m.erase x) h1.2 fun y hy => (List.mem_erase_of_ne (fun (e : y = x) => h1.1 (by rw [← e]; exact hy))).2 (hs y (List.mem_cons_of_mem _ hy))
    rw [List.length_erase_of_mem hx] at this
    have := List.length_pos_of_mem hx
    rw [List.length_cons]
    omega

theorem Parted.ne {g : G} {done : Nat → Bool} {L : List (List Nat)} (h : Parted g done L) : ∀ p ∈ L, p ≠ [] := fun p hp e => by
  obtain ⟨i, hi, _, rfl⟩ := h.cls p hp
  have := g.cls_self hi
  rw [e] at this
  cases this

theorem nodup_of_flat : ∀ {L : List (List Nat)}, L.flatten.Nodup → (∀ p ∈ L, p ≠ []) → L.Nodup
  | [], _, _ => by simp
  | p :: r, h, hne => by
    rw [List.flatten_cons, List.nodup_append] at h
    refine List.nodup_cons.2 ⟨fun hp => ?_, nodup_of_flat h.2.1 fun q hq => hne q (List.mem_cons_of_mem _ hq)⟩
    obtain ⟨x, hx⟩ := List.exists_mem_of_ne_nil p (hne p (by simp))
    exact h.2.2 x hx x (List.mem_flatten.2 ⟨p, hp, hx⟩) rfl

theorem Parted.all {g : G} {L : List (List Nat)} (h : Parted g (fun _ => false) L) : ∀ p, p ∈ L ↔ ∃ i, i < g.n ∧ p = g.cls i := by
  intro p
  constructor
  · intro hp
    obtain ⟨i, hi, _, e⟩ := h.cls p hp
    exact ⟨i, hi, e⟩
  · rintro ⟨i, hi, rfl⟩
    have := (h.mem i).2 ⟨hi, rfl⟩
    obtain ⟨q, hq, hm⟩ := List.mem_flatten.1 this
    obtain ⟨j, hj, _, rfl⟩ := h.cls q hq
    rw [g.cls_eq hi hj (by rw [g.q_symm]; exact (g.mem_cls.1 hm).2)]
    exact hq

theorem Parted.nd {g : G} {done : Nat → Bool} {L : List (List Nat)} (h : Parted g done L) : L.Nodup := nodup_of_flat h.nodup h.ne

/-- all in all as many as there are members -/
theorem Parted.len {g : G} {L : List (List Nat)} (h : Parted g (fun _ => false) L) : L.flatten.length = g.n := by
  have h1 := nodup_len (l := L.flatten) (m := List.range g.n) h.nodup fun x hx => by simpa using ((h.mem x).1 hx).1
  have h2 := nodup_len (l := List.range g.n) (m := L.flatten) List.nodup_range fun x hx => (h.mem x).2 ⟨by simpa using hx, rfl⟩
  rw [List.length_range] at *
  omega
end Go.Proofs.Ytpdidgacmikllaa.tj
