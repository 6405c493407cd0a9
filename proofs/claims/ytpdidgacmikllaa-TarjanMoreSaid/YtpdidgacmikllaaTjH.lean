/-
  tarjan: a heap, plain.
-/
import Derived.Test.YtpdidgacmikllaaRows
namespace Go.Proofs.Ytpdidgacmikllaa.tj

def gd (xs : List Nat) (i : Nat) : Nat := xs.getD i 0
def sw (xs : List Nat) (i j : Nat) : List Nat := (xs.set i (gd xs j)).set j (gd xs i)

theorem sw_len (xs : List Nat) (i j : Nat) : (sw xs i j).length = xs.length := by simp [sw]
theorem gd_set {xs : List Nat} {i k v : Nat} (hk : k < xs.length) : gd (xs.set i v) k = if i = k then v else gd xs k := by
  unfold gd
  rw [List.getD_eq_getElem?_getD, List.getElem?_set]
  by_cases h : i = k
  · subst h
    simp [hk]
  · simp [h]
theorem gd_sw {xs : List Nat} {i j k : Nat} (hk : k < xs.length) : gd (sw xs i j) k = if j = k then gd xs i else if i = k then gd xs j else gd xs k := by
  unfold sw
  rw [gd_set (by simpa using hk)]
  by_cases h : j = k
  · rw [if_pos h, if_pos h]
  · rw [if_neg h, if_neg h, gd_set hk]

theorem sw_perm {xs : List Nat} {i j : Nat} (hi : i < xs.length) (hj : j < xs.length) : (sw xs i j).Perm xs := by
  have h := Array.swap_perm (xs := xs.toArray) (i := i) (j := j) (by simpa using hi) (by simpa using hj)
  have e : (xs.toArray.swap i j (by simpa using hi) (by simpa using hj)).toList = sw xs i j := by
    unfold sw gd
    simp [Array.swap, List.getD_eq_getElem?_getD, hi, hj]
  have := h.toList
  rw [e] at this
  simpa using this

/-- a heap, but that one may be less than its parent -/
structure HU (xs : List Nat) (j : Nat) : Prop where
  up : ∀ i, 0 < i → i < xs.length → i ≠ j → gd xs ((i - 1) / 2) ≤ gd xs i
  over : ∀ c, 0 < c → c < xs.length → (c - 1) / 2 = j → 0 < j → gd xs ((j - 1) / 2) ≤ gd xs c
def Hp (xs : List Nat) : Prop := ∀ i, 0 < i → i < xs.length → gd xs ((i - 1) / 2) ≤ gd xs i

theorem HU.done {xs : List Nat} {j : Nat} (h : HU xs j) (hd : j = 0 ∨ gd xs ((j - 1) / 2) ≤ gd xs j) : Hp xs := fun i h0 hi => by
  by_cases e : i = j
  · subst e
    rcases hd with h | h
    · omega
    · exact h
  · exact h.up i h0 hi e

theorem HU.step {xs : List Nat} {j : Nat} (h : HU xs j) (hj : j < xs.length) (h0 : 0 < j) (hlt : gd xs j < gd xs ((j - 1) / 2)) : HU (sw xs ((j - 1) / 2) j) ((j - 1) / 2) := by
  refine ⟨fun i hi0 hi hne => ?_, fun c hc0 hc hcp hp0 => ?_⟩
  · rw [sw_len] at hi
    rw [gd_sw (by omega), gd_sw hi]
    by_cases e : j = i
    · subst e
      rw [if_pos rfl, if_neg (by omega), if_pos rfl]
      omega
    · rw [if_neg e, if_neg (Ne.symm hne)]
      have hu := h.up i hi0 hi (Ne.symm e)
      by_cases e1 : j = (i - 1) / 2
      · rw [if_pos e1]
        exact h.over i hi0 hi e1.symm h0
      · rw [if_neg e1]
        by_cases e2 : (j - 1) / 2 = (i - 1) / 2
        · rw [if_pos e2]
          rw [← e2] at hu
          omega
        · rw [if_neg e2]
          exact hu
  · rw [sw_len] at hc
    rw [gd_sw (by omega), gd_sw hc, if_neg (by omega), if_neg (by omega)]
    have hpp := h.up ((j - 1) / 2) hp0 (by omega) (by omega)
    by_cases e : j = c
    · rw [if_pos e]
      exact hpp
    · rw [if_neg e, if_neg (by omega)]
      have := h.up c hc0 hc (Ne.symm e)
      rw [hcp] at this
      omega

theorem Hp.push {xs : List Nat} (h : Hp xs) (x : Nat) : HU (xs ++ [x]) xs.length := by
  have e : ∀ k, k < xs.length → gd (xs ++ [x]) k = gd xs k := fun k hk => by
    unfold gd
    rw [List.getD_eq_getElem?_getD, List.getD_eq_getElem?_getD, List.getElem?_append_left hk]
  refine ⟨fun i h0 hi hne => ?_, fun c h0 hc hp hj => ?_⟩
  · rw [List.length_append, List.length_singleton] at hi
    rw [e _ (by omega), e _ (by omega)]
    exact h i h0 (by omega)
  · rw [List.length_append, List.length_singleton] at hc
    omega

/-- the least one is the first one -/
theorem Hp.min {xs : List Nat} (h : Hp xs) : ∀ k i, i ≤ k → i < xs.length → gd xs 0 ≤ gd xs i
  | 0, i, hk, _ => by rw [show i = 0 by omega]; exact Nat.le_refl _
  | k + 1, i, hk, hi => by
    rcases Nat.eq_zero_or_pos i with h0 | h0
    · rw [h0]; exact Nat.le_refl _
    · exact Nat.le_trans (h.min k ((i - 1) / 2) (by omega) (by omega)) (h i h0 hi)

/-- the first n are a heap, but that one may be more than its children -/
structure HD (xs : List Nat) (n i : Nat) : Prop where
  dn : ∀ c, 0 < c → c < n → (c - 1) / 2 ≠ i → gd xs ((c - 1) / 2) ≤ gd xs c
  over : ∀ c, 0 < c → c < n → (c - 1) / 2 = i → 0 < i → gd xs ((i - 1) / 2) ≤ gd xs c

/-- the lesser one of two children -/
def lc (xs : List Nat) (n i : Nat) : Nat := if 2 * i + 2 < n ∧ gd xs (2 * i + 2) < gd xs (2 * i + 1) then 2 * i + 2 else 2 * i + 1

theorem lc_le {xs : List Nat} {n i : Nat} (c : Nat) (h0 : 0 < c) (hc : c < n) (hp : (c - 1) / 2 = i) : gd xs (lc xs n i) ≤ gd xs c := by
  unfold lc
  have : c = 2 * i + 1 ∨ c = 2 * i + 2 := by omega
  rcases this with rfl | rfl
  · split
    · rename_i h; omega
    · exact Nat.le_refl _
  · split
    · exact Nat.le_refl _
    · rename_i h; omega

theorem lc_lt {xs : List Nat} {n i : Nat} (h : 2 * i + 1 < n) : lc xs n i < n ∧ (lc xs n i - 1) / 2 = i ∧ i < lc xs n i := by
  unfold lc
  split
  · rename_i h; omega
  · omega

def Hn (xs : List Nat) (n : Nat) : Prop := ∀ i, 0 < i → i < n → gd xs ((i - 1) / 2) ≤ gd xs i

theorem HD.leaf {xs : List Nat} {n i : Nat} (h : HD xs n i) (hn : n ≤ 2 * i + 1) : Hn xs n := fun c h0 hc => h.dn c h0 hc (by omega)
theorem HD.done {xs : List Nat} {n i : Nat} (h : HD xs n i) (hl : gd xs i ≤ gd xs (lc xs n i)) : Hn xs n := fun c h0 hc => by
  by_cases e : (c - 1) / 2 = i
  · rw [e]
    exact Nat.le_trans hl (lc_le c h0 hc e)
  · exact h.dn c h0 hc e

theorem HD.step {xs : List Nat} {n i : Nat} (h : HD xs n i) (hn : 2 * i + 1 < n) (hx : n ≤ xs.length) (hl : gd xs (lc xs n i) < gd xs i) : HD (sw xs i (lc xs n i)) n (lc xs n i) := by
  obtain ⟨l1, l2, l3⟩ := lc_lt (xs := xs) hn
  have lmin := fun c h0 hc hp => lc_le (xs := xs) (n := n) (i := i) c h0 hc hp
  generalize lc xs n i = j at *
  refine ⟨fun c h0 hc hne => ?_, fun c h0 hc hp hj => ?_⟩
  · rw [gd_sw (by omega), gd_sw (by omega), if_neg (Ne.symm hne)]
    by_cases e : (c - 1) / 2 = i
    · rw [if_pos e.symm]
      by_cases e1 : j = c
      · rw [if_pos e1]; omega
      · rw [if_neg e1, if_neg (by omega)]
        exact lmin c h0 hc e
    · rw [if_neg (Ne.symm e), if_neg (by omega)]
      by_cases e2 : i = c
      · rw [if_pos e2, ← e2]
        exact h.over j (by omega) l1 l2 (by omega)
      · rw [if_neg e2]
        exact h.dn c h0 hc e
  · rw [gd_sw (by omega), gd_sw (by omega), if_neg (by omega), if_pos l2.symm, if_neg (by omega), if_neg (by omega)]
    have := h.dn c h0 hc (by omega)
    rw [hp] at this
    exact this

/-- the first one and the last one are exchanged -/
theorem Hp.pop {xs : List Nat} (h : Hp xs) (h0 : 0 < xs.length) : HD (sw xs 0 (xs.length - 1)) (xs.length - 1) 0 := by
  refine ⟨fun c hc0 hc hne => ?_, fun c _ _ _ h0 => by omega⟩
  rw [gd_sw (by omega), gd_sw (by omega), if_neg (by omega), if_neg (by omega), if_neg (by omega), if_neg (by omega)]
  exact h c hc0 (by omega)

theorem Hn.take {xs : List Nat} {n : Nat} (h : Hn xs n) (hn : n ≤ xs.length) : Hp (xs.take n) := fun i h0 hi => by
  rw [List.length_take] at hi
  have e : ∀ k, k < n → gd (xs.take n) k = gd xs k := fun k hk => by
    unfold gd
    rw [List.getD_eq_getElem?_getD, List.getD_eq_getElem?_getD, List.getElem?_take, if_pos hk]
  rw [e _ (by omega), e _ (by omega)]
  exact h i h0 (by omega)
end Go.Proofs.Ytpdidgacmikllaa.tj
