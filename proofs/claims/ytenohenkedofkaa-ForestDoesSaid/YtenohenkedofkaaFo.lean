/-
  forest: parts that grow together: plain facts on lists of numbers.
-/
namespace Go.Proofs.Ytenohenkedofkaa.fo

/-- A: of each member one of its part that is less, or itself; F: of each member its part's least one -/
structure Inv (A F : List Nat) : Prop where
  len : A.length = F.length
  le : ∀ i, i < F.length → A.getD i 0 ≤ i
  same : ∀ i, i < F.length → F.getD (A.getD i 0) 0 = F.getD i 0
  root : ∀ i, i < F.length → A.getD i 0 = i → F.getD i 0 = i

theorem Inv.both {A F : List Nat} (h : Inv A F) : ∀ k i, i ≤ k → i < F.length → F.getD i 0 ≤ i ∧ A.getD (F.getD i 0) 0 = F.getD i 0 := by
  intro k
  induction k with
  | zero =>
    intro i hk hi
    have hl := h.le i hi
    have ha : A.getD i 0 = i := by omega
    have hr := h.root i hi ha
    rw [hr]
    exact ⟨Nat.le_refl _, ha⟩
  | succ k ih =>
    intro i hk hi
    by_cases ha : A.getD i 0 = i
    · have hr := h.root i hi ha
      rw [hr]
      exact ⟨Nat.le_refl _, ha⟩
    · have hl := h.le i hi
      have := ih (A.getD i 0) (by omega) (by omega)
      rw [h.same i hi] at this
      exact ⟨by omega, this.2⟩

theorem Inv.f_le {A F : List Nat} (h : Inv A F) (i : Nat) (hi : i < F.length) : F.getD i 0 ≤ i := (h.both i i (Nat.le_refl _) hi).1
theorem Inv.a_root {A F : List Nat} (h : Inv A F) (i : Nat) (hi : i < F.length) : A.getD (F.getD i 0) 0 = F.getD i 0 := (h.both i i (Nat.le_refl _) hi).2
theorem Inv.f_idem {A F : List Nat} (h : Inv A F) (i : Nat) (hi : i < F.length) : F.getD (F.getD i 0) 0 = F.getD i 0 :=
  h.root _ (by have := h.f_le i hi; omega) (h.a_root i hi)
theorem Inv.fix {A F : List Nat} (h : Inv A F) (i : Nat) (hi : i < F.length) (hf : F.getD i 0 = i) : A.getD i 0 = i := by
  have := h.a_root i hi
  rwa [hf] at this

theorem getD_set (l : List Nat) (i j k : Nat) (hi : i < l.length) : (l.set i k).getD j 0 = if j = i then k else l.getD j 0 := by
  simp only [List.getD_eq_getElem?_getD, List.getElem?_set]
  by_cases h : i = j
  · subst h; simp [hi]
  · rw [if_neg h, if_neg (fun e => h e.symm)]

theorem Inv.compress {A F : List Nat} (h : Inv A F) (i k : Nat) (hi : i < F.length) (hk : F.getD i 0 = k) : Inv (A.set i k) F := by
  have hki := h.f_le i hi
  have hkk := h.f_idem i hi
  rw [hk] at hki hkk
  have hg := fun j => getD_set A i j k (by rw [h.len]; exact hi)
  refine ⟨by rw [List.length_set]; exact h.len, fun j hj => ?_, fun j hj => ?_, fun j hj => ?_⟩
  · rw [hg]; split
    · omega
    · exact h.le j hj
  · rw [hg]; split
    · rename_i e; rw [e, hk, hkk]
    · exact h.same j hj
  · rw [hg]; split
    · rename_i e; intro e2; rw [e, hk]; omega
    · exact h.root j hj

def joinF (F : List Nat) (a b : Nat) : List Nat := F.map fun x => if x = a ∨ x = b then min a b else x

theorem joinF_at (F : List Nat) (a b i : Nat) (hi : i < F.length) : (joinF F a b).getD i 0 = if F.getD i 0 = a ∨ F.getD i 0 = b then min a b else F.getD i 0 := by
  unfold joinF
  simp only [List.getD_eq_getElem?_getD, List.getElem?_map, List.getElem?_eq_getElem hi, Option.map_some, Option.getD_some]

theorem joinF_len (F : List Nat) (a b : Nat) : (joinF F a b).length = F.length := by unfold joinF; simp

theorem Inv.join {A F : List Nat} (h : Inv A F) (a b : Nat) (ha : a < F.length) (hb : b < F.length) (hfa : F.getD a 0 = a) (hfb : F.getD b 0 = b) (hne : a ≠ b) : Inv (A.set (max a b) (min a b)) (joinF F a b) := by
  have hm : max a b < F.length := by omega
  have hg := fun j => getD_set A (max a b) j (min a b) (by rw [h.len]; exact hm)
  have hJ := fun j hj => joinF_at F a b j hj
  refine ⟨by rw [List.length_set, joinF_len]; exact h.len, fun j hj => ?_, fun j hj => ?_, fun j hj => ?_⟩
  · rw [hg]; split
    · omega
    · exact h.le j (by rw [joinF_len] at hj; exact hj)
  · rw [joinF_len] at hj
    rw [hg, hJ j hj]
    split
    · rename_i e
      have e1 : F.getD j 0 = a ∨ F.getD j 0 = b := by
        rw [e]
        rcases Nat.le_total a b with h | h
        · right; rw [Nat.max_eq_right h]; exact hfb
        · left; rw [Nat.max_eq_left h]; exact hfa
      rw [if_pos e1, hJ (min a b) (by omega)]
      have e2 : F.getD (min a b) 0 = a ∨ F.getD (min a b) 0 = b := by
        rcases Nat.le_total a b with h | h
        · left; rw [Nat.min_eq_left h]; exact hfa
        · right; rw [Nat.min_eq_right h]; exact hfb
      rw [if_pos e2]
    · have hl := h.le j hj
      rw [hJ _ (by omega), h.same j hj]
  · rw [joinF_len] at hj
    rw [hg, hJ j hj]
    split
    · rename_i e; intro e2; omega
    · rename_i e
      intro e2
      have hr := h.root j hj e2
      rw [hr]
      split
      · rename_i e3; omega
      · rfl

/-- a way from x through a list to z -/
def Walk (N : List Nat) : Nat → List Nat → Nat → Prop
  | x, [], z => N.getD x 0 = z
  | x, y :: r, z => N.getD x 0 = y ∧ Walk N y r z

theorem Walk.app {N : List Nat} : ∀ {p : List Nat} {x y z : Nat} {q : List Nat}, Walk N x p y → Walk N y q z → Walk N x (p ++ y :: q) z
  | [], _, _, _, _, h1, h2 => ⟨h1, h2⟩
  | _ :: _, _, _, _, _, h1, h2 => ⟨h1.1, Walk.app h1.2 h2⟩

theorem Walk.parts {N : List Nat} : ∀ {p : List Nat} {x y z : Nat} {q : List Nat}, Walk N x (p ++ y :: q) z → Walk N x p y ∧ Walk N y q z
  | [], _, _, _, _, h => h
  | _ :: _, _, _, _, _, h => ⟨⟨h.1, (Walk.parts h.2).1⟩, (Walk.parts h.2).2⟩

theorem Walk.congr {N M : List Nat} : ∀ {t : List Nat} {x z : Nat}, Walk N x t z → (∀ j, j = x ∨ j ∈ t → M.getD j 0 = N.getD j 0) → Walk M x t z
  | [], x, _, h, hm => (hm x (Or.inl rfl)).trans h
  | y :: r, x, _, h, hm => ⟨(hm x (Or.inl rfl)).trans h.1, Walk.congr h.2 (fun j hj => hm j (Or.inr (by rcases hj with rfl | hj; exact List.mem_cons_self; exact List.mem_cons_of_mem _ hj)))⟩

/-- a part's members are a ring -/
def Ring (N F : List Nat) (i : Nat) : Prop := ∃ t, Walk N i t i ∧ (i :: t).Nodup ∧ ∀ j, j ∈ i :: t ↔ j < F.length ∧ F.getD j 0 = F.getD i 0

theorem Ring.turn {N F : List Nat} {i j : Nat} (h : Ring N F i) (hj : j < F.length) (he : F.getD j 0 = F.getD i 0) : Ring N F j := by
  obtain ⟨t, hw, hn, hm⟩ := h
  by_cases e : j = i
  · subst e; exact ⟨t, hw, hn, hm⟩
  have hjt : j ∈ t := by
    rcases List.mem_cons.1 ((hm j).2 ⟨hj, he⟩) with h | h
    · exact absurd h e
    · exact h
  obtain ⟨p, q, rfl⟩ := List.append_of_mem hjt
  obtain ⟨w1, w2⟩ := hw.parts
  have hperm : (j :: (q ++ i :: p)).Perm (i :: (p ++ j :: q)) := by
    have : (j :: (q ++ i :: p)) = (j :: q) ++ (i :: p) := rfl
    rw [this]
    exact List.perm_append_comm
  refine ⟨q ++ i :: p, w2.app w1, hperm.nodup_iff.2 hn, fun k => ?_⟩
  rw [hperm.mem_iff, hm k, he]

structure Rg (N F : List Nat) : Prop where
  len : N.length = F.length
  ring : ∀ i, i < F.length → Ring N F i

def swapN (N : List Nat) (a b : Nat) : List Nat := (N.set a (N.getD b 0)).set b (N.getD a 0)

theorem swapN_at (N : List Nat) (a b j : Nat) (ha : a < N.length) (hb : b < N.length) : (swapN N a b).getD j 0 = if j = b then N.getD a 0 else if j = a then N.getD b 0 else N.getD j 0 := by
  unfold swapN
  rw [getD_set _ _ _ _ (by rw [List.length_set]; exact hb), getD_set _ _ _ _ ha]

theorem walk_first {N M : List Nat} {x x' z : Nat} {t : List Nat} (h : Walk N x t z) (hx : M.getD x' 0 = N.getD x 0) (ht : ∀ j ∈ t, M.getD j 0 = N.getD j 0) : Walk M x' t z := by
  cases t with
  | nil => exact hx.trans h
  | cons y r => exact ⟨hx.trans h.1, h.2.congr (fun j hj => ht j (by rcases hj with rfl | hj; exact List.mem_cons_self; exact List.mem_cons_of_mem _ hj))⟩

/-- two rings become one -/
theorem Rg.join {N F : List Nat} (h : Rg N F) (a b : Nat) (ha : a < F.length) (hb : b < F.length) (hfa : F.getD a 0 = a) (hfb : F.getD b 0 = b) (hne : a ≠ b) : Rg (swapN N a b) (joinF F a b) := by
  have hN := h.len
  have hS := fun j => swapN_at N a b j (by omega) (by omega)
  have hJ := fun j hj => joinF_at F a b j hj
  refine ⟨by unfold swapN; rw [List.length_set, List.length_set, joinF_len]; exact hN, ?_⟩
  -- the ring of a and b
  have key : Ring (swapN N a b) (joinF F a b) a := by
    obtain ⟨ta, wa, na, ma⟩ := h.ring a ha
    obtain ⟨tb, wb, nb, mb⟩ := h.ring b hb
    rw [hfa] at ma
    rw [hfb] at mb
    have hab : ∀ j, j ∈ ta → j ≠ a ∧ j ≠ b := fun j hj => ⟨fun e => by subst e; exact (List.nodup_cons.1 na).1 hj, fun e => by
      subst e
      have := ((ma j).1 (List.mem_cons_of_mem _ hj)).2
      omega⟩
    have hba : ∀ j, j ∈ tb → j ≠ a ∧ j ≠ b := fun j hj => ⟨fun e => by
      subst e
      have := ((mb j).1 (List.mem_cons_of_mem _ hj)).2
      omega, fun e => by subst e; exact (List.nodup_cons.1 nb).1 hj⟩
    have w1 : Walk (swapN N a b) a tb b := walk_first wb (by rw [hS, if_neg hne, if_pos rfl]) (fun j hj => by rw [hS, if_neg (hba j hj).2, if_neg (hba j hj).1])
    have w2 : Walk (swapN N a b) b ta a := walk_first wa (by rw [hS, if_pos rfl]) (fun j hj => by rw [hS, if_neg (hab j hj).2, if_neg (hab j hj).1])
    refine ⟨tb ++ b :: ta, w1.app w2, ?_, fun j => ?_⟩
    · have hp : (a :: (tb ++ b :: ta)).Perm ((a :: ta) ++ (b :: tb)) := by
        have e : (a :: (tb ++ b :: ta)) = [a] ++ (tb ++ b :: ta) := rfl
        have e2 : (a :: ta) ++ (b :: tb) = [a] ++ (ta ++ b :: tb) := rfl
        rw [e, e2]
        refine List.Perm.append_left _ ?_
        have p1 : (tb ++ b :: ta).Perm (b :: (tb ++ ta)) := List.perm_middle
        have p2 : (ta ++ b :: tb).Perm (b :: (ta ++ tb)) := List.perm_middle
        exact p1.trans ((List.Perm.cons b List.perm_append_comm).trans p2.symm)
      rw [hp.nodup_iff, List.nodup_append]
      refine ⟨na, nb, fun x hx y hy e => ?_⟩
      subst e
      have h1 := ((ma x).1 hx).2
      have h2 := ((mb x).1 hy).2
      omega
    · have hja : (joinF F a b).getD a 0 = min a b := by rw [hJ a ha, if_pos (Or.inl hfa)]
      rw [joinF_len, hja]
      have hmem : j ∈ a :: (tb ++ b :: ta) ↔ j ∈ a :: ta ∨ j ∈ b :: tb := by
        simp only [List.mem_cons, List.mem_append]
        constructor
        · rintro (h | h | h | h)
          · exact Or.inl (Or.inl h)
          · exact Or.inr (Or.inr h)
          · exact Or.inr (Or.inl h)
          · exact Or.inl (Or.inr h)
        · rintro ((h | h) | (h | h))
          · exact Or.inl h
          · exact Or.inr (Or.inr (Or.inr h))
          · exact Or.inr (Or.inr (Or.inl h))
          · exact Or.inr (Or.inl h)
      rw [hmem, ma, mb]
      constructor
      · rintro (⟨h1, h2⟩ | ⟨h1, h2⟩)
        · exact ⟨h1, by rw [hJ j h1, if_pos (Or.inl h2)]⟩
        · exact ⟨h1, by rw [hJ j h1, if_pos (Or.inr h2)]⟩
      · rintro ⟨h1, h2⟩
        rw [hJ j h1] at h2
        by_cases e : F.getD j 0 = a ∨ F.getD j 0 = b
        · rcases e with e | e
          · exact Or.inl ⟨h1, e⟩
          · exact Or.inr ⟨h1, e⟩
        · rw [if_neg e] at h2
          exfalso; apply e; omega
  intro i hi
  rw [joinF_len] at hi
  by_cases e : F.getD i 0 = a ∨ F.getD i 0 = b
  · exact key.turn (by rw [joinF_len]; exact hi) (by rw [hJ i hi, hJ a ha, if_pos e, if_pos (Or.inl hfa)])
  · obtain ⟨t, w, n, m⟩ := h.ring i hi
    have hout : ∀ j, j = i ∨ j ∈ t → j ≠ a ∧ j ≠ b := fun j hj => by
      have hj : j ∈ i :: t := by rcases hj with rfl | hj; exact List.mem_cons_self; exact List.mem_cons_of_mem _ hj
      have := ((m j).1 hj).2
      exact ⟨fun e1 => by subst e1; apply e; left; omega, fun e1 => by subst e1; apply e; right; omega⟩
    refine ⟨t, w.congr (fun j hj => by rw [hS, if_neg (hout j hj).2, if_neg (hout j hj).1]), n, fun j => ?_⟩
    rw [m j, joinF_len, hJ i hi, if_neg e]
    constructor
    · rintro ⟨h1, h2⟩
      exact ⟨h1, by rw [hJ j h1, h2, if_neg e]⟩
    · rintro ⟨h1, h2⟩
      rw [hJ j h1] at h2
      by_cases e1 : F.getD j 0 = a ∨ F.getD j 0 = b
      · rw [if_pos e1] at h2
        exfalso; apply e; omega
      · rw [if_neg e1] at h2
        exact ⟨h1, h2⟩
end Go.Proofs.Ytenohenkedofkaa.fo
