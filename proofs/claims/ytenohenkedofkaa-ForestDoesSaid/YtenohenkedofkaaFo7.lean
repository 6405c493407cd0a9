/-
  forest: plain facts: a new forest, a part's members, and that the order of joins does not matter.
-/
import Derived.Test.YtenohenkedofkaaFo4
namespace Go.Proofs.Ytenohenkedofkaa.fo

theorem getD_range (k i : Nat) (h : i < k) : (List.range k).getD i 0 = i := by
  simp [List.getD_eq_getElem?_getD, h]

theorem inv_new (k : Nat) : Inv (List.range k) (List.range k) := by
  refine ⟨rfl, fun i hi => ?_, fun i hi => ?_, fun i hi h => h⟩
  · rw [List.length_range] at hi; rw [getD_range k i hi]; exact Nat.le_refl _
  · rw [List.length_range] at hi; rw [getD_range k i hi, getD_range k i hi]

theorem rg_new (k : Nat) : Rg (List.range k) (List.range k) := by
  refine ⟨rfl, fun i hi => ⟨[], ?_, by simp, fun j => ?_⟩⟩
  · rw [List.length_range] at hi; exact getD_range k i hi
  · rw [List.length_range] at hi ⊢
    rw [List.mem_singleton, getD_range k i hi]
    constructor
    · rintro rfl; exact ⟨hi, getD_range k j hi⟩
    · rintro ⟨h1, h2⟩; rwa [getD_range k j h1] at h2

theorem roots_new (k : Nat) : roots (List.range k) = k := by
  unfold roots
  rw [List.length_range, List.filter_eq_self.2, List.length_range]
  intro i hi
  rw [getD_range k i (List.mem_range.1 hi)]; simp

/-- the members of a part -/
def mems (F : List Nat) (n : Int) : List Nat := (List.range F.length).filter fun i => decide (((F.getD i 0 : Nat) : Int) = fd F n)

theorem mems_out (F : List Nat) (n : Int) (h : inB n F.length = false) : mems F n = [] := by
  unfold mems fd
  rw [if_neg (by rw [h]; simp), List.filter_eq_nil_iff]
  intro i _
  simp only [decide_eq_true_eq]
  omega

theorem mems_sorted (F : List Nat) (n : Int) : (mems F n).Pairwise (· < ·) := List.Pairwise.filter _ List.pairwise_lt_range

theorem mems_ring {F t : List Nat} {n : Nat} (hn : n < F.length) (nd : (n :: t).Nodup) (hm : ∀ j, j ∈ n :: t ↔ j < F.length ∧ F.getD j 0 = F.getD n 0) : (n :: t).Perm (mems F n) := by
  refine (List.perm_ext_iff_of_nodup nd ((mems_sorted F n).imp (fun h => Nat.ne_of_lt h))).2 fun j => ?_
  rw [hm j]
  unfold mems fd inB
  rw [List.mem_filter, List.mem_range, if_pos (by simp; omega)]
  simp only [decide_eq_true_eq, Int.toNat_natCast]
  constructor
  · rintro ⟨h1, h2⟩; exact ⟨h1, by rw [h2]⟩
  · rintro ⟨h1, h2⟩; exact ⟨h1, by omega⟩

theorem mems_le (F : List Nat) (n : Int) : (mems F n).length ≤ F.length := by
  unfold mems
  exact Nat.le_trans (List.length_filter_le _ _) (by simp)

theorem ring_len {F t : List Nat} {n : Nat} (hn : n < F.length) (nd : (n :: t).Nodup) (hm : ∀ j, j ∈ n :: t ↔ j < F.length ∧ F.getD j 0 = F.getD n 0) : t.length + 1 ≤ F.length := by
  have := (mems_ring hn nd hm).length_eq
  have h := mems_le F n
  simp only [List.length_cons] at this
  omega

/-- all joined, from the first on -/
def jall (F : List Nat) (l : List (Int × Int)) : List Nat := l.foldl (fun F p => jF F p.1 p.2) F

theorem jall_len : ∀ (l : List (Int × Int)) (F : List Nat), (jall F l).length = F.length
  | [], _ => rfl
  | p :: l, F => (jall_len l (jF F p.1 p.2)).trans (jF_len F p.1 p.2)

theorem jall_snoc (F : List Nat) (l : List (Int × Int)) (p : Int × Int) : jall F (l ++ [p]) = jF (jall F l) p.1 p.2 := by
  unfold jall; rw [List.foldl_append]; rfl

theorem fd_in {F : List Nat} {a : Int} (h : 0 ≤ fd F a) : inB a F.length = true ∧ a.toNat < F.length ∧ fd F a = (F.getD a.toNat 0 : Nat) := by
  unfold fd at h ⊢
  split at h
  · rename_i g
    refine ⟨g, ?_, if_pos g⟩
    unfold inB at g
    simp only [Bool.and_eq_true, decide_eq_true_eq] at g
    omega
  · omega

theorem fd_of {F : List Nat} {a : Int} (h : inB a F.length = true) : a.toNat < F.length ∧ fd F a = (F.getD a.toNat 0 : Nat) := by
  have : fd F a = (F.getD a.toNat 0 : Nat) := if_pos h
  exact ⟨(fd_in (by rw [this]; omega)).2.1, this⟩

theorem jF_rel (R : Nat → Nat → Prop) (hs : ∀ i j, R i j → R j i) (ht : ∀ i j k, R i j → R j k → R i k) (F : List Nat) (a b : Int) (hF : ∀ i, i < F.length → R i (F.getD i 0))
    (h : inB a F.length = true → inB b F.length = true → R a.toNat b.toNat) : ∀ i, i < F.length → R i ((jF F a b).getD i 0) := by
  intro i hi
  unfold jF
  split
  · rename_i hj
    unfold jn at hj
    simp only [Bool.and_eq_true, decide_eq_true_eq] at hj
    obtain ⟨ha, hal, ea⟩ := fd_in hj.1
    obtain ⟨hb, hbl, eb⟩ := fd_in hj.2.1
    rw [ea, eb, Int.toNat_natCast, Int.toNat_natCast, joinF_at F _ _ i hi]
    have hab := h ha hb
    have h1 := hF _ hal
    have h2 := hF _ hbl
    have h3 := hF i hi
    generalize F.getD a.toNat 0 = x at *
    generalize F.getD b.toNat 0 = y at *
    generalize F.getD i 0 = z at *
    have hxy : R x y := ht _ _ _ (hs _ _ h1) (ht _ _ _ hab h2)
    split
    · rename_i hz
      rcases Nat.le_total x y with g | g
      · rw [Nat.min_eq_left g]
        rcases hz with rfl | rfl
        · exact h3
        · exact ht _ _ _ h3 (hs _ _ hxy)
      · rw [Nat.min_eq_right g]
        rcases hz with rfl | rfl
        · exact ht _ _ _ h3 hxy
        · exact h3
    · exact h3
  · exact hF i hi

theorem jall_rel (R : Nat → Nat → Prop) (hs : ∀ i j, R i j → R j i) (ht : ∀ i j k, R i j → R j k → R i k) : ∀ (l : List (Int × Int)) (F : List Nat), (∀ i, i < F.length → R i (F.getD i 0)) →
    (∀ p ∈ l, inB p.1 F.length = true → inB p.2 F.length = true → R p.1.toNat p.2.toNat) → ∀ i, i < F.length → R i ((jall F l).getD i 0)
  | [], _, hF, _ => hF
  | p :: l, F, hF, hl => by
    intro i hi
    have h1 := jF_rel R hs ht F p.1 p.2 hF (hl p (by simp))
    have hlen := jF_len F p.1 p.2
    exact jall_rel R hs ht l (jF F p.1 p.2) (by rw [hlen]; exact h1) (by rw [hlen]; exact fun q hq => hl q (List.mem_cons_of_mem _ hq)) i (by rw [hlen]; exact hi)

theorem jF_mono (F : List Nat) (a b : Int) (i j : Nat) (hi : i < F.length) (hj : j < F.length) (h : F.getD i 0 = F.getD j 0) : (jF F a b).getD i 0 = (jF F a b).getD j 0 := by
  unfold jF
  split
  · rw [joinF_at F _ _ i hi, joinF_at F _ _ j hj, h]
  · exact h

theorem jF_same (F : List Nat) (a b : Int) (ha : inB a F.length = true) (hb : inB b F.length = true) : (jF F a b).getD a.toNat 0 = (jF F a b).getD b.toNat 0 := by
  obtain ⟨hal, ea⟩ := fd_of ha
  obtain ⟨hbl, eb⟩ := fd_of hb
  unfold jF jn
  rw [ea, eb, Int.toNat_natCast, Int.toNat_natCast]
  split
  · rw [joinF_at F _ _ _ hal, joinF_at F _ _ _ hbl, if_pos (Or.inl rfl), if_pos (Or.inr rfl)]
  · rename_i h
    simp only [Bool.and_eq_true, decide_eq_true_eq] at h
    omega

theorem jall_mono : ∀ (l : List (Int × Int)) (F : List Nat) (i j : Nat), i < F.length → j < F.length → F.getD i 0 = F.getD j 0 → (jall F l).getD i 0 = (jall F l).getD j 0
  | [], _, _, _, _, _, h => h
  | p :: l, F, i, j, hi, hj, h => jall_mono l (jF F p.1 p.2) i j (by rw [jF_len]; exact hi) (by rw [jF_len]; exact hj) (jF_mono F p.1 p.2 i j hi hj h)

theorem jall_same : ∀ (l : List (Int × Int)) (F : List Nat) (p : Int × Int), p ∈ l → inB p.1 F.length = true → inB p.2 F.length = true → (jall F l).getD p.1.toNat 0 = (jall F l).getD p.2.toNat 0
  | q :: l, F, p, hp, h1, h2 => by
    rcases List.mem_cons.1 hp with rfl | hp
    · exact jall_mono l (jF F p.1 p.2) _ _ (by rw [jF_len]; exact (fd_of h1).1) (by rw [jF_len]; exact (fd_of h2).1) (jF_same F p.1 p.2 h1 h2)
    · exact jall_same l (jF F q.1 q.2) p hp (by rw [jF_len]; exact h1) (by rw [jF_len]; exact h2)

/-- pairs that say the same come to the same parts -/
theorem jall_eq (n : Nat) (l m : List (Int × Int)) (hlm : ∀ p ∈ l, p ∈ m ∨ (p.2, p.1) ∈ m) (hml : ∀ p ∈ m, p ∈ l ∨ (p.2, p.1) ∈ l)
    (h1 : ∀ i, i < n → (jall (List.range n) l).getD i 0 ≤ i) (h2 : ∀ i, i < n → (jall (List.range n) m).getD i 0 ≤ i) : ∀ i, i < n → (jall (List.range n) l).getD i 0 = (jall (List.range n) m).getD i 0 := by
  have key : ∀ (l m : List (Int × Int)), (∀ p ∈ l, p ∈ m ∨ (p.2, p.1) ∈ m) → (∀ i, i < n → (jall (List.range n) l).getD i 0 ≤ i) → (∀ i, i < n → (jall (List.range n) m).getD i 0 ≤ i) → ∀ i, i < n → (jall (List.range n) m).getD i 0 ≤ (jall (List.range n) l).getD i 0 := by
    intro l m hlm h1 h2 i hi
    have hR := jall_rel (fun i j => (jall (List.range n) m).getD i 0 = (jall (List.range n) m).getD j 0) (fun _ _ h => h.symm) (fun _ _ _ h k => h.trans k) l (List.range n) (fun j hj => by
      rw [List.length_range] at hj
      show _ = _
      rw [getD_range n j hj]) (fun p hp a1 a2 => by
      rcases hlm p hp with h | h
      · exact jall_same m (List.range n) p h a1 a2
      · exact (jall_same m (List.range n) (p.2, p.1) h a2 a1).symm) i (by rw [List.length_range]; exact hi)
    have hl := h1 i hi
    have := h2 ((jall (List.range n) l).getD i 0) (by omega)
    exact hR.symm ▸ this
  intro i hi
  have a := key l m hlm h1 h2 i hi
  have b := key m l hml h2 h1 i hi
  omega

theorem roots_jF {A F : List Nat} (h : Inv A F) (a b : Int) : roots (jF F a b) + (if jn F a b = true then 1 else 0) = roots F := by
  unfold jF
  split
  · rename_i hj
    unfold jn at hj
    simp only [Bool.and_eq_true, decide_eq_true_eq] at hj
    obtain ⟨x, ex, hxl, hxr⟩ := fd_root h a hj.1
    obtain ⟨y, ey, hyl, hyr⟩ := fd_root h b hj.2.1
    have hne : x ≠ y := fun g => hj.2.2 (by rw [ex, ey, g])
    rw [ex, ey]
    exact roots_join F x y hxl hyl hxr hyr hne (fun i hi => h.f_le i hi)
  · rfl
end Go.Proofs.Ytenohenkedofkaa.fo
