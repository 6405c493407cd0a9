/-
  forest: how many parts; Join as one.
-/
import Derived.Test.YtenohenkedofkaaFo3
namespace Go.Proofs.Ytenohenkedofkaa.fo
open Go.RowKit Go.Proofs.Ytenohenkedofkaa.mem

/-- how many parts there are -/
def roots (F : List Nat) : Nat := ((List.range F.length).filter fun i => F.getD i 0 == i).length

theorem roots_le (F : List Nat) : roots F ≤ F.length := by
  unfold roots
  exact Nat.le_trans (List.length_filter_le _ _) (by simp)

theorem roots_join (F : List Nat) (x y : Nat) (hx : x < F.length) (hy : y < F.length) (hxr : F.getD x 0 = x) (hyr : F.getD y 0 = y) (hne : x ≠ y) (hle : ∀ i, i < F.length → F.getD i 0 ≤ i) : roots (joinF F x y) + 1 = roots F := by
  have hm : max x y < F.length := by omega
  have hmr : F.getD (max x y) 0 = max x y := by
    rcases Nat.le_total x y with h | h
    · rw [Nat.max_eq_right h]; exact hyr
    · rw [Nat.max_eq_left h]; exact hxr
  unfold roots
  rw [joinF_len]
  have e : (List.range F.length).filter (fun i => (joinF F x y).getD i 0 == i) = ((List.range F.length).filter fun i => F.getD i 0 == i).erase (max x y) := by
    rw [List.Nodup.erase_eq_filter (List.Pairwise.filter _ List.nodup_range), List.filter_filter]
    apply List.filter_congr
    intro i hi
    have hi : i < F.length := List.mem_range.1 hi
    have hl := hle i hi
    rw [joinF_at F x y i hi, Bool.eq_iff_iff]
    simp only [beq_iff_eq, Bool.and_eq_true, bne_iff_ne, ne_eq]
    by_cases h : F.getD i 0 = x ∨ F.getD i 0 = y
    · rw [if_pos h]
      constructor
      · intro h1
        subst h1
        refine ⟨by omega, ?_⟩
        rcases Nat.le_total x y with g | g
        · rw [Nat.min_eq_left g]; exact hxr
        · rw [Nat.min_eq_right g]; exact hyr
      · rintro ⟨h1, h2⟩
        rw [h2] at h
        omega
    · rw [if_neg h]
      constructor
      · intro h1
        refine ⟨fun g => h ?_, h1⟩
        rw [h1, g]; omega
      · intro h1; exact h1.2
  rw [e, List.length_erase_of_mem (by rw [List.mem_filter]; exact ⟨List.mem_range.2 hm, by rw [hmr]; simp⟩)]
  have : 0 < ((List.range F.length).filter fun i => F.getD i 0 == i).length := List.length_pos_of_mem (a := max x y) (by rw [List.mem_filter]; exact ⟨List.mem_range.2 hm, by rw [hmr]; simp⟩)
  omega

/-- what a pair makes of the parts -/
def jn (F : List Nat) (a b : Int) : Bool := decide (0 ≤ fd F a) && (decide (0 ≤ fd F b) && decide (fd F a ≠ fd F b))
def jF (F : List Nat) (a b : Int) : List Nat := if jn F a b = true then joinF F (fd F a).toNat (fd F b).toNat else F
theorem jF_len (F : List Nat) (a b : Int) : (jF F a b).length = F.length := by unfold jF; split; exact joinF_len _ _ _; rfl

theorem join_ff (w : World) (f ga gn : Nat) (F : List Nat) (a b : Int) (h : FF w f ga gn F (roots F)) (hl : F.length ≤ 100000) :
    Calls Try.prog 14 #[.pointer (some ⟨f, 0, none⟩), .int .i64 a, .int .i64 b] w fun e w' => e = .returned (.bool (jn F a b)) ∧ Fr [f, ga, gn] w w' ∧ FF w' f ga gn (jF F a b) (roots (jF F a b)) := by
  rcases hj : jn F a b with _ | _
  · have e1 : jF F a b = F := by unfold jF; rw [hj]; rfl
    rw [e1]
    unfold jn at hj
    refine (join_no w f ga gn F _ a b h hl ?_).mono fun e w' hh => hh
    simp only [Bool.and_eq_false_iff, decide_eq_false_iff_not] at hj
    omega
  · have e1 : jF F a b = joinF F (fd F a).toNat (fd F b).toNat := by unfold jF; rw [if_pos hj]
    rw [e1]
    unfold jn at hj
    simp only [Bool.and_eq_true, decide_eq_true_eq] at hj
    obtain ⟨A, N, h1, h2, h3⟩ := id h
    obtain ⟨x, ex, hxl, hxr⟩ := fd_root h2 a hj.1
    obtain ⟨y, ey, hyl, hyr⟩ := fd_root h2 b hj.2.1
    have hne : x ≠ y := fun g => hj.2.2 (by rw [ex, ey, g])
    have hr := roots_join F x y hxl hyl hxr hyr hne (fun i hi => h2.f_le i hi)
    have hrl := roots_le F
    rw [ex, ey]
    simp only [Int.toNat_natCast]
    refine (join_yes w f ga gn F (roots F) a b x y h hl ex ey hne hxl hyl hxr hyr (by omega)).mono ?_
    rintro e w' ⟨rfl, hf, hh⟩
    refine ⟨rfl, hf, ?_⟩
    rw [show ((roots (joinF F x y) : Nat) : Int) = (roots F : Int) - 1 from by omega]
    exact hh
end Go.Proofs.Ytenohenkedofkaa.fo
