/-
  tarjan: a list of members copied, and sorted.
-/
import Derived.Test.YtpdidgacmikllaaCb
import Derived.Test.YtpdidgacmikllaaTjN
import Derived.Test.YtpdidgacmikllaaShelf
namespace Go.Proofs.Ytpdidgacmikllaa.tj
open Go.RowKit Go.Sort Go.Proofs.Ytpdidgacmikllaa.mem Go.Proofs.Ytpdidgacmikllaa.cb

abbrev eI : Int → Value := Value.int .i64
def zs (L : List Nat) : List Int := L.map fun (x : Nat) => (x : Int)
theorem zs_len (L : List Nat) : (zs L).length = L.length := by simp [zs]
theorem zs_natI (L : List Nat) : (zs L).map eI = natI L := by simp [zs, natI]

theorem merge_nat {xs ys : List Nat} (hp : xs.Perm ys) (hs : ys.Pairwise (· < ·)) : ((zs xs).mergeSort fun x y => decide (x ≤ y)) = zs ys := by
  have h1 : ((zs xs).mergeSort fun x y => decide (x ≤ y)).Pairwise (fun x y => (decide (x ≤ y)) = true) := List.pairwise_mergeSort (by intro a b c; simp; omega) (by intro a b; simp; omega) _
  have h2 : (zs ys).Pairwise (fun x y => (decide (x ≤ y)) = true) := by
    unfold zs
    rw [List.pairwise_map]
    exact hs.imp (fun h => by simp; omega)
  refine List.Perm.eq_of_pairwise ?_ h1 h2 ((List.mergeSort_perm _ _).trans (hp.map _))
  intro a b _ _ h3 h4
  simp only [decide_eq_true_eq] at h3 h4
  omega

theorem clone_row (w : World) (A : Option Addr) (c : Nat) (L : List Nat) (h : Rd w A (natI L)) (hz : 0 < L.length) (hbig : L.length ≤ 1000) :
    Calls Try.prog 52 #[.slice A L.length c] w fun e w' => ∃ g cap, e = .returned (.slice (some ⟨g, 0, none⟩) L.length cap) ∧ w.heap.size ≤ g ∧ CB eI 3 w' g cap (zs L) ∧ Below w.heap.size w w' := by
  obtain ⟨b, off, rfl, hl, hc⟩ := h (by simpa [natI] using hz)
  have K := Try.slices_Clone_int b off L.length c (zs L) w (by simp [zs]) (by omega) (fun j hj => by
    have hj' : j < L.length := by simpa [zs] using hj
    rw [hc j (by simpa [natI] using hj')]
    simp [hj', natI, zs])
  refine K.mono ?_
  rintro e w' ⟨v, rfl, ho, hv, hb⟩
  rw [List.take_of_length_le (by simp [zs])] at ho
  obtain ⟨g, cap, rfl, h1, h2⟩ := cb_of_own eI (xs := zs L) (by exact ho) hv
  exact ⟨g, cap, rfl, h1, h2, hb⟩

theorem sort_row (w : World) (g cap : Nat) (L M : List Nat) (h : CB eI 3 w g cap (zs L)) (hbig : L.length ≤ 1000) (hp : L.Perm M) (hs : M.Pairwise (· < ·)) :
    Calls Try.prog 29 #[.slice (some ⟨g, 0, none⟩) L.length cap] w fun e w' => e = .returned (.tuple #[]) ∧ CB eI 3 w' g cap (zs M) ∧ Fr [g] w w' := by
  have K := Try.slices_Sort_int g 0 cap (zs L) w (h.holds eI) h.lt (by rw [zs_len]; omega)
  rw [zs_len, merge_nat hp hs] at K
  refine K.mono ?_
  rintro e w' ⟨rfl, n, os, rfl⟩
  exact ⟨rfl, h.put eI (by rw [zs_len, zs_len, hp.length_eq]), put_fr eI _ _ _ _ _ _⟩
end Go.Proofs.Ytpdidgacmikllaa.tj
