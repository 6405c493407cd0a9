/-
  Shape: what the closure of Cells puts, as a plain function, and how long it can grow.
-/
import Derived.Test.YtmahoppjefhnjaaDoorShF
namespace Go.Proofs.YtmahoppjefhnjaaDoor.sh
open Go.RowKit Go.Sort Go.Proofs.YtmahoppjefhnjaaDoor.mem

/-- the kinds so far, and the marks so far: a place and a tag each -/
abbrev Pk := List UInt8 × List (Int × List UInt8)

def putStep (T : Ty) (x : Pk) : Pk :=
  if T.kind = 1 then (x.1 ++ [105], x.2)
  else if T.kind = 2 then (x.1 ++ [112], x.2)
  else if T.kind = 3 then (x.1, x.2 ++ [((x.1.length : Int), T.name.data.toList)])
  else if T.kind = 4 then (x.1, x.2 ++ [((x.1.length : Int), [91, 93] ++ txt 4 (T.of.headD default))])
  else x

def putC (ss : List St) : Nat → Ty → Pk → Pk
  | 0, T, x => putStep T x
  | f + 1, T, x => (withinL ss T).foldl (fun y E => putC ss f E y) (putStep T x)

theorem putStep_le (T : Ty) (x : Pk) : x.1.length ≤ (putStep T x).1.length ∧ (putStep T x).1.length ≤ x.1.length + 1 ∧ x.2.length ≤ (putStep T x).2.length ∧ (putStep T x).2.length ≤ x.2.length + 1 := by
  unfold putStep
  repeat' split
  all_goals simp

theorem foldl_le {g : Ty → Pk → Pk} {N : Nat} : ∀ (L : List Ty), (∀ E ∈ L, ∀ y : Pk, y.1.length ≤ (g E y).1.length ∧ (g E y).1.length ≤ y.1.length + N ∧ y.2.length ≤ (g E y).2.length ∧ (g E y).2.length ≤ y.2.length + N) → ∀ x : Pk,
    x.1.length ≤ (L.foldl (fun y E => g E y) x).1.length ∧ (L.foldl (fun y E => g E y) x).1.length ≤ x.1.length + N * L.length ∧ x.2.length ≤ (L.foldl (fun y E => g E y) x).2.length ∧ (L.foldl (fun y E => g E y) x).2.length ≤ x.2.length + N * L.length
  | [], _, x => by simp
  | E :: r, h, x => by
    have h1 := h E (by simp) x
    have h2 := foldl_le r (fun E' hE' => h E' (List.mem_cons_of_mem _ hE')) (g E x)
    have h3 : N * (E :: r).length = N * r.length + N := by rw [List.length_cons, Nat.mul_add, Nat.mul_one]
    rw [List.foldl_cons]
    omega

theorem putC_le {ss : List St} : ∀ (f : Nat) (T : Ty), faultC ss f T = 0 → ∀ x : Pk, x.1.length ≤ (putC ss f T x).1.length ∧ (putC ss f T x).1.length ≤ x.1.length + 9 ^ f ∧ x.2.length ≤ (putC ss f T x).2.length ∧ (putC ss f T x).2.length ≤ x.2.length + 9 ^ f
  | 0, T, _, x => by
    unfold putC
    simpa using putStep_le T x
  | f + 1, T, h, x => by
    obtain ⟨hw, hin⟩ := fault_ok h
    obtain ⟨_, _, hl8, _, _⟩ := wrong_ok hw
    have h1 := putStep_le T x
    have h2 := foldl_le (g := putC ss f) (N := 9 ^ f) (withinL ss T) (fun E hE y => putC_le f E (hin E hE) y) (putStep T x)
    have h3 : 9 ^ f * (withinL ss T).length ≤ 9 ^ f * 8 := Nat.mul_le_mul (Nat.le_refl _) hl8
    have h4 : 1 ≤ 9 ^ f := Nat.pow_pos (by omega)
    have h5 : 9 ^ (f + 1) = 9 ^ f * 9 := rfl
    unfold putC
    omega

/-- what is put from the j-th inner type on -/
theorem put_drop {ss : List St} {f j : Nat} {L : List Ty} (hj : j < L.length) (x : Pk) : (L.drop j).foldl (fun y E => putC ss f E y) x = (L.drop (j + 1)).foldl (fun y E => putC ss f E y) (putC ss f L[j] x) := by
  rw [List.drop_eq_getElem_cons hj]
  rfl
end Go.Proofs.YtmahoppjefhnjaaDoor.sh
