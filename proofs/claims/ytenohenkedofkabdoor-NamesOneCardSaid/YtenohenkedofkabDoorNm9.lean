/-
  weftref14.Right says what names.may says.
-/
import Derived.Test.YtenohenkedofkabDoorNm8z
namespace Go.Proofs.YtenohenkedofkabDoor.nm
open Go.RowKit Go.Sort

theorem nil_beq (l : List UInt8) : (l == (ByteArray.mk #[]).toList) = l.isEmpty := by
  rw [dg.empty_list ⟨#[]⟩ rfl]
  cases l <;> rfl

theorem name_some (s : ByteArray) (h : s.toList.isEmpty = true) : dg.nameB s = false := by
  apply dg.nameB_no
  left
  exact empty_of s (List.isEmpty_iff.1 h)

/-- what names.may asks, over bools -/
def mayF (k copy n cell : Int) (fE fN nE nN : Bool) : Bool :=
  if k = 5 then fE && ((copy == 0) && ((n == 0) && (cntB copy 0 && (cntB cell (-1) && nN))))
  else if k = 6 then (n == 0) && (cntB copy 0 && (cntB cell (-1) && (fN && nN)))
  else if k = 1 then (n == 0) && ((cell == -1) && (cntB copy 0 && (cntB cell (-1) && (fN && nN))))
  else if k = 7 then nE && (cntB copy 0 && (cntB cell (-1) && (fN && cntB n 1)))
  else if k = 2 then nE && ((cell == -1) && (cntB copy 0 && (cntB cell (-1) && (fN && cntB n 0))))
  else if k = 3 then nE && ((cell == -1) && (cntB copy 0 && (cntB cell (-1) && (fN && cntB n 1))))
  else nE && ((n == 0) && ((cell == -1) && (cntB copy 0 && (cntB cell (-1) && (fN && cntB n 0)))))

theorem mayB_eq (d : Nd) (h1 : 1 ≤ d.kind) (h7 : d.kind ≤ 7) : mayB d = mayF d.kind d.copy d.n d.cell d.fn.toList.isEmpty (dg.nameB d.fn) d.name.toList.isEmpty (dg.nameB d.name) := by
  obtain ⟨kind, fn, copy, name, n, cell⟩ := d
  have h1 : 1 ≤ kind := h1
  have h7 : kind ≤ 7 := h7
  rcases (by omega : kind = 1 ∨ kind = 2 ∨ kind = 3 ∨ kind = 4 ∨ kind = 5 ∨ kind = 6 ∨ kind = 7) with rfl | rfl | rfl | rfl | rfl | rfl | rfl
  all_goals
    unfold mayB sameB ownN swB mayF
    simp [Bool.and_assoc, nil_beq]

theorem rightF_eq (k copy n cell : Int) (fE fN nE nN : Bool) (h1 : 1 ≤ k) (h7 : k ≤ 7) (hf : fE = true → fN = false) (hn : nE = true → nN = false) :
    rightF k copy n cell (rcB copy) (rcB n) (rcB cell) fE fN nE nN = mayF k copy n cell fE fN nE nN := by
  rcases (by omega : k = 1 ∨ k = 2 ∨ k = 3 ∨ k = 4 ∨ k = 5 ∨ k = 6 ∨ k = 7) with rfl | rfl | rfl | rfl | rfl | rfl | rfl
  all_goals
    unfold rightF mayF rcB cntB
    cases fE <;> cases nE <;> cases fN <;> cases nN <;> simp at hf hn ⊢
  all_goals
    rw [Bool.eq_iff_iff]
    simp
    try omega

theorem right_may (d : Nd) : rightB d = mayB d := by
  by_cases hk : 1 ≤ d.kind ∧ d.kind ≤ 7
  · rw [mayB_eq d hk.1 hk.2]
    unfold rightB
    exact rightF_eq _ _ _ _ _ _ _ _ hk.1 hk.2 (name_some _) (name_some _)
  · unfold rightB rightF mayB
    rw [decide_eq_false hk]; rfl

end Go.Proofs.YtenohenkedofkabDoor.nm
