/-
  14.1: any node in writing is as the chapter says.
-/
import Derived.Test.YtenohenkedofkabDoorNmW
import Derived.Test.YtenohenkedofkabDoorNm10
namespace Go.Proofs.YtenohenkedofkabDoor.nm
open Go.RowKit Go.Sort

theorem great_any (d : Nd) (w : World) (hsn : d.name.size ≤ maxLen) (hsf : d.fn.size ≤ maxLen) : Calls Tryd.prog 8 #[d.val] w (BPost (decide (200 < d.fn.size ∨ 200 < d.name.size)) w) := by
  obtain ⟨kind, fn, copy, name, n, cell⟩ := d
  have hsn : name.size ≤ maxLen := hsn
  have hsf : fn.size ≤ maxLen := hsf
  have hb0 : Below w.heap.size w (w.alloc (.cells #[.int .i64 kind, .string fn, .int .i64 copy, .string name, .int .i64 n, .int .i64 cell] 23)) := (Below.refl _ _).alloc (Nat.le_refl _) _
  unfold maxLen at hsn hsf
  unfold Nd.val Nd.cells
  by_cases h1 : 200 < fn.size
  · have hv : Hid (decide (200 < fn.size ∨ 200 < name.size) = true) := Lib.hid (decide_eq_true (Or.inl h1))
    have h1' : decide (200 < (fn.size : Int)) = true := decide_eq_true (by omega)
    go_enter Tryd.func8, Tryd.ntmps8
    go_wp2_with fail
    go_ret
    exact ⟨rfl, hb0⟩
  · have h1' : decide (200 < (fn.size : Int)) = false := decide_eq_false (by omega)
    by_cases h2 : 200 < name.size
    · have hv : Hid (decide (200 < fn.size ∨ 200 < name.size) = true) := Lib.hid (decide_eq_true (Or.inr h2))
      have h2' : decide (200 < (name.size : Int)) = true := decide_eq_true (by omega)
      go_enter Tryd.func8, Tryd.ntmps8
      go_wp2_with fail
      go_ret
      exact ⟨rfl, hb0⟩
    · have hv : Hid (decide (200 < fn.size ∨ 200 < name.size) = false) := Lib.hid (decide_eq_false (by omega))
      have h2' : decide (200 < (name.size : Int)) = false := decide_eq_false (by omega)
      go_enter Tryd.func8, Tryd.ntmps8
      go_wp2_with fail
      go_ret
      exact ⟨rfl, hb0⟩

def NPost (d : Nd) (w : World) (e : Ending) (w' : World) : Prop := e = .returned d.val ∧ Below w.heap.size w w'

theorem lown_any (d : Nd) (w : World) : Calls Tryd.prog 10 #[d.val] w (NPost d w) := by
  obtain ⟨kind, fn, copy, name, n, cell⟩ := d
  unfold NPost Nd.val Nd.cells
  go_enter Tryd.func10, Tryd.ntmps10
  go_wp2_with fail
  refine bodyPost_ret (v := .agg #[.int .i64 kind, .string fn, .int .i64 copy, .string name, .int .i64 n, .int .i64 cell]) (by simp only [results, Tryd.results10]; go_simp) rfl ?_
  exact ⟨rfl, by repeat (first | (with_reducible exact Below.refl _ _) | (with_reducible refine Below.setCell ?_ (by simp; done) _) | (with_reducible refine Below.alloc ?_ (by simp; done) _))⟩

set_option maxHeartbeats 1000000 in
theorem law_texts (hd : Held) (he : HeldE) (d : Nd) (w : World) (hsf : d.fn.size ≤ maxLen) (hsn : d.name.size ≤ maxLen) (htab : Tab w) : Calls Tryd.prog 3 #[d.val] w (WorksPost w) := by
  have Hg := Lib.hid (fun w => great_any d w hsn hsf)
  have Ho := Lib.hid (fun w => lown_any d w)
  have Ht := Lib.hid (fun w h => text_any hd d w hsn hsf h)
  have Hr := Lib.hid (fun w => rtext_any d w hsn hsf)
  have Hw := Lib.hid (fun w h => works_any hd he w h)
  unfold BPost at Hg
  unfold NPost at Ho
  unfold TextPost at Ht Hr
  unfold WorksPost at Hw
  generalize txt d = tt at *
  generalize terr d = te at *
  have Htab := Lib.hid htab
  clear htab hd he
  rcases hv : decide (200 < d.fn.size ∨ 200 < d.name.size) with _ | _
  all_goals
    rw [hv] at Hg
    clear hv hsf hsn
    obtain ⟨kind, fn, copy, name, n, cell⟩ := d
    unfold Nd.val Nd.cells at Hg Ho Ht Hr ⊢
    have hb0 : Below w.heap.size w (w.alloc (.cells #[.int .i64 kind, .string fn, .int .i64 copy, .string name, .int .i64 n, .int .i64 cell] 23)) := (Below.refl _ _).alloc (Nat.le_refl _) _
    have Hnew : Hid (Six ⟨kind, fn, copy, name, n, cell⟩ w.heap.size (w.alloc (.cells #[.int .i64 kind, .string fn, .int .i64 copy, .string name, .int .i64 n, .int .i64 cell] 23))) := Lib.hid (Six.new ⟨kind, fn, copy, name, n, cell⟩ w _)
    go_enter Tryd.func3, Tryd.ntmps3
    go_wp2_with fail
    refine (Hg.out _).mono ?_
    rintro e w1 ⟨rfl, b1⟩
    have Hs1 := Lib.hid (Hnew.out.on b1)
    have hb1 := below_on hb0 b1
    obtain ⟨k0, k1, k2, k3, k4, k5⟩ := Hs1.out
    clear b1 hb0
    go_wp2_with fail
  · refine (Ho.out _).mono ?_
    rintro e w2 ⟨rfl, b2⟩
    have Hs2 := Lib.hid (Hs1.out.on b2)
    have hb2 := below_on hb1 b2
    clear b2 k0 k1 k2 k3 k4 k5 Hs1
    obtain ⟨k0, k1, k2, k3, k4, k5⟩ := Hs2.out
    go_wp2_with fail
    refine (Ht.out _ (tab_below Htab.out hb2)).mono ?_
    rintro e w3 ⟨rfl, b3⟩
    have Hs3 := Lib.hid (Hs2.out.on b3)
    have hb3 := below_on hb2 b3
    clear b3 k0 k1 k2 k3 k4 k5 Hs2
    obtain ⟨k0, k1, k2, k3, k4, k5⟩ := Hs3.out
    go_wp2_with fail
    refine (Hr.out _).mono ?_
    rintro e w4 ⟨rfl, b4⟩
    have hb4 := below_on hb3 b4
    clear b4 k0 k1 k2 k3 k4 k5 Hs3
    go_wp2_with fail
    refine (Hw.out _ (tab_below Htab.out hb4)).mono ?_
    rintro e w5 ⟨rfl, b5⟩
    have hb5 := below_on hb4 b5
    clear b5
    go_wp2_with fail
    go_ret
    exact ⟨rfl, hb5⟩
  · go_ret
    exact ⟨rfl, hb1⟩

end Go.Proofs.YtenohenkedofkabDoor.nm
