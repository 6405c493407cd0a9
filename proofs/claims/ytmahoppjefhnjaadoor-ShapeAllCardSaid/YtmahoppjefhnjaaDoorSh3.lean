/-
  Shape: a type in writing.
-/
import Derived.Test.YtmahoppjefhnjaaDoorSh1
import Derived.Test.YtmahoppjefhnjaaDoorDt
namespace Go.Proofs.YtmahoppjefhnjaaDoor.sh
open Go.RowKit Go.Proofs.YtmahoppjefhnjaaDoor.mem Go.Proofs.YtmahoppjefhnjaaDoor.dt

/-- a type in writing, so many arrays deep at most -/
def txt : Nat → Ty → List UInt8
  | 0, _ => [63]
  | l + 1, T =>
    if T.kind = 1 then [105, 110, 116]
    else if T.kind = 2 then [112, 116, 114]
    else if T.kind = 3 then [115, 116, 114, 117, 99, 116, 32] ++ T.name.data.toList
    else if T.kind ≠ 4 ∨ T.of.length ≠ 1 then [63]
    else [91] ++ Lib.itoa T.num ++ [93] ++ txt l (T.of.headD default)

/-- what a text's call answers -/
def TextPost (l : Nat) (T : Ty) (w : World) (e : Ending) (w' : World) : Prop := ∃ s : ByteArray, e = .returned (.string s) ∧ s.data.toList = txt l T ∧ s.size ≤ 200 + 30 * l ∧ Below w.heap.size w w'

theorem textPost_mk {l : Nat} {T : Ty} {w w' : World} {s : ByteArray} (h : s.data.toList = txt l T) (hs : s.size ≤ 200 + 30 * l) (hb : Below w.heap.size w w') : TextPost l T w (.returned (.string s)) w' := ⟨s, rfl, h, hs, hb⟩

theorem below_box (w : World) (o : Obj) : Below w.heap.size w (w.alloc o) := (Below.refl _ _).alloc (Nat.le_refl _) o

set_option maxRecDepth 100000 in
theorem rtext_zero (T : Ty) (n : Nat) (v0 v1 v2 v3 : Value) (w : World) (ht : TyAt w n T v0 v1 v2 v3) :
    Calls Tryd.prog 54 #[.agg #[v0, v1, v2, v3], .int .i64 (5 : Int)] w (TextPost 0 T w) := by
  cases n with
  | zero => exact ht.elim
  | succ n =>
  obtain ⟨rfl, w0, rfl, w1, rfl, w2, A, cap, rfl, h7, h8, h9⟩ := ht
  clear h8 h9
  go_enter Tryd.func54, Tryd.ntmps54
  go_wp2_with fail
  go_ret
  exact textPost_mk rfl (by decide) (below_box _ _)

/-- what is left of the lone kinds -/
theorem deep_name {m : Nat} {T : Ty} (h : deepB (m + 1) T = false) : T.name.size ≤ 100 ∧ ∀ E ∈ T.of, deepB m E = false := by
  simp only [deepB, Bool.or_eq_false_iff, decide_eq_false_iff_not] at h
  refine ⟨by omega, fun E hE => ?_⟩
  have := h.2.2
  rw [List.any_eq_false] at this
  simpa using this E hE

set_option maxRecDepth 100000 in
theorem rtext_flat (l : Nat) (D : Int) (hD : D ≤ 4) (hD1 : 1 ≤ D) (T : Ty) (n : Nat) (v0 v1 v2 v3 : Value) (w : World) (ht : TyAt w n T v0 v1 v2 v3) (hn : T.name.size ≤ 100) (hk : ¬ (T.kind = 4 ∧ T.of.length = 1)) :
    Calls Tryd.prog 54 #[.agg #[v0, v1, v2, v3], .int .i64 D] w (TextPost (l + 1) T w) := by
  cases n with
  | zero => exact ht.elim
  | succ n =>
  obtain ⟨rfl, w0, rfl, w1, rfl, w2, A, cap, rfl, h7, h8, h9⟩ := ht
  clear h8 h9 w0 w2 h7
  obtain ⟨k, name, num, of⟩ := T
  simp only [Ty.kind, Ty.name, Ty.num, Ty.of] at *
  have e0 : decide ((4 : Int) < D) = false := decide_eq_false (by omega)
  by_cases h1 : k = 1
  · subst h1
    go_enter Tryd.func54, Tryd.ntmps54
    go_wp2_with fail
    go_ret
    exact textPost_mk rfl (by show 3 ≤ _; omega) (below_box _ _)
  by_cases h2 : k = 2
  · subst h2
    go_enter Tryd.func54, Tryd.ntmps54
    go_wp2_with fail
    go_ret
    exact textPost_mk rfl (by show 3 ≤ _; omega) (below_box _ _)
  by_cases h3 : k = 3
  · subst h3
    go_enter Tryd.func54, Tryd.ntmps54
    go_wp2_with fail
    go_ret
    exact textPost_mk (by simp [txt, Ty.kind, Ty.name]) (by rw [ByteArray.size_append]; have : (ByteArray.mk #[115, 116, 114, 117, 99, 116, 32]).size = 7 := rfl; omega) (below_box _ _)
  have f1 : (k == 1) = false := by simp [h1]
  have f2 : (k == 2) = false := by simp [h2]
  have f3 : (k == 3) = false := by simp [h3]
  have fin : txt (l + 1) (.mk k name num of) = [63] := by
    have h : k ≠ 4 ∨ of.length ≠ 1 := by by_cases h : k = 4 <;> simp_all
    unfold txt
    rw [if_neg (show ¬ (Ty.mk k name num of).kind = 1 from h1), if_neg (show ¬ (Ty.mk k name num of).kind = 2 from h2), if_neg (show ¬ (Ty.mk k name num of).kind = 3 from h3)]
    exact if_pos h
  by_cases h4 : k = 4
  · subst h4
    have h5 : ((of.length : Int) == 1) = false := by simp; intro h; exact hk ⟨rfl, by omega⟩
    go_enter Tryd.func54, Tryd.ntmps54
    go_wp2_with fail
    go_ret
    exact textPost_mk (by rw [fin]) (by show 1 ≤ _; omega) (below_box _ _)
  have f4 : (k == 4) = false := by simp [h4]
  go_enter Tryd.func54, Tryd.ntmps54
  go_wp2_with fail
  go_ret
  exact textPost_mk (by rw [fin]) (by show 1 ≤ _; omega) (below_box _ _)
end Go.Proofs.YtmahoppjefhnjaaDoor.sh
