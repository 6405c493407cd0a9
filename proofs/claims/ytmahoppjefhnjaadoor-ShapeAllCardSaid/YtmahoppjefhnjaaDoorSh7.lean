/-
  Shape: what is wrong with a type itself.
-/
import Derived.Test.YtmahoppjefhnjaaDoorShM
import Derived.Test.YtmahoppjefhnjaaDoorSh1
namespace Go.Proofs.YtmahoppjefhnjaaDoor.sh
open Go.RowKit Go.Sort Go.Proofs.YtmahoppjefhnjaaDoor.mem

/-- what is wrong with a type itself, so deep -/
def wrongC (ss : List St) (T : Ty) (d : Int) : Int :=
  if 4 < d then 10
  else if T.kind < 1 ∨ 4 < T.kind then 5
  else if T.kind = 4 ∧ (T.of.length ≠ 1 ∨ T.num < 1 ∨ 16 < T.num) then 3
  else if T.kind = 3 then (match findS ss T.name with | none => 7 | some st => if st.2.length < 1 ∨ 8 < st.2.length then 3 else 0)
  else 0

def WrPost (r : Int) (w : World) (e : Ending) (w' : World) : Prop := e = .returned (.int .i64 r) ∧ Below w.heap.size w w'

theorem wrpost {r d : Int} {w w' : World} (h : r = d) (hb : Below w.heap.size w w') : WrPost r w (.returned (.int .i64 d)) w' := ⟨by rw [h], hb⟩

set_option maxRecDepth 100000 in
set_option maxHeartbeats 1000000 in
theorem wrong_any (w : World) (n q : Nat) (A : Option Addr) (cap : Nat) (ss : List St) (hss : SsAt w n A ss) (hm : ss.length ≤ 9223372036854775807) (T : Ty) (v0 v1 v2 v3 : Value) (ht : TyAt w q T v0 v1 v2 v3) (d : Int) :
    Calls Tryd.prog 76 #[.slice A ss.length cap, .agg #[v0, v1, v2, v3], .int .i64 d] w (WrPost (wrongC ss T d) w) := by
  have KF := Lib.hid (fun w' (hb : Below w.heap.size w w') => find_any w' n A cap ss T.name (hss.kept hb) hm)
  have BX := Lib.hid (fun o => (Below.refl w.heap.size w).alloc (Nat.le_refl _) o)
  obtain ⟨R, hR⟩ : ∃ R, wrongC ss T d = R := ⟨_, rfl⟩
  rw [hR]
  unfold wrongC at hR
  have HR := Lib.hid hR.symm
  clear hR hss
  cases q with
  | zero => exact ht.elim
  | succ q =>
  obtain ⟨rfl, _, rfl, _, rfl, _, A2, cap2, rfl, hl, _, _⟩ := ht
  obtain ⟨k, name, num, of⟩ := T
  simp only [Ty.kind, Ty.name, Ty.num, Ty.of] at *
  by_cases c1 : 4 < d
  · have hr := Lib.hid (HR.out.trans (if_pos c1))
    have d1 : decide (4 < d) = true := decide_eq_true c1
    clear KF HR
    go_enter Tryd.func76, Tryd.ntmps76
    go_wp2_with fail
    go_ret
    exact wrpost hr.out (BX.out _)
  have HR := Lib.hid (HR.out.trans (if_neg c1))
  have d1 : decide (4 < d) = false := decide_eq_false c1
  by_cases c2 : k < 1 ∨ 4 < k
  · have hr := Lib.hid (HR.out.trans (if_pos c2))
    clear KF HR
    by_cases c3 : k < 1
    · have d2 : decide (k < 1) = true := decide_eq_true c3
      go_enter Tryd.func76, Tryd.ntmps76
      go_wp2_with fail
      go_ret
      exact wrpost hr.out (BX.out _)
    · have d2 : decide (k < 1) = false := decide_eq_false c3
      have d3 : decide (4 < k) = true := decide_eq_true (by omega)
      go_enter Tryd.func76, Tryd.ntmps76
      go_wp2_with fail
      go_ret
      exact wrpost hr.out (BX.out _)
  have HR := Lib.hid (HR.out.trans (if_neg c2))
  have d2 : decide (k < 1) = false := decide_eq_false (by omega)
  have d3 : decide (4 < k) = false := decide_eq_false (by omega)
  by_cases c4 : k = 4
  · subst c4
    by_cases c5 : of.length = 1
    · have d5 : ((of.length : Int) == 1) = true := by simp; omega
      have d5' : ((of.length : Int) != 1) = false := by simp; omega
      by_cases c6 : num < 1
      · have hr := Lib.hid (HR.out.trans (if_pos ⟨rfl, Or.inr (Or.inl c6)⟩))
        have d6 : decide (num < 1) = true := decide_eq_true c6
        clear KF HR
        go_enter Tryd.func76, Tryd.ntmps76
        go_wp2_with fail
        go_ret
        exact wrpost hr.out (BX.out _)
      · have d6 : decide (num < 1) = false := decide_eq_false c6
        by_cases c7 : 16 < num
        · have hr := Lib.hid (HR.out.trans (if_pos ⟨rfl, Or.inr (Or.inr c7)⟩))
          have d7 : decide (16 < num) = true := decide_eq_true c7
          clear KF HR
          go_enter Tryd.func76, Tryd.ntmps76
          go_wp2_with fail
          go_ret
          exact wrpost hr.out (BX.out _)
        · have hr := Lib.hid ((HR.out.trans (if_neg (by rintro ⟨_, h | h | h⟩; exact h c5; exact c6 h; exact c7 h))).trans (if_neg (by decide)))
          have d7 : decide (16 < num) = false := decide_eq_false c7
          clear KF HR
          go_enter Tryd.func76, Tryd.ntmps76
          go_wp2_with fail
          go_ret
          exact wrpost hr.out (BX.out _)
    · have hr := Lib.hid (HR.out.trans (if_pos ⟨rfl, Or.inl c5⟩))
      have d5 : ((of.length : Int) == 1) = false := by simp; omega
      have d5' : ((of.length : Int) != 1) = true := by simp; omega
      clear KF HR
      go_enter Tryd.func76, Tryd.ntmps76
      go_wp2_with fail
      go_ret
      exact wrpost hr.out (BX.out _)
  have HR := Lib.hid (HR.out.trans (if_neg (fun h => c4 h.1)))
  have d4 : (k == 4) = false := by simpa using c4
  by_cases c8 : k = 3
  · subst c8
    have HR := Lib.hid (HR.out.trans (if_pos rfl))
    go_enter Tryd.func76, Tryd.ntmps76
    go_wp2_with fail
    refine (KF.out _ (BX.out _)).mono ?_
    rintro e w2 ⟨b2, ⟨st, B, c, hst, rfl, hfl, _⟩ | ⟨hst, rfl⟩⟩
    · have HR := HR.out
      rw [hst] at HR
      simp only at HR
      have HB2 := Lib.hid ((BX.out _).trans (b2.mono (by simp)))
      have HB3 : Hid (∀ o, Below w.heap.size w (w2.alloc o)) := Lib.hid (fun o => HB2.out.alloc HB2.out.size o)
      clear b2 KF hst
      obtain ⟨nm, fs⟩ := st
      simp only at HR hfl
      have HR := Lib.hid HR
      by_cases c9 : fs.length < 1
      · have hr := Lib.hid (HR.out.trans (if_pos (Or.inl c9)))
        have d9 : decide ((fs.length : Int) < 1) = true := decide_eq_true (by omega)
        go_wp2_with fail
        go_ret
        exact wrpost hr.out (HB3.out _)
      · have d9 : decide ((fs.length : Int) < 1) = false := decide_eq_false (by omega)
        by_cases c10 : 8 < fs.length
        · have hr := Lib.hid (HR.out.trans (if_pos (Or.inr c10)))
          have d10 : decide ((8 : Int) < (fs.length : Int)) = true := decide_eq_true (by omega)
          go_wp2_with fail
          go_ret
          exact wrpost hr.out (HB3.out _)
        · have hr := Lib.hid (HR.out.trans (if_neg (not_or.2 ⟨c9, c10⟩)))
          have d10 : decide ((8 : Int) < (fs.length : Int)) = false := decide_eq_false (by omega)
          go_wp2_with fail
          go_ret
          exact wrpost hr.out (HB3.out _)
    · have HR := HR.out
      rw [hst] at HR
      simp only at HR
      have HB2 := Lib.hid ((BX.out _).trans (b2.mono (by simp)))
      have HB3 : Hid (∀ o, Below w.heap.size w (w2.alloc o)) := Lib.hid (fun o => HB2.out.alloc HB2.out.size o)
      have HR := Lib.hid HR
      clear b2 KF hst
      go_wp2_with fail
      go_ret
      exact wrpost HR.out (HB3.out _)
  · have hr := Lib.hid (HR.out.trans (if_neg c8))
    have d8 : (k == 3) = false := by simpa using c8
    clear KF HR
    go_enter Tryd.func76, Tryd.ntmps76
    go_wp2_with fail
    go_ret
    exact wrpost hr.out (BX.out _)
end Go.Proofs.YtmahoppjefhnjaaDoor.sh
