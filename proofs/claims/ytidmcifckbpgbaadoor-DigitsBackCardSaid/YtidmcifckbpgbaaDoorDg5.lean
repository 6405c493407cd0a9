/-
  digits.Name, digits.Split, and their references: the same answers at every text.
-/
import Derived.Test.YtidmcifckbpgbaaDoorDg4
import Derived.ProofKit
import Derived.Lib.Strings
namespace Go.Proofs.YtidmcifckbpgbaaDoor.dg
open Go.RowKit

theorem stop_run (cls : Int → Bool) (s : ByteArray) (k : Nat) (e : k = runN cls s.data.toList) (h : k < s.size) : cls (s[k].toNat : Int) = false := by
  have key : ∀ (l : List UInt8) (k : Nat) (_ : k = runN cls l) (h : k < l.length), cls ((l[k]'h).toNat : Int) = false := by
    intro l
    induction l with
    | nil => intro k _ h; simp at h
    | cons c r ih =>
      intro k e h
      rcases hc : cls (c.toNat : Int) with _ | _
      · have e' : runN cls (c :: r) = 0 := by simp [runN, hc]
        obtain rfl : k = 0 := by omega
        exact hc
      · have e' : runN cls (c :: r) = runN cls r + 1 := by simp [runN, hc]
        cases k with
        | zero => omega
        | succ k => exact ih k (by omega) (by simpa using h)
  have hl := size_list s
  exact key _ _ e (by omega)

theorem before_run' (cls : Int → Bool) (s : ByteArray) (k : Nat) (hk : k < runN cls s.data.toList) (h : k < s.size) : cls (s[k].toNat : Int) = true := by
  have key : ∀ (l : List UInt8) (k : Nat) (_ : k < runN cls l) (h' : k < l.length), cls (l[k].toNat : Int) = true := by
    intro l
    induction l with
    | nil => intro k _ h'; simp at h'
    | cons c r ih =>
      intro k h h'
      rcases hc : cls (c.toNat : Int) with _ | _
      · have e : runN cls (c :: r) = 0 := by simp [runN, hc]
        omega
      · have e : runN cls (c :: r) = runN cls r + 1 := by simp [runN, hc]
        cases k with
        | zero => exact hc
        | succ k => exact ih k (by omega) (by simpa using h')
  have hl := size_list s
  exact key _ _ hk (by omega)

def beh (b : Int) : Bool := letB b || digB b

theorem run_beh (s : ByteArray) (w : World) (hs : s.size ≤ maxLen) :
    Calls Tryd.prog 13 #[.string s, .func (.func 16) #[] #[]] w fun e w' => e = .returned (.int .i64 (runN beh s.data.toList : Nat)) ∧ w = w' := run_behind s w hs

theorem run_dig (s : ByteArray) (w : World) (hs : s.size ≤ maxLen) :
    Calls Tryd.prog 13 #[.string s, .func (.func 14) #[] #[]] w fun e w' => e = .returned (.int .i64 (runN digB s.data.toList : Nat)) ∧ w = w' := run_digit s w hs

theorem runN_size (cls : Int → Bool) (s : ByteArray) : runN cls s.data.toList ≤ s.size := by
  have := runN_le cls s.data.toList; have := size_list s; omega

/-- where a text is parted -/
def splN (s : ByteArray) : Nat := if letB ((s.data.toList.headD 0).toNat : Int) then runN beh s.data.toList else runN digB s.data.toList

theorem splN_le (s : ByteArray) : splN s ≤ s.size := by
  unfold splN; split
  · exact runN_size _ s
  · exact runN_size _ s

theorem letB_zero : letB 0 = false := by decide

theorem splN_empty (s : ByteArray) (h : s.size = 0) : splN s = runN digB s.data.toList := by
  have e : s.data.toList = [] := List.length_eq_zero_iff.1 (by rw [size_list]; exact h)
  unfold splN; rw [e]; simp [letB_zero]

/-- is a text a name? -/
def nameB (s : ByteArray) : Bool := decide (s.size ≠ 0 ∧ s.size ≤ 16) && (letB ((s.data.toList.headD 0).toNat : Int) && decide (runN beh s.data.toList = s.size))

def SplitPost (s : ByteArray) (w : World) (e : Ending) (w' : World) : Prop :=
  e = .returned (.tuple #[.string (s.extract 0 (splN s)), .string (s.extract (splN s) s.size)]) ∧ ∃ n, w' = w.drewN n

set_option maxHeartbeats 400000 in
theorem split_any (s : ByteArray) (w : World) (hs : s.size ≤ maxLen) : Calls Tryd.prog 9 #[.string s] w (SplitPost s w) := by
  have hs' := hs
  unfold maxLen at hs
  by_cases h0 : s.size = 0
  · have he : s.toList = [] := empty_list s h0
    have hq := splN_empty s h0
    have hle := runN_size digB s
    have hr := Lib.hid (run_dig s · hs')
    clear h0
    generalize runN digB s.data.toList = q at *
    have Hq := Lib.hid hq
    clear hq
    go_enter Tryd.func9, Tryd.ntmps9
    go_wp2_with fail
    refine (hr.out _).mono ?_
    rintro e w' ⟨rfl, rfl⟩
    go_wp2_with fail
    go_quiet (fail)
    go_wp2_with fail
    go_ret2
    exact ⟨by rw [Hq.out]; rfl, _, rfl⟩
  · have he : s.toList.isEmpty = false := not_empty s h0
    have hz : 0 < s.size := by omega
    have hb0 : (0 : Int) ≤ (s[0].toNat : Int) := by omega
    have hb1 : (s[0].toNat : Int) ≤ 255 := by have := s[0].toNat_lt; omega
    rcases hc : letB (s[0].toNat : Int) with _ | _
    · have hq : splN s = runN digB s.data.toList := by unfold splN; rw [headD_zero s hz, hc]; rfl
      have hle := runN_size digB s
      have hr := Lib.hid (run_dig s · hs')
      have Hc := Lib.hid hc
      clear h0 hc
      generalize runN digB s.data.toList = q at *
      have Hq := Lib.hid hq
      clear hq
      go_enter Tryd.func9, Tryd.ntmps9
      go_wp2_with fail
      refine (letter_any _ _ hb0 hb1).mono ?_
      rintro e w' ⟨rfl, rfl⟩
      rw [Hc.out]
      go_wp2_with fail
      refine (hr.out _).mono ?_
      rintro e w' ⟨rfl, rfl⟩
      go_wp2_with fail
      go_quiet (fail)
      go_wp2_with fail
      go_ret2
      exact ⟨by rw [Hq.out]; rfl, _, rfl⟩
    · have hq : splN s = runN beh s.data.toList := by unfold splN; rw [headD_zero s hz, hc]; rfl
      have hle := runN_size beh s
      have hr := Lib.hid (run_beh s · hs')
      have Hc := Lib.hid hc
      clear h0 hc
      generalize runN beh s.data.toList = q at *
      have Hq := Lib.hid hq
      clear hq
      go_enter Tryd.func9, Tryd.ntmps9
      go_wp2_with fail
      refine (letter_any _ _ hb0 hb1).mono ?_
      rintro e w' ⟨rfl, rfl⟩
      rw [Hc.out]
      go_wp2_with fail
      refine (hr.out _).mono ?_
      rintro e w' ⟨rfl, rfl⟩
      go_wp2_with fail
      go_quiet (fail)
      go_wp2_with fail
      go_ret2
      exact ⟨by rw [Hq.out]; rfl, _, rfl⟩

/-- a round of the reference's loop: at k bytes of the class it goes on, at the run's end it ends -/
def clsOf (words : Bool) (b : Int) : Bool := digB b || (words && letB b)

theorem cls_beh : clsOf true = beh := by funext b; unfold clsOf beh; simp [Bool.or_comm]
theorem cls_dig : clsOf false = digB := by funext b; unfold clsOf; simp

theorem cls_cases (words : Bool) (b : Int) (h : clsOf words b = true) : digB b = true ∨ (digB b = false ∧ words = true ∧ letB b = true) := by
  unfold clsOf at h
  rcases hd : digB b with _ | _
  · rw [hd] at h; simp at h; exact Or.inr ⟨rfl, h⟩
  · exact Or.inl rfl

theorem cls_no (words : Bool) (b : Int) (h : clsOf words b = false) : digB b = false ∧ (words = false ∨ (words = true ∧ letB b = false)) := by
  unfold clsOf at h
  cases words <;> simp_all

end Go.Proofs.YtidmcifckbpgbaaDoor.dg
