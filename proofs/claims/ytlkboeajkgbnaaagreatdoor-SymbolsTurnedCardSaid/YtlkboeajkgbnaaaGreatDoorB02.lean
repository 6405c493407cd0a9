import Derived.Lib.Strings
import Derived.ProofKit
import Derived.Test.YtlkboeajkgbnaaaGreatDoorB01
set_option linter.all false
set_option maxHeartbeats 4000000
namespace Go.Proofs.YtlkboeajkgbnaaaGreatDoor.dg
open Go.RowKit
def beh (b : Int) : Bool := letB b || digB b
theorem run_beh (s : ByteArray) (w : World) (hs : s.size ≤ maxLen) :
    Calls Tryz.prog 56 #[.string s, .func (.func 57) #[] #[]] w fun e w' => e = .returned (.int .i64 (runN beh s.data.toList : Nat)) ∧ w = w' := run_behind s w hs
theorem run_dig (s : ByteArray) (w : World) (hs : s.size ≤ maxLen) :
    Calls Tryz.prog 56 #[.string s, .func (.func 143) #[] #[]] w fun e w' => e = .returned (.int .i64 (runN digB s.data.toList : Nat)) ∧ w = w' := run_digit s w hs
theorem runN_size (cls : Int → Bool) (s : ByteArray) : runN cls s.data.toList ≤ s.size := by
  have := runN_le cls s.data.toList; have := size_list s; omega
def splN (s : ByteArray) : Nat := if letB ((s.data.toList.headD 0).toNat : Int) then runN beh s.data.toList else runN digB s.data.toList
theorem splN_le (s : ByteArray) : splN s ≤ s.size := by
  unfold splN; split
  · exact runN_size _ s
  · exact runN_size _ s
theorem letB_zero : letB 0 = false := by decide
theorem splN_empty (s : ByteArray) (h : s.size = 0) : splN s = runN digB s.data.toList := by
  have e : s.data.toList = [] := List.length_eq_zero_iff.1 (by rw [size_list]; exact h)
  unfold splN; rw [e]; simp [letB_zero]
def nameB (s : ByteArray) : Bool := decide (s.size ≠ 0 ∧ s.size ≤ 16) && (letB ((s.data.toList.headD 0).toNat : Int) && decide (runN beh s.data.toList = s.size))
def SplitPost (s : ByteArray) (w : World) (e : Ending) (w' : World) : Prop :=
  e = .returned (.tuple #[.string (s.extract 0 (splN s)), .string (s.extract (splN s) s.size)]) ∧ ∃ n, w' = w.drewN n
theorem split_any (s : ByteArray) (w : World) (hs : s.size ≤ maxLen) : Calls Tryz.prog 117 #[.string s] w (SplitPost s w) := by
  have hs' := hs
  unfold maxLen at hs
  by_cases h0 : s.size = 0
  · have he : s.toList = [] := empty_list s h0
    have hq := splN_empty s h0
    have hle := runN_size digB s
    have hr := Lib.hid (run_dig s · hs')
    clear h0
    generalize runN digB s.data.toList = q at *
    have Hq := Lib.hid hq
    clear hq
    go_enter Tryz.func117, Tryz.ntmps117
    go_wp2_with fail
    refine (hr.out _).mono ?_
    rintro e w' ⟨rfl, rfl⟩
    go_wp2_with fail
    go_quiet (fail)
    go_wp2_with fail
    go_ret2
    exact ⟨by rw [Hq.out]; rfl, _, rfl⟩
  · have he : s.toList.isEmpty = false := not_empty s h0
    have hz : 0 < s.size := by omega
    have hb0 : (0 : Int) ≤ (s[0].toNat : Int) := by omega
    have hb1 : (s[0].toNat : Int) ≤ 255 := by have := s[0].toNat_lt; omega
    rcases hc : letB (s[0].toNat : Int) with _ | _
    · have hq : splN s = runN digB s.data.toList := by unfold splN; rw [headD_zero s hz, hc]; rfl
      have hle := runN_size digB s
      have hr := Lib.hid (run_dig s · hs')
      have Hc := Lib.hid hc
      clear h0 hc
      generalize runN digB s.data.toList = q at *
      have Hq := Lib.hid hq
      clear hq
      go_enter Tryz.func117, Tryz.ntmps117
      go_wp2_with fail
      refine (letter_any _ _ hb0 hb1).mono ?_
      rintro e w' ⟨rfl, rfl⟩
      rw [Hc.out]
      go_wp2_with fail
      refine (hr.out _).mono ?_
      rintro e w' ⟨rfl, rfl⟩
      go_wp2_with fail
      go_quiet (fail)
      go_wp2_with fail
      go_ret2
      exact ⟨by rw [Hq.out]; rfl, _, rfl⟩
    · have hq : splN s = runN beh s.data.toList := by unfold splN; rw [headD_zero s hz, hc]; rfl
      have hle := runN_size beh s
      have hr := Lib.hid (run_beh s · hs')
      have Hc := Lib.hid hc
      clear h0 hc
      generalize runN beh s.data.toList = q at *
      have Hq := Lib.hid hq
      clear hq
      go_enter Tryz.func117, Tryz.ntmps117
      go_wp2_with fail
      refine (letter_any _ _ hb0 hb1).mono ?_
      rintro e w' ⟨rfl, rfl⟩
      rw [Hc.out]
      go_wp2_with fail
      refine (hr.out _).mono ?_
      rintro e w' ⟨rfl, rfl⟩
      go_wp2_with fail
      go_quiet (fail)
      go_wp2_with fail
      go_ret2
      exact ⟨by rw [Hq.out]; rfl, _, rfl⟩
end Go.Proofs.YtlkboeajkgbnaaaGreatDoor.dg
namespace Go.Proofs.YtlkboeajkgbnaaaGreatDoor.dg
open Go.RowKit
theorem nameB_no (s : ByteArray) (h : s.size = 0 ∨ 16 < s.size) : nameB s = false := by
  unfold nameB
  rw [show decide (s.size ≠ 0 ∧ s.size ≤ 16) = false from decide_eq_false (by omega)]
  rfl
theorem nameB_let (s : ByteArray) (hz : 0 < s.size) (h : letB (s[0].toNat : Int) = false) : nameB s = false := by
  unfold nameB
  rw [headD_zero s hz, h, Bool.false_and, Bool.and_false]
theorem nameB_run (s : ByteArray) (hz : 0 < s.size) (h1 : s.size ≤ 16) (h : letB (s[0].toNat : Int) = true) : nameB s = decide (runN beh s.data.toList = s.size) := by
  unfold nameB
  rw [headD_zero s hz, h, Bool.true_and, show decide (s.size ≠ 0 ∧ s.size ≤ 16) = true from decide_eq_true (by omega)]
  rfl
theorem name_any (s : ByteArray) (w : World) (hs : s.size ≤ maxLen) : Calls Tryz.prog 31 #[.string s] w fun e w' => e = .returned (.bool (nameB s)) ∧ w = w' := by
  have hs' := hs
  unfold maxLen at hs
  by_cases h0 : s.size = 0
  · have he : s.toList = [] := empty_list s h0
    have Hn := Lib.hid (nameB_no s (Or.inl h0))
    clear h0
    go_enter Tryz.func31, Tryz.ntmps31
    go_wp2_with fail
    go_ret
    exact ⟨by rw [Hn.out]; rfl, rfl⟩
  · have he : s.toList.isEmpty = false := not_empty s h0
    have hz : 0 < s.size := by omega
    have hb0 : (0 : Int) ≤ (s[0].toNat : Int) := by omega
    have hb1 : (s[0].toNat : Int) ≤ 255 := by have := s[0].toNat_lt; omega
    clear h0
    by_cases h16 : s.size ≤ 16
    · rcases hc : letB (s[0].toNat : Int) with _ | _
      · have Hn := Lib.hid (nameB_let s hz hc)
        have Hc := Lib.hid hc
        clear hc
        go_enter Tryz.func31, Tryz.ntmps31
        go_wp2_with fail
        refine (letter_any _ _ hb0 hb1).mono ?_
        rintro e w' ⟨rfl, rfl⟩
        rw [Hc.out]
        go_wp2_with fail
        go_ret
        exact ⟨by rw [Hn.out]; rfl, rfl⟩
      · have Hn := Lib.hid (nameB_run s hz h16 hc)
        have Hc := Lib.hid hc
        have hr := Lib.hid (run_beh s · hs')
        have hle := runN_size beh s
        clear hc
        generalize runN beh s.data.toList = q at *
        by_cases hq : q < s.size
        · go_enter Tryz.func31, Tryz.ntmps31
          go_wp2_with fail
          refine (letter_any _ _ hb0 hb1).mono ?_
          rintro e w' ⟨rfl, rfl⟩
          rw [Hc.out]
          go_wp2_with fail
          refine (hr.out _).mono ?_
          rintro e w' ⟨rfl, rfl⟩
          go_wp2_with fail
          go_ret
          exact ⟨by rw [Hn.out]; exact retB (by simp; omega), rfl⟩
        · obtain rfl : q = s.size := by omega
          go_enter Tryz.func31, Tryz.ntmps31
          go_wp2_with fail
          refine (letter_any _ _ hb0 hb1).mono ?_
          rintro e w' ⟨rfl, rfl⟩
          rw [Hc.out]
          go_wp2_with fail
          refine (hr.out _).mono ?_
          rintro e w' ⟨rfl, rfl⟩
          go_wp2_with fail
          go_ret
          exact ⟨by rw [Hn.out]; exact retB (by simp), rfl⟩
    · have Hn := Lib.hid (nameB_no s (Or.inr (by omega)))
      go_enter Tryz.func31, Tryz.ntmps31
      go_wp2_with fail
      go_ret
      exact ⟨by rw [Hn.out]; rfl, rfl⟩
end Go.Proofs.YtlkboeajkgbnaaaGreatDoor.dg
