/-
  digits.Name, and its reference: the same answer at every text.
-/
import Derived.Test.YtehieiddelngfaaDg5
namespace Go.Proofs.Ytehieiddelngfaa.dg
open Go.RowKit

theorem nameB_no (s : ByteArray) (h : s.size = 0 ∨ 16 < s.size) : nameB s = false := by
  unfold nameB
  rw [show decide (s.size ≠ 0 ∧ s.size ≤ 16) = false from decide_eq_false (by omega)]
  rfl

theorem nameB_let (s : ByteArray) (hz : 0 < s.size) (h : letB (s[0].toNat : Int) = false) : nameB s = false := by
  unfold nameB
  rw [headD_zero s hz, h, Bool.false_and, Bool.and_false]

theorem nameB_run (s : ByteArray) (hz : 0 < s.size) (h1 : s.size ≤ 16) (h : letB (s[0].toNat : Int) = true) : nameB s = decide (runN beh s.data.toList = s.size) := by
  unfold nameB
  rw [headD_zero s hz, h, Bool.true_and, show decide (s.size ≠ 0 ∧ s.size ≤ 16) = true from decide_eq_true (by omega)]
  rfl

set_option maxHeartbeats 400000 in
theorem name_any (s : ByteArray) (w : World) (hs : s.size ≤ maxLen) : Calls Try.prog 60 #[.string s] w fun e w' => e = .returned (.bool (nameB s)) ∧ w = w' := by
  have hs' := hs
  unfold maxLen at hs
  by_cases h0 : s.size = 0
  · have he : s.toList = [] := empty_list s h0
    have Hn := Lib.hid (nameB_no s (Or.inl h0))
    clear h0
    go_enter Try.func60, Try.ntmps60
    go_wp2_with fail
    go_ret
    exact ⟨by rw [Hn.out]; rfl, rfl⟩
  · have he : s.toList.isEmpty = false := not_empty s h0
    have hz : 0 < s.size := by omega
    have hb0 : (0 : Int) ≤ (s[0].toNat : Int) := by omega
    have hb1 : (s[0].toNat : Int) ≤ 255 := by have := s[0].toNat_lt; omega
    clear h0
    by_cases h16 : s.size ≤ 16
    · rcases hc : letB (s[0].toNat : Int) with _ | _
      · have Hn := Lib.hid (nameB_let s hz hc)
        have Hc := Lib.hid hc
        clear hc
        go_enter Try.func60, Try.ntmps60
        go_wp2_with fail
        refine (letter_any _ _ hb0 hb1).mono ?_
        rintro e w' ⟨rfl, rfl⟩
        rw [Hc.out]
        go_wp2_with fail
        go_ret
        exact ⟨by rw [Hn.out]; rfl, rfl⟩
      · have Hn := Lib.hid (nameB_run s hz h16 hc)
        have Hc := Lib.hid hc
        have hr := Lib.hid (run_beh s · hs')
        have hle := runN_size beh s
        clear hc
        generalize runN beh s.data.toList = q at *
        by_cases hq : q < s.size
        · go_enter Try.func60, Try.ntmps60
          go_wp2_with fail
          refine (letter_any _ _ hb0 hb1).mono ?_
          rintro e w' ⟨rfl, rfl⟩
          rw [Hc.out]
          go_wp2_with fail
          refine (hr.out _).mono ?_
          rintro e w' ⟨rfl, rfl⟩
          go_wp2_with fail
          go_ret
          exact ⟨by rw [Hn.out]; exact retB (by simp; omega), rfl⟩
        · obtain rfl : q = s.size := by omega
          go_enter Try.func60, Try.ntmps60
          go_wp2_with fail
          refine (letter_any _ _ hb0 hb1).mono ?_
          rintro e w' ⟨rfl, rfl⟩
          rw [Hc.out]
          go_wp2_with fail
          refine (hr.out _).mono ?_
          rintro e w' ⟨rfl, rfl⟩
          go_wp2_with fail
          go_ret
          exact ⟨by rw [Hn.out]; exact retB (by simp), rfl⟩
    · have Hn := Lib.hid (nameB_no s (Or.inr (by omega)))
      go_enter Try.func60, Try.ntmps60
      go_wp2_with fail
      go_ret
      exact ⟨by rw [Hn.out]; rfl, rfl⟩

theorem beh_cases (b : Int) (h : beh b = true) : letB b = true ∨ (letB b = false ∧ digB b = true) := by
  unfold beh at h
  rcases hl : letB b with _ | _
  · rw [hl] at h; exact Or.inr ⟨rfl, by simpa using h⟩
  · exact Or.inl rfl

theorem beh_no (b : Int) (h : beh b = false) : letB b = false ∧ digB b = false := by
  unfold beh at h; simpa using h

set_option maxHeartbeats 400000 in
theorem rname_any (s : ByteArray) (w : World) (hs : s.size ≤ maxLen) : Calls Try.prog 61 #[.string s] w fun e w' => e = .returned (.bool (nameB s)) ∧ w = w' := by
  unfold maxLen at hs
  by_cases h0 : s.size = 0
  · have he : s.toList = [] := empty_list s h0
    have Hn := Lib.hid (nameB_no s (Or.inl h0))
    clear h0
    go_enter Try.func61, Try.ntmps61
    go_wp2_with fail
    go_ret
    exact ⟨by rw [Hn.out]; rfl, rfl⟩
  · have he : s.toList.isEmpty = false := not_empty s h0
    have hz : 0 < s.size := by omega
    have hb0 : (0 : Int) ≤ (s[0].toNat : Int) := by omega
    have hb1 : (s[0].toNat : Int) ≤ 255 := by have := s[0].toNat_lt; omega
    clear h0
    by_cases h16 : s.size ≤ 16
    · rcases hc : letB (s[0].toNat : Int) with _ | _
      · have Hn := Lib.hid (nameB_let s hz hc)
        have Hc := Lib.hid hc
        clear hc
        go_enter Try.func61, Try.ntmps61
        go_wp2_with fail
        refine (rletter_any _ _ hb0 hb1).mono ?_
        rintro e w' ⟨rfl, rfl⟩
        rw [Hc.out]
        go_wp2_with fail
        go_ret
        exact ⟨by rw [Hn.out]; rfl, rfl⟩
      · have Hn := Lib.hid (nameB_run s hz h16 hc)
        have Hc := Lib.hid hc
        have hst := Lib.hid (stop_run beh s)
        have hbf := Lib.hid (before_run' beh s)
        have hle := runN_size beh s
        clear hc
        generalize runN beh s.data.toList = q at *
        go_enter Try.func61, Try.ntmps61
        go_wp2_with fail
        refine (rletter_any _ _ hb0 hb1).mono ?_
        rintro e w' ⟨rfl, rfl⟩
        rw [Hc.out]
        go_wp2_with fail
        go_loop [3] (fun n => ∃ k : Nat, k ≤ q ∧ n = .int .i64 k) (fun n => s.size - (intOf n).toNat)
        case atStart => exact ⟨0, Nat.zero_le _, rfl⟩
        case round =>
          obtain ⟨k, hk, rfl⟩ := hrel
          by_cases hkq : k < q
          · have hlt : k < s.size := by omega
            have hb0 : (0 : Int) ≤ (s[k].toNat : Int) := by omega
            have hb1 : (s[k].toNat : Int) ≤ 255 := by have := s[k].toNat_lt; omega
            rcases beh_cases _ (hbf.out k hkq hlt) with hl | ⟨hl, hd⟩
            · have Hl := Lib.hid hl
              clear hl
              go_wp2_with fail
              refine (rletter_any _ _ hb0 hb1).mono ?_
              rintro e w' ⟨rfl, rfl⟩
              rw [Hl.out]
              go_wp2_with fail
              go_round
              case rel => exact ⟨k + 1, by omega, by go_num⟩
              case measure => simp [intOf]; omega
            · have Hl := Lib.hid hl
              have Hd := Lib.hid hd
              clear hl hd
              go_wp2_with fail
              refine (rletter_any _ _ hb0 hb1).mono ?_
              rintro e w' ⟨rfl, rfl⟩
              rw [Hl.out]
              go_wp2_with fail
              refine (rdigit_any _ _ hb0 hb1).mono ?_
              rintro e w' ⟨rfl, rfl⟩
              rw [Hd.out]
              go_wp2_with fail
              go_round
              case rel => exact ⟨k + 1, by omega, by go_num⟩
              case measure => simp [intOf]; omega
          · obtain rfl : k = q := by omega
            by_cases hlt : k < s.size
            · have hb0 : (0 : Int) ≤ (s[k].toNat : Int) := by omega
              have hb1 : (s[k].toNat : Int) ≤ 255 := by have := s[k].toNat_lt; omega
              obtain ⟨hl, hd⟩ := beh_no _ (hst.out k rfl hlt)
              have Hl := Lib.hid hl
              have Hd := Lib.hid hd
              clear hl hd
              go_wp2_with fail
              refine (rletter_any _ _ hb0 hb1).mono ?_
              rintro e w' ⟨rfl, rfl⟩
              rw [Hl.out]
              go_wp2_with fail
              refine (rdigit_any _ _ hb0 hb1).mono ?_
              rintro e w' ⟨rfl, rfl⟩
              rw [Hd.out]
              go_wp2_with fail
              go_ret
              exact ⟨by rw [Hn.out]; exact retB (by simp; omega), rfl⟩
            · obtain rfl : k = s.size := by omega
              go_wp2_with fail
              go_ret
              exact ⟨by rw [Hn.out]; exact retB (by simp), rfl⟩
    · have Hn := Lib.hid (nameB_no s (Or.inr (by omega)))
      go_enter Try.func61, Try.ntmps61
      go_wp2_with fail
      go_ret
      exact ⟨by rw [Hn.out]; rfl, rfl⟩
end Go.Proofs.Ytehieiddelngfaa.dg
