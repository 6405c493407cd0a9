/-
  varint: a count read.
-/
import Derived.Test.YtcicojobeggdaaaVr2
namespace Go.Proofs.Ytcicojobeggdaaa.vr
open Go.RowKit Go.Proofs.Ytcicojobeggdaaa.mem

theorem ret3 {a b c a' b' c' : Int} (h1 : a = a') (h2 : b = b') (h3 : c = c') : Ending.returned (.tuple #[.int .i64 a, .int .i64 b, .int .i64 c]) = .returned (.tuple #[.int .i64 a', .int .i64 b', .int .i64 c']) := by rw [h1, h2, h3]

theorem list_size (s : ByteArray) : s.data.toList.length = s.size := by rw [Array.length_toList]; rfl

theorem drop_at (s : ByteArray) (k : Nat) (h : k < s.size) : s.data.toList.drop k = s[k] :: s.data.toList.drop (k + 1) := by
  rw [List.drop_eq_getElem_cons (by rw [list_size]; exact h)]
  rfl

theorem drop_end (s : ByteArray) (k : Nat) (h : s.size ≤ k) : s.data.toList.drop k = [] := List.drop_of_length_le (by rw [list_size]; exact h)

def cntV (i n b : Nat) : Nat := n + b % 128 * 2 ^ (7 * i)

theorem cnt_end (s : ByteArray) (k i m : Nat) (h : s.size ≤ k) : cntF i m (s.data.toList.drop k) = (0, 0, 1) := by rw [drop_end s k h]; rfl

theorem cnt_zero (s : ByteArray) (k i m : Nat) (h : k < s.size) (hb : s[k].toNat = 0) (hi : 0 < i) : cntF i m (s.data.toList.drop k) = (0, 0, 3) := by
  rw [drop_at s k h]; unfold cntF; rw [if_pos ⟨hb, hi⟩]
theorem cnt_big (s : ByteArray) (k i m : Nat) (h : k < s.size) (hb : ¬ (s[k].toNat = 0 ∧ 0 < i)) (hi : i = 4 ∧ 1 < s[k].toNat ∨ 268435456 < cntV i m s[k].toNat) : cntF i m (s.data.toList.drop k) = (0, 0, 2) := by
  unfold cntV at hi
  rw [drop_at s k h]; unfold cntF; rw [if_neg hb, if_pos hi]
theorem cnt_ok (s : ByteArray) (k i m : Nat) (h : k < s.size) (hb : ¬ (s[k].toNat = 0 ∧ 0 < i)) (hi : ¬ (i = 4 ∧ 1 < s[k].toNat ∨ 268435456 < cntV i m s[k].toNat)) (h1 : s[k].toNat < 128) : cntF i m (s.data.toList.drop k) = (cntV i m s[k].toNat, i + 1, 0) := by
  unfold cntV at hi ⊢
  rw [drop_at s k h]; unfold cntF; rw [if_neg hb, if_neg hi, if_pos h1]
theorem cnt_next (s : ByteArray) (k i m : Nat) (h : k < s.size) (hb : ¬ (s[k].toNat = 0 ∧ 0 < i)) (hi : ¬ (i = 4 ∧ 1 < s[k].toNat ∨ 268435456 < cntV i m s[k].toNat)) (h1 : ¬ s[k].toNat < 128) (h4 : ¬ 4 ≤ i) : cntF i m (s.data.toList.drop k) = cntF (i + 1) (cntV i m s[k].toNat) (s.data.toList.drop (k + 1)) := by
  unfold cntV at hi ⊢
  rw [drop_at s k h]; conv => lhs; unfold cntF
  rw [if_neg hb, if_neg hi, if_neg h1, if_neg h4]

set_option maxRecDepth 100000 in
theorem count_any (s : ByteArray) (w : World) (hs : s.size ≤ maxLen) :
    Calls Try.prog 37 #[.string s] w fun e w' => e = .returned (.tuple #[.int .i64 (cnt s.data.toList).1, .int .i64 (cnt s.data.toList).2.1, .int .i64 (cnt s.data.toList).2.2]) ∧ w = w' := by
  unfold maxLen at hs
  go_enter Try.func37, Try.ntmps37
  go_wp2_with fail
  go_loopw [5, 8] (fun n i wr => ∃ (k m : Nat), k ≤ 4 ∧ k ≤ s.size ∧ Hid (m < 128 ^ k) ∧ Hid (cnt s.data.toList = cntF k m (s.data.toList.drop k)) ∧ i = .int .i64 k ∧ n = .int .i64 m ∧ w = wr) (fun _ i _ => 5 - (intOf i).toNat)
  case atStart => exact ⟨0, 0, by omega, by omega, Lib.hid (by decide), Lib.hid rfl, rfl, rfl, rfl⟩
  case round =>
    obtain ⟨k, m, hk, hks, hm, hc, rfl, rfl, rfl⟩ := hrel
    by_cases h0 : k = 0
    · subst h0
      have hmb : m < 1 := hm.out
      clear hm
      by_cases hz : s.size = 0
      · have hv := Lib.hid (hc.out.trans (cnt_end s 0 0 m (by omega)))
        have hd : (((0 : Nat) : Int) == (s.size : Int)) = true := by simp; omega
        clear hc
        go_wp2_with fail
        go_ret3
        rw [hv.out]
        exact ⟨ret3 rfl rfl rfl, rfl⟩
      · have hlt : 0 < s.size := by omega
        have hd : (((0 : Nat) : Int) == (s.size : Int)) = false := by simp; omega
        have hb := s[0].toNat_lt
        have h1 := fun a b c => hc.out.trans (cnt_ok s 0 0 m hlt a b c)
        have h2 := fun a b => hc.out.trans (cnt_big s 0 0 m hlt a b)
        have h3 := fun a b => hc.out.trans (cnt_zero s 0 0 m hlt a b)
        have h4 := fun a b c d => hc.out.trans (cnt_next s 0 0 m hlt a b c d)
        have H1 := Lib.hid h1
        have H2 := Lib.hid h2
        have H3 := Lib.hid h3
        have H4 := Lib.hid h4
        clear hc h1 h2 h3 h4
        generalize hsb : s[0].toNat = b at *
        have Hsb := Lib.hid hsb
        have hcv : Hid (cntV 0 m b = m + b % 128) := Lib.hid (by unfold cntV; simp)
        by_cases hb0 : b = 0
        · subst hb0
          have hv := Lib.hid (H1.out (by omega) (by rw [hcv.out]; omega) (by omega))
          rw [hcv.out] at hv
          clear H1 H2 H3 H4
          go_wp2_with fail
          go_ret3
          rw [hv.out]
          exact ⟨ret3 (by omega) rfl rfl, rfl⟩
        · have hbe : ((b : Int) == 0) = false := by simp; omega
          have d2 : decide ((268435456 : Int) < (m : Int) + (b : Int) % 128) = false := decide_eq_false (by omega)
          by_cases hb1 : b < 128
          · have hv := Lib.hid (H1.out (by omega) (by rw [hcv.out]; omega) hb1)
            rw [hcv.out] at hv
            have d1 : decide ((b : Int) < 128) = true := decide_eq_true (by omega)
            clear H1 H2 H3 H4
            go_wp2_with fail
            go_ret3
            rw [hv.out]
            exact ⟨ret3 (by omega) rfl rfl, rfl⟩
          · have hv := Lib.hid (H4.out (by omega) (by rw [hcv.out]; omega) hb1 (by omega))
            rw [hcv.out] at hv
            have d1 : decide ((b : Int) < 128) = false := decide_eq_false (by omega)
            clear H1 H2 H3 H4
            go_wp2_with fail
            go_roundw
            case rel => exact ⟨1, m + b % 128, by omega, by omega, Lib.hid (by show _ < 128; omega), hv, by go_num, by go_num, trivial⟩
            case measure => simp [intOf]
    · by_cases h1 : k = 1
      · subst h1
        have hmb : m < 128 := hm.out
        clear hm
        by_cases hz : s.size = 1
        · have hv := Lib.hid (hc.out.trans (cnt_end s 1 1 m (by omega)))
          have hd : (((1 : Nat) : Int) == (s.size : Int)) = true := by simp; omega
          clear hc
          go_wp2_with fail
          go_ret3
          rw [hv.out]
          exact ⟨ret3 rfl rfl rfl, rfl⟩
        · have hlt : 1 < s.size := by omega
          have hd : (((1 : Nat) : Int) == (s.size : Int)) = false := by simp; omega
          have hb := s[1].toNat_lt
          have h1 := fun a b c => hc.out.trans (cnt_ok s 1 1 m hlt a b c)
          have h2 := fun a b => hc.out.trans (cnt_big s 1 1 m hlt a b)
          have h3 := fun a b => hc.out.trans (cnt_zero s 1 1 m hlt a b)
          have h4 := fun a b c d => hc.out.trans (cnt_next s 1 1 m hlt a b c d)
          have H1 := Lib.hid h1
          have H2 := Lib.hid h2
          have H3 := Lib.hid h3
          have H4 := Lib.hid h4
          clear hc h1 h2 h3 h4
          generalize hsb : s[1].toNat = b at *
          have Hsb := Lib.hid hsb
          have hcv : Hid (cntV 1 m b = m + b % 128 * 128) := Lib.hid (by unfold cntV; rfl)
          by_cases hb0 : b = 0
          · subst hb0
            have hv := Lib.hid (H3.out rfl (by omega))
            clear H1 H2 H3 H4
            go_wp2_with fail
            go_ret3
            rw [hv.out]
            exact ⟨ret3 rfl rfl rfl, rfl⟩
          · have hbe : ((b : Int) == 0) = false := by simp; omega
            have d2 : decide ((268435456 : Int) < (m : Int) + (b : Int) % 128 * 128) = false := decide_eq_false (by omega)
            by_cases hb1 : b < 128
            · have hv := Lib.hid (H1.out (by omega) (by rw [hcv.out]; omega) hb1)
              rw [hcv.out] at hv
              have d1 : decide ((b : Int) < 128) = true := decide_eq_true (by omega)
              clear H1 H2 H3 H4
              go_wp2_with fail
              go_ret3
              rw [hv.out]
              exact ⟨ret3 (by omega) rfl rfl, rfl⟩
            · have hv := Lib.hid (H4.out (by omega) (by rw [hcv.out]; omega) hb1 (by omega))
              rw [hcv.out] at hv
              have d1 : decide ((b : Int) < 128) = false := decide_eq_false (by omega)
              clear H1 H2 H3 H4
              go_wp2_with fail
              go_roundw
              case rel => exact ⟨2, m + b % 128 * 128, by omega, by omega, Lib.hid (by show _ < 16384; omega), hv, by go_num, by go_num, trivial⟩
              case measure => simp [intOf]
      · by_cases h2 : k = 2
        · subst h2
          have hmb : m < 16384 := hm.out
          clear hm
          by_cases hz : s.size = 2
          · have hv := Lib.hid (hc.out.trans (cnt_end s 2 2 m (by omega)))
            have hd : (((2 : Nat) : Int) == (s.size : Int)) = true := by simp; omega
            clear hc
            go_wp2_with fail
            go_ret3
            rw [hv.out]
            exact ⟨ret3 rfl rfl rfl, rfl⟩
          · have hlt : 2 < s.size := by omega
            have hd : (((2 : Nat) : Int) == (s.size : Int)) = false := by simp; omega
            have hb := s[2].toNat_lt
            have h1 := fun a b c => hc.out.trans (cnt_ok s 2 2 m hlt a b c)
            have h2 := fun a b => hc.out.trans (cnt_big s 2 2 m hlt a b)
            have h3 := fun a b => hc.out.trans (cnt_zero s 2 2 m hlt a b)
            have h4 := fun a b c d => hc.out.trans (cnt_next s 2 2 m hlt a b c d)
            have H1 := Lib.hid h1
            have H2 := Lib.hid h2
            have H3 := Lib.hid h3
            have H4 := Lib.hid h4
            clear hc h1 h2 h3 h4
            generalize hsb : s[2].toNat = b at *
            have Hsb := Lib.hid hsb
            have hcv : Hid (cntV 2 m b = m + b % 128 * 16384) := Lib.hid (by unfold cntV; rfl)
            by_cases hb0 : b = 0
            · subst hb0
              have hv := Lib.hid (H3.out rfl (by omega))
              clear H1 H2 H3 H4
              go_wp2_with fail
              go_ret3
              rw [hv.out]
              exact ⟨ret3 rfl rfl rfl, rfl⟩
            · have hbe : ((b : Int) == 0) = false := by simp; omega
              have d2 : decide ((268435456 : Int) < (m : Int) + (b : Int) % 128 * 16384) = false := decide_eq_false (by omega)
              by_cases hb1 : b < 128
              · have hv := Lib.hid (H1.out (by omega) (by rw [hcv.out]; omega) hb1)
                rw [hcv.out] at hv
                have d1 : decide ((b : Int) < 128) = true := decide_eq_true (by omega)
                clear H1 H2 H3 H4
                go_wp2_with fail
                go_ret3
                rw [hv.out]
                exact ⟨ret3 (by omega) rfl rfl, rfl⟩
              · have hv := Lib.hid (H4.out (by omega) (by rw [hcv.out]; omega) hb1 (by omega))
                rw [hcv.out] at hv
                have d1 : decide ((b : Int) < 128) = false := decide_eq_false (by omega)
                clear H1 H2 H3 H4
                go_wp2_with fail
                go_roundw
                case rel => exact ⟨3, m + b % 128 * 16384, by omega, by omega, Lib.hid (by show _ < 2097152; omega), hv, by go_num, by go_num, trivial⟩
                case measure => simp [intOf]
        · by_cases h3 : k = 3
          · subst h3
            have hmb : m < 2097152 := hm.out
            clear hm
            by_cases hz : s.size = 3
            · have hv := Lib.hid (hc.out.trans (cnt_end s 3 3 m (by omega)))
              have hd : (((3 : Nat) : Int) == (s.size : Int)) = true := by simp; omega
              clear hc
              go_wp2_with fail
              go_ret3
              rw [hv.out]
              exact ⟨ret3 rfl rfl rfl, rfl⟩
            · have hlt : 3 < s.size := by omega
              have hd : (((3 : Nat) : Int) == (s.size : Int)) = false := by simp; omega
              have hb := s[3].toNat_lt
              have h1 := fun a b c => hc.out.trans (cnt_ok s 3 3 m hlt a b c)
              have h2 := fun a b => hc.out.trans (cnt_big s 3 3 m hlt a b)
              have h3 := fun a b => hc.out.trans (cnt_zero s 3 3 m hlt a b)
              have h4 := fun a b c d => hc.out.trans (cnt_next s 3 3 m hlt a b c d)
              have H1 := Lib.hid h1
              have H2 := Lib.hid h2
              have H3 := Lib.hid h3
              have H4 := Lib.hid h4
              clear hc h1 h2 h3 h4
              generalize hsb : s[3].toNat = b at *
              have Hsb := Lib.hid hsb
              have hcv : Hid (cntV 3 m b = m + b % 128 * 2097152) := Lib.hid (by unfold cntV; rfl)
              by_cases hb0 : b = 0
              · subst hb0
                have hv := Lib.hid (H3.out rfl (by omega))
                clear H1 H2 H3 H4
                go_wp2_with fail
                go_ret3
                rw [hv.out]
                exact ⟨ret3 rfl rfl rfl, rfl⟩
              · have hbe : ((b : Int) == 0) = false := by simp; omega
                have d2 : decide ((268435456 : Int) < (m : Int) + (b : Int) % 128 * 2097152) = false := decide_eq_false (by omega)
                by_cases hb1 : b < 128
                · have hv := Lib.hid (H1.out (by omega) (by rw [hcv.out]; omega) hb1)
                  rw [hcv.out] at hv
                  have d1 : decide ((b : Int) < 128) = true := decide_eq_true (by omega)
                  clear H1 H2 H3 H4
                  go_wp2_with fail
                  go_ret3
                  rw [hv.out]
                  exact ⟨ret3 (by omega) rfl rfl, rfl⟩
                · have hv := Lib.hid (H4.out (by omega) (by rw [hcv.out]; omega) hb1 (by omega))
                  rw [hcv.out] at hv
                  have d1 : decide ((b : Int) < 128) = false := decide_eq_false (by omega)
                  clear H1 H2 H3 H4
                  go_wp2_with fail
                  go_roundw
                  case rel => exact ⟨4, m + b % 128 * 2097152, by omega, by omega, Lib.hid (by show _ < 268435456; omega), hv, by go_num, by go_num, trivial⟩
                  case measure => simp [intOf]
          · obtain rfl : k = 4 := by omega
            have hmb : m < 268435456 := hm.out
            clear hm
            by_cases hz : s.size = 4
            · have hv := Lib.hid (hc.out.trans (cnt_end s 4 4 m (by omega)))
              have hd : (((4 : Nat) : Int) == (s.size : Int)) = true := by simp; omega
              clear hc
              go_wp2_with fail
              go_ret3
              rw [hv.out]
              exact ⟨ret3 rfl rfl rfl, rfl⟩
            · have hlt : 4 < s.size := by omega
              have hd : (((4 : Nat) : Int) == (s.size : Int)) = false := by simp; omega
              have hb := s[4].toNat_lt
              have h1 := fun a b c => hc.out.trans (cnt_ok s 4 4 m hlt a b c)
              have h2 := fun a b => hc.out.trans (cnt_big s 4 4 m hlt a b)
              have h3 := fun a b => hc.out.trans (cnt_zero s 4 4 m hlt a b)
              have h4 := fun a b c d => hc.out.trans (cnt_next s 4 4 m hlt a b c d)
              have H1 := Lib.hid h1
              have H2 := Lib.hid h2
              have H3 := Lib.hid h3
              have H4 := Lib.hid h4
              clear hc h1 h2 h3 h4
              generalize hsb : s[4].toNat = b at *
              have Hsb := Lib.hid hsb
              have hcv : Hid (cntV 4 m b = m + b % 128 * 268435456) := Lib.hid (by unfold cntV; rfl)
              by_cases hb0 : b = 0
              · subst hb0
                have hv := Lib.hid (H3.out rfl (by omega))
                clear H1 H2 H3 H4
                go_wp2_with fail
                go_ret3
                rw [hv.out]
                exact ⟨ret3 rfl rfl rfl, rfl⟩
              · have hbe : ((b : Int) == 0) = false := by simp; omega
                by_cases hb1 : 1 < b
                · have hv := Lib.hid (H2.out (by omega) (Or.inl ⟨rfl, hb1⟩))
                  have d1 : decide ((1 : Int) < (b : Int)) = true := decide_eq_true (by omega)
                  clear H1 H2 H3 H4
                  go_wp2_with fail
                  go_ret3
                  rw [hv.out]
                  exact ⟨ret3 rfl rfl rfl, rfl⟩
                · have d1 : decide ((1 : Int) < (b : Int)) = false := decide_eq_false (by omega)
                  have d3 : decide ((b : Int) < 128) = true := decide_eq_true (by omega)
                  by_cases hm0 : 0 < m
                  · have hv := Lib.hid (H2.out (by omega) (Or.inr (by rw [hcv.out]; omega)))
                    have d2 : decide ((268435456 : Int) < (m : Int) + (b : Int) % 128 * 268435456) = true := decide_eq_true (by omega)
                    clear H1 H2 H3 H4
                    go_wp2_with fail
                    go_ret3
                    rw [hv.out]
                    exact ⟨ret3 rfl rfl rfl, rfl⟩
                  · have hv := Lib.hid (H1.out (by omega) (by rw [hcv.out]; omega) (by omega))
                    rw [hcv.out] at hv
                    have d2 : decide ((268435456 : Int) < (m : Int) + (b : Int) % 128 * 268435456) = false := decide_eq_false (by omega)
                    clear H1 H2 H3 H4
                    go_wp2_with fail
                    go_ret3
                    rw [hv.out]
                    exact ⟨ret3 (by omega) rfl rfl, rfl⟩
end Go.Proofs.Ytcicojobeggdaaa.vr
