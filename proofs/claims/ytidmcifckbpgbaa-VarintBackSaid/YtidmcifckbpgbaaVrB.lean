/-
  varint: the reference's count.
-/
import Derived.Test.YtidmcifckbpgbaaVrA
namespace Go.Proofs.Ytidmcifckbpgbaa.vr
open Go.RowKit Go.Proofs.Ytidmcifckbpgbaa.mem

/-- the place behind a count -/
def pl (at_ : Nat) (r : Nat × Nat × Nat) : Nat := if r.2.2 = 0 then at_ + r.2.1 else 0

def NPost (s : ByteArray) (p : Nat) (w : World) (e : Ending) (w' : World) : Prop := e = .returned (.tuple #[.int .i64 (cnt (s.data.toList.drop p)).1, .int .i64 (pl p (cnt (s.data.toList.drop p))), .int .i64 (cnt (s.data.toList.drop p)).2.2]) ∧ w = w'

theorem npost_of {s : ByteArray} {p : Nat} {w : World} {a b c : Int} {r : Nat × Nat × Nat} (h : cnt (s.data.toList.drop p) = r) (h1 : a = (r.1 : Int)) (h2 : b = (pl p r : Int)) (h3 : c = (r.2.2 : Int)) : NPost s p w (.returned (.tuple #[.int .i64 a, .int .i64 b, .int .i64 c])) w := by
  unfold NPost
  rw [h, h1, h2, h3]
  exact ⟨rfl, rfl⟩

set_option maxRecDepth 100000 in
theorem rcount_any (s : ByteArray) (p : Nat) (w : World) (hs : s.size ≤ maxLen) (hp : p ≤ s.size) :
    Calls Try.prog 54 #[.string s, .int .i64 p] w (NPost s p w) := by
  unfold maxLen at hs
  go_enter Try.func54, Try.ntmps54
  go_wp2_with fail
  go_loopw [7, 8] (fun n i wr => ∃ (k m : Nat), k ≤ 4 ∧ p + k ≤ s.size ∧ Hid (m < 128 ^ k) ∧ Hid (cnt (s.data.toList.drop p) = cntF k m (s.data.toList.drop (p + k))) ∧ i = .int .i64 k ∧ n = .int .i64 m ∧ w = wr) (fun _ i _ => 5 - (intOf i).toNat)
  case atStart => exact ⟨0, 0, by omega, by omega, Lib.hid (by decide), Lib.hid rfl, rfl, rfl, rfl⟩
  case round =>
    obtain ⟨k, m, hk, hks, hm, hc, rfl, rfl, rfl⟩ := hrel
    by_cases h0 : k = 0
    · subst h0
      have hmb : m < 1 := hm.out
      clear hm
      by_cases hz : s.size ≤ p + 0
      · have hv := Lib.hid (hc.out.trans (cnt_end s (p + 0) 0 m (by omega)))
        have hd : decide ((s.size : Int) ≤ (p : Int)) = true := decide_eq_true (by omega)
        clear hc
        go_wp2_with fail
        go_ret3
        exact npost_of hv.out rfl rfl rfl
      · obtain ⟨q, hq⟩ : ∃ q, Hid (q = p + 0) := ⟨_, Lib.hid rfl⟩
        have hlt : p + 0 < s.size := by omega
        have hd : decide ((s.size : Int) ≤ (p : Int)) = false := decide_eq_false (by omega)
        have hb := s[p + 0].toNat_lt
        have H1 := Lib.hid (fun a b c => hc.out.trans (cnt_ok s (p + 0) 0 m hlt a b c))
        have H2 := Lib.hid (fun a b => hc.out.trans (cnt_big s (p + 0) 0 m hlt a b))
        have H3 := Lib.hid (fun a b => hc.out.trans (cnt_zero s (p + 0) 0 m hlt a b))
        have H4 := Lib.hid (fun a b c d => hc.out.trans (cnt_next s (p + 0) 0 m hlt a b c d))
        clear hc
        generalize hsb : s[p + 0].toNat = b at *
        simp only [Nat.add_zero] at hsb
        have hcv : Hid (cntV 0 m b = m + b % 128) := Lib.hid (by unfold cntV; simp)
        by_cases hb0 : b = 0
        · have hv := Lib.hid (H1.out (by omega) (by rw [hcv.out]; omega) (by omega))
          rw [hcv.out] at hv
          subst hb0
          clear H1 H2 H3 H4
          go_wp2_with fail
          go_ret3
          exact npost_of hv.out (by simp) (by simp [pl]) rfl
        · have hbe : ((b : Int) == 0) = false := by simp; omega
          have d2 : decide ((268435456 : Int) < (m : Int) + (b : Int) % 128) = false := decide_eq_false (by omega)
          by_cases hb1 : b < 128
          · have hv := Lib.hid (H1.out (by omega) (by rw [hcv.out]; omega) hb1)
            rw [hcv.out] at hv
            have d1 : decide ((b : Int) < 128) = true := decide_eq_true (by omega)
            clear H1 H2 H3 H4
            go_wp2_with fail
            go_ret3
            exact npost_of hv.out (by simp) (by simp [pl]) rfl
          · have hv := Lib.hid (H4.out (by omega) (by rw [hcv.out]; omega) hb1 (by omega))
            rw [hcv.out] at hv
            have d1 : decide ((b : Int) < 128) = false := decide_eq_false (by omega)
            clear H1 H2 H3 H4
            go_wp2_with fail
            go_roundw
            case rel => exact ⟨1, m + b % 128, by omega, by omega, Lib.hid (by show _ < 128; omega), hv, by go_num, by go_num, trivial⟩
            case measure => simp [intOf]
    · by_cases h1 : k = 1
      · subst h1
        have hmb : m < 128 := hm.out
        clear hm
        by_cases hz : s.size ≤ p + 1
        · have hv := Lib.hid (hc.out.trans (cnt_end s (p + 1) 1 m (by omega)))
          have hd : decide ((s.size : Int) ≤ (p : Int) + 1) = true := decide_eq_true (by omega)
          clear hc
          go_wp2_with fail
          go_ret3
          exact npost_of hv.out rfl rfl rfl
        · obtain ⟨q, hq⟩ : ∃ q, Hid (q = p + 1) := ⟨_, Lib.hid rfl⟩
          have hlt : p + 1 < s.size := by omega
          have hd : decide ((s.size : Int) ≤ (p : Int) + 1) = false := decide_eq_false (by omega)
          have hb := s[p + 1].toNat_lt
          have H1 := Lib.hid (fun a b c => hc.out.trans (cnt_ok s (p + 1) 1 m hlt a b c))
          have H2 := Lib.hid (fun a b => hc.out.trans (cnt_big s (p + 1) 1 m hlt a b))
          have H3 := Lib.hid (fun a b => hc.out.trans (cnt_zero s (p + 1) 1 m hlt a b))
          have H4 := Lib.hid (fun a b c d => hc.out.trans (cnt_next s (p + 1) 1 m hlt a b c d))
          clear hc
          generalize hsb : s[p + 1].toNat = b at *
          have hcv : Hid (cntV 1 m b = m + b % 128 * 128) := Lib.hid (by unfold cntV; rfl)
          by_cases hb0 : b = 0
          · have hv := Lib.hid (H3.out hb0 (by omega))
            subst hb0
            clear H1 H2 H3 H4
            go_wp2_with fail
            go_ret3
            exact npost_of hv.out rfl rfl rfl
          · have hbe : ((b : Int) == 0) = false := by simp; omega
            have d2 : decide ((268435456 : Int) < (m : Int) + (b : Int) % 128 * 128) = false := decide_eq_false (by omega)
            by_cases hb1 : b < 128
            · have hv := Lib.hid (H1.out (by omega) (by rw [hcv.out]; omega) hb1)
              rw [hcv.out] at hv
              have d1 : decide ((b : Int) < 128) = true := decide_eq_true (by omega)
              clear H1 H2 H3 H4
              go_wp2_with fail
              go_ret3
              exact npost_of hv.out (by simp) (by simp [pl]; omega) rfl
            · have hv := Lib.hid (H4.out (by omega) (by rw [hcv.out]; omega) hb1 (by omega))
              rw [hcv.out] at hv
              have d1 : decide ((b : Int) < 128) = false := decide_eq_false (by omega)
              clear H1 H2 H3 H4
              go_wp2_with fail
              go_roundw
              case rel => exact ⟨2, m + b % 128 * 128, by omega, by omega, Lib.hid (by show _ < 16384; omega), hv, by go_num, by go_num, trivial⟩
              case measure => simp [intOf]
      · by_cases h2 : k = 2
        · subst h2
          have hmb : m < 16384 := hm.out
          clear hm
          by_cases hz : s.size ≤ p + 2
          · have hv := Lib.hid (hc.out.trans (cnt_end s (p + 2) 2 m (by omega)))
            have hd : decide ((s.size : Int) ≤ (p : Int) + 2) = true := decide_eq_true (by omega)
            clear hc
            go_wp2_with fail
            go_ret3
            exact npost_of hv.out rfl rfl rfl
          · obtain ⟨q, hq⟩ : ∃ q, Hid (q = p + 2) := ⟨_, Lib.hid rfl⟩
            have hlt : p + 2 < s.size := by omega
            have hd : decide ((s.size : Int) ≤ (p : Int) + 2) = false := decide_eq_false (by omega)
            have hb := s[p + 2].toNat_lt
            have H1 := Lib.hid (fun a b c => hc.out.trans (cnt_ok s (p + 2) 2 m hlt a b c))
            have H2 := Lib.hid (fun a b => hc.out.trans (cnt_big s (p + 2) 2 m hlt a b))
            have H3 := Lib.hid (fun a b => hc.out.trans (cnt_zero s (p + 2) 2 m hlt a b))
            have H4 := Lib.hid (fun a b c d => hc.out.trans (cnt_next s (p + 2) 2 m hlt a b c d))
            clear hc
            generalize hsb : s[p + 2].toNat = b at *
            have hcv : Hid (cntV 2 m b = m + b % 128 * 16384) := Lib.hid (by unfold cntV; rfl)
            by_cases hb0 : b = 0
            · have hv := Lib.hid (H3.out hb0 (by omega))
              subst hb0
              clear H1 H2 H3 H4
              go_wp2_with fail
              go_ret3
              exact npost_of hv.out rfl rfl rfl
            · have hbe : ((b : Int) == 0) = false := by simp; omega
              have d2 : decide ((268435456 : Int) < (m : Int) + (b : Int) % 128 * 16384) = false := decide_eq_false (by omega)
              by_cases hb1 : b < 128
              · have hv := Lib.hid (H1.out (by omega) (by rw [hcv.out]; omega) hb1)
                rw [hcv.out] at hv
                have d1 : decide ((b : Int) < 128) = true := decide_eq_true (by omega)
                clear H1 H2 H3 H4
                go_wp2_with fail
                go_ret3
                exact npost_of hv.out (by simp) (by simp [pl]; omega) rfl
              · have hv := Lib.hid (H4.out (by omega) (by rw [hcv.out]; omega) hb1 (by omega))
                rw [hcv.out] at hv
                have d1 : decide ((b : Int) < 128) = false := decide_eq_false (by omega)
                clear H1 H2 H3 H4
                go_wp2_with fail
                go_roundw
                case rel => exact ⟨3, m + b % 128 * 16384, by omega, by omega, Lib.hid (by show _ < 2097152; omega), hv, by go_num, by go_num, trivial⟩
                case measure => simp [intOf]
        · by_cases h3 : k = 3
          · subst h3
            have hmb : m < 2097152 := hm.out
            clear hm
            by_cases hz : s.size ≤ p + 3
            · have hv := Lib.hid (hc.out.trans (cnt_end s (p + 3) 3 m (by omega)))
              have hd : decide ((s.size : Int) ≤ (p : Int) + 3) = true := decide_eq_true (by omega)
              clear hc
              go_wp2_with fail
              go_ret3
              exact npost_of hv.out rfl rfl rfl
            · obtain ⟨q, hq⟩ : ∃ q, Hid (q = p + 3) := ⟨_, Lib.hid rfl⟩
              have hlt : p + 3 < s.size := by omega
              have hd : decide ((s.size : Int) ≤ (p : Int) + 3) = false := decide_eq_false (by omega)
              have hb := s[p + 3].toNat_lt
              have H1 := Lib.hid (fun a b c => hc.out.trans (cnt_ok s (p + 3) 3 m hlt a b c))
              have H2 := Lib.hid (fun a b => hc.out.trans (cnt_big s (p + 3) 3 m hlt a b))
              have H3 := Lib.hid (fun a b => hc.out.trans (cnt_zero s (p + 3) 3 m hlt a b))
              have H4 := Lib.hid (fun a b c d => hc.out.trans (cnt_next s (p + 3) 3 m hlt a b c d))
              clear hc
              generalize hsb : s[p + 3].toNat = b at *
              have hcv : Hid (cntV 3 m b = m + b % 128 * 2097152) := Lib.hid (by unfold cntV; rfl)
              by_cases hb0 : b = 0
              · have hv := Lib.hid (H3.out hb0 (by omega))
                subst hb0
                clear H1 H2 H3 H4
                go_wp2_with fail
                go_ret3
                exact npost_of hv.out rfl rfl rfl
              · have hbe : ((b : Int) == 0) = false := by simp; omega
                have d2 : decide ((268435456 : Int) < (m : Int) + (b : Int) % 128 * 2097152) = false := decide_eq_false (by omega)
                by_cases hb1 : b < 128
                · have hv := Lib.hid (H1.out (by omega) (by rw [hcv.out]; omega) hb1)
                  rw [hcv.out] at hv
                  have d1 : decide ((b : Int) < 128) = true := decide_eq_true (by omega)
                  clear H1 H2 H3 H4
                  go_wp2_with fail
                  go_ret3
                  exact npost_of hv.out (by simp) (by simp [pl]; omega) rfl
                · have hv := Lib.hid (H4.out (by omega) (by rw [hcv.out]; omega) hb1 (by omega))
                  rw [hcv.out] at hv
                  have d1 : decide ((b : Int) < 128) = false := decide_eq_false (by omega)
                  clear H1 H2 H3 H4
                  go_wp2_with fail
                  go_roundw
                  case rel => exact ⟨4, m + b % 128 * 2097152, by omega, by omega, Lib.hid (by show _ < 268435456; omega), hv, by go_num, by go_num, trivial⟩
                  case measure => simp [intOf]
          · obtain rfl : k = 4 := by omega
            have hmb : m < 268435456 := hm.out
            clear hm
            by_cases hz : s.size ≤ p + 4
            · have hv := Lib.hid (hc.out.trans (cnt_end s (p + 4) 4 m (by omega)))
              have hd : decide ((s.size : Int) ≤ (p : Int) + 4) = true := decide_eq_true (by omega)
              clear hc
              go_wp2_with fail
              go_ret3
              exact npost_of hv.out rfl rfl rfl
            · obtain ⟨q, hq⟩ : ∃ q, Hid (q = p + 4) := ⟨_, Lib.hid rfl⟩
              have hlt : p + 4 < s.size := by omega
              have hd : decide ((s.size : Int) ≤ (p : Int) + 4) = false := decide_eq_false (by omega)
              have hb := s[p + 4].toNat_lt
              have H1 := Lib.hid (fun a b c => hc.out.trans (cnt_ok s (p + 4) 4 m hlt a b c))
              have H2 := Lib.hid (fun a b => hc.out.trans (cnt_big s (p + 4) 4 m hlt a b))
              have H3 := Lib.hid (fun a b => hc.out.trans (cnt_zero s (p + 4) 4 m hlt a b))
              have H4 := Lib.hid (fun a b c d => hc.out.trans (cnt_next s (p + 4) 4 m hlt a b c d))
              clear hc
              generalize hsb : s[p + 4].toNat = b at *
              have hcv : Hid (cntV 4 m b = m + b % 128 * 268435456) := Lib.hid (by unfold cntV; rfl)
              by_cases hb0 : b = 0
              · have hv := Lib.hid (H3.out hb0 (by omega))
                subst hb0
                clear H1 H2 H3 H4
                go_wp2_with fail
                go_ret3
                exact npost_of hv.out rfl rfl rfl
              · have hbe : ((b : Int) == 0) = false := by simp; omega
                by_cases hb1 : 1 < b
                · have hv := Lib.hid (H2.out (by omega) (Or.inl ⟨rfl, hb1⟩))
                  have d1 : decide ((1 : Int) < (b : Int)) = true := decide_eq_true (by omega)
                  clear H1 H2 H3 H4
                  go_wp2_with fail
                  go_ret3
                  exact npost_of hv.out rfl rfl rfl
                · have d1 : decide ((1 : Int) < (b : Int)) = false := decide_eq_false (by omega)
                  have d3 : decide ((b : Int) < 128) = true := decide_eq_true (by omega)
                  by_cases hm0 : 0 < m
                  · have hv := Lib.hid (H2.out (by omega) (Or.inr (by rw [hcv.out]; omega)))
                    have d2 : decide ((268435456 : Int) < (m : Int) + (b : Int) % 128 * 268435456) = true := decide_eq_true (by omega)
                    clear H1 H2 H3 H4
                    go_wp2_with fail
                    go_ret3
                    exact npost_of hv.out rfl rfl rfl
                  · have hv := Lib.hid (H1.out (by omega) (by rw [hcv.out]; omega) (by omega))
                    rw [hcv.out] at hv
                    have d2 : decide ((268435456 : Int) < (m : Int) + (b : Int) % 128 * 268435456) = false := decide_eq_false (by omega)
                    clear H1 H2 H3 H4
                    go_wp2_with fail
                    go_ret3
                    exact npost_of hv.out (by simp) (by simp [pl]; omega) rfl
end Go.Proofs.Ytidmcifckbpgbaa.vr
