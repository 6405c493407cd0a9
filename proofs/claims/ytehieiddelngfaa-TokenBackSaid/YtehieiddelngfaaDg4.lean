/-
  weftref01.Read: the same answer as digits.Read at every text.
-/
import Derived.Test.YtehieiddelngfaaDg3
namespace Go.Proofs.Ytehieiddelngfaa.dg
open Go.RowKit

theorem hasNon (s : ByteArray) (h : runN (fun b => digB b) s.data.toList < s.size) : ∃ hk : runN (fun b => digB b) s.data.toList < s.size, digB ((s[runN (fun b => digB b) s.data.toList]'hk).toNat : Int) = false := by
  refine ⟨h, ?_⟩
  have key : ∀ (l : List UInt8) (h : runN (fun b => digB b) l < l.length), digB ((l[runN (fun b => digB b) l]'h).toNat : Int) = false := by
    intro l
    induction l with
    | nil => intro h; simp [runN] at h
    | cons c r ih =>
      intro h
      rcases hc : digB (c.toNat : Int) with _ | _
      · have e : runN (fun b => digB b) (c :: r) = 0 := by simp [runN, hc]
        simp only [e]
        exact hc
      · have e : runN (fun b => digB b) (c :: r) = runN (fun b => digB b) r + 1 := by simp [runN, hc]
        have h' : runN (fun b => digB b) r < r.length := by rw [e] at h; simpa using h
        have := ih h'
        simp only [e]
        simpa using this
  have hl := size_list s
  exact key _ (by omega)

theorem before_run (s : ByteArray) (k : Nat) (hk : k < runN (fun b => digB b) s.data.toList) (h : k < s.size) : digB (s[k].toNat : Int) = true := by
  have key : ∀ (l : List UInt8) (k : Nat) (_ : k < runN (fun b => digB b) l) (h' : k < l.length), digB (l[k].toNat : Int) = true := by
    intro l
    induction l with
    | nil => intro k _ h'; simp at h'
    | cons c r ih =>
      intro k h h'
      rcases hc : digB (c.toNat : Int) with _ | _
      · have e : runN (fun b => digB b) (c :: r) = 0 := by simp [runN, hc]
        omega
      · have e : runN (fun b => digB b) (c :: r) = runN (fun b => digB b) r + 1 := by simp [runN, hc]
        cases k with
        | zero => exact hc
        | succ k => exact ih k (by omega) (by simpa using h')
  have hl := size_list s
  exact key _ _ hk (by omega)

set_option maxHeartbeats 400000 in
theorem rread_any (s : ByteArray) (w : World) (hs : s.size ≤ maxLen) :
    Calls Try.prog 64 #[.string s] w fun e w' => e = .returned (.tuple #[.int .i64 (rd s).1, .int .i64 (rd s).2]) ∧ w = w' := by
  unfold maxLen at hs
  by_cases h0 : s.size = 0
  · have hrd : rd s = (0, 1) := by unfold rd; rw [if_pos h0]
    have Hr := Lib.hid hrd
    have he : s.toList = [] := empty_list s h0
    clear hrd h0
    go_enter Try.func64, Try.ntmps64
    go_wp2_with fail
    go_ret2
    exact ⟨by rw [Hr.out]; rfl, rfl⟩
  · have he : s.toList.isEmpty = false := not_empty s h0
    have hz : 0 < s.size := by omega
    by_cases h1 : runN (fun b => digB b) s.data.toList < s.size
    · have hrd : rd s = (0, 3) := by unfold rd; rw [if_neg h0, if_pos h1]
      have Hr := Lib.hid hrd
      have hn := hasNon s h1
      have hbf := before_run s
      revert hn hbf h1
      generalize runN (fun b => digB b) s.data.toList = q
      intro h1 hn hbf
      have Hn := Lib.hid hn
      have Hb := Lib.hid hbf
      clear hrd h0 hn hbf
      go_enter Try.func64, Try.ntmps64
      go_wp2_with fail
      go_loop [4] (fun n => ∃ k : Nat, k ≤ q ∧ n = .int .i64 k) (fun n => s.size - (intOf n).toNat)
      case atStart => exact ⟨0, Nat.zero_le _, rfl⟩
      case round =>
        obtain ⟨k, hk, rfl⟩ := hrel
        have hlt : k < s.size := by omega
        have hb0 : (0 : Int) ≤ (s[k].toNat : Int) := by omega
        have hb1 : (s[k].toNat : Int) ≤ 255 := by have := s[k].toNat_lt; omega
        by_cases hkq : k < q
        · have Hc := Lib.hid (Hb.out k hkq hlt)
          go_wp2_with fail
          refine (rdigit_any _ _ hb0 hb1).mono ?_
          rintro e w' ⟨rfl, rfl⟩
          rw [Hc.out]
          go_wp2_with fail
          go_round
          case rel => exact ⟨k + 1, by omega, by go_num⟩
          case measure => simp [intOf]; omega
        · obtain rfl : k = q := by omega
          obtain ⟨_, hc⟩ := Hn.out
          have Hc := Lib.hid hc
          clear hc
          go_wp2_with fail
          refine (rdigit_any _ _ hb0 hb1).mono ?_
          rintro e w' ⟨rfl, rfl⟩
          rw [Hc.out]
          go_wp2_with fail
          go_ret2
          exact ⟨by rw [Hr.out]; rfl, rfl⟩
    · have hall := Lib.hid (all_digits s h1)
      have hfirst : ∀ (Q : Prop) (w : World), (Q → ∀ k (h : k < s.size), digB (s[k].toNat : Int) = true) := by
        intro Q w _ k h
        have := all_digits s h1 k h
        simp [digB, this]
      by_cases h2 : ((s[0].toNat : Nat) : Int) = 48 ∧ 1 < s.size
      · have hrd : rd s = (0, 3) := by unfold rd; rw [if_neg h0, if_neg h1, headD_zero s hz, if_pos h2]
        have Hr := Lib.hid hrd
        have Hd := Lib.hid (hfirst True w trivial)
        obtain ⟨h2a, h2b⟩ := h2
        clear hrd h0 h1 hfirst
        go_enter Try.func64, Try.ntmps64
        go_wp2_with fail
        go_loop [4] (fun n => ∃ k : Nat, k ≤ s.size ∧ n = .int .i64 k) (fun n => s.size - (intOf n).toNat)
        case atStart => exact ⟨0, Nat.zero_le _, rfl⟩
        case round =>
          obtain ⟨k, hk, rfl⟩ := hrel
          by_cases hlt : k < s.size
          · have hb0 : (0 : Int) ≤ (s[k].toNat : Int) := by omega
            have hb1 : (s[k].toNat : Int) ≤ 255 := by have := s[k].toNat_lt; omega
            have Hc := Lib.hid (Hd.out k hlt)
            go_wp2_with fail
            refine (rdigit_any _ _ hb0 hb1).mono ?_
            rintro e w' ⟨rfl, rfl⟩
            rw [Hc.out]
            go_wp2_with fail
            go_round
            case rel => exact ⟨k + 1, by omega, by go_num⟩
            case measure => simp [intOf]; omega
          · go_wp2_with fail
            go_ret2
            exact ⟨by rw [Hr.out]; rfl, rfl⟩
      · have hrd : rd s = accR (acc 0 (s.data.toList.drop 0)) := by unfold rd; rw [if_neg h0, if_neg h1, headD_zero s hz, if_neg h2]; rfl
        have Hr := Lib.hid hrd
        have Hd := Lib.hid (hfirst True w trivial)
        clear hrd h0 h1 hfirst
        have hcase : (((s[0].toNat : Nat) : Int) == 48) = false ∨ ((((s[0].toNat : Nat) : Int) == 48) = true ∧ ¬ 1 < s.size) := by
          rcases hb : (((s[0].toNat : Nat) : Int) == 48) with _ | _
          · exact Or.inl rfl
          · exact Or.inr ⟨rfl, fun h => h2 ⟨by simpa using hb, h⟩⟩
        clear h2
        have fin : ∀ (w : World), Calls Try.prog 64 #[.string s] w fun e w' => e = .returned (.tuple #[.int .i64 (rd s).1, .int .i64 (rd s).2]) ∧ w = w' := by
          intro w
          rcases hcase with hc | ⟨hc, hc2⟩
          all_goals
            go_enter Try.func64, Try.ntmps64
            go_wp2_with fail
            go_loop [4] (fun n => ∃ k : Nat, k ≤ s.size ∧ n = .int .i64 k) (fun n => s.size - (intOf n).toNat)
            case atStart => exact ⟨0, Nat.zero_le _, rfl⟩
            case round =>
              obtain ⟨k, hk, rfl⟩ := hrel
              by_cases hlt : k < s.size
              · have hb0 : (0 : Int) ≤ (s[k].toNat : Int) := by omega
                have hb1 : (s[k].toNat : Int) ≤ 255 := by have := s[k].toNat_lt; omega
                have Hc := Lib.hid (Hd.out k hlt)
                go_wp2_with fail
                refine (rdigit_any _ _ hb0 hb1).mono ?_
                rintro e w' ⟨rfl, rfl⟩
                rw [Hc.out]
                go_wp2_with fail
                go_round
                case rel => exact ⟨k + 1, by omega, by go_num⟩
                case measure => simp [intOf]; omega
              · go_wp2_with fail
                go_loop [5, 6] (fun n i => ∃ (k : Nat) (m : Int), k ≤ s.size ∧ i = .int .i64 k ∧ n = .int .i64 m ∧ 0 ≤ m ∧ m ≤ 268435456 ∧ Hid (acc 0 (s.data.toList.drop 0) = acc m (s.data.toList.drop k))) (fun _ i => s.size - (intOf i).toNat)
                case atStart => exact ⟨0, 0, Nat.zero_le _, rfl, rfl, by omega, by omega, Lib.hid rfl⟩
                case round =>
                  obtain ⟨j, m, hj, rfl, rfl, hm0, hm1, ha⟩ := hrel
                  by_cases hlt : j < s.size
                  · have hb := hall.out j hlt
                    have hst := Lib.hid (acc_step s j m hlt)
                    obtain ⟨hb0, hb1⟩ := hb
                    by_cases hg : 10 * m + ((s[j].toNat : Int) - 48) > 268435456
                    · go_wp2_with fail
                      go_ret2
                      exact ⟨by rw [Hr.out, ha.out, hst.out, if_pos hg]; rfl, rfl⟩
                    · go_wp2_with fail
                      go_round
                      case rel => exact ⟨j + 1, 10 * m + ((s[j].toNat : Int) - 48), by omega, by go_num, by go_num, by omega, by omega, Lib.hid (by rw [ha.out, hst.out, if_neg hg])⟩
                      case measure => simp [intOf]; omega
                  · have hst := Lib.hid (acc_end s j m hlt)
                    go_wp2_with fail
                    go_ret2
                    exact ⟨by rw [Hr.out, ha.out, hst.out]; rfl, rfl⟩
        exact fin w
end Go.Proofs.Ytehieiddelngfaa.dg
