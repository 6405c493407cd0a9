/-
  varint: plain facts: what is written is read, and in one way alone.
-/
import Derived.Test.YtcicojobeggdaaaVrC
import Derived.Test.YtcicojobeggdaaaVrD
import Derived.Test.YtcicojobeggdaaaVr9
namespace Go.Proofs.Ytcicojobeggdaaa.vr

theorem pow7 (i : Nat) : 2 ^ (7 * (i + 1)) = 128 * 2 ^ (7 * i) := by
  rw [Nat.mul_add, Nat.pow_add, Nat.mul_comm]

theorem split_mul (k P : Nat) : k * P = k % 128 * P + k / 128 * (128 * P) := by
  conv => lhs; rw [← Nat.mod_add_div k 128]
  rw [Nat.add_mul, Nat.mul_comm 128 (k / 128), Nat.mul_assoc]

/-- a count written is read -/
theorem cntF_nb : ∀ (f : Nat) (k i m : Nat) (r : List UInt8), k ≤ f → i ≤ 4 → (0 < i → 0 < k) → m + k * 2 ^ (7 * i) ≤ 268435456 → cntF i m (nb k ++ r) = (m + k * 2 ^ (7 * i), i + (nb k).length, 0) := by
  intro f
  induction f with
  | zero =>
    intro k i m r hk hi h0 hb
    obtain rfl : k = 0 := by omega
    have hi0 : i = 0 := by
      rcases Nat.eq_zero_or_pos i with h | h
      · exact h
      · have := h0 h; omega
    subst hi0
    rw [nb_small 0 (by omega)]
    show cntF 0 m (by8 0 :: r) = _
    unfold cntF
    rw [by8_nat 0 (by omega), if_neg (by omega), if_neg (by omega), if_pos (by omega)]
    simp
  | succ f ih =>
    intro k i m r hk hi h0 hb
    by_cases h1 : k < 128
    · rw [nb_small k h1]
      show cntF i m (by8 k :: r) = _
      unfold cntF
      have e : k % 128 = k := Nat.mod_eq_of_lt h1
      rw [by8_nat k (by omega), e, if_neg (by omega), if_neg, if_pos h1]
      · simp
      · rintro (⟨rfl, h2⟩ | h2)
        · have : 2 ^ (7 * 4) = 268435456 := by decide
          rw [this] at hb
          omega
        · omega
    · have hk7 := split_mul k (2 ^ (7 * i))
      have hlt : i < 4 := by
        rcases Nat.lt_or_ge i 4 with h | h
        · exact h
        · obtain rfl : i = 4 := by omega
          have : 2 ^ (7 * 4) = 268435456 := by decide
          rw [this] at hb
          omega
      rw [nb_more k (by omega)]
      show cntF i m (by8 (k % 128 + 128) :: (nb (k / 128) ++ r)) = _
      have e : (k % 128 + 128) % 128 = k % 128 := by omega
      have hx : cntF i m (by8 (k % 128 + 128) :: (nb (k / 128) ++ r)) = cntF (i + 1) (m + k % 128 * 2 ^ (7 * i)) (nb (k / 128) ++ r) := by
        conv => lhs; unfold cntF
        rw [by8_nat _ (by omega), e, if_neg (by omega), if_neg (by omega), if_neg (by omega), if_neg (by omega)]
      rw [hx, ih (k / 128) (i + 1) _ r (by omega) (by omega) (by omega) (by rw [pow7]; omega), pow7]
      simp only [List.length_cons, Prod.mk.injEq]
      refine ⟨by omega, by omega, trivial⟩

theorem cnt_nb (k : Nat) (r : List UInt8) (h : k ≤ 268435456) : cnt (nb k ++ r) = (k, (nb k).length, 0) := by
  have := cntF_nb k k 0 0 r (Nat.le_refl _) (by omega) (by omega) (by simpa using h)
  unfold cnt
  rw [this]
  simp

/-- a count read was written, in this way alone -/
theorem nb_of_cntF : ∀ (l : List UInt8) (i m v sz : Nat), cntF i m l = (v, sz, 0) → ∃ k r, l = nb k ++ r ∧ v = m + k * 2 ^ (7 * i) ∧ sz = i + (nb k).length ∧ (0 < i → 0 < k)
  | [], i, m, v, sz, h => by simp [cntF] at h
  | b :: r, i, m, v, sz, h => by
    have hb := b.toNat_lt
    unfold cntF at h
    split at h
    · simp at h
    · rename_i h0
      split at h
      · simp at h
      · split at h
        · rename_i h1
          simp only [Prod.mk.injEq] at h
          obtain ⟨rfl, rfl, _⟩ := h
          have e : by8 b.toNat = b := by unfold by8; simp
          refine ⟨b.toNat, r, ?_, ?_, ?_, by omega⟩
          · rw [nb_small _ h1, e]; rfl
          · rw [Nat.mod_eq_of_lt h1]
          · rw [nb_small _ h1]; rfl
        · rename_i h1
          split at h
          · simp at h
          · obtain ⟨k, r', rfl, rfl, rfl, h2⟩ := nb_of_cntF r (i + 1) _ v sz h
            have hk := h2 (by omega)
            have hd : (b.toNat % 128 + 128 * k) % 128 = b.toNat % 128 := by omega
            have hq : (b.toNat % 128 + 128 * k) / 128 = k := by omega
            have e : by8 (b.toNat % 128 + 128) = b := by
              have e2 : b.toNat % 128 + 128 = b.toNat := by omega
              rw [e2]; unfold by8; simp
            have hn : nb (b.toNat % 128 + 128 * k) = b :: nb k := by rw [nb_more _ (by omega), hd, hq, e]
            refine ⟨b.toNat % 128 + 128 * k, r', by rw [hn]; rfl, ?_, by rw [hn]; simp; omega, by omega⟩
            rw [split_mul (b.toNat % 128 + 128 * k) (2 ^ (7 * i)), hd, hq, pow7]
            omega

theorem nb_of_cnt (l : List UInt8) (v sz : Nat) (h : cnt l = (v, sz, 0)) : ∃ r, l = nb v ++ r ∧ sz = (nb v).length := by
  obtain ⟨k, r, h1, h2, h3, _⟩ := nb_of_cntF l 0 0 v sz h
  have : k = v := by simpa using h2.symm
  subst this
  exact ⟨r, h1, by omega⟩
end Go.Proofs.Ytcicojobeggdaaa.vr
