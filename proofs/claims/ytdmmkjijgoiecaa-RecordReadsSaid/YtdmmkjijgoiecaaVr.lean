set_option linter.all false
/-
  varint: plain facts: a count's bytes, and a count read.
-/
namespace Go.Proofs.Ytdmmkjijgoiecaa.vr

def by8 (n : Nat) : UInt8 := UInt8.ofNat n
theorem by8_nat (n : Nat) (h : n < 256) : (by8 n).toNat = n := by unfold by8; rw [UInt8.toNat_ofNat']; omega

/-- a count's bytes -/
def nbF : Nat → Nat → List UInt8
  | 0, n => [by8 n]
  | f + 1, n => if n < 128 then [by8 n] else by8 (n % 128 + 128) :: nbF f (n / 128)
def nb (n : Nat) : List UInt8 := nbF n n

theorem nbF_eq : ∀ (f g n : Nat), n ≤ f → n ≤ g → nbF f n = nbF g n
  | 0, 0, _, _, _ => rfl
  | 0, g + 1, n, h, _ => by
    have : n = 0 := by omega
    subst this
    simp [nbF]
  | f + 1, 0, n, _, h => by
    have : n = 0 := by omega
    subst this
    simp [nbF]
  | f + 1, g + 1, n, h, h' => by
    unfold nbF
    split
    · rfl
    · rw [nbF_eq f g (n / 128) (by omega) (by omega)]

theorem nb_small (n : Nat) (h : n < 128) : nb n = [by8 n] := by
  unfold nb
  cases n with
  | zero => rfl
  | succ n => unfold nbF; rw [if_pos h]
theorem nb_more (n : Nat) (h : 128 ≤ n) : nb n = by8 (n % 128 + 128) :: nb (n / 128) := by
  unfold nb
  obtain ⟨m, rfl⟩ : ∃ m, n = m + 1 := ⟨n - 1, by omega⟩
  conv => lhs; unfold nbF
  rw [if_neg (by omega), nbF_eq m ((m + 1) / 128) _ (by omega) (by omega)]

theorem nb_len (n : Nat) (h : n ≤ 268435456) : (nb n).length ≤ 5 := by
  by_cases h1 : n < 128
  · rw [nb_small n h1]; simp
  rw [nb_more n (by omega)]
  by_cases h2 : n / 128 < 128
  · rw [nb_small _ h2]; simp
  rw [nb_more _ (by omega)]
  by_cases h3 : n / 128 / 128 < 128
  · rw [nb_small _ h3]; simp
  rw [nb_more _ (by omega)]
  by_cases h4 : n / 128 / 128 / 128 < 128
  · rw [nb_small _ h4]; simp
  rw [nb_more _ (by omega), nb_small _ (by omega)]; simp

theorem nb_pos (n : Nat) : 0 < (nb n).length := by
  by_cases h1 : n < 128
  · rw [nb_small n h1]; simp
  · rw [nb_more n (by omega)]; simp

/-- what a count at a beginning comes to: the count, how many bytes, what is wrong -/
def cntF : Nat → Nat → List UInt8 → Nat × Nat × Nat
  | _, _, [] => (0, 0, 1)
  | i, n, b :: r =>
    if b.toNat = 0 ∧ 0 < i then (0, 0, 3)
    else if i = 4 ∧ 1 < b.toNat ∨ 268435456 < n + b.toNat % 128 * 2 ^ (7 * i) then (0, 0, 2)
    else if b.toNat < 128 then (n + b.toNat % 128 * 2 ^ (7 * i), i + 1, 0)
    else if 4 ≤ i then (0, 0, 2)
    else cntF (i + 1) (n + b.toNat % 128 * 2 ^ (7 * i)) r
def cnt (l : List UInt8) : Nat × Nat × Nat := cntF 0 0 l
end Go.Proofs.Ytdmmkjijgoiecaa.vr
