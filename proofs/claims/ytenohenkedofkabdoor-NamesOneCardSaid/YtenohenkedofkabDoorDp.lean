/-
  Numerals are read as they were written, and what is read is written as it was: plain facts on lists of bytes.
-/
import Derived.Test.YtenohenkedofkabDoorDg6
import Derived.Test.YtenohenkedofkabDoorDt
namespace Go.Proofs.YtenohenkedofkabDoor.dg
open Go.RowKit

theorem acc_snoc (x : List UInt8) (c : UInt8) (n : Int) : acc n (x ++ [c]) = (acc n x).bind fun m => if 10 * m + ((c.toNat : Int) - 48) > 268435456 then none else some (10 * m + ((c.toNat : Int) - 48)) := by
  induction x generalizing n with
  | nil => rfl
  | cons a r ih =>
    rw [List.cons_append, acc, acc]
    split
    · rfl
    · exact ih _

theorem digit_nat (d : Nat) (h : d < 10) : ((UInt8.ofNat (48 + d)).toNat : Int) = 48 + d := by
  have : (UInt8.ofNat (48 + d)).toNat = 48 + d := by
    show (48 + d) % 256 = 48 + d
    omega
  omega

theorem acc_dec (k : Nat) : ∀ n, n ≤ k → n ≤ 268435456 → acc 0 (Lib.decDigits n) = some (n : Int) := by
  induction k with
  | zero =>
    intro n h _
    obtain rfl : n = 0 := by omega
    decide +kernel
  | succ k ih =>
    intro n hk hn
    by_cases h : n < 10
    · have e : Lib.decDigits n = [] ++ [UInt8.ofNat (48 + n)] := by rw [Lib.decDigits, dif_pos h]; rfl
      rw [e, acc_snoc, digit_nat n h]
      show (if _ then _ else _) = _
      rw [if_neg (by omega)]
      congr 1
      omega
    · have e : Lib.decDigits n = Lib.decDigits (n / 10) ++ [UInt8.ofNat (48 + n % 10)] := by rw [Lib.decDigits, dif_neg h]
      rw [e, acc_snoc, ih (n / 10) (by omega) (by omega), digit_nat _ (by omega)]
      show (if _ then _ else _) = _
      rw [if_neg (by omega)]
      congr 1
      omega

theorem dec_digits (k : Nat) : ∀ n, n ≤ k → ∀ c ∈ Lib.decDigits n, digB (c.toNat : Int) = true := by
  induction k with
  | zero =>
    intro n h c hc
    obtain rfl : n = 0 := by omega
    have e : Lib.decDigits 0 = [48] := by decide +kernel
    rw [e] at hc
    simp at hc
    subst hc
    decide
  | succ k ih =>
    intro n hk c hc
    by_cases h : n < 10
    · rw [Lib.decDigits, dif_pos h, List.mem_singleton] at hc
      subst hc
      unfold digB
      rw [digit_nat n h, decide_eq_true_eq]
      omega
    · rw [Lib.decDigits, dif_neg h, List.mem_append] at hc
      rcases hc with hc | hc
      · exact ih (n / 10) (by omega) c hc
      · rw [List.mem_singleton] at hc
        subst hc
        unfold digB
        rw [digit_nat (n % 10) (by omega), decide_eq_true_eq]
        omega

theorem runN_all (cls : Int → Bool) (l : List UInt8) (h : ∀ c ∈ l, cls (c.toNat : Int) = true) : runN cls l = l.length := by
  induction l with
  | nil => rfl
  | cons a r ih =>
    have := ih fun c hc => h c (List.mem_cons_of_mem _ hc)
    unfold runN at this ⊢
    rw [List.takeWhile_cons, if_pos (h a List.mem_cons_self), List.length_cons, List.length_cons, this]

theorem all_runN (cls : Int → Bool) (l : List UInt8) (h : ¬ runN cls l < l.length) : ∀ c ∈ l, cls (c.toNat : Int) = true := by
  induction l with
  | nil => simp
  | cons a r ih =>
    unfold runN at h
    intro c hc
    rcases ha : cls (a.toNat : Int) with _ | _
    · simp [ha] at h
    · simp only [List.takeWhile_cons, ha, if_true, List.length_cons] at h
      rcases List.mem_cons.1 hc with rfl | hc
      · exact ha
      · exact ih (by unfold runN; omega) c hc

/-- the first digit of a number that is not 0 is not 0 -/
theorem dec_head (k : Nat) : ∀ n, n ≤ k → 1 ≤ n → ((Lib.decDigits n).headD 0).toNat ≠ 48 := by
  induction k with
  | zero => intro n h1 h2; omega
  | succ k ih =>
    intro n hk h1
    by_cases h : n < 10
    · rw [Lib.decDigits, dif_pos h]
      have := digit_nat n h
      simp only [List.headD_cons]
      omega
    · rw [Lib.decDigits, dif_neg h]
      have h2 := ih (n / 10) (by omega) (by omega)
      rcases he : Lib.decDigits (n / 10) with _ | ⟨a, r⟩
      · have := Lib.decDigits_length (n / 10)
        rw [he] at this
        rw [Lib.nDigits] at this
        split at this <;> simp at this
      · rw [he] at h2
        simpa using h2

theorem dec_ne (n : Nat) : Lib.decDigits n ≠ [] := by
  intro he
  have := Lib.decDigits_length n
  rw [he, Lib.nDigits] at this
  split at this <;> simp at this

theorem list_size (l : List UInt8) : (ByteArray.mk l.toArray).size = l.length := by simp [ByteArray.size]

/-- WHAT IS WRITTEN IS READ -/
theorem rd_dec (n : Nat) (h : n ≤ 268435456) : rd ⟨(Lib.decDigits n).toArray⟩ = ((n : Int), 0) := by
  have hd := dec_digits n n (Nat.le_refl _)
  have hr := runN_all digB _ hd
  unfold rd
  rw [list_size, if_neg (fun e => dec_ne n (List.length_eq_zero_iff.1 e))]
  simp only []
  rw [if_neg (by show ¬ runN digB (Lib.decDigits n) < _; omega)]
  rw [if_neg ?_, acc_dec n n (Nat.le_refl _) h]
  · rfl
  · rintro ⟨h1, h2⟩
    rcases Nat.eq_zero_or_pos n with rfl | hp
    · have e : Lib.decDigits 0 = [48] := by decide +kernel
      rw [e] at h2
      simp at h2
    · exact dec_head n n (Nat.le_refl _) hp (by omega)

theorem dec_of_acc (k : Nat) : ∀ (l : List UInt8) (b : Int), l.length ≤ k → l ≠ [] → (∀ c ∈ l, digB (c.toNat : Int) = true) → (((l.headD 0).toNat : Int) = 48 → l.length ≤ 1) → acc 0 l = some b → 0 ≤ b ∧ b ≤ 268435456 ∧ l = Lib.decDigits b.toNat := by
  induction k with
  | zero => intro l b hl hn; exact absurd (List.length_eq_zero_iff.1 (by omega)) hn
  | succ k ih =>
    intro l b hl hn hd h0 ha
    obtain ⟨x, c, rfl⟩ : ∃ x c, l = x ++ [c] := ⟨l.dropLast, l.getLast hn, (List.dropLast_concat_getLast hn).symm⟩
    have hc : 48 ≤ (c.toNat : Int) ∧ (c.toNat : Int) ≤ 57 := by
      have := hd c (by simp)
      simpa [digB] using this
    have hcc : ∀ d : Nat, (c.toNat : Int) - 48 = d → c = UInt8.ofNat (48 + d) := by
      intro d h
      apply UInt8.toNat_inj.1
      show c.toNat = (48 + d) % 256
      omega
    rw [acc_snoc] at ha
    rcases hx : x with _ | ⟨a, r⟩
    · subst hx
      have ha' : (if 10 * (0 : Int) + ((c.toNat : Int) - 48) > 268435456 then none else some (10 * (0 : Int) + ((c.toNat : Int) - 48))) = some b := ha
      rw [if_neg (by omega)] at ha'
      have hb : b = (c.toNat : Int) - 48 := by have := Option.some.inj ha'; omega
      refine ⟨by omega, by omega, ?_⟩
      rw [Lib.decDigits, dif_pos (by omega), List.nil_append, ← hcc b.toNat (by omega)]
    · have hlen : x.length + 1 ≤ k + 1 := by simpa using hl
      have hx0 : x ≠ [] := by rw [hx]; simp
      have hh : (x ++ [c]).headD 0 = x.headD 0 := by rw [hx]; rfl
      have hx48 : ((x.headD 0).toNat : Int) ≠ 48 := by
        intro h
        have := h0 (by rw [hh]; exact h)
        rw [hx] at this
        simp at this
      rcases hm : acc 0 x with _ | m
      · rw [hm] at ha; cases ha
      · rw [hm] at ha
        have ha' : (if 10 * m + ((c.toNat : Int) - 48) > 268435456 then none else some (10 * m + ((c.toNat : Int) - 48))) = some b := ha
        obtain ⟨hm0, hm1, hxe⟩ := ih x m (by omega) hx0 (fun c hc => hd c (List.mem_append_left _ hc)) (fun h => absurd h hx48) hm
        by_cases hg : 10 * m + ((c.toNat : Int) - 48) > 268435456
        · rw [if_pos hg] at ha'; cases ha'
        · rw [if_neg hg] at ha'
          have hb : b = 10 * m + ((c.toNat : Int) - 48) := (Option.some.inj ha').symm
          have hm1 : 1 ≤ m := by
            rcases (by omega : m = 0 ∨ 1 ≤ m) with rfl | h
            · exfalso
              apply hx48
              rw [hxe]
              have e : Lib.decDigits (Int.toNat 0) = [48] := by decide +kernel
              rw [e]
              rfl
            · exact h
          refine ⟨by omega, by omega, ?_⟩
          rw [← hx, Lib.decDigits, dif_neg (by omega), show b.toNat / 10 = m.toNat by omega, ← hxe, ← hcc (b.toNat % 10) (by omega)]

/-- WHAT IS READ IS WRITTEN AS IT WAS -/
theorem rd_back (s : ByteArray) (h : (rd s).2 = 0) : 0 ≤ (rd s).1 ∧ (rd s).1 ≤ 268435456 ∧ (⟨(Lib.itoa (rd s).1).toArray⟩ : ByteArray) = s := by
  have hl := size_list s
  unfold rd at h ⊢
  by_cases h0 : s.size = 0
  · rw [if_pos h0] at h; cases h
  · rw [if_neg h0] at h ⊢
    by_cases h1 : runN digB s.data.toList < s.size
    · rw [if_pos h1] at h; cases h
    · rw [if_neg h1] at h ⊢
      by_cases h2 : ((s.data.toList.headD 0).toNat : Int) = 48 ∧ 1 < s.size
      · rw [if_pos h2] at h; cases h
      · rw [if_neg h2] at h ⊢
        rcases ha : acc 0 s.data.toList with _ | b
        · rw [ha] at h; cases h
        · show 0 ≤ b ∧ b ≤ 268435456 ∧ _ = s
          obtain ⟨h3, h4, h5⟩ := dec_of_acc s.data.toList.length s.data.toList b (Nat.le_refl _) (fun e => h0 (by rw [← hl, e]; rfl)) (all_runN _ _ (by omega)) (fun e => by rw [hl]; rcases Nat.lt_or_ge 1 s.size with h | h; exact absurd ⟨e, h⟩ h2; exact h) ha
          refine ⟨h3, h4, ?_⟩
          have e : Lib.itoa b = Lib.decDigits b.toNat := by unfold Lib.itoa; rw [if_neg (by omega)]
          show (⟨(Lib.itoa b).toArray⟩ : ByteArray) = s
          rw [e, ← h5, Array.toArray_toList]

theorem name_whole (s : ByteArray) (h : nameB s = true) : splN s = s.size := by
  unfold nameB at h
  simp only [Bool.and_eq_true, decide_eq_true_eq] at h
  unfold splN
  rw [h.2.1, if_pos rfl]
  exact h.2.2

theorem parts_whole (s : ByteArray) (k : Nat) (h : k ≤ s.size) : s.extract 0 k ++ s.extract k s.size = s := by
  rw [ByteArray.extract_append_extract]
  rw [Nat.min_eq_left (by omega), Nat.max_eq_right h]
  exact ByteArray.extract_zero_size
end Go.Proofs.YtenohenkedofkabDoor.dg
