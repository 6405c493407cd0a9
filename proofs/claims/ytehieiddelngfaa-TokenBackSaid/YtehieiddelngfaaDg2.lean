/-
  Contracts of the functions of digits that go through a text.
-/
import Derived.Test.YtehieiddelngfaaDg
namespace Go.Proofs.Ytehieiddelngfaa.dg
open Go.RowKit

/-- how many bytes at the beginning are of a class -/
def runN (cls : Int → Bool) (l : List UInt8) : Nat := (l.takeWhile fun c => cls (c.toNat : Int)).length

theorem runN_le (cls : Int → Bool) (l : List UInt8) : runN cls l ≤ l.length := by
  unfold runN
  exact (List.takeWhile_sublist _).length_le

theorem run_of (cls : Int → Bool) (s : ByteArray) (k : Nat) (hk : k ≤ s.size) (hp : ∀ i (_ : i < k) (h' : i < s.size), cls (s[i].toNat : Int) = true) (he : ∀ h : k < s.size, cls (s[k].toNat : Int) = false) : runN cls s.data.toList = k := by
  have hl : s.data.toList.length = s.size := by rw [Array.length_toList]; rfl
  have key : ∀ (l : List UInt8) (k : Nat), k ≤ l.length → (∀ i (_ : i < k) (h' : i < l.length), cls (l[i].toNat : Int) = true) → (∀ h : k < l.length, cls (l[k].toNat : Int) = false) → runN cls l = k := by
    intro l
    induction l with
    | nil => intro k hk _ _; simp at hk; subst hk; rfl
    | cons c r ih =>
      intro k hk hp he
      cases k with
      | zero =>
        have h := he (by simp)
        simp at h
        simp [runN, h]
      | succ k =>
        have h := hp 0 (by omega) (by simp)
        simp at h
        have := ih k (by simpa using hk) (fun i hi h' => by have := hp (i + 1) (by omega) (by simpa using h'); simpa using this) (fun h' => by have := he (by simpa using h'); simpa using this)
        unfold runN at this ⊢
        simp [h, this]
  exact key _ k (by omega) (fun i hi h' => hp i hi (by omega)) (fun h => he (by omega))

theorem run_digit (s : ByteArray) (w : World) (hs : s.size ≤ maxLen) :
    Calls Try.prog 76 #[.string s, .func (.func 73) #[] #[]] w fun e w' => e = .returned (.int .i64 (runN (fun b => digB b) s.data.toList : Nat)) ∧ w = w' := by
  unfold maxLen at hs
  go_enter Try.func76, Try.ntmps76
  go_wp2_with fail
  go_loop [5] (fun n => ∃ k : Nat, k ≤ s.size ∧ n = .int .i64 k ∧ Hid (∀ i (h : i < k) (h' : i < s.size), (fun b => digB b) (s[i].toNat : Int) = true)) (fun n => s.size - (intOf n).toNat)
  case atStart => exact ⟨0, Nat.zero_le _, rfl, Lib.hid (by intro i h; omega)⟩
  case round =>
    obtain ⟨k, hk, rfl, hp⟩ := hrel
    by_cases hlt : k < s.size
    · have hb0 : (0 : Int) ≤ (s[k].toNat : Int) := by omega
      have hb1 : (s[k].toNat : Int) ≤ 255 := by have := s[k].toNat_lt; omega
      rcases hc : ((fun b => digB b) (s[k].toNat : Int)) with _ | _
      · have hr := run_of (fun b => digB b) s k hk (fun i h h' => hp.out i h h') (fun _ => hc)
        have Hr := Lib.hid hr
        have Hc := Lib.hid hc
        clear hr hc
        go_wp2_with (go_at_call 73; refine (digit_any _ _ hb0 hb1).mono ?_; rintro e w' ⟨rfl, rfl⟩; rw [show (digB (s[k].toNat : Int)) = false from Hc.out])
        go_ret
        exact ⟨by rw [Hr.out]; rfl, rfl⟩
      · have Hc := Lib.hid hc
        clear hc
        go_wp2_with (go_at_call 73; refine (digit_any _ _ hb0 hb1).mono ?_; rintro e w' ⟨rfl, rfl⟩; rw [show (digB (s[k].toNat : Int)) = true from Hc.out])
        go_round
        case rel =>
          refine ⟨k + 1, by omega, by go_num, Lib.hid ?_⟩
          intro i h h'
          rcases (by omega : i < k ∨ i = k) with h2 | rfl
          · exact hp.out i h2 h'
          · exact Hc.out
        case measure => simp [intOf]; omega
    · have hr := run_of (fun b => digB b) s k hk (fun i h h' => hp.out i h h') (fun h => absurd h hlt)
      have Hr := Lib.hid hr
      clear hr
      go_wp2
      go_ret
      exact ⟨by rw [Hr.out]; rfl, rfl⟩

theorem run_behind (s : ByteArray) (w : World) (hs : s.size ≤ maxLen) :
    Calls Try.prog 76 #[.string s, .func (.func 75) #[] #[]] w fun e w' => e = .returned (.int .i64 (runN (fun b => letB b || digB b) s.data.toList : Nat)) ∧ w = w' := by
  unfold maxLen at hs
  go_enter Try.func76, Try.ntmps76
  go_wp2_with fail
  go_loop [5] (fun n => ∃ k : Nat, k ≤ s.size ∧ n = .int .i64 k ∧ Hid (∀ i (h : i < k) (h' : i < s.size), (fun b => letB b || digB b) (s[i].toNat : Int) = true)) (fun n => s.size - (intOf n).toNat)
  case atStart => exact ⟨0, Nat.zero_le _, rfl, Lib.hid (by intro i h; omega)⟩
  case round =>
    obtain ⟨k, hk, rfl, hp⟩ := hrel
    by_cases hlt : k < s.size
    · have hb0 : (0 : Int) ≤ (s[k].toNat : Int) := by omega
      have hb1 : (s[k].toNat : Int) ≤ 255 := by have := s[k].toNat_lt; omega
      rcases hc : ((fun b => letB b || digB b) (s[k].toNat : Int)) with _ | _
      · have hr := run_of (fun b => letB b || digB b) s k hk (fun i h h' => hp.out i h h') (fun _ => hc)
        have Hr := Lib.hid hr
        have Hc := Lib.hid hc
        clear hr hc
        go_wp2_with (go_at_call 75; refine (behind_any _ _ hb0 hb1).mono ?_; rintro e w' ⟨rfl, rfl⟩; rw [show (letB (s[k].toNat : Int) || digB (s[k].toNat : Int)) = false from Hc.out])
        go_ret
        exact ⟨by rw [Hr.out]; rfl, rfl⟩
      · have Hc := Lib.hid hc
        clear hc
        go_wp2_with (go_at_call 75; refine (behind_any _ _ hb0 hb1).mono ?_; rintro e w' ⟨rfl, rfl⟩; rw [show (letB (s[k].toNat : Int) || digB (s[k].toNat : Int)) = true from Hc.out])
        go_round
        case rel =>
          refine ⟨k + 1, by omega, by go_num, Lib.hid ?_⟩
          intro i h h'
          rcases (by omega : i < k ∨ i = k) with h2 | rfl
          · exact hp.out i h2 h'
          · exact Hc.out
        case measure => simp [intOf]; omega
    · have hr := run_of (fun b => letB b || digB b) s k hk (fun i h h' => hp.out i h h') (fun h => absurd h hlt)
      have Hr := Lib.hid hr
      clear hr
      go_wp2
      go_ret
      exact ⟨by rw [Hr.out]; rfl, rfl⟩

end Go.Proofs.Ytehieiddelngfaa.dg
