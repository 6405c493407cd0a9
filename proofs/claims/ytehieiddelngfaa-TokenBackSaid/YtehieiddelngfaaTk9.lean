/-
  token: works; the law on all tokens.
-/
import Derived.Test.YtehieiddelngfaaTk6
import Derived.Test.YtehieiddelngfaaTk7
import Derived.Test.YtehieiddelngfaaTk8
namespace Go.Proofs.Ytehieiddelngfaa.tk
open Go.RowKit Go.Proofs.Ytehieiddelngfaa.dg Go.Proofs.Ytehieiddelngfaa.mem

def S0 : ByteArray := { data := #[120, 32, 61, 32, 108, 111, 97, 100, 32, 112, 59, 32, 35, 32, 110, 111, 116, 101] }
def T0 : List Tok := [(1, [120], 1), (4, [61], 1), (2, [108, 111, 97, 100], 1), (1, [112], 1), (4, [59], 1)]

theorem go_s0 : go S0.size S0.data.toList 1 [] = .ok T0 := by decide +kernel
theorem join_t0 : BA (joinL T0) = ({ data := #[120, 32, 61, 32, 108, 111, 97, 100, 32, 112, 32, 59] } : ByteArray) := by decide +kernel

def WorksPost (w : World) (e : Ending) (w' : World) : Prop := e = .returned (.bool true) ∧ Below w.heap.size w w'

set_option maxRecDepth 100000 in
theorem tworks_any (w : World) (hm : MaxAt w) : Calls Try.prog 29 #[] w (WorksPost w) := by
  have K1 := Lib.hid (all_any w S0 (by decide) hm)
  rw [go_s0] at K1
  unfold APost at K1
  have KJ := Lib.hid (fun w A c (h : Rd w A (cellsT T0)) => join_any w A c T0 h (by decide) (by decide))
  rw [join_t0] at KJ
  have h5 : T0.length = 5 := rfl
  rw [h5] at KJ
  obtain ⟨S, hS⟩ : ∃ S, Hid (S = S0) := ⟨_, Lib.hid rfl⟩
  rw [← hS.out] at K1
  have hS2 : S = { data := #[120, 32, 61, 32, 108, 111, 97, 100, 32, 112, 59, 32, 35, 32, 110, 111, 116, 101] } := hS.out
  rw [hS2] at K1
  clear hS2 hS
  go_enter Try.func29, Try.ntmps29
  go_wp2_with fail
  refine K1.out.mono ?_
  rintro e w1 ⟨b1, A, cap, rfl, hr⟩
  have HB := Lib.hid b1
  have HR := Lib.hid hr
  obtain ⟨b, o, rfl, hlt, hc⟩ := rd_tok hr (by decide)
  have x1 := (hc 2 (by decide)).1
  have x2 := (hc 3 (by decide)).2.1
  change w1.cell? ⟨b, o + 6, none⟩ = some (.int .i64 2) at x1
  change w1.cell? ⟨b, o + 10, none⟩ = some (.string { data := #[112] }) at x2
  rw [h5]
  clear b1 hr hc K1 h5
  go_wp2_with fail
  refine (KJ.out _ _ _ HR.out).mono ?_
  rintro e w2 ⟨rfl, b2⟩
  have HB2 := Lib.hid (HB.out.trans (b2.mono HB.out.size))
  clear b2
  go_wp2_with fail
  go_ret
  exact ⟨rfl, HB2.out⟩

theorem all_long (w : World) (s : ByteArray) (hs : 20000 < s.size) (hm : s.size ≤ maxLen) : Calls Try.prog 26 #[.string s] w fun e w' => e = .returned (.tuple #[.slice none 0 0, .int .i64 0, .int .i64 9]) ∧ w = w' := by
  unfold maxLen at hm
  have hdl : decide ((20000 : Int) < (s.size : Int)) = true := decide_eq_true (by omega)
  go_enter Try.func26, Try.ntmps26
  go_wp2_with fail
  go_ret3
  exact ⟨rfl, rfl⟩

theorem rall_long (w : World) (s : ByteArray) (hs : 20000 < s.size) (hm : s.size ≤ maxLen) : Calls Try.prog 27 #[.string s] w fun e w' => e = .returned (.tuple #[.slice none 0 0, .int .i64 0, .int .i64 9]) ∧ w = w' := by
  unfold maxLen at hm
  have hdl : decide ((20000 : Int) < (s.size : Int)) = true := decide_eq_true (by omega)
  go_enter Try.func27, Try.ntmps27
  go_wp2_with fail
  go_ret3
  exact ⟨rfl, rfl⟩

theorem go_len : ∀ (f : Nat) (l : List UInt8) (line : Nat) (acc ts : List Tok), go f l line acc = .ok ts → ts.length ≤ acc.length + l.length
  | f, [], line, acc, ts, h => by
    rw [go_nil] at h
    injection h with h
    subst h
    simp
  | 0, c :: r, line, acc, ts, h => by
    have h : Res.ok acc = Res.ok ts := h
    injection h with h
    subst h
    simp
  | f + 1, c :: r, line, acc, ts, h => by
    rw [go_cons] at h
    split at h
    · have := go_len f r _ _ _ h
      simp; omega
    · split at h
      · have := go_len f r _ _ _ h
        simp; omega
      · split at h
        · rename_i h1 _ _
          have := go_len f _ _ _ _ h
          have h2 := note_len c r h1
          simp; omega
        · split at h
          · cases h
          · rename_i hz
            have h0 : (fst3 (c :: r)).2.2 = 0 := by simpa using hz
            have h1 := fst3_pos _ h0
            have := go_len f _ _ _ _ h
            rw [List.length_append, List.length_singleton, List.length_drop] at this
            have h2 := fst3_le (c :: r) (by simp)
            omega

theorem three_below {w w1 w2 w3 w4 : World} (h1 : Below w.heap.size w w1) (h2 : Below w1.heap.size w1 w2) (h3 : Below w2.heap.size w2 w3) (h4 : Below w3.heap.size w3 w4) : Below w.heap.size w w4 := by
  have a := h1.size
  have b := h2.size
  have c := h3.size
  exact ((h1.trans (h2.mono a)).trans (h3.mono (by omega))).trans (h4.mono (by omega))

set_option maxRecDepth 100000 in
set_option maxHeartbeats 1000000 in
theorem law_all (w : World) (s : ByteArray) (hs : s.size ≤ maxLen) (hm : MaxAt w) : Calls Try.prog 6 #[.string s] w (WorksPost w) := by
  have hs2 := hs
  unfold maxLen at hs2
  have HM := Lib.hid hm
  have HL := Lib.hid hs
  clear hm hs
  rcases (by omega : s.size ≤ 5000 ∨ (5000 < s.size ∧ s.size ≤ 20000) ∨ 20000 < s.size) with h | h | h
  · have d1 : decide ((5000 : Int) < (s.size : Int)) = false := decide_eq_false (by omega)
    have K1 := Lib.hid (all_any w s (by omega) HM.out)
    have K2 := Lib.hid (fun w => rall_any w s (by omega))
    have hgl := go_len s.size s.data.toList 1 []
    rw [size_list] at hgl
    generalize go s.size s.data.toList 1 [] = R at *
    cases R with
    | ok ts =>
      have hlen : ts.length ≤ 5000 := by have := hgl ts rfl; simp only [List.length_nil] at this; omega
      unfold APost at K1 K2
      clear hgl
      go_enter Try.func6, Try.ntmps6
      go_wp2_with fail
      refine K1.out.mono ?_
      rintro e w1 ⟨b1, A, cap, rfl, r1⟩
      have B1 := Lib.hid b1
      have R1 := Lib.hid r1
      clear b1 r1 K1
      go_wp2_with fail
      refine (K2.out _).mono ?_
      rintro e w2 ⟨b2, A2, cap2, rfl, r2⟩
      have B2 := Lib.hid b2
      have R2 := Lib.hid r2
      clear b2 r2 K2
      go_wp2_with fail
      refine (tsame_any w2 A A2 cap cap2 ts (R1.out.below B2.out) R2.out (by omega)).mono ?_
      rintro e w3 ⟨rfl, b3⟩
      have B3 := Lib.hid b3
      clear b3
      go_wp2_with fail
      refine (tworks_any w3 (((HM.out.below B1.out).below B2.out).below B3.out)).mono ?_
      rintro e w4 ⟨rfl, b4⟩
      have B4 := Lib.hid b4
      clear b4
      go_wp2_with fail
      go_ret
      exact ⟨rfl, three_below B1.out B2.out B3.out B4.out⟩
    | bad line er =>
      have e1 : ((line : Int) == (line : Int)) = true := by simp
      have e2 : (er == er) = true := by simp
      unfold APost at K1 K2
      clear hgl
      generalize (line : Int) = ln at *
      go_enter Try.func6, Try.ntmps6
      go_wp2_with fail
      refine K1.out.mono ?_
      rintro e w1 ⟨b1, rfl⟩
      have B1 := Lib.hid b1
      clear b1 K1
      go_wp2_with fail
      refine (K2.out _).mono ?_
      rintro e w2 ⟨b2, rfl⟩
      have B2 := Lib.hid b2
      clear b2 K2
      go_wp2_with fail
      refine (tsame_nil w2 none none 0 0).mono ?_
      rintro e w3 ⟨rfl, b3⟩
      have B3 := Lib.hid b3
      clear b3
      go_wp2_with fail
      refine (tworks_any w3 (((HM.out.below B1.out).below B2.out).below B3.out)).mono ?_
      rintro e w4 ⟨rfl, b4⟩
      have B4 := Lib.hid b4
      clear b4
      go_wp2_with fail
      go_ret
      exact ⟨rfl, three_below B1.out B2.out B3.out B4.out⟩
  · have d1 : decide ((5000 : Int) < (s.size : Int)) = true := decide_eq_true (by omega)
    have d2 : decide ((s.size : Int) ≤ 20000) = true := decide_eq_true (by omega)
    go_enter Try.func6, Try.ntmps6
    go_wp2_with fail
    go_ret
    exact ⟨rfl, Below.refl _ _⟩
  · have d1 : decide ((5000 : Int) < (s.size : Int)) = true := decide_eq_true (by omega)
    have d2 : decide ((s.size : Int) ≤ 20000) = false := decide_eq_false (by omega)
    have K1 := Lib.hid (fun w => all_long w s h HL.out)
    have K2 := Lib.hid (fun w => rall_long w s h HL.out)
    go_enter Try.func6, Try.ntmps6
    go_wp2_with fail
    refine (K1.out _).mono ?_
    rintro e w1 ⟨rfl, rfl⟩
    go_wp2_with fail
    refine (K2.out _).mono ?_
    rintro e w2 ⟨rfl, rfl⟩
    go_wp2_with fail
    refine (tsame_nil w none none 0 0).mono ?_
    rintro e w3 ⟨rfl, b3⟩
    have B3 := Lib.hid b3
    clear b3
    go_wp2_with fail
    refine (tworks_any w3 (HM.out.below B3.out)).mono ?_
    rintro e w4 ⟨rfl, b4⟩
    have B4 := Lib.hid b4
    clear b4
    go_wp2_with fail
    go_ret
    exact ⟨rfl, B3.out.trans (B4.out.mono B3.out.size)⟩
end Go.Proofs.Ytehieiddelngfaa.tk
