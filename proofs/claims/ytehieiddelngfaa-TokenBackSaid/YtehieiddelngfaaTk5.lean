/-
  token: the reference's words.
-/
import Derived.Test.YtehieiddelngfaaTk4
namespace Go.Proofs.Ytehieiddelngfaa.tk
open Go.RowKit Go.Proofs.Ytehieiddelngfaa.dg Go.Proofs.Ytehieiddelngfaa.mem

abbrev encS (l : List UInt8) : Value := .string (BA l)

theorem keys_any (w : World) : Calls Try.prog 78 #[] w fun e w' => e = .returned (.slice (some ⟨w.heap.size, 0, none⟩) 32 32) ∧ w' = w.alloc (.cells (keysL.map encS).toArray 9) := by
  go_enter Try.func78, Try.ntmps78
  go_wp2_with fail
  go_ret
  exact ⟨rfl, rfl⟩

set_option maxRecDepth 100000 in
theorem tkey_any (w : World) (l : List UInt8) : Calls Try.prog 65 #[.string (BA l)] w fun e w' => e = .returned (.bool (keyB l)) ∧ Below w.heap.size w w' := by
  obtain ⟨q, hq⟩ : ∃ q, Hid (keyB l = q) := ⟨_, Lib.hid rfl⟩
  rw [hq.out]
  have K1 := Lib.hid (keys_any w)
  have HB := Lib.hid ((Below.refl w.heap.size w).alloc (Nat.le_refl _) (.cells (keysL.map encS).toArray 9))
  have HC : Hid (∀ k (hk : k < keysL.length), (w.alloc (.cells (keysL.map encS).toArray 9)).cell? ⟨w.heap.size, k, none⟩ = some (.string (BA keysL[k]))) := Lib.hid (fun k hk => by rw [(Box.new w 9 _).cell k]; simp [hk])
  have hkl : keysL.length = 32 := rfl
  have HL := Lib.hid hkl
  have HM := Lib.hid (show keyB l = decide (l ∈ keysL) from rfl)
  obtain ⟨KS, hKS⟩ : ∃ KS, Hid (KS = keysL) := ⟨_, Lib.hid rfl⟩
  rw [← hKS.out] at HL HM HC K1 HB
  have hk32 : KS.length = 32 := HL.out
  obtain ⟨w1, hw1⟩ : ∃ w1, Hid (w1 = w.alloc (.cells (KS.map encS).toArray 9)) := ⟨_, Lib.hid rfl⟩
  rw [← hw1.out] at HC K1 HB
  clear hkl
  go_enter Try.func65, Try.ntmps65
  go_wp2_with fail
  refine K1.out.mono ?_
  rintro e w2 ⟨rfl, rfl⟩
  go_wp2_with fail
  go_loopw [4] (fun i wr => ∃ k : Nat, k ≤ 32 ∧ i = .int .i64 k ∧ Hid (l ∉ KS.take k) ∧ w2 = wr) (fun i _ => 32 - (intOf i).toNat)
  case atStart => exact ⟨0, by omega, rfl, Lib.hid (by simp), rfl⟩
  case round =>
    obtain ⟨k, hk, rfl, hnot, rfl⟩ := hrel
    by_cases hkl : k < 32
    · have e1 : decide ((k : Int) < 32) = true := decide_eq_true (by omega)
      have ck := HC.out k (by omega)
      rcases heq : (KS[k] == l) with _ | _
      · have hn2 : Hid (l ∉ KS.take (k + 1)) := Lib.hid (by
          rw [List.take_succ_eq_append_getElem (by omega), List.mem_append, List.mem_singleton]
          rintro (h | h)
          · exact hnot.out h
          · rw [← h] at heq; simp at heq)
        go_wp2_with fail
        go_roundw
        case rel => exact ⟨k + 1, by omega, by go_num, hn2, trivial⟩
        case measure => simp [intOf]; omega
      · have hq2 : q = true := by
          rw [← hq.out, HM.out, decide_eq_true_iff, ← eq_of_beq heq]
          exact List.getElem_mem _
        subst hq2
        go_wp2_with fail
        go_ret
        exact ⟨rfl, HB.out⟩
    · obtain rfl : k = 32 := by omega
      have hq2 : q = false := by
        have := hnot.out
        rw [List.take_of_length_le (by omega)] at this
        rw [← hq.out, HM.out, decide_eq_false this]
      subst hq2
      go_wp2_with fail
      go_ret
      exact ⟨rfl, HB.out⟩

def wordR (l : List UInt8) (b : Bool) : Int × Int :=
  if digU (l.headD 0) then (if b then (0, 3) else (3, (rd (BA l)).2))
  else if keyB l then (2, 0) else if nameB (BA l) then (1, 0) else (0, 11)

def WPost (w : World) (r : Int × Int) (e : Ending) (w' : World) : Prop := e = .returned (.tuple #[.int .i64 r.1, .int .i64 r.2]) ∧ Below w.heap.size w w'

theorem wpost_of {w w' : World} {r : Int × Int} {a b : Int} (h : r = (a, b)) (hb : Below w.heap.size w w') : WPost w r (.returned (.tuple #[.int .i64 a, .int .i64 b])) w' := by
  subst h
  exact ⟨rfl, hb⟩

set_option maxRecDepth 100000 in
theorem tword_any (w : World) (l : List UInt8) (b : Bool) (hl : l ≠ []) (hs : l.length ≤ 1000000) : Calls Try.prog 45 #[.string (BA l), .bool b] w (WPost w (wordR l b)) := by
  have hsz : (BA l).size = l.length := by simp [BA, ByteArray.size]
  have hz : 0 < (BA l).size := by rw [hsz]; cases l; exact absurd rfl hl; simp
  have hm : (BA l).size ≤ maxLen := by rw [hsz]; unfold maxLen; omega
  have hh : (BA l)[0] = l.headD 0 := by rw [← headD_zero (BA l) hz]
  have KD := Lib.hid (fun w => tdigit_any ((BA l)[0].toNat : Int) w (by omega) (by have := (BA l)[0].toNat_lt; omega))
  have hdd : digB ((BA l)[0].toNat : Int) = digU (l.headD 0) := by rw [hh]; rfl
  rw [hdd] at KD
  have KR := Lib.hid (fun w => rread_any (BA l) w hm)
  have KK := Lib.hid (fun w => tkey_any w l)
  have KN := Lib.hid (fun w => rname_any (BA l) w hm)
  have hW := Lib.hid (show wordR l b = if digU (l.headD 0) then (if b then (0, 3) else (3, (rd (BA l)).2)) else if keyB l then (2, 0) else if nameB (BA l) then (1, 0) else (0, 11) from rfl)
  obtain ⟨wr, hwr⟩ : ∃ wr, wordR l b = wr := ⟨_, rfl⟩
  rw [hwr] at hW ⊢
  generalize digU (l.headD 0) = dq at *
  generalize (rd (BA l)).2 = r2 at *
  generalize (rd (BA l)).1 = r1 at *
  generalize keyB l = kq at *
  generalize nameB (BA l) = nq at *
  clear hwr hh hdd hsz hs hl hm
  generalize BA l = t at *
  cases dq with
  | true =>
    cases b with
    | true =>
      go_enter Try.func45, Try.ntmps45
      go_wp2_with fail
      refine (KD.out _).mono ?_
      rintro e w' ⟨rfl, rfl⟩
      go_wp2_with fail
      go_ret2
      exact wpost_of hW.out (Below.refl _ _)
    | false =>
      go_enter Try.func45, Try.ntmps45
      go_wp2_with fail
      refine (KD.out _).mono ?_
      rintro e w' ⟨rfl, rfl⟩
      go_wp2_with fail
      refine (KR.out _).mono ?_
      rintro e w' ⟨rfl, rfl⟩
      go_wp2_with fail
      go_ret2
      exact wpost_of hW.out (Below.refl _ _)
  | false =>
    cases kq with
    | true =>
      go_enter Try.func45, Try.ntmps45
      go_wp2_with fail
      refine (KD.out _).mono ?_
      rintro e w' ⟨rfl, rfl⟩
      go_wp2_with fail
      refine (KK.out _).mono ?_
      rintro e w' ⟨rfl, hb⟩
      have HB := Lib.hid hb
      clear hb
      go_wp2_with fail
      go_ret2
      exact wpost_of hW.out HB.out
    | false =>
      cases nq with
      | true =>
        go_enter Try.func45, Try.ntmps45
        go_wp2_with fail
        refine (KD.out _).mono ?_
        rintro e w' ⟨rfl, rfl⟩
        go_wp2_with fail
        refine (KK.out _).mono ?_
        rintro e w' ⟨rfl, hb⟩
        have HB := Lib.hid hb
        clear hb
        go_wp2_with fail
        refine (KN.out _).mono ?_
        rintro e w' ⟨rfl, rfl⟩
        go_wp2_with fail
        go_ret2
        exact wpost_of hW.out HB.out
      | false =>
        go_enter Try.func45, Try.ntmps45
        go_wp2_with fail
        refine (KD.out _).mono ?_
        rintro e w' ⟨rfl, rfl⟩
        go_wp2_with fail
        refine (KK.out _).mono ?_
        rintro e w' ⟨rfl, hb⟩
        have HB := Lib.hid hb
        clear hb
        go_wp2_with fail
        refine (KN.out _).mono ?_
        rintro e w' ⟨rfl, rfl⟩
        go_wp2_with fail
        go_ret2
        exact wpost_of hW.out HB.out
end Go.Proofs.Ytehieiddelngfaa.tk
