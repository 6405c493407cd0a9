/-
  token: the reference's All.
-/
import Derived.Test.YtehieiddelngfaaTk5
namespace Go.Proofs.Ytehieiddelngfaa.tk
open Go.RowKit Go.Proofs.Ytehieiddelngfaa.dg Go.Proofs.Ytehieiddelngfaa.mem

theorem info_rtok : (Try.prog.info? 60).map (fun i => (i.zero, i.size, i.bytes)) = some (some (.agg #[.int .i64 0, .string ⟨#[]⟩, .int .i64 0]), 3, 32) := by kernel_rfl

theorem mark_plain (c : UInt8) (h : markB c = true) : letU c = false ∧ digU c = false := by
  unfold markB at h
  rw [decide_eq_true_iff] at h
  have : ∀ x ∈ marks, letU x = false ∧ digU x = false := by decide
  exact this c h

theorem fst3_mark (c : UInt8) (r : List UInt8) (h : markB c = true) : fst3 (c :: r) = (4, 1, 0) := by
  obtain ⟨h1, h2⟩ := mark_plain c h
  unfold fst3
  rw [spl_cons, h1, h2, List.headD_cons, h]
  rfl

theorem fst3_none (c : UInt8) (r : List UInt8) (h : markB c = false) (h1 : letU c = false) (h2 : digU c = false) : fst3 (c :: r) = (0, 0, 16) := by
  unfold fst3
  rw [spl_cons, h1, h2, List.headD_cons, h]
  rfl

theorem spl_pos (c : UInt8) (r : List UInt8) (h : letU c = true ∨ digU c = true) : spl (c :: r) ≠ 0 := by
  rw [spl_cons]
  by_cases h1 : letU c = true
  · rw [if_pos h1]; omega
  · rw [if_neg h1, if_pos (by rcases h with h | h; exact absurd h h1; exact h)]; omega

theorem fst3_word (c : UInt8) (r : List UInt8) (h : letU c = true ∨ digU c = true) :
    (fst3 (c :: r)).2.2 = (wordR ((c :: r).take (spl (c :: r))) (behindB ((c :: r).drop (spl (c :: r))))).2 ∧
    ((fst3 (c :: r)).2.2 = 0 → (fst3 (c :: r)).1 = (wordR ((c :: r).take (spl (c :: r))) (behindB ((c :: r).drop (spl (c :: r))))).1 ∧ (fst3 (c :: r)).2.1 = spl (c :: r)) := by
  have h0 := spl_pos c r h
  have hh : ((c :: r).take (spl (c :: r))).headD 0 = c := by
    obtain ⟨m, hm⟩ : ∃ m, spl (c :: r) = m + 1 := ⟨spl (c :: r) - 1, by omega⟩
    rw [hm]; rfl
  unfold fst3 wordR
  rw [if_neg h0, hh, List.headD_cons]
  split
  · split
    · exact ⟨rfl, fun h => by simp at h⟩
    · exact ⟨rfl, fun _ => ⟨rfl, rfl⟩⟩
  · split
    · exact ⟨rfl, fun _ => ⟨rfl, rfl⟩⟩
    · split
      · exact ⟨rfl, fun _ => ⟨rfl, rfl⟩⟩
      · exact ⟨rfl, fun h => by simp at h⟩

theorem drop_cons (s : ByteArray) (k : Nat) (h : k < s.size) : s.data.toList.drop k = s[k] :: s.data.toList.drop (k + 1) := by
  have hl := size_list s
  rw [List.drop_eq_getElem_cons (by omega : k < s.data.toList.length)]
  rfl

theorem note_step (s : ByteArray) (k : Nat) (h : k < s.size) (hc : s[k] ≠ 10) : note (s.data.toList.drop k) = note (s.data.toList.drop (k + 1)) := by
  rw [drop_cons s k h]
  show (s[k] :: s.data.toList.drop (k + 1)).dropWhile _ = _
  rw [List.dropWhile_cons, if_pos (by simpa using hc)]
  rfl

theorem note_here (s : ByteArray) (k : Nat) (h : k < s.size) (hc : s[k] = 10) : note (s.data.toList.drop k) = s.data.toList.drop k := by
  rw [drop_cons s k h]
  show (s[k] :: s.data.toList.drop (k + 1)).dropWhile _ = _
  rw [List.dropWhile_cons, if_neg (by simp [hc])]

set_option maxRecDepth 100000 in
set_option maxHeartbeats 4000000 in
theorem rall_any (w : World) (s : ByteArray) (hs : s.size ≤ 20000) : Calls Try.prog 27 #[.string s] w (APost w (go s.size s.data.toList 1 [])) := by
  have hdl : decide ((20000 : Int) < (s.size : Int)) = false := decide_eq_false (by omega)
  obtain ⟨R, hR⟩ : ∃ R, Hid (go s.size s.data.toList 1 [] = R) := ⟨_, Lib.hid rfl⟩
  rw [hR.out]
  have H0 := Lib.hid (TA.new w 60)
  obtain ⟨i0, hi0, hz0, hz1, hz2⟩ := info_parts info_rtok
  have Hi := Lib.hid hi0
  have Hz0 := Lib.hid hz0
  have Hz1 := Lib.hid hz1
  have Hz2 := Lib.hid hz2
  have hconv := conv1
  clear hi0 hz0 hz1 hz2
  go_enter Try.func27, Try.ntmps27
  go_wp2_with fail
  go_loopw [5, 6, 7] (fun l0 ln i wr => ∃ (f k : Nat) (acc : List Tok) (A : Option Addr) (cap line : Nat), l0 = .slice A acc.length cap ∧ ln = .int .i64 (line : Int) ∧ i = .int .i64 (k : Int) ∧ k ≤ s.size ∧ s.size - k ≤ f ∧ acc.length ≤ k ∧ line ≤ k + 1 ∧ Hid (go f (s.data.toList.drop k) line acc = R) ∧ Hid (TA w wr 60 A cap acc)) (fun _ _ i _ => s.size - (intOf i).toNat)
  case atStart => exact ⟨s.size, 0, [], none, 0, 1, rfl, rfl, rfl, by omega, by omega, by simp, by omega, hR, H0⟩
  case round =>
    obtain ⟨f, k, acc, A, cap, line, rfl, rfl, rfl, hk, hf, ha, hl, hg, ht⟩ := hrel
    rename_i wr
    by_cases hkl : k < s.size
    · have e1 : decide ((k : Int) < (s.size : Int)) = true := decide_eq_true (by omega)
      obtain ⟨f', rfl⟩ : ∃ f', f = f' + 1 := ⟨f - 1, by omega⟩
      have hg2 := hg.out
      rw [drop_cons s k hkl, go_cons] at hg2
      have b10 : ((s[k].toNat : Int) == 10) = decide (s[k] = 10) := eq_nat s[k] 10 (by omega)
      have b32 : ((s[k].toNat : Int) == 32) = decide (s[k] = 32) := eq_nat s[k] 32 (by omega)
      have b9 : ((s[k].toNat : Int) == 9) = decide (s[k] = 9) := eq_nat s[k] 9 (by omega)
      have b13 : ((s[k].toNat : Int) == 13) = decide (s[k] = 13) := eq_nat s[k] 13 (by omega)
      have b35 : ((s[k].toNat : Int) == 35) = decide (s[k] = 35) := eq_nat s[k] 35 (by omega)
      clear hg
      by_cases c10 : s[k] = 10
      · rw [if_pos c10] at hg2
        rw [decide_eq_true c10] at b10
        have HG := Lib.hid hg2
        clear hg2 b32 b9 b13 b35 c10
        go_wp2_with fail
        go_roundw
        case rel => exact ⟨f', k + 1, acc, A, cap, line + 1, rfl, by go_num, by go_num, by omega, by omega, by omega, by omega, HG, ht⟩
        case measure => simp [intOf]; omega
      rw [if_neg c10] at hg2
      rw [decide_eq_false c10] at b10
      by_cases cb : s[k] = 32 ∨ s[k] = 9 ∨ s[k] = 13
      · rw [if_pos cb] at hg2
        have HG := Lib.hid hg2
        clear hg2 b35 c10
        by_cases c32 : s[k] = 32
        · rw [decide_eq_true c32] at b32
          clear b9 b13 cb c32
          go_wp2_with fail
          go_roundw
          case rel => exact ⟨f', k + 1, acc, A, cap, line, rfl, rfl, by go_num, by omega, by omega, by omega, by omega, HG, ht⟩
          case measure => simp [intOf]; omega
        · rw [decide_eq_false c32] at b32
          by_cases c9 : s[k] = 9
          · rw [decide_eq_true c9] at b9
            clear b13 cb c32 c9
            go_wp2_with fail
            go_roundw
            case rel => exact ⟨f', k + 1, acc, A, cap, line, rfl, rfl, by go_num, by omega, by omega, by omega, by omega, HG, ht⟩
            case measure => simp [intOf]; omega
          · rw [decide_eq_false c9] at b9
            have c13 : s[k] = 13 := by rcases cb with h | h | h; exact absurd h c32; exact absurd h c9; exact h
            rw [decide_eq_true c13] at b13
            clear cb c32 c9 c13
            go_wp2_with fail
            go_roundw
            case rel => exact ⟨f', k + 1, acc, A, cap, line, rfl, rfl, by go_num, by omega, by omega, by omega, by omega, HG, ht⟩
            case measure => simp [intOf]; omega
      rw [if_neg cb] at hg2
      rw [decide_eq_false (fun h => cb (Or.inl h))] at b32
      rw [decide_eq_false (fun h => cb (Or.inr (Or.inl h)))] at b9
      rw [decide_eq_false (fun h => cb (Or.inr (Or.inr h)))] at b13
      clear cb
      by_cases c35 : s[k] = 35
      · rw [if_pos c35] at hg2
        rw [decide_eq_true c35] at b35
        have hn1 := note_step s k hkl (by rw [c35]; decide)
        rw [← drop_cons s k hkl, hn1] at hg2
        have HG0 : Hid (go f' (note (s.data.toList.drop k)) line acc = R) := Lib.hid (by rw [hn1]; exact hg2)
        have hk35 := Lib.hid c35
        clear hg2 c10 c35 hn1
        go_wp2_with fail
        go_loopw [7] (fun i w2 => ∃ j : Nat, k ≤ j ∧ j ≤ s.size ∧ i = .int .i64 (j : Int) ∧ Hid (go f' (note (s.data.toList.drop j)) line acc = R) ∧ wr = w2) (fun i _ => s.size - (intOf i).toNat)
        case atStart => exact ⟨k, by omega, by omega, rfl, HG0, rfl⟩
        case round =>
          obtain ⟨j, hj1, hj2, rfl, hgj, rfl⟩ := hrel
          by_cases hjl : j < s.size
          · have e2 : decide ((j : Int) < (s.size : Int)) = true := decide_eq_true (by omega)
            have bj : ((s[j].toNat : Int) != 10) = !decide (s[j] = 10) := congrArg (fun b => !b) (eq_nat s[j] 10 (by omega))
            by_cases cj : s[j] = 10
            · rw [decide_eq_true cj] at bj
              have HG := Lib.hid hgj.out
              rw [note_here s j hjl cj] at HG
              have hne : j ≠ k := by
                rintro rfl
                rw [hk35.out] at cj
                exact absurd cj (by decide)
              clear cj hgj
              go_wp2_with fail
              go_roundw
              case rel => exact ⟨f', j, acc, A, cap, line, rfl, rfl, rfl, by omega, by omega, by omega, by omega, HG, ht⟩
              case measure => simp [intOf]; omega
            · rw [decide_eq_false cj] at bj
              have HG := Lib.hid hgj.out
              rw [note_step s j hjl cj] at HG
              clear cj hgj
              go_wp2_with fail
              go_roundw
              case rel => exact ⟨j + 1, by omega, by omega, by go_num, HG, trivial⟩
              case measure => simp [intOf]; omega
          · obtain rfl : j = s.size := by omega
            have e2 : decide ((s.size : Int) < (s.size : Int)) = false := decide_eq_false (by omega)
            have HG : Hid (go f' (s.data.toList.drop s.size) line acc = R) := Lib.hid (by have := hgj.out; rw [List.drop_of_length_le (by rw [size_list]; omega)] at this ⊢; exact this)
            clear hgj
            go_wp2_with fail
            go_roundw
            case rel => exact ⟨f', s.size, acc, A, cap, line, rfl, rfl, rfl, by omega, by omega, by omega, by omega, HG, ht⟩
            case measure => simp [intOf]; omega
      rw [if_neg c35] at hg2
      rw [decide_eq_false c35] at b35
      clear c35 c10
      have KM := Lib.hid (tmark_any s[k] wr)
      rcases hmk : markB s[k] with _ | _
      · rw [hmk] at KM
        have KL := Lib.hid (tletter_any s[k] wr)
        have KD := Lib.hid (fun w => tdigit_any (s[k].toNat : Int) w (by omega) (by have := s[k].toNat_lt; omega))
        have hdd : digB (s[k].toNat : Int) = digU s[k] := rfl
        rw [hdd] at KD
        by_cases hw : letU s[k] = true ∨ digU s[k] = true
        · have hdc := drop_cons s k hkl
          have hS := ext_list s k
          obtain ⟨hw1, hw2⟩ := fst3_word s[k] (s.data.toList.drop (k + 1)) hw
          have hn0 := spl_pos s[k] (s.data.toList.drop (k + 1)) hw
          rw [← hdc] at hg2 hw1 hw2 hn0
          have hSs : (s.extract k s.size).size = s.size - k := by simp
          have KS := Lib.hid (fun w => rsplit_any (s.extract k s.size) w (by unfold maxLen; omega))
          unfold SplitPost at KS
          have hsp := spl_eq (s.extract k s.size)
          rw [hS] at hsp
          have hle := splN_le (s.extract k s.size)
          have hT := ext_take (s.extract k s.size) (splN (s.extract k s.size))
          rw [hS] at hT
          have hTs : ((s.extract k s.size).extract 0 (splN (s.extract k s.size))).size = splN (s.extract k s.size) := by simp at hle ⊢; omega
          rw [hsp] at hT hTs hle KS
          have hbh0 : behindB ((s.data.toList.drop k).drop (spl (s.data.toList.drop k))) = letU ((s.data.toList.drop (k + spl (s.data.toList.drop k))).headD 0) := by
            unfold behindB
            rw [List.drop_drop]
          have hdd2 : (s.data.toList.drop k).drop (spl (s.data.toList.drop k)) = s.data.toList.drop (k + spl (s.data.toList.drop k)) := List.drop_drop
          rw [hdd2] at hw1 hw2 hbh0
          rw [← hT] at hw1 hw2
          obtain ⟨n, hn⟩ : ∃ n, spl (s.data.toList.drop k) = n := ⟨_, rfl⟩
          rw [hn] at hT hTs hle KS hbh0 hw1 hw2 hn0
          obtain ⟨bq, hbq⟩ : ∃ bq, behindB (s.data.toList.drop (k + n)) = bq := ⟨_, rfl⟩
          rw [hbq] at hbh0 hw1 hw2
          have KW := Lib.hid (fun w => tword_any w ((s.extract k s.size).extract 0 n).data.toList bq (by intro h; have := size_list ((s.extract k s.size).extract 0 n); rw [h] at this; simp only [List.length_nil] at this; omega) (by rw [size_list]; omega))
          unfold WPost at KW
          rw [ba_eq] at KW
          have HE0 := ba_eq ((s.extract k s.size).extract 0 n)
          generalize (s.extract k s.size).extract 0 n = T at *
          generalize (s.extract k s.size).extract n (s.extract k s.size).size = RS at *
          rw [← hw1] at KW
          have hnk : k + n ≤ s.size := by omega
          clear hbq hsp hSs hS hdd hdd2 hdc
          by_cases her : (fst3 (s.data.toList.drop k)).2.2 = 0
          · obtain ⟨hw3, hw4⟩ := hw2 her
            rw [if_neg (by rw [her]; simp), hw4, List.drop_drop, ← hT, hw3] at hg2
            rw [her] at KW
            have HG := Lib.hid hg2
            have HE : ∀ kd, Hid (encT (kd, T.data.toList, line) = [.int .i64 kd, .string T, .int .i64 (line : Int)]) := fun kd => Lib.hid (by unfold encT; rw [HE0])
            generalize (wordR T.data.toList bq).1 = kd at *
            have HE := HE kd
            clear hg2 hw1 hw2 hw3 hw4 her HE0 hmk hconv
            have hcs : letU s[k] = true ∨ (letU s[k] = false ∧ digU s[k] = true) := by rcases h : letU s[k] with _ | _; exact Or.inr ⟨rfl, by rcases hw with h2 | h2; rw [h] at h2; cases h2; exact h2⟩; exact Or.inl rfl
            clear hw
            rcases hcs with hlt | ⟨hlt, hdg⟩
            · rw [hlt] at KL
              clear hlt
              by_cases hin : k + n < s.size
              · have e3 : decide (((k + n : Nat) : Int) < (s.size : Int)) = true := decide_eq_true (by omega)
                have hbh : Hid (letU (s[k + n]'hin) = bq) := Lib.hid (by rw [hbh0, drop_cons s (k + n) hin]; rfl)
                rw [Int.natCast_add] at e3
                clear hbh0
                go_wp2_with fail
                refine KM.out.mono ?_
                rintro e w1 ⟨rfl, rfl⟩
                go_wp2_with fail
                refine KL.out.mono ?_
                rintro e w2 ⟨rfl, b2⟩
                have T2 := Lib.hid (ht.out.below b2)
                clear b2
                go_wp2_with fail
                refine (KS.out _).mono ?_
                rintro e w4 ⟨rfl, n4, rfl⟩
                have T4 := Lib.hid (T2.out.below (below_drew _ n4))
                clear T2
                go_wp2_with fail
                refine (tletter_any _ _).mono ?_
                rintro e w5 ⟨rfl, b5⟩
                rw [hbh.out]
                have T5 := Lib.hid (T4.out.below b5)
                clear b5 T4
                go_wp2_with fail
                refine (KW.out _).mono ?_
                rintro e w6 ⟨rfl, b6⟩
                have T6 := Lib.hid (T5.out.below b6)
                clear b6 T5
                go_wp2_with (at_builtin
                             refine wpList_row (us := [.int .i64 kd, .string T, .int .i64 (line : Int)]) rfl _ _ _ rfl (T6.out.sg.alloc _) Try.underlying54 Hi.out Hz0.out Hz1.out Hz2.out rfl rfl rfl rfl (three_cells _ _ _ _ _) (HE.out ▸ enc_one (kd, T.data.toList, line)) (by omega) (by omega) ?_
                             intro A' cap' w7 hs7 b7 hf7)
                have T7 := Lib.hid (T6.out.push (kd, T.data.toList, line) (HE.out ▸ hs7) b7 hf7)
                clear hs7 b7 hf7 T6
                go_roundw
                case rel => exact ⟨f', k + n, _, A', cap', line, by rw [List.length_append, List.length_singleton], rfl, by go_num, by omega, by omega, by simp; omega, by omega, HG, T7⟩
                case measure => simp [intOf]; omega
              · have e3 : decide (((k + n : Nat) : Int) < (s.size : Int)) = false := decide_eq_false (by omega)
                have hbh : bq = false := by rw [hbh0, List.drop_of_length_le (by rw [size_list]; omega)]; decide
                rw [Int.natCast_add] at e3
                clear hbh0
                subst hbh
                go_wp2_with fail
                refine KM.out.mono ?_
                rintro e w1 ⟨rfl, rfl⟩
                go_wp2_with fail
                refine KL.out.mono ?_
                rintro e w2 ⟨rfl, b2⟩
                have T2 := Lib.hid (ht.out.below b2)
                clear b2
                go_wp2_with fail
                refine (KS.out _).mono ?_
                rintro e w4 ⟨rfl, n4, rfl⟩
                have T4 := Lib.hid (T2.out.below (below_drew _ n4))
                clear T2
                go_wp2_with fail
                have T5 := T4
                clear T4
                refine (KW.out _).mono ?_
                rintro e w6 ⟨rfl, b6⟩
                have T6 := Lib.hid (T5.out.below b6)
                clear b6 T5
                go_wp2_with (at_builtin
                             refine wpList_row (us := [.int .i64 kd, .string T, .int .i64 (line : Int)]) rfl _ _ _ rfl (T6.out.sg.alloc _) Try.underlying54 Hi.out Hz0.out Hz1.out Hz2.out rfl rfl rfl rfl (three_cells _ _ _ _ _) (HE.out ▸ enc_one (kd, T.data.toList, line)) (by omega) (by omega) ?_
                             intro A' cap' w7 hs7 b7 hf7)
                have T7 := Lib.hid (T6.out.push (kd, T.data.toList, line) (HE.out ▸ hs7) b7 hf7)
                clear hs7 b7 hf7 T6
                go_roundw
                case rel => exact ⟨f', k + n, _, A', cap', line, by rw [List.length_append, List.length_singleton], rfl, by go_num, by omega, by omega, by simp; omega, by omega, HG, T7⟩
                case measure => simp [intOf]; omega
            · rw [hlt] at KL
              rw [hdg] at KD
              clear hlt hdg
              by_cases hin : k + n < s.size
              · have e3 : decide (((k + n : Nat) : Int) < (s.size : Int)) = true := decide_eq_true (by omega)
                have hbh : Hid (letU (s[k + n]'hin) = bq) := Lib.hid (by rw [hbh0, drop_cons s (k + n) hin]; rfl)
                rw [Int.natCast_add] at e3
                clear hbh0
                go_wp2_with fail
                refine KM.out.mono ?_
                rintro e w1 ⟨rfl, rfl⟩
                go_wp2_with fail
                refine KL.out.mono ?_
                rintro e w2 ⟨rfl, b2⟩
                have T2 := Lib.hid (ht.out.below b2)
                clear b2
                go_wp2_with fail
                refine (KD.out _).mono ?_
                rintro e w3 ⟨rfl, rfl⟩
                go_wp2_with fail
                refine (KS.out _).mono ?_
                rintro e w4 ⟨rfl, n4, rfl⟩
                have T4 := Lib.hid (T2.out.below (below_drew _ n4))
                clear T2
                go_wp2_with fail
                refine (tletter_any _ _).mono ?_
                rintro e w5 ⟨rfl, b5⟩
                rw [hbh.out]
                have T5 := Lib.hid (T4.out.below b5)
                clear b5 T4
                go_wp2_with fail
                refine (KW.out _).mono ?_
                rintro e w6 ⟨rfl, b6⟩
                have T6 := Lib.hid (T5.out.below b6)
                clear b6 T5
                go_wp2_with (at_builtin
                             refine wpList_row (us := [.int .i64 kd, .string T, .int .i64 (line : Int)]) rfl _ _ _ rfl (T6.out.sg.alloc _) Try.underlying54 Hi.out Hz0.out Hz1.out Hz2.out rfl rfl rfl rfl (three_cells _ _ _ _ _) (HE.out ▸ enc_one (kd, T.data.toList, line)) (by omega) (by omega) ?_
                             intro A' cap' w7 hs7 b7 hf7)
                have T7 := Lib.hid (T6.out.push (kd, T.data.toList, line) (HE.out ▸ hs7) b7 hf7)
                clear hs7 b7 hf7 T6
                go_roundw
                case rel => exact ⟨f', k + n, _, A', cap', line, by rw [List.length_append, List.length_singleton], rfl, by go_num, by omega, by omega, by simp; omega, by omega, HG, T7⟩
                case measure => simp [intOf]; omega
              · have e3 : decide (((k + n : Nat) : Int) < (s.size : Int)) = false := decide_eq_false (by omega)
                have hbh : bq = false := by rw [hbh0, List.drop_of_length_le (by rw [size_list]; omega)]; decide
                rw [Int.natCast_add] at e3
                clear hbh0
                subst hbh
                go_wp2_with fail
                refine KM.out.mono ?_
                rintro e w1 ⟨rfl, rfl⟩
                go_wp2_with fail
                refine KL.out.mono ?_
                rintro e w2 ⟨rfl, b2⟩
                have T2 := Lib.hid (ht.out.below b2)
                clear b2
                go_wp2_with fail
                refine (KD.out _).mono ?_
                rintro e w3 ⟨rfl, rfl⟩
                go_wp2_with fail
                refine (KS.out _).mono ?_
                rintro e w4 ⟨rfl, n4, rfl⟩
                have T4 := Lib.hid (T2.out.below (below_drew _ n4))
                clear T2
                go_wp2_with fail
                have T5 := T4
                clear T4
                refine (KW.out _).mono ?_
                rintro e w6 ⟨rfl, b6⟩
                have T6 := Lib.hid (T5.out.below b6)
                clear b6 T5
                go_wp2_with (at_builtin
                             refine wpList_row (us := [.int .i64 kd, .string T, .int .i64 (line : Int)]) rfl _ _ _ rfl (T6.out.sg.alloc _) Try.underlying54 Hi.out Hz0.out Hz1.out Hz2.out rfl rfl rfl rfl (three_cells _ _ _ _ _) (HE.out ▸ enc_one (kd, T.data.toList, line)) (by omega) (by omega) ?_
                             intro A' cap' w7 hs7 b7 hf7)
                have T7 := Lib.hid (T6.out.push (kd, T.data.toList, line) (HE.out ▸ hs7) b7 hf7)
                clear hs7 b7 hf7 T6
                go_roundw
                case rel => exact ⟨f', k + n, _, A', cap', line, by rw [List.length_append, List.length_singleton], rfl, by go_num, by omega, by omega, by simp; omega, by omega, HG, T7⟩
                case measure => simp [intOf]; omega
          · rw [if_pos her] at hg2
            have HG := Lib.hid hg2
            have her2 : ((fst3 (s.data.toList.drop k)).2.2 != 0) = true := by simpa using her
            generalize (wordR T.data.toList bq).1 = kd at *
            clear hg2 hw1 hw2 HE0 hmk hconv
            generalize (fst3 (s.data.toList.drop k)).2.2 = er at *
            have hcs : letU s[k] = true ∨ (letU s[k] = false ∧ digU s[k] = true) := by rcases h : letU s[k] with _ | _; exact Or.inr ⟨rfl, by rcases hw with h2 | h2; rw [h] at h2; cases h2; exact h2⟩; exact Or.inl rfl
            clear hw
            rcases hcs with hlt | ⟨hlt, hdg⟩
            · rw [hlt] at KL
              clear hlt
              by_cases hin : k + n < s.size
              · have e3 : decide (((k + n : Nat) : Int) < (s.size : Int)) = true := decide_eq_true (by omega)
                have hbh : Hid (letU (s[k + n]'hin) = bq) := Lib.hid (by rw [hbh0, drop_cons s (k + n) hin]; rfl)
                rw [Int.natCast_add] at e3
                clear hbh0
                go_wp2_with fail
                refine KM.out.mono ?_
                rintro e w1 ⟨rfl, rfl⟩
                go_wp2_with fail
                refine KL.out.mono ?_
                rintro e w2 ⟨rfl, b2⟩
                have T2 := Lib.hid (ht.out.below b2)
                clear b2
                go_wp2_with fail
                refine (KS.out _).mono ?_
                rintro e w4 ⟨rfl, n4, rfl⟩
                have T4 := Lib.hid (T2.out.below (below_drew _ n4))
                clear T2
                go_wp2_with fail
                refine (tletter_any _ _).mono ?_
                rintro e w5 ⟨rfl, b5⟩
                rw [hbh.out]
                have T5 := Lib.hid (T4.out.below b5)
                clear b5 T4
                go_wp2_with fail
                refine (KW.out _).mono ?_
                rintro e w6 ⟨rfl, b6⟩
                have T6 := Lib.hid (T5.out.below b6)
                clear b6 T5
                go_wp2_with fail
                go_ret3
                refine ⟨T6.out.on, ?_⟩
                rw [← HG.out]
                exact rfl
              · have e3 : decide (((k + n : Nat) : Int) < (s.size : Int)) = false := decide_eq_false (by omega)
                have hbh : bq = false := by rw [hbh0, List.drop_of_length_le (by rw [size_list]; omega)]; decide
                rw [Int.natCast_add] at e3
                clear hbh0
                subst hbh
                go_wp2_with fail
                refine KM.out.mono ?_
                rintro e w1 ⟨rfl, rfl⟩
                go_wp2_with fail
                refine KL.out.mono ?_
                rintro e w2 ⟨rfl, b2⟩
                have T2 := Lib.hid (ht.out.below b2)
                clear b2
                go_wp2_with fail
                refine (KS.out _).mono ?_
                rintro e w4 ⟨rfl, n4, rfl⟩
                have T4 := Lib.hid (T2.out.below (below_drew _ n4))
                clear T2
                go_wp2_with fail
                have T5 := T4
                clear T4
                refine (KW.out _).mono ?_
                rintro e w6 ⟨rfl, b6⟩
                have T6 := Lib.hid (T5.out.below b6)
                clear b6 T5
                go_wp2_with fail
                go_ret3
                refine ⟨T6.out.on, ?_⟩
                rw [← HG.out]
                exact rfl
            · rw [hlt] at KL
              rw [hdg] at KD
              clear hlt hdg
              by_cases hin : k + n < s.size
              · have e3 : decide (((k + n : Nat) : Int) < (s.size : Int)) = true := decide_eq_true (by omega)
                have hbh : Hid (letU (s[k + n]'hin) = bq) := Lib.hid (by rw [hbh0, drop_cons s (k + n) hin]; rfl)
                rw [Int.natCast_add] at e3
                clear hbh0
                go_wp2_with fail
                refine KM.out.mono ?_
                rintro e w1 ⟨rfl, rfl⟩
                go_wp2_with fail
                refine KL.out.mono ?_
                rintro e w2 ⟨rfl, b2⟩
                have T2 := Lib.hid (ht.out.below b2)
                clear b2
                go_wp2_with fail
                refine (KD.out _).mono ?_
                rintro e w3 ⟨rfl, rfl⟩
                go_wp2_with fail
                refine (KS.out _).mono ?_
                rintro e w4 ⟨rfl, n4, rfl⟩
                have T4 := Lib.hid (T2.out.below (below_drew _ n4))
                clear T2
                go_wp2_with fail
                refine (tletter_any _ _).mono ?_
                rintro e w5 ⟨rfl, b5⟩
                rw [hbh.out]
                have T5 := Lib.hid (T4.out.below b5)
                clear b5 T4
                go_wp2_with fail
                refine (KW.out _).mono ?_
                rintro e w6 ⟨rfl, b6⟩
                have T6 := Lib.hid (T5.out.below b6)
                clear b6 T5
                go_wp2_with fail
                go_ret3
                refine ⟨T6.out.on, ?_⟩
                rw [← HG.out]
                exact rfl
              · have e3 : decide (((k + n : Nat) : Int) < (s.size : Int)) = false := decide_eq_false (by omega)
                have hbh : bq = false := by rw [hbh0, List.drop_of_length_le (by rw [size_list]; omega)]; decide
                rw [Int.natCast_add] at e3
                clear hbh0
                subst hbh
                go_wp2_with fail
                refine KM.out.mono ?_
                rintro e w1 ⟨rfl, rfl⟩
                go_wp2_with fail
                refine KL.out.mono ?_
                rintro e w2 ⟨rfl, b2⟩
                have T2 := Lib.hid (ht.out.below b2)
                clear b2
                go_wp2_with fail
                refine (KD.out _).mono ?_
                rintro e w3 ⟨rfl, rfl⟩
                go_wp2_with fail
                refine (KS.out _).mono ?_
                rintro e w4 ⟨rfl, n4, rfl⟩
                have T4 := Lib.hid (T2.out.below (below_drew _ n4))
                clear T2
                go_wp2_with fail
                have T5 := T4
                clear T4
                refine (KW.out _).mono ?_
                rintro e w6 ⟨rfl, b6⟩
                have T6 := Lib.hid (T5.out.below b6)
                clear b6 T5
                go_wp2_with fail
                go_ret3
                refine ⟨T6.out.on, ?_⟩
                rw [← HG.out]
                exact rfl
        · have hl0 : letU s[k] = false := by rcases h : letU s[k] with _ | _; rfl; exact absurd (Or.inl h) hw
          have hd0 : digU s[k] = false := by rcases h : digU s[k] with _ | _; rfl; exact absurd (Or.inr h) hw
          rw [fst3_none _ _ hmk hl0 hd0, if_pos (by simp)] at hg2
          have HG := Lib.hid hg2
          rw [hl0] at KL
          rw [hd0] at KD
          clear hg2 hmk hconv hw hdd hl0 hd0
          go_wp2_with fail
          refine KM.out.mono ?_
          rintro e w1 ⟨rfl, rfl⟩
          go_wp2_with fail
          refine KL.out.mono ?_
          rintro e w2 ⟨rfl, b2⟩
          have T2 := Lib.hid (ht.out.below b2)
          clear b2
          go_wp2_with fail
          refine (KD.out _).mono ?_
          rintro e w3 ⟨rfl, rfl⟩
          go_wp2_with fail
          go_ret3
          refine ⟨T2.out.on, ?_⟩
          rw [← HG.out]
          exact rfl
      · rw [hmk] at KM
        rw [fst3_mark _ _ hmk, if_neg (by simp)] at hg2
        have HG : Hid (go f' (s.data.toList.drop (k + 1)) line (acc ++ [(4, [s[k]], line)]) = R) := Lib.hid hg2
        have hstr : strOfNums [(s[k].toNat : Int)] = BA [s[k]] := one_str s[k]
        have hst : ∀ W : World, (convert 79 9 (.slice (some ⟨W.heap.size, 0, none⟩) 1 1)).run Try.prog (W.alloc (.cells #[.int .u8 (s[k].toNat : Int)] 5)) = .ok (.string (BA [s[k]])) (W.alloc (.cells #[.int .u8 (s[k].toNat : Int)] 5)) := fun W => by rw [hconv, hstr]
        have HE : Hid (encT (4, [s[k]], line) = [.int .i64 4, .string (BA [s[k]]), .int .i64 (line : Int)]) := Lib.hid rfl
        have T2 := Lib.hid (ht.out.below (((Below.refl wr.heap.size wr).alloc (Nat.le_refl _) (.cells #[.int .u8 (s[k].toNat : Int)] 5))))
        clear hg2 hmk hconv hstr
        generalize BA [s[k]] = z at *
        have H3 : Hid (∀ (j : Nat) (v : Value), [Value.int .i64 4, .string z, .int .i64 (line : Int)][j]? = some v → ((wr.alloc (.cells #[.int .u8 (s[k].toNat : Int)] 5)).alloc (.cells #[.int .i64 4, .string z, .int .i64 (line : Int)] 60)).cell? ((⟨wr.heap.size + 1, 0, none⟩ : Addr).add j) = some v) := Lib.hid (by have := three_cells (wr.alloc (.cells #[.int .u8 (s[k].toNat : Int)] 5)) 60 (.int .i64 4) (.string z) (.int .i64 (line : Int)); rwa [World.size_alloc] at this)
        go_wp2_with fail
        refine KM.out.mono ?_
        rintro e w' ⟨rfl, rfl⟩
        go_wp2_with (at_builtin
                     refine wpList_row (ad := ⟨wr.heap.size + 1, 0, none⟩) (us := [.int .i64 4, .string z, .int .i64 (line : Int)]) rfl _ _ _ rfl (T2.out.sg.alloc _) Try.underlying54 Hi.out Hz0.out Hz1.out Hz2.out rfl rfl rfl rfl H3.out (HE.out ▸ enc_one (4, [s[k]], line)) (by omega) (by omega) ?_
                     intro A' cap' w5 hs5 b5 hf5)
        have T5 := Lib.hid (T2.out.push (4, [s[k]], line) (HE.out ▸ hs5) b5 hf5)
        clear hs5 b5 hf5 T2
        go_roundw
        case rel => exact ⟨f', k + 1, _, A', cap', line, by rw [List.length_append, List.length_singleton], rfl, by go_num, by omega, by omega, by simp; omega, by omega, HG, T5⟩
        case measure => simp [intOf]; omega
    · obtain rfl : k = s.size := by omega
      have e1 : decide ((s.size : Int) < (s.size : Int)) = false := decide_eq_false (by omega)
      have hr : Hid (Res.ok acc = R) := Lib.hid (by have := hg.out; rw [List.drop_of_length_le (by rw [size_list]; omega), go_nil] at this; exact this)
      clear hg
      go_wp2_with fail
      go_ret3
      refine ⟨ht.out.on, ?_⟩
      rw [← hr.out]
      exact ⟨A, cap, rfl, ht.out.sg.rd (by omega)⟩
end Go.Proofs.Ytehieiddelngfaa.tk
