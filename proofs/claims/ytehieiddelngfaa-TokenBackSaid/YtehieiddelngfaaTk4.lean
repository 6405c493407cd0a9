/-
  token: the reference's parts: digit, letter, mark, words.
-/
import Derived.Test.YtehieiddelngfaaTk3
import Derived.Laws.BytesArg
namespace Go.Proofs.Ytehieiddelngfaa.tk
open Go.RowKit Go.Proofs.Ytehieiddelngfaa.dg Go.Proofs.Ytehieiddelngfaa.mem

theorem tdigit_any (b : Int) (w : World) (h0 : 0 ≤ b) (h1 : b ≤ 255) :
    Calls Try.prog 43 #[.int .u8 b] w fun e w' => e = .returned (.bool (digB b)) ∧ w = w' := by
  rcases (by omega : b < 48 ∨ (48 ≤ b ∧ b ≤ 57) ∨ 57 < b) with h | h | h
  all_goals
    have hf : (digB b) = decide (48 ≤ b ∧ b ≤ 57) := by rfl
    have H := Lib.hid hf
    clear hf
    go_enter Try.func43, Try.ntmps43
    go_wp2
    go_ret
    exact ⟨by rw [H.out]; first | (simp; omega) | exact retB (by simp; omega), rfl⟩

theorem conv1 (a : Int) (W : World) : (convert 79 9 (.slice (some ⟨W.heap.size, 0, none⟩) 1 1)).run Try.prog (W.alloc (.cells #[.int .u8 a] 5)) = .ok (.string (strOfNums [a])) (W.alloc (.cells #[.int .u8 a] 5)) := by
  refine run_convert_bytes_arg _ _ 5 Try.underlying79 Try.underlying5 _ 0 1 1 [a] rfl ?_ _ Try.underlying9
  intro i hi
  obtain rfl : i = 0 := by omega
  simp

theorem one_str (c : UInt8) : strOfNums [(c.toNat : Int)] = BA [c] := by
  have : (strOfNums [(c.toNat : Int)]).data.toList = [c] := by rw [strOfNums_data]; simp
  rw [← ba_eq (strOfNums _), this]

theorem name_one (c : UInt8) : nameB (BA [c]) = letU c := by
  unfold nameB letU
  have h1 : (BA [c]).size = 1 := rfl
  rw [h1]
  simp only [List.headD_cons]
  rcases h : letB (c.toNat : Int) with _ | _
  · simp [h]
  · have : dg.runN beh [c] = 1 := by
      unfold dg.runN
      rw [List.takeWhile_cons, if_pos (by unfold beh; rw [h]; rfl)]
      rfl
    simp [h, this]

theorem tletter_any (c : UInt8) (w : World) : Calls Try.prog 42 #[.int .u8 (c.toNat : Int)] w fun e w' => e = .returned (.bool (letU c)) ∧ Below w.heap.size w w' := by
  have hconv := conv1 (c.toNat : Int)
  have hsz : (strOfNums [(c.toNat : Int)]).size = 1 := strOfNums_size _
  have K1 := Lib.hid (fun w => rname_any (strOfNums [(c.toNat : Int)]) w (by rw [hsz]; unfold maxLen; omega))
  have hn : nameB (strOfNums [(c.toNat : Int)]) = letU c := by rw [one_str, name_one]
  rw [hn] at K1
  have HB := Lib.hid ((Below.refl w.heap.size w).alloc (Nat.le_refl _) (.cells #[.int .u8 (c.toNat : Int)] 5))
  clear hn
  go_enter Try.func42, Try.ntmps42
  go_wp2_with fail
  refine (K1.out _).mono ?_
  rintro e w' ⟨rfl, rfl⟩
  go_wp2_with fail
  go_ret
  exact ⟨rfl, HB.out⟩

theorem tmark_any (c : UInt8) (w : World) : Calls Try.prog 41 #[.int .u8 (c.toNat : Int)] w fun e w' => e = .returned (.bool (markB c)) ∧ w = w' := by
  obtain ⟨q, hq⟩ : ∃ q, Hid (markB c = q) := ⟨_, Lib.hid rfl⟩
  rw [hq.out]
  obtain ⟨M, hM⟩ : ∃ M : ByteArray, Hid (M = ({ data := #[123, 125, 40, 41, 91, 93, 59, 61, 44, 45] } : ByteArray)) := ⟨_, Lib.hid rfl⟩
  have hMs : M.size = 10 := by rw [hM.out]; rfl
  have hMl : M.data.toList = marks := by rw [hM.out]; rfl
  have HG : Hid (∀ k (hk : k < M.size), marks[k]? = some (M[k]'hk)) := Lib.hid (fun k hk => by rw [← hMl, List.getElem?_eq_getElem (by rw [size_list]; exact hk)]; rfl)
  go_enter Try.func41, Try.ntmps41
  rw [← hM.out]
  go_wp2_with fail
  go_loopw [4] (fun i wr => ∃ k : Nat, k ≤ 10 ∧ i = .int .i64 k ∧ Hid (c ∉ marks.take k) ∧ w = wr) (fun i _ => 10 - (intOf i).toNat)
  case atStart => exact ⟨0, by omega, rfl, Lib.hid (by simp), rfl⟩
  case round =>
    obtain ⟨k, hk, rfl, hnot, rfl⟩ := hrel
    by_cases hkl : k < 10
    · have e1 : decide ((k : Int) < (M.size : Int)) = true := decide_eq_true (by omega)
      have hkM : k < M.size := by omega
      have hg := HG.out k hkM
      have hb : ((M[k].toNat : Int) == (c.toNat : Int)) = decide (M[k] = c) := by
        by_cases h : M[k] = c
        · rw [decide_eq_true h, h]; simp
        · rw [decide_eq_false h, beq_eq_false_iff_ne]
          intro e
          exact h (UInt8.toNat_inj.1 (by omega))
      by_cases hc : M[k] = c
      · rw [decide_eq_true hc] at hb
        have hq2 : q = true := by
          rw [← hq.out]
          unfold markB
          rw [decide_eq_true_iff, ← hc]
          exact List.mem_of_getElem? hg
        subst hq2
        clear hg hc
        go_wp2_with fail
        go_ret
        exact ⟨rfl, rfl⟩
      · rw [decide_eq_false hc] at hb
        have hn2 : Hid (c ∉ marks.take (k + 1)) := Lib.hid (by
          rw [List.take_succ_eq_append_getElem (by show k < 10; exact hkl), List.mem_append, List.mem_singleton]
          rintro (h | h)
          · exact hnot.out h
          · exact hc (Option.some.inj (hg.symm.trans ((List.getElem?_eq_getElem (by show k < 10; exact hkl)).trans (by rw [h])))))
        clear hg hc
        go_wp2_with fail
        go_roundw
        case rel => exact ⟨k + 1, by omega, by go_num, hn2, trivial⟩
        case measure => simp [intOf]; omega
    · obtain rfl : k = 10 := by omega
      have e1 : decide ((10 : Int) < (M.size : Int)) = false := decide_eq_false (by omega)
      have hq2 : q = false := by
        rw [← hq.out]
        unfold markB
        exact decide_eq_false hnot.out
      subst hq2
      go_wp2_with fail
      go_ret
      exact ⟨rfl, rfl⟩
end Go.Proofs.Ytehieiddelngfaa.tk
