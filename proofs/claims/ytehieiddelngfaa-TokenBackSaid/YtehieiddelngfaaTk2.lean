/-
  token: the first token of a text.
-/
import Derived.Test.YtehieiddelngfaaTk1
namespace Go.Proofs.Ytehieiddelngfaa.tk
open Go.RowKit Go.Proofs.Ytehieiddelngfaa.dg Go.Proofs.Ytehieiddelngfaa.mem

theorem ba_eq (s : ByteArray) : BA s.data.toList = s := by
  cases s
  simp [BA]

theorem below_drew (w : World) (n : Nat) : Below w.heap.size w (w.drewN n) := ⟨rfl, rfl, rfl, Nat.le_refl _, fun _ _ => rfl⟩

def FPost (w : World) (l : List UInt8) (e : Ending) (w' : World) : Prop :=
  (∃ t : ByteArray, e = .returned (.tuple #[.int .i64 (fst3 l).1, .string t, .int .i64 (fst3 l).2.2]) ∧ t.data.toList = l.take (fst3 l).2.1) ∧ Below w.heap.size w w'

theorem fpost_of {w w' : World} {l : List UInt8} {k : Int} {n : Nat} {e : Int} {t : ByteArray} (hf : fst3 l = (k, n, e)) (ht : t.data.toList = l.take n) (hb : Below w.heap.size w w') : FPost w l (.returned (.tuple #[.int .i64 k, .string t, .int .i64 e])) w' := by
  unfold FPost
  rw [hf]
  exact ⟨⟨t, rfl, ht⟩, hb⟩

theorem markIdx (c : UInt8) : decide (Lib.indexByte marks c < 0) = !markB c := by
  have h := Lib.contains_iff_indexByte marks c
  have hg := Lib.indexByte_ge marks c
  unfold markB
  rw [show decide (c ∈ marks) = marks.contains c by simp [List.contains_iff_mem], h]
  by_cases h0 : 0 ≤ Lib.indexByte marks c
  · rw [decide_eq_true h0, decide_eq_false (by omega)]; rfl
  · rw [decide_eq_false h0, decide_eq_true (by omega)]; rfl

set_option maxRecDepth 100000 in
set_option maxHeartbeats 1000000 in
theorem first_any (w : World) (s : ByteArray) (hs : s.size ≤ 1000000) (hz : 0 < s.size) (hm : MaxAt w) : Calls Try.prog 40 #[.string s] w (FPost w s.data.toList) := by
  have hsm : s.size ≤ maxLen := by unfold maxLen; omega
  have K1 := Lib.hid (split_any s w hsm)
  unfold SplitPost at K1
  have hhead := headD_zero s hz
  have hb0 : (0 : Int) ≤ (s[0].toNat : Int) := by omega
  have hT := ext_take s (splN s)
  have hR := ext_list s (splN s)
  have hsl := spl_eq s
  have hle := splN_le s
  have hTs : (s.extract 0 (splN s)).size = splN s := by simp; omega
  have hRs : (s.extract (splN s) s.size).size = s.size - splN s := by simp
  by_cases h0 : spl s.data.toList = 0
  · have hn0 : splN s = 0 := hsl.trans h0
    have he : (s.extract 0 (splN s)).toList = [] := empty_list _ (hTs.trans hn0)
    have Hm := Lib.hid (markIdx s[0])
    have K2 := Lib.hid (fun w => Try.strings_IndexByte ({ data := #[123, 125, 40, 41, 91, 93, 59, 61, 44, 45] } : ByteArray) (s[0].toNat : Int) w)
    have hc : ((s[0].toNat : Int)).toNat.toUInt8 = s[0] := by simp
    rw [hc] at K2
    have hml : (({ data := #[123, 125, 40, 41, 91, 93, 59, 61, 44, 45] } : ByteArray)).data.toList = marks := rfl
    rw [hml] at K2
    have H1 := Lib.hid (ext_take s 1)
    rcases hk : markB s[0] with _ | _
    · have hf : Hid (fst3 s.data.toList = (0, 0, 16)) := Lib.hid (by unfold fst3; rw [if_pos h0, hhead, hk]; rfl)
      rw [hk] at Hm
      clear hT hR hTs hRs hk hhead h0 hc hml hsl
      generalize s.extract 0 (splN s) = T at *
      generalize s.extract (splN s) s.size = R at *
      generalize Lib.indexByte marks s[0] = q at *
      have d1 : decide (q < 0) = true := Hm.out
      go_enter Try.func40, Try.ntmps40
      go_wp2_with fail
      refine K1.out.mono ?_
      rintro e w' ⟨rfl, n, rfl⟩
      go_wp2_with fail
      refine (K2.out _).mono ?_
      rintro e w' ⟨rfl, rfl⟩
      go_wp2_with fail
      go_ret3
      exact fpost_of hf.out rfl (below_drew w n)
    · have hf : Hid (fst3 s.data.toList = (4, 1, 0)) := Lib.hid (by unfold fst3; rw [if_pos h0, hhead, hk]; rfl)
      rw [hk] at Hm
      clear hT hR hTs hRs hk hhead h0 hc hml hsl
      generalize s.extract 0 (splN s) = T at *
      generalize s.extract (splN s) s.size = R at *
      generalize Lib.indexByte marks s[0] = q at *
      have d1 : decide (q < 0) = false := Hm.out
      go_enter Try.func40, Try.ntmps40
      go_wp2_with fail
      refine K1.out.mono ?_
      rintro e w' ⟨rfl, n, rfl⟩
      go_wp2_with fail
      refine (K2.out _).mono ?_
      rintro e w' ⟨rfl, rfl⟩
      go_wp2_with fail
      go_region
      all_goals (go_wp2_with fail)
      all_goals go_ret3
      all_goals exact fpost_of hf.out H1.out (Below.drew (below_drew w n))
  · have hn0 : splN s ≠ 0 := fun h => h0 (hsl.symm.trans h)
    have he : (s.extract 0 (splN s)).toList.isEmpty = false := not_empty _ (by rw [hTs]; exact hn0)
    have hTz : 0 < (s.extract 0 (splN s)).size := by omega
    have hTm : (s.extract 0 (splN s)).size ≤ maxLen := by unfold maxLen; omega
    have hRm : (s.extract (splN s) s.size).size ≤ maxLen := by unfold maxLen; omega
    have hTh : (s.extract 0 (splN s))[0]'hTz = s.data.toList.headD 0 := by
      rw [← headD_zero _ hTz, hT, List.headD_eq_head?_getD, List.head?_take, if_neg hn0, List.headD_eq_head?_getD]
    have hcase : letU (s.data.toList.headD 0) = true ∨ (letU (s.data.toList.headD 0) = false ∧ digU (s.data.toList.headD 0) = true) := by
      rcases hl : s.data.toList with _ | ⟨c, r⟩
      · rw [hl] at h0; exact absurd spl_nil h0
      · rw [hl, spl_cons] at h0
        rw [List.headD_cons]
        by_cases h1 : letU c = true
        · exact Or.inl h1
        · rw [if_neg h1] at h0
          right
          refine ⟨by simpa using h1, ?_⟩
          by_cases h2 : digU c = true
          · exact h2
          · rw [if_neg h2] at h0; exact absurd rfl h0
    have hbT : BA (s.data.toList.take (spl s.data.toList)) = s.extract 0 (splN s) := by rw [← hsl, ← hT, ba_eq]
    have htk : (s.extract 0 (splN s)).data.toList = s.data.toList.take (spl s.data.toList) := by rw [hT, hsl]
    have hdr : (s.extract (splN s) s.size).data.toList = s.data.toList.drop (spl s.data.toList) := by rw [hR, hsl]
    rcases hcase with hl | ⟨hl, hd⟩
    · -- a word
      have hd := let_not_dig _ hl
      have hle57 : decide (((s.extract 0 (splN s))[0].toNat : Int) ≤ 57) = false := by
        rw [hTh]
        unfold letU letB at hl
        rw [decide_eq_true_iff] at hl
        rw [decide_eq_false_iff_not]
        omega
      have K2 := Lib.hid (fun w hm => iskey_any w (s.extract 0 (splN s)) (by omega) hm)
      have K3 := Lib.hid (fun w => name_any (s.extract 0 (splN s)) w hTm)
      have Hm := Lib.hid hm
      have Ht := Lib.hid htk
      have hf0 : fst3 s.data.toList = if keyB (s.extract 0 (splN s)).data.toList then (2, spl s.data.toList, 0) else if nameB (s.extract 0 (splN s)) then (1, spl s.data.toList, 0) else (0, 0, 11) := by
        unfold fst3
        rw [if_neg h0, hd, hbT, htk]
        rfl
      generalize spl s.data.toList = N at *
      have HF := Lib.hid hf0
      generalize hkq : keyB (s.extract 0 (splN s)).data.toList = kq at *
      generalize hnq : nameB (s.extract 0 (splN s)) = nq at *
      clear hT hR hTs hRs hTh hl hd hbT hdr hf0 hkq hnq htk hRm hn0 hhead hm h0 hsl
      generalize s.extract 0 (splN s) = T at *
      generalize s.extract (splN s) s.size = R at *
      cases kq with
      | true =>
        go_enter Try.func40, Try.ntmps40
        go_wp2_with fail
        refine K1.out.mono ?_
        rintro e w' ⟨rfl, n, rfl⟩
        go_wp2_with fail
        refine (K2.out _ (Hm.out.drewN n)).mono ?_
        rintro e w' ⟨rfl, rfl⟩
        go_wp2_with fail
        go_ret3
        exact fpost_of HF.out Ht.out (below_drew w n)
      | false =>
        cases nq with
        | true =>
          go_enter Try.func40, Try.ntmps40
          go_wp2_with fail
          refine K1.out.mono ?_
          rintro e w' ⟨rfl, n, rfl⟩
          go_wp2_with fail
          refine (K2.out _ (Hm.out.drewN n)).mono ?_
          rintro e w' ⟨rfl, rfl⟩
          go_wp2_with fail
          refine (K3.out _).mono ?_
          rintro e w' ⟨rfl, rfl⟩
          go_wp2_with fail
          go_ret3
          exact fpost_of HF.out Ht.out (below_drew w n)
        | false =>
          go_enter Try.func40, Try.ntmps40
          go_wp2_with fail
          refine K1.out.mono ?_
          rintro e w' ⟨rfl, n, rfl⟩
          go_wp2_with fail
          refine (K2.out _ (Hm.out.drewN n)).mono ?_
          rintro e w' ⟨rfl, rfl⟩
          go_wp2_with fail
          refine (K3.out _).mono ?_
          rintro e w' ⟨rfl, rfl⟩
          go_wp2_with fail
          go_ret3
          exact fpost_of HF.out rfl (below_drew w n)
    · -- a number
      have hle57 : decide (((s.extract 0 (splN s))[0].toNat : Int) ≤ 57) = true := by
        rw [hTh]
        unfold digU digB at hd
        rw [decide_eq_true_iff] at hd
        rw [decide_eq_true_iff]
        omega
      have K2 := Lib.hid (fun w => read_any (s.extract 0 (splN s)) w hTm)
      have K3 := Lib.hid (fun w => split_any (s.extract (splN s) s.size) w hRm)
      have Ht := Lib.hid htk
      have hbe := behind_eq s.data.toList hl
      rw [← hdr] at hbe
      have hspR : splN (s.extract (splN s) s.size) = spl (s.extract (splN s) s.size).data.toList := spl_eq _
      have hf0 : fst3 s.data.toList = (3, spl s.data.toList, if behindB (s.extract (splN s) s.size).data.toList then 3 else (rd (s.extract 0 (splN s))).2) := by
        unfold fst3
        rw [if_neg h0, hd, hbT, hdr]
        rfl
      generalize spl s.data.toList = N at *
      have HF := Lib.hid hf0
      have hT2 : ((s.extract (splN s) s.size).extract 0 (splN (s.extract (splN s) s.size))).size = splN (s.extract (splN s) s.size) := by
        have := splN_le (s.extract (splN s) s.size)
        simp at this ⊢; omega
      clear hT hTs hRs hTh hl hd hbT hf0 htk hRm hn0 hhead hm h0 hdr hR hsl
      rcases hbq : behindB (s.extract (splN s) s.size).data.toList with _ | _
      · rw [hbq] at HF hbe
        have hz2 : splN (s.extract (splN s) s.size) = 0 := by
          rw [decide_eq_false_iff_not] at hbe
          rw [hspR]; simpa using hbe
        have he2 : ((s.extract (splN s) s.size).extract 0 (splN (s.extract (splN s) s.size))).toList = [] := empty_list _ (hT2.trans hz2)
        clear hbe hspR hbq hT2 hz2
        generalize s.extract 0 (splN s) = T at *
        generalize s.extract (splN s) s.size = R at *
        generalize (rd T).1 = r1 at *
        generalize (rd T).2 = r2 at *
        unfold SplitPost at K3
        generalize R.extract 0 (splN R) = T2 at *
        generalize R.extract (splN R) R.size = R2 at *
        go_enter Try.func40, Try.ntmps40
        go_wp2_with fail
        refine K1.out.mono ?_
        rintro e w' ⟨rfl, n, rfl⟩
        go_wp2_with fail
        refine (K2.out _).mono ?_
        rintro e w' ⟨rfl, rfl⟩
        go_wp2_with fail
        refine (K3.out _).mono ?_
        rintro e w' ⟨rfl, n2, rfl⟩
        go_wp2_with fail
        go_ret3
        exact fpost_of HF.out Ht.out (below_drew w (n + n2))
      · rw [hbq] at HF hbe
        have hz2 : splN (s.extract (splN s) s.size) ≠ 0 := by
          rw [decide_eq_true_iff] at hbe
          rw [hspR]; exact hbe
        have he2 : ((s.extract (splN s) s.size).extract 0 (splN (s.extract (splN s) s.size))).toList.isEmpty = false := not_empty _ (by rw [hT2]; exact hz2)
        clear hbe hspR hbq hT2 hz2
        generalize s.extract 0 (splN s) = T at *
        generalize s.extract (splN s) s.size = R at *
        generalize (rd T).1 = r1 at *
        generalize (rd T).2 = r2 at *
        unfold SplitPost at K3
        generalize R.extract 0 (splN R) = T2 at *
        generalize R.extract (splN R) R.size = R2 at *
        go_enter Try.func40, Try.ntmps40
        go_wp2_with fail
        refine K1.out.mono ?_
        rintro e w' ⟨rfl, n, rfl⟩
        go_wp2_with fail
        refine (K2.out _).mono ?_
        rintro e w' ⟨rfl, rfl⟩
        go_wp2_with fail
        refine (K3.out _).mono ?_
        rintro e w' ⟨rfl, n2, rfl⟩
        go_wp2_with fail
        go_ret3
        exact fpost_of HF.out Ht.out (below_drew w (n + n2))
end Go.Proofs.Ytehieiddelngfaa.tk
