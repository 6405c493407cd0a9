/-
  weftref14's Base, Cell, Object and Of.
-/
import Derived.Test.YtenohenkedofkabDoorNmR
namespace Go.Proofs.YtenohenkedofkabDoor.nm
open Go.RowKit Go.Sort

theorem rread_yes (s : ByteArray) (w : World) (hs : s.size ≤ maxLen) (h : readB s = true) : Calls Tryd.prog 14 #[.string s] w (ReadYes s w) := by
  refine (rread_node s w hs).mono ?_
  rintro e w' ⟨rfl, hb⟩
  refine ⟨?_, hb⟩
  unfold readN readE
  rw [if_pos h, if_pos h]
theorem rread_no (s : ByteArray) (w : World) (hs : s.size ≤ maxLen) (h : readB s = false) : Calls Tryd.prog 14 #[.string s] w (ReadNo w) := by
  refine (rread_node s w hs).mono ?_
  rintro e w' ⟨rfl, hb⟩
  refine ⟨?_, hb⟩
  unfold readN readE
  rw [if_neg (by rw [h]; decide), if_neg (by rw [h]; decide)]
  rfl

set_option maxHeartbeats 1000000 in
theorem rbase_any (s : ByteArray) (w : World) (hs : s.size ≤ maxLen) : Calls Tryd.prog 18 #[.string s] w (StrPost (baseS s) w) := by
  rcases hr : readB s with _ | _
  · have Hr := Lib.hid (fun w => rread_no s w hs hr)
    have Hv : Hid (baseS s = ⟨#[]⟩) := Lib.hid (by unfold baseS; rw [hr]; rfl)
    unfold ReadNo at Hr
    clear hr
    unfold maxLen at hs
    go_enter Tryd.func18, Tryd.ntmps18
    go_wp2_with fail
    refine (Hr.out w).mono ?_
    rintro e w2 ⟨rfl, hb2⟩
    clear Hr
    go_wp2_with fail
    go_ret
    exact ⟨by rw [Hv.out]; rfl, by repeat (first | (with_reducible exact hb2) | (with_reducible refine Below.setCell ?_ (by simp [hb2.size]; done) _) | (with_reducible refine Below.alloc ?_ hb2.size _))⟩
  · have Hr := Lib.hid (fun w => rread_yes s w hs hr)
    have hm := readB_may hr
    have Hv : Hid (baseS s = txt ⟨(cand s).kind, (cand s).fn, 0, (cand s).name, (cand s).n, (cand s).cell⟩) := Lib.hid (by unfold baseS; rw [if_pos hr])
    obtain ⟨m1, m2⟩ := may_sizes _ hm
    unfold ReadYes at Hr
    generalize cand s = d at *
    obtain ⟨kind, fn, copy, name, n, cell⟩ := d
    have Ht := Lib.hid (fun w => rtext_any ⟨kind, fn, 0, name, n, cell⟩ w (small_le m2) (small_le m1))
    unfold Nd.val Nd.cells at Hr
    unfold TextPost Nd.val Nd.cells at Ht
    have Hv2 : Hid (baseS s = txt ⟨kind, fn, 0, name, n, cell⟩) := Hv
    generalize txt ⟨kind, fn, 0, name, n, cell⟩ = tt at *
    generalize terr ⟨kind, fn, 0, name, n, cell⟩ = te at *
    clear hr hm m1 m2 Hv
    unfold maxLen at hs
    go_enter Tryd.func18, Tryd.ntmps18
    go_wp2_with fail
    refine (Hr.out w).mono ?_
    rintro e w2 ⟨rfl, hb2⟩
    have hz := hb2.size
    clear Hr
    go_wp2_with fail
    refine call_abs (fun W' => Below w.heap.size w W') ?_ ?_
    · repeat (first | (with_reducible exact hb2) | (with_reducible refine Below.setCell ?_ (by simp; done) _) | (with_reducible refine Below.alloc ?_ (by simp; done) _) | (with_reducible refine Below.setCell ?_ hz _) | (with_reducible refine Below.alloc ?_ hz _))
    intro W4 hb4
    refine (Ht.out W4).mono ?_
    rintro e w5 ⟨rfl, b5⟩
    have hb5 := below_on hb4 b5
    clear hb4 b5 Ht
    go_wp2_with fail
    go_ret
    exact ⟨by rw [Hv2.out]; rfl, hb5⟩


set_option maxHeartbeats 1000000 in
theorem rcell_any (s : ByteArray) (k : Int) (w : World) (hs : s.size ≤ maxLen) : Calls Tryd.prog 22 #[.string s, .int .i64 k] w (StrPost (cellTS s k) w) := by
  rcases hr : readB s with _ | _
  · have Hr := Lib.hid (fun w => rread_no s w hs hr)
    have Hv : Hid (cellTS s k = ⟨#[]⟩) := Lib.hid (by unfold cellTS; rw [if_neg (by rintro ⟨h, _⟩; rw [hr] at h; exact absurd h (by decide))])
    unfold ReadNo at Hr
    clear hr
    unfold maxLen at hs
    go_enter Tryd.func22, Tryd.ntmps22
    go_wp2_with fail
    refine (Hr.out w).mono ?_
    rintro e w2 ⟨rfl, hb2⟩
    clear Hr
    go_wp2_with fail
    go_ret
    exact ⟨by rw [Hv.out]; rfl, by repeat (first | (with_reducible exact hb2) | (with_reducible refine Below.setCell ?_ (by simp [hb2.size]; done) _) | (with_reducible refine Below.alloc ?_ hb2.size _))⟩
  · have Hr := Lib.hid (fun w => rread_yes s w hs hr)
    have hm := readB_may hr
    have Hvv : cellTS s k = if (cand s).cell = -1 ∧ 0 ≤ k then txt ⟨(cand s).kind, (cand s).fn, (cand s).copy, (cand s).name, (cand s).n, k⟩ else ⟨#[]⟩ := by unfold cellTS; simp only [hr, true_and]
    obtain ⟨m1, m2⟩ := may_sizes _ hm
    have hmo := may_obj _ hm
    unfold ReadYes at Hr
    generalize cand s = d at *
    obtain ⟨kind, fn, copy, name, n, cell⟩ := d
    have Ht := Lib.hid (fun w => rtext_any ⟨kind, fn, copy, name, n, k⟩ w (small_le m2) (small_le m1))
    unfold Nd.val Nd.cells at Hr
    unfold TextPost Nd.val Nd.cells at Ht
    have Hv2 : Hid (cellTS s k = if cell = -1 ∧ 0 ≤ k then txt ⟨kind, fn, copy, name, n, k⟩ else ⟨#[]⟩) := Lib.hid Hvv
    have hmo : cell ≠ -1 → 5 ≤ kind := fun g => by have := (hmo g).1; simp only at this; omega
    have htt : kind < 5 → 0 ≤ k → txt ⟨kind, fn, copy, name, n, k⟩ = ⟨#[]⟩ := fun g h0 => by
      unfold txt
      rcases hq : mayB ⟨kind, fn, copy, name, n, k⟩ with _ | _
      · rfl
      · have := (may_obj _ hq (by show k ≠ -1; omega)).1
        simp only at this; omega
    generalize txt ⟨kind, fn, copy, name, n, k⟩ = tt at *
    generalize terr ⟨kind, fn, copy, name, n, k⟩ = te at *
    clear hr hm m1 m2 Hvv
    unfold maxLen at hs
    rcases Int.lt_or_le kind 5 with hk5 | hk5
    · have Hv3 : Hid (cellTS s k = ⟨#[]⟩) := Lib.hid (by
        rw [Hv2.out]
        by_cases g : cell = -1 ∧ 0 ≤ k
        · rw [if_pos g]; exact htt hk5 g.2
        · rw [if_neg g])
      have hkd : decide (kind < 5) = true := decide_eq_true hk5
      clear Hv2 Ht htt hmo hk5
      go_enter Tryd.func22, Tryd.ntmps22
      go_wp2_with fail
      refine (Hr.out w).mono ?_
      rintro e w2 ⟨rfl, hb2⟩
      clear Hr
      go_wp2_with fail
      go_ret
      exact ⟨by rw [Hv3.out]; rfl, by repeat (first | (with_reducible exact hb2) | (with_reducible refine Below.setCell ?_ (by simp [hb2.size]; done) _) | (with_reducible refine Below.alloc ?_ hb2.size _))⟩
    · have hkd : decide (kind < 5) = false := decide_eq_false (by omega)
      clear htt hmo hk5
      by_cases hc : cell = -1
      · by_cases hk : 0 ≤ k
        · have Hv3 : Hid (cellTS s k = tt) := Lib.hid (by rw [Hv2.out, if_pos ⟨hc, hk⟩])
          have hk2 : decide (k < 0) = false := by simp; omega
          subst hc
          clear Hv2 hk
          go_enter Tryd.func22, Tryd.ntmps22
          go_wp2_with fail
          refine (Hr.out w).mono ?_
          rintro e w2 ⟨rfl, hb2⟩
          have hz := hb2.size
          clear Hr
          go_wp2_with fail
          refine call_abs (fun W' => Below w.heap.size w W') ?_ ?_
          · repeat (first | (with_reducible exact hb2) | (with_reducible refine Below.setCell ?_ (by simp; done) _) | (with_reducible refine Below.alloc ?_ (by simp; done) _) | (with_reducible refine Below.setCell ?_ hz _) | (with_reducible refine Below.alloc ?_ hz _))
          intro W4 hb4
          refine (Ht.out W4).mono ?_
          rintro e w5 ⟨rfl, b5⟩
          have hb5 := below_on hb4 b5
          clear hb4 b5 Ht
          go_wp2_with fail
          go_ret
          exact ⟨by rw [Hv3.out]; rfl, hb5⟩
        · have Hv3 : Hid (cellTS s k = ⟨#[]⟩) := Lib.hid (by rw [Hv2.out, if_neg (by rintro ⟨_, h⟩; exact hk h)])
          have hk2 : decide (k < 0) = true := by simp; omega
          subst hc
          clear Hv2 hk Ht
          go_enter Tryd.func22, Tryd.ntmps22
          go_wp2_with fail
          refine (Hr.out w).mono ?_
          rintro e w2 ⟨rfl, hb2⟩
          clear Hr
          go_wp2_with fail
          go_ret
          exact ⟨by rw [Hv3.out]; rfl, by repeat (first | (with_reducible exact hb2) | (with_reducible refine Below.setCell ?_ (by simp [hb2.size]; done) _) | (with_reducible refine Below.alloc ?_ hb2.size _))⟩
      · have Hv3 : Hid (cellTS s k = ⟨#[]⟩) := Lib.hid (by rw [Hv2.out, if_neg (by rintro ⟨h, _⟩; exact hc h)])
        have hc2 : (cell != -1) = true := by rw [bne_iff_ne]; exact hc
        clear Hv2 Ht hc
        go_enter Tryd.func22, Tryd.ntmps22
        go_wp2_with fail
        refine (Hr.out w).mono ?_
        rintro e w2 ⟨rfl, hb2⟩
        clear Hr
        go_wp2_with fail
        go_ret
        exact ⟨by rw [Hv3.out]; rfl, by repeat (first | (with_reducible exact hb2) | (with_reducible refine Below.setCell ?_ (by simp [hb2.size]; done) _) | (with_reducible refine Below.alloc ?_ hb2.size _))⟩

set_option maxHeartbeats 1000000 in
theorem robject_any (s : ByteArray) (w : World) (hs : s.size ≤ maxLen) : Calls Tryd.prog 16 #[.string s] w (ObjPost s w) := by
  rcases hr : readB s with _ | _
  · have Hr := Lib.hid (fun w => rread_no s w hs hr)
    have hn : ¬ (readB s = true ∧ (cand s).cell ≠ -1) := by rintro ⟨h, _⟩; rw [hr] at h; exact absurd h (by decide)
    have Hv1 : Hid (objS s = ⟨#[]⟩) := Lib.hid (by unfold objS; rw [if_neg hn])
    have Hv2 : Hid (objN s = 0) := Lib.hid (by unfold objN; rw [if_neg hn])
    have Hv3 : Hid (objB s = false) := Lib.hid (by unfold objB; rw [decide_eq_false hn])
    unfold ReadNo at Hr
    clear hr hn
    unfold maxLen at hs
    go_enter Tryd.func16, Tryd.ntmps16
    go_wp2_with fail
    refine (Hr.out w).mono ?_
    rintro e w2 ⟨rfl, hb2⟩
    clear Hr
    go_wp2_with fail
    refine bodyPost_ret (results_tmp3 rfl _ _ _) rfl ?_
    exact ⟨by rw [Hv1.out, Hv2.out, Hv3.out]; rfl, by repeat (first | (with_reducible exact hb2) | (with_reducible refine Below.setCell ?_ (by simp [hb2.size]; done) _) | (with_reducible refine Below.alloc ?_ hb2.size _))⟩
  · have Hr := Lib.hid (fun w => rread_yes s w hs hr)
    have hm := readB_may hr
    by_cases hc : (cand s).cell = -1
    · have hn : ¬ (readB s = true ∧ (cand s).cell ≠ -1) := by rintro ⟨_, h⟩; exact h hc
      have Hv1 : Hid (objS s = ⟨#[]⟩) := Lib.hid (by unfold objS; rw [if_neg hn])
      have Hv2 : Hid (objN s = 0) := Lib.hid (by unfold objN; rw [if_neg hn])
      have Hv3 : Hid (objB s = false) := Lib.hid (by unfold objB; rw [decide_eq_false hn])
      unfold ReadYes at Hr
      generalize cand s = d at *
      obtain ⟨kind, fn, copy, name, n, cell⟩ := d
      have hc' : cell = -1 := hc
      subst hc'
      unfold Nd.val Nd.cells at Hr
      clear hr hm hn hc
      unfold maxLen at hs
      go_enter Tryd.func16, Tryd.ntmps16
      go_wp2_with fail
      refine (Hr.out w).mono ?_
      rintro e w2 ⟨rfl, hb2⟩
      clear Hr
      go_wp2_with fail
      refine bodyPost_ret (results_tmp3 rfl _ _ _) rfl ?_
      exact ⟨by rw [Hv1.out, Hv2.out, Hv3.out]; rfl, by repeat (first | (with_reducible exact hb2) | (with_reducible refine Below.setCell ?_ (by simp [hb2.size]; done) _) | (with_reducible refine Below.alloc ?_ hb2.size _))⟩
    · have hn : (readB s = true ∧ (cand s).cell ≠ -1) := ⟨hr, hc⟩
      have Hv1 : objS s = txt ⟨(cand s).kind, (cand s).fn, (cand s).copy, (cand s).name, (cand s).n, -1⟩ := by unfold objS; rw [if_pos hn]
      have Hv2 : objN s = (cand s).cell := by unfold objN; rw [if_pos hn]
      have Hv3 : Hid (objB s = true) := Lib.hid (by unfold objB; rw [decide_eq_true hn])
      obtain ⟨m1, m2⟩ := may_sizes _ hm
      unfold ReadYes at Hr
      clear hn
      generalize cand s = d at *
      obtain ⟨kind, fn, copy, name, n, cell⟩ := d
      have hcb := (may_bounds _ hm).2.1.1
      have hcb : -1 ≤ cell := hcb
      have hc3 : ¬ cell = -1 := hc
      have hc2 : decide (cell < 0) = false := decide_eq_false (by omega)
      clear hcb hc3
      have Ht := Lib.hid (fun w => rtext_any ⟨kind, fn, copy, name, n, -1⟩ w (small_le m2) (small_le m1))
      unfold Nd.val Nd.cells at Hr
      unfold TextPost Nd.val Nd.cells at Ht
      have Hv1 : Hid (objS s = txt ⟨kind, fn, copy, name, n, -1⟩) := Lib.hid Hv1
      have Hv2 : Hid (objN s = cell) := Lib.hid Hv2
      generalize txt ⟨kind, fn, copy, name, n, -1⟩ = tt at *
      generalize terr ⟨kind, fn, copy, name, n, -1⟩ = te at *
      clear hr hm m1 m2 hc
      unfold maxLen at hs
      go_enter Tryd.func16, Tryd.ntmps16
      go_wp2_with fail
      refine (Hr.out w).mono ?_
      rintro e w2 ⟨rfl, hb2⟩
      have hz := hb2.size
      clear Hr
      go_wp2_with fail
      refine call_abs (fun W' => Below w.heap.size w W') ?_ ?_
      · repeat (first | (with_reducible exact hb2) | (with_reducible refine Below.setCell ?_ (by simp; done) _) | (with_reducible refine Below.alloc ?_ (by simp; done) _) | (with_reducible refine Below.setCell ?_ hz _) | (with_reducible refine Below.alloc ?_ hz _))
      intro W4 hb4
      refine (Ht.out W4).mono ?_
      rintro e w5 ⟨rfl, b5⟩
      have hb5 := below_on hb4 b5
      clear hb4 b5 Ht
      go_wp2_with fail
      refine bodyPost_ret (results_tmp3 rfl _ _ _) rfl ?_
      exact ⟨by rw [Hv1.out, Hv2.out, Hv3.out]; rfl, hb5⟩

set_option maxHeartbeats 1000000 in
theorem rof_any (kind : Int) (fn name : ByteArray) (n : Int) (w : World) (hsf : fn.size ≤ maxLen) (hsn : name.size ≤ maxLen) : Calls Tryd.prog 20 #[.int .i64 kind, .string fn, .string name, .int .i64 n] w (StrPost (txt ⟨kind, fn, 0, name, n, -1⟩) w) := by
  have Ht := Lib.hid (fun w => rtext_any ⟨kind, fn, 0, name, n, -1⟩ w hsn hsf)
  unfold TextPost Nd.val Nd.cells at Ht
  generalize txt ⟨kind, fn, 0, name, n, -1⟩ = tt at *
  generalize terr ⟨kind, fn, 0, name, n, -1⟩ = te at *
  unfold maxLen at hsf hsn
  go_enter Tryd.func20, Tryd.ntmps20
  go_wp2_with fail
  refine call_abs (fun W' => Below w.heap.size w W') ?_ ?_
  · repeat (first | (with_reducible exact Below.refl _ _) | (with_reducible refine Below.setCell ?_ (by simp; done) _) | (with_reducible refine Below.alloc ?_ (by simp; done) _))
  intro W4 hb4
  refine (Ht.out W4).mono ?_
  rintro e w5 ⟨rfl, b5⟩
  have hb5 := below_on hb4 b5
  clear hb4 b5 Ht
  go_wp2_with fail
  go_ret
  exact ⟨rfl, hb5⟩

end Go.Proofs.YtenohenkedofkabDoor.nm
