/-
  14.2, 14.3: a base is its own base.
-/
import Derived.Test.YtenohenkedofkabDoorNmW
import Derived.Test.YtenohenkedofkabDoorNmP
namespace Go.Proofs.YtenohenkedofkabDoor.nm
open Go.RowKit Go.Sort

theorem le_of_lists {a b : ByteArray} (h : a.data.toList.length ≤ b.data.toList.length) : a.size ≤ b.size := by
  have h1 := dg.size_list a
  have h2 := dg.size_list b
  omega

theorem base_facts (s : ByteArray) (h : readB s = true) : readB (baseS s) = true ∧ cand (baseS s) = ⟨(cand s).kind, (cand s).fn, 0, (cand s).name, (cand s).n, (cand s).cell⟩ ∧ baseS (baseS s) = baseS s ∧ (baseS s).size ≤ s.size := by
  have hm : mayB (cand s) = true := by unfold readB at h; rw [Bool.and_eq_true] at h; exact h.1
  have hb := may_base _ hm
  have e : baseS s = txt ⟨(cand s).kind, (cand s).fn, 0, (cand s).name, (cand s).n, (cand s).cell⟩ := by unfold baseS; rw [if_pos h]
  have hc : cand (baseS s) = ⟨(cand s).kind, (cand s).fn, 0, (cand s).name, (cand s).n, (cand s).cell⟩ := by rw [e, cand_txt _ hb]
  have hr : readB (baseS s) = true := by rw [e, readB_txt _ hb]
  refine ⟨hr, hc, ?_, ?_⟩
  · have : baseS (baseS s) = txt ⟨(cand (baseS s)).kind, (cand (baseS s)).fn, 0, (cand (baseS s)).name, (cand (baseS s)).n, (cand (baseS s)).cell⟩ := by rw [baseS]; rw [if_pos hr]
    rw [this, hc, ← e]
  · apply le_of_lists
    rw [e, txt_list _ hb, ← txt_cand s h, txt_list _ hm, txt_cand s h]
    unfold textL
    rw [show copyL (0 : Int) = [] from by unfold copyL; rfl]
    simp only [List.length_append, bodyL, List.length_nil]
    omega

theorem cell_val (s : ByteArray) (k : Int) (d : Nd) (hr : readB s = true) (hc : cand s = d) (h1 : d.cell = -1) (hk : 0 ≤ k) : cellTS s k = txt ⟨d.kind, d.fn, d.copy, d.name, d.n, k⟩ := by
  subst hc
  unfold cellTS
  rw [if_pos ⟨hr, h1, hk⟩]

theorem nd_eta (d : Nd) : (⟨d.kind, d.fn, d.copy, d.name, d.n, d.cell⟩ : Nd) = d := rfl

theorem obj_with (s : ByteArray) (d : Nd) (he : cand s = d) (h : readB s = true) (hn : d.cell ≠ -1) : objB (objS s) = false ∧ cellTS (objS s) d.cell = s ∧ objN s = d.cell ∧ objB s = true ∧ (objS s).size ≤ s.size := by
  have hm : mayB d = true := by unfold readB at h; rw [Bool.and_eq_true, he] at h; exact h.1
  have ht : txt d = s := by rw [← he]; exact txt_cand s h
  have e : objS s = txt ⟨d.kind, d.fn, d.copy, d.name, d.n, -1⟩ := by unfold objS; rw [he, if_pos ⟨h, hn⟩]
  have e2 : objN s = d.cell := by unfold objN; rw [he, if_pos ⟨h, hn⟩]
  have e3 : objB s = true := by unfold objB; rw [he]; exact decide_eq_true ⟨h, hn⟩
  obtain ⟨_, ⟨hc1, hc2⟩, _, _⟩ := may_bounds _ hm
  obtain ⟨_, hall⟩ := may_obj _ hm hn
  have hb := hall (-1) (by omega) (by omega)
  have hl := txt_list _ hb
  have hl2 := txt_list _ hm
  have hc : cand (objS s) = ⟨d.kind, d.fn, d.copy, d.name, d.n, -1⟩ := by rw [e, cand_txt _ hb]
  have hr : readB (objS s) = true := by rw [e, readB_txt _ hb]
  rw [ht] at hl2
  rw [← e] at hl
  have hc0 : 0 ≤ d.cell := by omega
  clear e he h hm hb hall
  generalize objS s = o at *
  refine ⟨?_, ?_, e2, e3, ?_⟩
  · unfold objB; rw [hc]; exact decide_eq_false (fun g => g.2 rfl)
  · rw [cell_val o d.cell _ hr hc rfl hc0]
    show txt ⟨d.kind, d.fn, d.copy, d.name, d.n, d.cell⟩ = s
    rw [nd_eta]; exact ht
  · apply le_of_lists
    rw [hl, hl2]
    unfold textL
    rw [show cellL (-1 : Int) = [] from by unfold cellL; rfl]
    simp only [List.length_append, bodyL, List.length_nil]
    omega

theorem obj_facts (s : ByteArray) (h : readB s = true) (hn : (cand s).cell ≠ -1) : objB (objS s) = false ∧ cellTS (objS s) (cand s).cell = s ∧ objN s = (cand s).cell ∧ objB s = true ∧ (objS s).size ≤ s.size := obj_with s _ rfl h hn

theorem obj_none (s : ByteArray) (h : readB s = false ∨ (cand s).cell = -1) : objS s = ⟨#[]⟩ ∧ objN s = 0 ∧ objB s = false := by
  have hn : ¬ (readB s = true ∧ (cand s).cell ≠ -1) := by rintro ⟨h1, h2⟩; rcases h with h | h; rw [h] at h1; cases h1; exact h2 h
  exact ⟨by unfold objS; rw [if_neg hn], by unfold objN; rw [if_neg hn], by unfold objB; exact decide_eq_false hn⟩

theorem base_none (s : ByteArray) (h : readB s = false) : baseS s = ⟨#[]⟩ := by unfold baseS; rw [h]; rfl

set_option maxRecDepth 100000 in
set_option maxHeartbeats 1000000 in
theorem law_base_big (hd : Held) (he : HeldE) (s : ByteArray) (w : World) (htab : Tab w) (hb : 300 < s.size) : Calls Tryd.prog 7 #[.string s] w (WorksPost w) := by
  have Hw := Lib.hid (fun w h => works_any hd he w h)
  unfold WorksPost at Hw
  have Htab := Lib.hid htab
  have hbb : decide (300 < (s.size : Int)) = true := decide_eq_true (by omega)
  clear htab hd he
  go_enter Tryd.func7, Tryd.ntmps7
  go_wp2_with fail
  refine (Hw.out _ Htab.out).mono ?_
  rintro e w1 ⟨rfl, b1⟩
  go_wp2_with fail
  go_ret
  exact ⟨rfl, b1⟩

set_option maxRecDepth 100000 in
set_option maxHeartbeats 1000000 in
theorem law_base_no (hd : Held) (he : HeldE) (s : ByteArray) (w : World) (hs : s.size ≤ maxLen) (htab : Tab w) (hb : ¬ 300 < s.size) (hr : readB s = false) : Calls Tryd.prog 7 #[.string s] w (WorksPost w) := by
  have Hw := Lib.hid (fun w h => works_any hd he w h)
  unfold WorksPost at Hw
  have Hr := Lib.hid (fun w h => read_no hd s w hs h hr)
  have Hb := Lib.hid (fun w h => base_any hd s w hs h)
  have Ho := Lib.hid (fun w h => object_any hd s w hs h)
  obtain ⟨e1, e2, e3⟩ := obj_none s (Or.inl hr)
  unfold StrPost at Hb
  unfold ObjPost at Ho
  unfold ReadNo at Hr
  rw [base_none s hr] at Hb
  rw [e1, e2, e3] at Ho
  clear e1 e2 e3
  have Htab := Lib.hid htab
  have hbb : decide (300 < (s.size : Int)) = false := decide_eq_false (by omega)
  clear htab hd he hr
  go_enter Tryd.func7, Tryd.ntmps7
  go_wp2_with fail
  refine (Hw.out _ Htab.out).mono ?_
  rintro e w1 ⟨rfl, b1⟩
  go_wp2_with fail
  refine (Hr.out _ (tab_below Htab.out b1)).mono ?_
  rintro e w2 ⟨rfl, b2⟩
  have hb2 : Below w.heap.size w (w2.alloc (.cells #[.int .i64 0, .string ⟨#[]⟩, .int .i64 0, .string ⟨#[]⟩, .int .i64 0, .int .i64 0] 28)) := Below.alloc (below_on b1 b2) (below_on b1 b2).size _
  clear b1 b2 Hr Hw
  go_wp2_with fail
  refine (Hb.out _ (tab_below Htab.out hb2)).mono ?_
  rintro e w3 ⟨rfl, b3⟩
  have hb3 := below_on hb2 b3
  clear hb2 b3 Hb
  go_wp2_with fail
  refine (Ho.out _ (tab_below Htab.out hb3)).mono ?_
  rintro e w4 ⟨rfl, b4⟩
  have hb4 := below_on hb3 b4
  clear hb3 b4 Ho
  have hem : ((⟨#[]⟩ : ByteArray).toList.isEmpty) = true := by rw [ByteArray.toList_eq]; rfl
  go_wp2_with fail
  go_ret
  exact ⟨rfl, hb4⟩

set_option maxRecDepth 100000 in
set_option maxHeartbeats 2000000 in
theorem law_base_yes (hd : Held) (he : HeldE) (s : ByteArray) (w : World) (hs : s.size ≤ maxLen) (htab : Tab w) (hb : ¬ 300 < s.size) (hr : readB s = true) : Calls Tryd.prog 7 #[.string s] w (WorksPost w) := by
  have Hw := Lib.hid (fun w h => works_any hd he w h)
  unfold WorksPost at Hw
  obtain ⟨f1, f2, f3, f4⟩ := base_facts s hr
  have hm : mayB (cand s) = true := by unfold readB at hr; rw [Bool.and_eq_true] at hr; exact hr.1
  obtain ⟨_, ⟨hc1, hc2⟩, _, _⟩ := may_bounds _ hm
  have Hr := Lib.hid (fun w h => read_yes hd s w hs h hr)
  have Hb := Lib.hid (fun w h => base_any hd s w hs h)
  have Ho := Lib.hid (fun w h => object_any hd s w hs h)
  have Hr2 := Lib.hid (fun w h => read_yes hd (baseS s) w (Nat.le_trans f4 hs) h f1)
  have Hb2 := Lib.hid (fun w h => base_any hd (baseS s) w (Nat.le_trans f4 hs) h)
  rw [f3] at Hb2
  unfold StrPost at Hb Hb2
  unfold ObjPost at Ho
  unfold ReadYes at Hr Hr2
  rw [f2] at Hr2
  have Htab := Lib.hid htab
  have hbb : decide (300 < (s.size : Int)) = false := decide_eq_false (by omega)
  rcases Classical.em ((cand s).cell = -1) with hce | hce
  · obtain ⟨e1, e2, e3⟩ := obj_none s (Or.inr hce)
    rw [e1, e2, e3] at Ho
    obtain ⟨kind, hk⟩ : ∃ kind, (cand s).kind = kind := ⟨_, rfl⟩
    obtain ⟨d, hd'⟩ : ∃ d, cand s = d := ⟨_, rfl⟩
    clear e1 e2 e3 hk
    rw [hd'] at Hr Hr2 hce
    clear hd' hr f1 f2 f3 f4 hd he htab hm hc1 hc2
    obtain ⟨kind, fn, copy, name, n, cell⟩ := d
    obtain rfl : cell = -1 := hce
    generalize baseS s = b at *
    unfold Nd.val Nd.cells at Hr Hr2
    have hself : (b.toList == b.toList) = true := by simp
    go_enter Tryd.func7, Tryd.ntmps7
    go_wp2_with fail
    refine (Hw.out _ Htab.out).mono ?_
    rintro e w1 ⟨rfl, b1⟩
    go_wp2_with fail
    refine (Hr.out _ (tab_below Htab.out b1)).mono ?_
    rintro e w2 ⟨rfl, b2⟩
    have hb2 : Below w.heap.size w (w2.alloc (.cells #[.int .i64 kind, .string fn, .int .i64 copy, .string name, .int .i64 n, .int .i64 (-1)] 28)) := Below.alloc (below_on b1 b2) (below_on b1 b2).size _
    have s2 : Six ⟨kind, fn, copy, name, n, -1⟩ w2.heap.size (w2.alloc (.cells #[.int .i64 kind, .string fn, .int .i64 copy, .string name, .int .i64 n, .int .i64 (-1)] 28)) := Six.new _ _ _
    have hl2 : w2.heap.size < (w2.alloc (.cells #[.int .i64 kind, .string fn, .int .i64 copy, .string name, .int .i64 n, .int .i64 (-1)] 28)).heap.size := by simp
    clear b1 b2 Hr Hw
    go_wp2_with fail
    refine (Hb.out _ (tab_below Htab.out hb2)).mono ?_
    rintro e w3 ⟨rfl, b3⟩
    have hb3 := below_on hb2 b3
    have s3 := s2.on b3
    clear hb2 b3 Hb s2
    generalize hg : w2.heap.size = g at *
    clear hg
    go_wp2_with fail
    refine (Ho.out _ (tab_below Htab.out hb3)).mono ?_
    rintro e w4 ⟨rfl, b4⟩
    have hb4 := below_on hb3 b4
    have s4 := s3.on b4
    clear hb3 b4 Ho s3
    go_wp2_with fail
    refine (Hr2.out _ (tab_below Htab.out hb4)).mono ?_
    rintro e w5 ⟨rfl, b5⟩
    have hb5 := below_on hb4 b5
    have s5 := s4.on b5
    clear s4
    have hb6 : Below w.heap.size w (w5.alloc (.cells #[.int .i64 kind, .string fn, .int .i64 0, .string name, .int .i64 n, .int .i64 (-1)] 28)) := Below.alloc hb5 hb5.size _
    have s6 := Lib.hid (s5.on (Below.alloc (Below.refl _ _) (Nat.le_refl _) (.cells #[.int .i64 kind, .string fn, .int .i64 0, .string name, .int .i64 n, .int .i64 (-1)] 28)))
    have t6 : Six ⟨kind, fn, 0, name, n, -1⟩ w5.heap.size (w5.alloc (.cells #[.int .i64 kind, .string fn, .int .i64 0, .string name, .int .i64 n, .int .i64 (-1)] 28)) := Six.new _ _ _
    clear s5 hb5 b5 hb4 Hr2
    go_wp2_with fail
    refine (Hb2.out _ (tab_below Htab.out hb6)).mono ?_
    rintro e w7 ⟨rfl, b7⟩
    have hb7 := below_on hb6 b7
    obtain ⟨k0, k1, k2, k3, k4, k5⟩ := s6.out.on b7
    obtain ⟨m0, m1, m2, m3, m4, m5⟩ := t6.on b7
    clear b7 hb6 s6 t6 Hb2
    generalize w5.heap.size = g2 at *
    go_wp2_with fail
    go_ret
    exact ⟨rfl, hb7⟩
  · obtain ⟨e4, e5, e2, e3, e6⟩ := obj_facts s hr hce
    rw [e2, e3] at Ho
    have Ho2 := Lib.hid (fun w h => object_any hd (objS s) w (Nat.le_trans e6 hs) h)
    have Hc := Lib.hid (fun w h => cell_any hd (objS s) (cand s).cell w (Nat.le_trans e6 hs) h)
    unfold ObjPost at Ho2
    unfold StrPost at Hc
    rw [e4] at Ho2
    rw [e5] at Hc
    obtain ⟨kind, hk⟩ : ∃ kind, (cand s).kind = kind := ⟨_, rfl⟩
    obtain ⟨d, hd'⟩ : ∃ d, cand s = d := ⟨_, rfl⟩
    clear e2 e3 e4 e5 e6 hk
    rw [hd'] at Hr Hr2 hce hc1 Ho Hc
    clear hd' hr f1 f2 f3 f4 hd he htab hm hc2
    obtain ⟨kind, fn, copy, name, n, cell⟩ := d
    have hce : ¬ cell = -1 := hce
    have hc1 : -1 ≤ cell := hc1
    have hcd : decide (0 ≤ cell) = true := decide_eq_true (by omega)
    generalize baseS s = b at *
    generalize objS (objS s) = oo at *
    generalize objN (objS s) = on at *
    generalize objS s = o at *
    have hss : (s.toList == s.toList) = true := by simp
    unfold Nd.val Nd.cells at Hr Hr2
    have hself : (b.toList == b.toList) = true := by simp
    go_enter Tryd.func7, Tryd.ntmps7
    go_wp2_with fail
    refine (Hw.out _ Htab.out).mono ?_
    rintro e w1 ⟨rfl, b1⟩
    go_wp2_with fail
    refine (Hr.out _ (tab_below Htab.out b1)).mono ?_
    rintro e w2 ⟨rfl, b2⟩
    have hb2 : Below w.heap.size w (w2.alloc (.cells #[.int .i64 kind, .string fn, .int .i64 copy, .string name, .int .i64 n, .int .i64 cell] 28)) := Below.alloc (below_on b1 b2) (below_on b1 b2).size _
    have s2 : Six ⟨kind, fn, copy, name, n, cell⟩ w2.heap.size (w2.alloc (.cells #[.int .i64 kind, .string fn, .int .i64 copy, .string name, .int .i64 n, .int .i64 cell] 28)) := Six.new _ _ _
    have hl2 : w2.heap.size < (w2.alloc (.cells #[.int .i64 kind, .string fn, .int .i64 copy, .string name, .int .i64 n, .int .i64 cell] 28)).heap.size := by simp
    clear b1 b2 Hr Hw
    go_wp2_with fail
    refine (Hb.out _ (tab_below Htab.out hb2)).mono ?_
    rintro e w3 ⟨rfl, b3⟩
    have hb3 := below_on hb2 b3
    have s3 := s2.on b3
    clear hb2 b3 Hb s2
    generalize hg : w2.heap.size = g at *
    clear hg
    go_wp2_with fail
    refine (Ho.out _ (tab_below Htab.out hb3)).mono ?_
    rintro e w4 ⟨rfl, b4⟩
    have hb4 := below_on hb3 b4
    have s4 := s3.on b4
    clear hb3 b4 Ho s3
    go_wp2_with fail
    refine (Hr2.out _ (tab_below Htab.out hb4)).mono ?_
    rintro e w5 ⟨rfl, b5⟩
    have hb5 := below_on hb4 b5
    have s5 := s4.on b5
    clear s4
    have hb6 : Below w.heap.size w (w5.alloc (.cells #[.int .i64 kind, .string fn, .int .i64 0, .string name, .int .i64 n, .int .i64 cell] 28)) := Below.alloc hb5 hb5.size _
    have s6 := Lib.hid (s5.on (Below.alloc (Below.refl _ _) (Nat.le_refl _) (.cells #[.int .i64 kind, .string fn, .int .i64 0, .string name, .int .i64 n, .int .i64 cell] 28)))
    have t6 : Six ⟨kind, fn, 0, name, n, cell⟩ w5.heap.size (w5.alloc (.cells #[.int .i64 kind, .string fn, .int .i64 0, .string name, .int .i64 n, .int .i64 cell] 28)) := Six.new _ _ _
    clear s5 hb5 b5 hb4 Hr2
    go_wp2_with fail
    refine (Hb2.out _ (tab_below Htab.out hb6)).mono ?_
    rintro e w7 ⟨rfl, b7⟩
    have hb7 := below_on hb6 b7
    obtain ⟨k0, k1, k2, k3, k4, k5⟩ := s6.out.on b7
    obtain ⟨m0, m1, m2, m3, m4, m5⟩ := t6.on b7
    clear b7 hb6 s6 t6 Hb2
    generalize w5.heap.size = g2 at *
    have n7 : Hid (Six ⟨kind, fn, copy, name, n, cell⟩ g w7) := Lib.hid ⟨k0, k1, k2, k3, k4, k5⟩
    go_wp2_with fail
    refine (Ho2.out _ (tab_below Htab.out hb7)).mono ?_
    rintro e w8 ⟨rfl, b8⟩
    have hb8 := below_on hb7 b8
    have s8 := n7.out.on b8
    clear b8 hb7 n7 k0 k1 k2 k3 k4 k5 m0 m1 m2 m3 m4 m5 Ho2
    go_wp2_with fail
    refine (Hc.out _ (tab_below Htab.out hb8)).mono ?_
    rintro e w9 ⟨rfl, b9⟩
    have hb9 := below_on hb8 b9
    obtain ⟨k0, k1, k2, k3, k4, k5⟩ := s8.on b9
    clear b9 hb8 s8 Hc
    go_wp2_with fail
    go_ret
    exact ⟨rfl, hb9⟩

theorem law_base (hd : Held) (he : HeldE) (s : ByteArray) (w : World) (hs : s.size ≤ maxLen) (htab : Tab w) : Calls Tryd.prog 7 #[.string s] w (WorksPost w) := by
  by_cases hb : 300 < s.size
  · exact law_base_big hd he s w htab hb
  · rcases hr : readB s with _ | _
    · exact law_base_no hd he s w hs htab hb hr
    · exact law_base_yes hd he s w hs htab hb hr
end Go.Proofs.YtenohenkedofkabDoor.nm
