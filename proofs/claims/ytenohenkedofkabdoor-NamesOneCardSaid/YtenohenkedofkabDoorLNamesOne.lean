/-
  14.3: one text for each.
-/
import Derived.Test.YtenohenkedofkabDoorLNamesTexts
import Derived.Test.YtenohenkedofkabDoorLNamesBase
import Derived.Lib.QuietBelow
namespace Go.Proofs.YtenohenkedofkabDoor.nm
open Go.RowKit Go.Sort

/-- What the walks take of the comparison of two nodes of the reference. -/
structure HeldR : Prop where
  eql : ∀ (a b : Nd) (w : World), (binOp .eql 23 a.val b.val).run Tryd.prog w = .ok (.bool (sameB a b)) w
  guard : ∀ (op : BinOp) (x y : Operand) (xs ys : Array Value) (w : World), (eqGuard op 23 x y (.agg xs) (.agg ys)).run Tryd.prog w = .ok () w

theorem txt_le (d : Nd) (hm : mayB d = true) : (txt d).size ≤ 100 := by
  obtain ⟨⟨c1, c2⟩, ⟨l1, l2⟩, h1, h7⟩ := may_bounds d hm
  obtain ⟨m1, m2⟩ := may_sizes d hm
  have hl := dg.size_list (txt d)
  rw [txt_list d hm] at hl
  have hf := dg.size_list d.fn
  have hn := dg.size_list d.name
  have a2 : (copyL d.copy).length ≤ 21 := by
    unfold copyL; split
    · rw [List.length_cons]; have := itoa_len d.copy c1 c2; omega
    · simp
  have a3 : (markL d.kind).length ≤ 2 := by unfold markL; repeat' split
                                            all_goals simp
  have a4 : (bodyL d).length ≤ 20 := by
    unfold bodyL; split
    · omega
    · split
      · rename_i hk
        obtain ⟨n1, n2⟩ := may_n d hm hk
        exact itoa_len d.n n1 n2
      · simp
  have a5 : (cellL d.cell).length ≤ 21 := by
    unfold cellL; split
    · simp
    · rw [List.length_cons]; have := itoa_len d.cell (by omega) l2; omega
  unfold textL at hl
  simp only [List.length_append] at hl
  omega

theorem same_self (a : Nd) : sameB a a = true := by unfold sameB; simp
theorem bytes_of {a b : ByteArray} (h : a.toList = b.toList) : a = b := by
  rw [ByteArray.toList_eq, ByteArray.toList_eq] at h
  exact same_bytes h
theorem same_eq (a b : Nd) (h : sameB a b = true) : a = b := by
  obtain ⟨k, f, c, n, x, l⟩ := a
  obtain ⟨k', f', c', n', x', l'⟩ := b
  unfold sameB at h
  simp only [Bool.and_eq_true, beq_iff_eq] at h
  obtain ⟨h1, h2, h3, h4, h5, h6⟩ := h
  rw [h1, bytes_of h2, h3, bytes_of h4, h5, h6]
theorem txt_same (a b : Nd) (ha : mayB a = true) (hb : mayB b = true) : ((txt a).toList == (txt b).toList) = sameB a b := by
  rw [Bool.eq_iff_iff, beq_iff_eq]
  constructor
  · intro h
    have := txt_inj a b ha hb (bytes_of h)
    subst this
    exact same_self a
  · intro h
    rw [same_eq a b h]

/-- the two nodes as they lie -/
def OS (w v : World) (a b : Nd) : Prop := Below w.heap.size w v ∧ Six a w.heap.size v ∧ Six b (w.heap.size + 1) v
theorem OS.on {w v v' : World} {a b : Nd} (h : OS w v a b) (hb : Below v.heap.size v v') : OS w v' a b := ⟨below_on h.1 hb, h.2.1.on hb, h.2.2.on hb⟩
theorem OS.new (w : World) (a b : Nd) (t t' : TypeId) : OS w ((w.alloc (.cells a.cells t)).alloc (.cells b.cells t')) a b := by
  refine ⟨Below.alloc (Below.alloc (Below.refl _ _) (Nat.le_refl _) _) (by simp) _, (Six.new a w t).on (Below.alloc (Below.refl _ _) (Nat.le_refl _) _), ?_⟩
  have := Six.new b (w.alloc (.cells a.cells t)) t'
  rwa [show (w.alloc (.cells a.cells t)).heap.size = w.heap.size + 1 from by simp] at this


set_option maxRecDepth 100000 in
set_option maxHeartbeats 4000000 in
theorem one_ga (hd : Held) (he : HeldE) (hR : HeldR) (a b : Nd) (s : ByteArray) (w : World) (af : a.fn.size ≤ maxLen) (an : a.name.size ≤ maxLen) (bf : b.fn.size ≤ maxLen) (bn : b.name.size ≤ maxLen) (hs : s.size ≤ maxLen) (htab : Tab w) (hga : 200 < a.fn.size ∨ 200 < a.name.size) : Calls Tryd.prog 6 #[a.val, b.val, .string s] w (WorksPost w) := by
  have Hw := Lib.hid (fun w h => works_any hd he w h)
  unfold WorksPost at Hw
  have Ga := Lib.hid (fun w => great_any a w an af)
  unfold BPost at Ga
  rw [decide_eq_true hga] at Ga
  have Htab := Lib.hid htab
  clear hd he hR htab af an bf bn hs hga
  obtain ⟨kind, fn, copy, name, n, cell⟩ := a
  obtain ⟨kind2, fn2, copy2, name2, n2, cell2⟩ := b
  have h0 := OS.new w ⟨kind, fn, copy, name, n, cell⟩ ⟨kind2, fn2, copy2, name2, n2, cell2⟩ 23 23
  unfold Nd.val Nd.cells at Ga ⊢
  unfold Nd.cells at h0
  go_enter Tryd.func6, Tryd.ntmps6
  go_wp2_with fail
  refine (Hw.out _ (tab_below Htab.out (h0).1)).mono ?_
  rintro e v1 ⟨rfl, b1⟩
  have o1 := Lib.hid ((h0).on b1)
  clear b1 h0
  obtain ⟨_, ⟨k0, k1, k2, k3, k4, k5⟩, ⟨m0, m1, m2, m3, m4, m5⟩⟩ := o1.out
  go_wp2_with fail
  refine (Ga.out _).mono ?_
  rintro e v2 ⟨rfl, b2⟩
  have o2 := Lib.hid ((o1.out).on b2)
  clear b2 o1
  clear k0 k1 k2 k3 k4 k5 m0 m1 m2 m3 m4 m5
  go_wp2_with fail
  go_ret
  exact ⟨rfl, o2.out.1⟩


set_option maxRecDepth 100000 in
set_option maxHeartbeats 4000000 in
theorem one_gb (hd : Held) (he : HeldE) (hR : HeldR) (a b : Nd) (s : ByteArray) (w : World) (af : a.fn.size ≤ maxLen) (an : a.name.size ≤ maxLen) (bf : b.fn.size ≤ maxLen) (bn : b.name.size ≤ maxLen) (hs : s.size ≤ maxLen) (htab : Tab w) (hga : ¬ (200 < a.fn.size ∨ 200 < a.name.size)) (hgb : 200 < b.fn.size ∨ 200 < b.name.size) : Calls Tryd.prog 6 #[a.val, b.val, .string s] w (WorksPost w) := by
  have Hw := Lib.hid (fun w h => works_any hd he w h)
  unfold WorksPost at Hw
  have Ga := Lib.hid (fun w => great_any a w an af)
  unfold BPost at Ga
  have Gb := Lib.hid (fun w => great_any b w bn bf)
  unfold BPost at Gb
  rw [decide_eq_false hga] at Ga
  rw [decide_eq_true hgb] at Gb
  have Htab := Lib.hid htab
  clear hd he hR htab af an bf bn hs hga hgb
  obtain ⟨kind, fn, copy, name, n, cell⟩ := a
  obtain ⟨kind2, fn2, copy2, name2, n2, cell2⟩ := b
  have h0 := OS.new w ⟨kind, fn, copy, name, n, cell⟩ ⟨kind2, fn2, copy2, name2, n2, cell2⟩ 23 23
  unfold Nd.val Nd.cells at Ga Gb ⊢
  unfold Nd.cells at h0
  go_enter Tryd.func6, Tryd.ntmps6
  go_wp2_with fail
  refine (Hw.out _ (tab_below Htab.out (h0).1)).mono ?_
  rintro e v1 ⟨rfl, b1⟩
  have o1 := Lib.hid ((h0).on b1)
  clear b1 h0
  obtain ⟨_, ⟨k0, k1, k2, k3, k4, k5⟩, ⟨m0, m1, m2, m3, m4, m5⟩⟩ := o1.out
  go_wp2_with fail
  refine (Ga.out _).mono ?_
  rintro e v2 ⟨rfl, b2⟩
  have o2 := Lib.hid ((o1.out).on b2)
  clear b2 o1
  clear k0 k1 k2 k3 k4 k5 m0 m1 m2 m3 m4 m5
  obtain ⟨_, ⟨k0, k1, k2, k3, k4, k5⟩, ⟨m0, m1, m2, m3, m4, m5⟩⟩ := o2.out
  go_wp2_with fail
  refine (Gb.out _).mono ?_
  rintro e v3 ⟨rfl, b3⟩
  have o3 := Lib.hid ((o2.out).on b3)
  clear b3 o2
  clear k0 k1 k2 k3 k4 k5 m0 m1 m2 m3 m4 m5
  go_wp2_with fail
  go_ret
  exact ⟨rfl, o3.out.1⟩


set_option maxRecDepth 100000 in
set_option maxHeartbeats 4000000 in
theorem one_gs (hd : Held) (he : HeldE) (hR : HeldR) (a b : Nd) (s : ByteArray) (w : World) (af : a.fn.size ≤ maxLen) (an : a.name.size ≤ maxLen) (bf : b.fn.size ≤ maxLen) (bn : b.name.size ≤ maxLen) (hs : s.size ≤ maxLen) (htab : Tab w) (hga : ¬ (200 < a.fn.size ∨ 200 < a.name.size)) (hgb : ¬ (200 < b.fn.size ∨ 200 < b.name.size)) (hgs : 300 < s.size) : Calls Tryd.prog 6 #[a.val, b.val, .string s] w (WorksPost w) := by
  have Hw := Lib.hid (fun w h => works_any hd he w h)
  unfold WorksPost at Hw
  have Ga := Lib.hid (fun w => great_any a w an af)
  unfold BPost at Ga
  have Gb := Lib.hid (fun w => great_any b w bn bf)
  unfold BPost at Gb
  rw [decide_eq_false hga] at Ga
  rw [decide_eq_false hgb] at Gb
  have hbb : decide (300 < (s.size : Int)) = true := decide_eq_true (by omega)
  have Htab := Lib.hid htab
  clear hd he hR htab af an bf bn hs hga hgb hgs
  obtain ⟨kind, fn, copy, name, n, cell⟩ := a
  obtain ⟨kind2, fn2, copy2, name2, n2, cell2⟩ := b
  have h0 := OS.new w ⟨kind, fn, copy, name, n, cell⟩ ⟨kind2, fn2, copy2, name2, n2, cell2⟩ 23 23
  unfold Nd.val Nd.cells at Ga Gb ⊢
  unfold Nd.cells at h0
  go_enter Tryd.func6, Tryd.ntmps6
  go_wp2_with fail
  refine (Hw.out _ (tab_below Htab.out (h0).1)).mono ?_
  rintro e v1 ⟨rfl, b1⟩
  have o1 := Lib.hid ((h0).on b1)
  clear b1 h0
  obtain ⟨_, ⟨k0, k1, k2, k3, k4, k5⟩, ⟨m0, m1, m2, m3, m4, m5⟩⟩ := o1.out
  go_wp2_with fail
  refine (Ga.out _).mono ?_
  rintro e v2 ⟨rfl, b2⟩
  have o2 := Lib.hid ((o1.out).on b2)
  clear b2 o1
  clear k0 k1 k2 k3 k4 k5 m0 m1 m2 m3 m4 m5
  obtain ⟨_, ⟨k0, k1, k2, k3, k4, k5⟩, ⟨m0, m1, m2, m3, m4, m5⟩⟩ := o2.out
  go_wp2_with fail
  refine (Gb.out _).mono ?_
  rintro e v3 ⟨rfl, b3⟩
  have o3 := Lib.hid ((o2.out).on b3)
  clear b3 o2
  clear k0 k1 k2 k3 k4 k5 m0 m1 m2 m3 m4 m5
  go_wp2_with fail
  go_ret
  exact ⟨rfl, o3.out.1⟩


set_option maxRecDepth 100000 in
set_option maxHeartbeats 4000000 in
theorem one_n_n (hd : Held) (he : HeldE) (hR : HeldR) (a b : Nd) (s : ByteArray) (w : World) (af : a.fn.size ≤ maxLen) (an : a.name.size ≤ maxLen) (bf : b.fn.size ≤ maxLen) (bn : b.name.size ≤ maxLen) (hs : s.size ≤ maxLen) (htab : Tab w) (hga : ¬ (200 < a.fn.size ∨ 200 < a.name.size)) (hgb : ¬ (200 < b.fn.size ∨ 200 < b.name.size)) (hgs : ¬ 300 < s.size) (hma : mayB a = false) (hrs : readB s = false) : Calls Tryd.prog 6 #[a.val, b.val, .string s] w (WorksPost w) := by
  have Hw := Lib.hid (fun w h => works_any hd he w h)
  unfold WorksPost at Hw
  have Ga := Lib.hid (fun w => great_any a w an af)
  unfold BPost at Ga
  have Gb := Lib.hid (fun w => great_any b w bn bf)
  unfold BPost at Gb
  rw [decide_eq_false hga] at Ga
  rw [decide_eq_false hgb] at Gb
  have hbb : decide (300 < (s.size : Int)) = false := decide_eq_false (by omega)
  have Oa := Lib.hid (fun w => lown_any a w)
  have Ob := Lib.hid (fun w => lown_any b w)
  unfold NPost at Oa Ob
  have Ta := Lib.hid (fun w h => text_any hd a w an af h)
  have Tb := Lib.hid (fun w h => text_any hd b w bn bf h)
  unfold TextPost at Ta Tb
  rw [show terr a = 11 from by unfold terr; rw [hma]; rfl] at Ta
  generalize terr b = tbe at *
  generalize txt a = ta at *
  generalize txt b = tb at *
  have Rs := Lib.hid (fun w h => read_no hd s w hs h hrs)
  unfold ReadNo at Rs
  clear hrs
  have Htab := Lib.hid htab
  clear hd he hR htab af an bf bn hs hga hgb hgs hma
  obtain ⟨kind, fn, copy, name, n, cell⟩ := a
  obtain ⟨kind2, fn2, copy2, name2, n2, cell2⟩ := b
  have h0 := OS.new w ⟨kind, fn, copy, name, n, cell⟩ ⟨kind2, fn2, copy2, name2, n2, cell2⟩ 23 23
  unfold Nd.val Nd.cells at Ga Gb Oa Ob Ta Tb ⊢
  unfold Nd.cells at h0
  go_enter Tryd.func6, Tryd.ntmps6
  go_wp2_with fail
  refine (Hw.out _ (tab_below Htab.out (h0).1)).mono ?_
  rintro e v1 ⟨rfl, b1⟩
  have o1 := Lib.hid ((h0).on b1)
  clear b1 h0
  obtain ⟨_, ⟨k0, k1, k2, k3, k4, k5⟩, ⟨m0, m1, m2, m3, m4, m5⟩⟩ := o1.out
  go_wp2_with fail
  refine (Ga.out _).mono ?_
  rintro e v2 ⟨rfl, b2⟩
  have o2 := Lib.hid ((o1.out).on b2)
  clear b2 o1
  clear k0 k1 k2 k3 k4 k5 m0 m1 m2 m3 m4 m5
  obtain ⟨_, ⟨k0, k1, k2, k3, k4, k5⟩, ⟨m0, m1, m2, m3, m4, m5⟩⟩ := o2.out
  go_wp2_with fail
  refine (Gb.out _).mono ?_
  rintro e v3 ⟨rfl, b3⟩
  have o3 := Lib.hid ((o2.out).on b3)
  clear b3 o2
  clear k0 k1 k2 k3 k4 k5 m0 m1 m2 m3 m4 m5
  obtain ⟨_, ⟨k0, k1, k2, k3, k4, k5⟩, ⟨m0, m1, m2, m3, m4, m5⟩⟩ := o3.out
  go_wp2_with fail
  refine (Oa.out _).mono ?_
  rintro e v4 ⟨rfl, b4⟩
  have o4 := Lib.hid ((o3.out).on b4)
  clear b4 o3
  clear k0 k1 k2 k3 k4 k5 m0 m1 m2 m3 m4 m5
  go_wp2_with fail
  refine (Ta.out _ (tab_below Htab.out (o4.out).1)).mono ?_
  rintro e v5 ⟨rfl, b5⟩
  have o5 := Lib.hid ((o4.out).on b5)
  clear b5 o4
  obtain ⟨_, ⟨k0, k1, k2, k3, k4, k5⟩, ⟨m0, m1, m2, m3, m4, m5⟩⟩ := o5.out
  go_wp2_with fail
  refine (Ob.out _).mono ?_
  rintro e v6 ⟨rfl, b6⟩
  have o6 := Lib.hid ((o5.out).on b6)
  clear b6 o5
  clear k0 k1 k2 k3 k4 k5 m0 m1 m2 m3 m4 m5
  go_wp2_with fail
  refine (Tb.out _ (tab_below Htab.out (o6.out).1)).mono ?_
  rintro e v7 ⟨rfl, b7⟩
  have o7 := Lib.hid ((o6.out).on b7)
  clear b7 o6
  clear Hw Ga Gb Oa Ob Ta Tb
  go_wp2_with fail
  refine (Rs.out _ (tab_below Htab.out (o7.out).1)).mono ?_
  rintro e v21 ⟨rfl, b21⟩
  have o21 := Lib.hid ((o7.out).on b21)
  clear b21 o7
  have hbz := Below.alloc o21.out.1 o21.out.1.size (.cells #[.int .i64 0, .string ⟨#[]⟩, .int .i64 0, .string ⟨#[]⟩, .int .i64 0, .int .i64 0] 28)
  clear o21 Rs
  go_wp2_with fail
  go_ret
  exact ⟨rfl, hbz⟩


set_option maxRecDepth 100000 in
set_option maxHeartbeats 4000000 in
theorem one_n_y (hd : Held) (he : HeldE) (hR : HeldR) (a b : Nd) (s : ByteArray) (w : World) (af : a.fn.size ≤ maxLen) (an : a.name.size ≤ maxLen) (bf : b.fn.size ≤ maxLen) (bn : b.name.size ≤ maxLen) (hs : s.size ≤ maxLen) (htab : Tab w) (hga : ¬ (200 < a.fn.size ∨ 200 < a.name.size)) (hgb : ¬ (200 < b.fn.size ∨ 200 < b.name.size)) (hgs : ¬ 300 < s.size) (hma : mayB a = false) (hrs : readB s = true) : Calls Tryd.prog 6 #[a.val, b.val, .string s] w (WorksPost w) := by
  have Hw := Lib.hid (fun w h => works_any hd he w h)
  unfold WorksPost at Hw
  have Ga := Lib.hid (fun w => great_any a w an af)
  unfold BPost at Ga
  have Gb := Lib.hid (fun w => great_any b w bn bf)
  unfold BPost at Gb
  rw [decide_eq_false hga] at Ga
  rw [decide_eq_false hgb] at Gb
  have hbb : decide (300 < (s.size : Int)) = false := decide_eq_false (by omega)
  have Oa := Lib.hid (fun w => lown_any a w)
  have Ob := Lib.hid (fun w => lown_any b w)
  unfold NPost at Oa Ob
  have Ta := Lib.hid (fun w h => text_any hd a w an af h)
  have Tb := Lib.hid (fun w h => text_any hd b w bn bf h)
  unfold TextPost at Ta Tb
  rw [show terr a = 11 from by unfold terr; rw [hma]; rfl] at Ta
  generalize terr b = tbe at *
  generalize txt a = ta at *
  generalize txt b = tb at *
  have hmc := readB_may hrs
  obtain ⟨q1, q2⟩ := may_sizes _ hmc
  have Rs := Lib.hid (fun w h => read_yes hd s w hs h hrs)
  unfold ReadYes at Rs
  have Ts := Lib.hid (fun w h => text_any hd (cand s) w (small_le q2) (small_le q1) h)
  unfold TextPost at Ts
  rw [txt_cand s hrs, show terr (cand s) = 0 from by unfold terr; rw [hmc]; rfl] at Ts
  generalize cand s = c at *
  obtain ⟨ckind, cfn, ccopy, cname, cn, ccell⟩ := c
  unfold Nd.val Nd.cells at Rs Ts
  have hss : (s.toList == s.toList) = true := by simp
  clear hmc q1 q2
  clear hrs
  have Htab := Lib.hid htab
  clear hd he hR htab af an bf bn hs hga hgb hgs hma
  obtain ⟨kind, fn, copy, name, n, cell⟩ := a
  obtain ⟨kind2, fn2, copy2, name2, n2, cell2⟩ := b
  have h0 := OS.new w ⟨kind, fn, copy, name, n, cell⟩ ⟨kind2, fn2, copy2, name2, n2, cell2⟩ 23 23
  unfold Nd.val Nd.cells at Ga Gb Oa Ob Ta Tb ⊢
  unfold Nd.cells at h0
  go_enter Tryd.func6, Tryd.ntmps6
  go_wp2_with fail
  refine (Hw.out _ (tab_below Htab.out (h0).1)).mono ?_
  rintro e v1 ⟨rfl, b1⟩
  have o1 := Lib.hid ((h0).on b1)
  clear b1 h0
  obtain ⟨_, ⟨k0, k1, k2, k3, k4, k5⟩, ⟨m0, m1, m2, m3, m4, m5⟩⟩ := o1.out
  go_wp2_with fail
  refine (Ga.out _).mono ?_
  rintro e v2 ⟨rfl, b2⟩
  have o2 := Lib.hid ((o1.out).on b2)
  clear b2 o1
  clear k0 k1 k2 k3 k4 k5 m0 m1 m2 m3 m4 m5
  obtain ⟨_, ⟨k0, k1, k2, k3, k4, k5⟩, ⟨m0, m1, m2, m3, m4, m5⟩⟩ := o2.out
  go_wp2_with fail
  refine (Gb.out _).mono ?_
  rintro e v3 ⟨rfl, b3⟩
  have o3 := Lib.hid ((o2.out).on b3)
  clear b3 o2
  clear k0 k1 k2 k3 k4 k5 m0 m1 m2 m3 m4 m5
  obtain ⟨_, ⟨k0, k1, k2, k3, k4, k5⟩, ⟨m0, m1, m2, m3, m4, m5⟩⟩ := o3.out
  go_wp2_with fail
  refine (Oa.out _).mono ?_
  rintro e v4 ⟨rfl, b4⟩
  have o4 := Lib.hid ((o3.out).on b4)
  clear b4 o3
  clear k0 k1 k2 k3 k4 k5 m0 m1 m2 m3 m4 m5
  go_wp2_with fail
  refine (Ta.out _ (tab_below Htab.out (o4.out).1)).mono ?_
  rintro e v5 ⟨rfl, b5⟩
  have o5 := Lib.hid ((o4.out).on b5)
  clear b5 o4
  obtain ⟨_, ⟨k0, k1, k2, k3, k4, k5⟩, ⟨m0, m1, m2, m3, m4, m5⟩⟩ := o5.out
  go_wp2_with fail
  refine (Ob.out _).mono ?_
  rintro e v6 ⟨rfl, b6⟩
  have o6 := Lib.hid ((o5.out).on b6)
  clear b6 o5
  clear k0 k1 k2 k3 k4 k5 m0 m1 m2 m3 m4 m5
  go_wp2_with fail
  refine (Tb.out _ (tab_below Htab.out (o6.out).1)).mono ?_
  rintro e v7 ⟨rfl, b7⟩
  have o7 := Lib.hid ((o6.out).on b7)
  clear b7 o6
  clear Hw Ga Gb Oa Ob Ta Tb
  go_wp2_with fail
  refine (Rs.out _ (tab_below Htab.out (o7.out).1)).mono ?_
  rintro e v21 ⟨rfl, b21⟩
  have o21 := Lib.hid ((o7.out).on b21)
  clear b21 o7
  have hbz := Below.alloc o21.out.1 o21.out.1.size (.cells #[.int .i64 ckind, .string cfn, .int .i64 ccopy, .string cname, .int .i64 cn, .int .i64 ccell] 28)
  clear o21 Rs
  go_wp2_with fail
  refine (Ts.out _ (tab_below Htab.out hbz)).mono ?_
  rintro e v30 ⟨rfl, b30⟩
  have hbt := below_on hbz b30
  clear b30 hbz Ts
  go_wp2_with fail
  go_ret
  exact ⟨rfl, hbt⟩


set_option maxRecDepth 100000 in
set_option maxHeartbeats 4000000 in
theorem one_yn_n (hd : Held) (he : HeldE) (hR : HeldR) (a b : Nd) (s : ByteArray) (w : World) (af : a.fn.size ≤ maxLen) (an : a.name.size ≤ maxLen) (bf : b.fn.size ≤ maxLen) (bn : b.name.size ≤ maxLen) (hs : s.size ≤ maxLen) (htab : Tab w) (hga : ¬ (200 < a.fn.size ∨ 200 < a.name.size)) (hgb : ¬ (200 < b.fn.size ∨ 200 < b.name.size)) (hgs : ¬ 300 < s.size) (hma : mayB a = true) (hmb : mayB b = false) (hrs : readB s = false) : Calls Tryd.prog 6 #[a.val, b.val, .string s] w (WorksPost w) := by
  have Hw := Lib.hid (fun w h => works_any hd he w h)
  unfold WorksPost at Hw
  have Ga := Lib.hid (fun w => great_any a w an af)
  unfold BPost at Ga
  have Gb := Lib.hid (fun w => great_any b w bn bf)
  unfold BPost at Gb
  rw [decide_eq_false hga] at Ga
  rw [decide_eq_false hgb] at Gb
  have hbb : decide (300 < (s.size : Int)) = false := decide_eq_false (by omega)
  have Oa := Lib.hid (fun w => lown_any a w)
  have Ob := Lib.hid (fun w => lown_any b w)
  unfold NPost at Oa Ob
  have Ta := Lib.hid (fun w h => text_any hd a w an af h)
  have Tb := Lib.hid (fun w h => text_any hd b w bn bf h)
  unfold TextPost at Ta Tb
  rw [show terr a = 0 from by unfold terr; rw [hma]; rfl] at Ta
  have Ra := Lib.hid (fun w h => read_yes hd (txt a) w (Nat.le_trans (txt_le a hma) (by decide)) h (readB_txt a hma))
  unfold ReadYes at Ra
  rw [cand_txt a hma] at Ra
  have HO : Hid (∀ (W : World) (d : Nat) (os : Array Obj), Calls Tryd.prog 10 #[a.val] (grow (redrawn W d) os) fun e w'' => e = .returned a.val ∧ ∃ p : Regrown, w'' = grow (redrawn W p.d) p.os) := Lib.hid (fun W d os => Calls.regrown_of (lown_any a _))
  have hne : ∀ w, (binOp .neq 28 a.val a.val).run Tryd.prog w = .ok (.bool false) w := fun w => by
    have := hd.neq a a w
    rw [same_self a] at this
    exact this
  have hgd := hd.guard
  rw [show terr b = 11 from by unfold terr; rw [hmb]; rfl] at Tb
  generalize txt a = ta at *
  generalize txt b = tb at *
  have Rs := Lib.hid (fun w h => read_no hd s w hs h hrs)
  unfold ReadNo at Rs
  clear hrs
  have Htab := Lib.hid htab
  clear hd he hR htab af an bf bn hs hga hgb hgs hma hmb
  obtain ⟨kind, fn, copy, name, n, cell⟩ := a
  obtain ⟨kind2, fn2, copy2, name2, n2, cell2⟩ := b
  have h0 := OS.new w ⟨kind, fn, copy, name, n, cell⟩ ⟨kind2, fn2, copy2, name2, n2, cell2⟩ 23 23
  unfold Nd.val Nd.cells at Ga Gb Oa Ob Ta Tb Ra HO hne ⊢
  unfold Nd.cells at h0
  go_enter Tryd.func6, Tryd.ntmps6
  go_wp2_with fail
  refine (Hw.out _ (tab_below Htab.out (h0).1)).mono ?_
  rintro e v1 ⟨rfl, b1⟩
  have o1 := Lib.hid ((h0).on b1)
  clear b1 h0
  obtain ⟨_, ⟨k0, k1, k2, k3, k4, k5⟩, ⟨m0, m1, m2, m3, m4, m5⟩⟩ := o1.out
  go_wp2_with fail
  refine (Ga.out _).mono ?_
  rintro e v2 ⟨rfl, b2⟩
  have o2 := Lib.hid ((o1.out).on b2)
  clear b2 o1
  clear k0 k1 k2 k3 k4 k5 m0 m1 m2 m3 m4 m5
  obtain ⟨_, ⟨k0, k1, k2, k3, k4, k5⟩, ⟨m0, m1, m2, m3, m4, m5⟩⟩ := o2.out
  go_wp2_with fail
  refine (Gb.out _).mono ?_
  rintro e v3 ⟨rfl, b3⟩
  have o3 := Lib.hid ((o2.out).on b3)
  clear b3 o2
  clear k0 k1 k2 k3 k4 k5 m0 m1 m2 m3 m4 m5
  obtain ⟨_, ⟨k0, k1, k2, k3, k4, k5⟩, ⟨m0, m1, m2, m3, m4, m5⟩⟩ := o3.out
  go_wp2_with fail
  refine (Oa.out _).mono ?_
  rintro e v4 ⟨rfl, b4⟩
  have o4 := Lib.hid ((o3.out).on b4)
  clear b4 o3
  clear k0 k1 k2 k3 k4 k5 m0 m1 m2 m3 m4 m5
  go_wp2_with fail
  refine (Ta.out _ (tab_below Htab.out (o4.out).1)).mono ?_
  rintro e v5 ⟨rfl, b5⟩
  have o5 := Lib.hid ((o4.out).on b5)
  clear b5 o4
  obtain ⟨_, ⟨k0, k1, k2, k3, k4, k5⟩, ⟨m0, m1, m2, m3, m4, m5⟩⟩ := o5.out
  go_wp2_with fail
  refine (Ob.out _).mono ?_
  rintro e v6 ⟨rfl, b6⟩
  have o6 := Lib.hid ((o5.out).on b6)
  clear b6 o5
  clear k0 k1 k2 k3 k4 k5 m0 m1 m2 m3 m4 m5
  go_wp2_with fail
  refine (Tb.out _ (tab_below Htab.out (o6.out).1)).mono ?_
  rintro e v7 ⟨rfl, b7⟩
  have o7 := Lib.hid ((o6.out).on b7)
  clear b7 o6
  clear Hw Ga Gb Oa Ob Ta Tb
  go_wp2_with fail
  refine (Ra.out _ (tab_below Htab.out (o7.out).1)).mono ?_
  rintro e v8 ⟨rfl, b8⟩
  have o8 := Lib.hid ((o7.out).on b8)
  clear b8 o7
  have nb := Six.new ⟨kind, fn, copy, name, n, cell⟩ v8 28
  have oA := o8.out.on (Below.alloc (Below.refl _ _) (Nat.le_refl _) (.cells (Nd.cells ⟨kind, fn, copy, name, n, cell⟩) 28))
  unfold Nd.cells at nb oA
  obtain ⟨_, ⟨k0, k1, k2, k3, k4, k5⟩, _⟩ := oA
  obtain ⟨m0, m1, m2, m3, m4, m5⟩ := nb
  have k0 := cell_regrown k0
  have k1 := cell_regrown k1
  have k2 := cell_regrown k2
  have k3 := cell_regrown k3
  have k4 := cell_regrown k4
  have k5 := cell_regrown k5
  have m0 := cell_regrown m0
  have m1 := cell_regrown m1
  have m2 := cell_regrown m2
  have m3 := cell_regrown m3
  have m4 := cell_regrown m4
  have m5 := cell_regrown m5
  have oA := Lib.hid (o8.out.on (Below.alloc (Below.refl _ _) (Nat.le_refl _) (.cells #[.int .i64 kind, .string fn, .int .i64 copy, .string name, .int .i64 n, .int .i64 cell] 28)))
  clear o8 Ra
  go_wp2_with fail
  refine wp_region_quiet_below (by kernel_rfl) (by kernel_rfl) ?_
  repeat (quiet_step (exact HO.out _ _ _))
  refine wpQuiet_nil ?_
  intro _ hw'
  obtain ⟨⟨dq, osq⟩, hw''⟩ := hw'
  subst hw''
  have o20 := Lib.hid (oA.out.on (below_regrown _ dq osq))
  clear oA k0 k1 k2 k3 k4 k5 m0 m1 m2 m3 m4 m5 HO
  generalize grow (redrawn (v8.alloc (.cells #[.int .i64 kind, .string fn, .int .i64 copy, .string name, .int .i64 n, .int .i64 cell] 28)) dq) osq = v20 at *
  go_wp2_with fail
  refine (Rs.out _ (tab_below Htab.out (o20.out).1)).mono ?_
  rintro e v21 ⟨rfl, b21⟩
  have o21 := Lib.hid ((o20.out).on b21)
  clear b21 o20
  have hbz := Below.alloc o21.out.1 o21.out.1.size (.cells #[.int .i64 0, .string ⟨#[]⟩, .int .i64 0, .string ⟨#[]⟩, .int .i64 0, .int .i64 0] 28)
  clear o21 Rs
  go_wp2_with fail
  go_ret
  exact ⟨rfl, hbz⟩


set_option maxRecDepth 100000 in
set_option maxHeartbeats 4000000 in
theorem one_yn_y (hd : Held) (he : HeldE) (hR : HeldR) (a b : Nd) (s : ByteArray) (w : World) (af : a.fn.size ≤ maxLen) (an : a.name.size ≤ maxLen) (bf : b.fn.size ≤ maxLen) (bn : b.name.size ≤ maxLen) (hs : s.size ≤ maxLen) (htab : Tab w) (hga : ¬ (200 < a.fn.size ∨ 200 < a.name.size)) (hgb : ¬ (200 < b.fn.size ∨ 200 < b.name.size)) (hgs : ¬ 300 < s.size) (hma : mayB a = true) (hmb : mayB b = false) (hrs : readB s = true) : Calls Tryd.prog 6 #[a.val, b.val, .string s] w (WorksPost w) := by
  have Hw := Lib.hid (fun w h => works_any hd he w h)
  unfold WorksPost at Hw
  have Ga := Lib.hid (fun w => great_any a w an af)
  unfold BPost at Ga
  have Gb := Lib.hid (fun w => great_any b w bn bf)
  unfold BPost at Gb
  rw [decide_eq_false hga] at Ga
  rw [decide_eq_false hgb] at Gb
  have hbb : decide (300 < (s.size : Int)) = false := decide_eq_false (by omega)
  have Oa := Lib.hid (fun w => lown_any a w)
  have Ob := Lib.hid (fun w => lown_any b w)
  unfold NPost at Oa Ob
  have Ta := Lib.hid (fun w h => text_any hd a w an af h)
  have Tb := Lib.hid (fun w h => text_any hd b w bn bf h)
  unfold TextPost at Ta Tb
  rw [show terr a = 0 from by unfold terr; rw [hma]; rfl] at Ta
  have Ra := Lib.hid (fun w h => read_yes hd (txt a) w (Nat.le_trans (txt_le a hma) (by decide)) h (readB_txt a hma))
  unfold ReadYes at Ra
  rw [cand_txt a hma] at Ra
  have HO : Hid (∀ (W : World) (d : Nat) (os : Array Obj), Calls Tryd.prog 10 #[a.val] (grow (redrawn W d) os) fun e w'' => e = .returned a.val ∧ ∃ p : Regrown, w'' = grow (redrawn W p.d) p.os) := Lib.hid (fun W d os => Calls.regrown_of (lown_any a _))
  have hne : ∀ w, (binOp .neq 28 a.val a.val).run Tryd.prog w = .ok (.bool false) w := fun w => by
    have := hd.neq a a w
    rw [same_self a] at this
    exact this
  have hgd := hd.guard
  rw [show terr b = 11 from by unfold terr; rw [hmb]; rfl] at Tb
  generalize txt a = ta at *
  generalize txt b = tb at *
  have hmc := readB_may hrs
  obtain ⟨q1, q2⟩ := may_sizes _ hmc
  have Rs := Lib.hid (fun w h => read_yes hd s w hs h hrs)
  unfold ReadYes at Rs
  have Ts := Lib.hid (fun w h => text_any hd (cand s) w (small_le q2) (small_le q1) h)
  unfold TextPost at Ts
  rw [txt_cand s hrs, show terr (cand s) = 0 from by unfold terr; rw [hmc]; rfl] at Ts
  generalize cand s = c at *
  obtain ⟨ckind, cfn, ccopy, cname, cn, ccell⟩ := c
  unfold Nd.val Nd.cells at Rs Ts
  have hss : (s.toList == s.toList) = true := by simp
  clear hmc q1 q2
  clear hrs
  have Htab := Lib.hid htab
  clear hd he hR htab af an bf bn hs hga hgb hgs hma hmb
  obtain ⟨kind, fn, copy, name, n, cell⟩ := a
  obtain ⟨kind2, fn2, copy2, name2, n2, cell2⟩ := b
  have h0 := OS.new w ⟨kind, fn, copy, name, n, cell⟩ ⟨kind2, fn2, copy2, name2, n2, cell2⟩ 23 23
  unfold Nd.val Nd.cells at Ga Gb Oa Ob Ta Tb Ra HO hne ⊢
  unfold Nd.cells at h0
  go_enter Tryd.func6, Tryd.ntmps6
  go_wp2_with fail
  refine (Hw.out _ (tab_below Htab.out (h0).1)).mono ?_
  rintro e v1 ⟨rfl, b1⟩
  have o1 := Lib.hid ((h0).on b1)
  clear b1 h0
  obtain ⟨_, ⟨k0, k1, k2, k3, k4, k5⟩, ⟨m0, m1, m2, m3, m4, m5⟩⟩ := o1.out
  go_wp2_with fail
  refine (Ga.out _).mono ?_
  rintro e v2 ⟨rfl, b2⟩
  have o2 := Lib.hid ((o1.out).on b2)
  clear b2 o1
  clear k0 k1 k2 k3 k4 k5 m0 m1 m2 m3 m4 m5
  obtain ⟨_, ⟨k0, k1, k2, k3, k4, k5⟩, ⟨m0, m1, m2, m3, m4, m5⟩⟩ := o2.out
  go_wp2_with fail
  refine (Gb.out _).mono ?_
  rintro e v3 ⟨rfl, b3⟩
  have o3 := Lib.hid ((o2.out).on b3)
  clear b3 o2
  clear k0 k1 k2 k3 k4 k5 m0 m1 m2 m3 m4 m5
  obtain ⟨_, ⟨k0, k1, k2, k3, k4, k5⟩, ⟨m0, m1, m2, m3, m4, m5⟩⟩ := o3.out
  go_wp2_with fail
  refine (Oa.out _).mono ?_
  rintro e v4 ⟨rfl, b4⟩
  have o4 := Lib.hid ((o3.out).on b4)
  clear b4 o3
  clear k0 k1 k2 k3 k4 k5 m0 m1 m2 m3 m4 m5
  go_wp2_with fail
  refine (Ta.out _ (tab_below Htab.out (o4.out).1)).mono ?_
  rintro e v5 ⟨rfl, b5⟩
  have o5 := Lib.hid ((o4.out).on b5)
  clear b5 o4
  obtain ⟨_, ⟨k0, k1, k2, k3, k4, k5⟩, ⟨m0, m1, m2, m3, m4, m5⟩⟩ := o5.out
  go_wp2_with fail
  refine (Ob.out _).mono ?_
  rintro e v6 ⟨rfl, b6⟩
  have o6 := Lib.hid ((o5.out).on b6)
  clear b6 o5
  clear k0 k1 k2 k3 k4 k5 m0 m1 m2 m3 m4 m5
  go_wp2_with fail
  refine (Tb.out _ (tab_below Htab.out (o6.out).1)).mono ?_
  rintro e v7 ⟨rfl, b7⟩
  have o7 := Lib.hid ((o6.out).on b7)
  clear b7 o6
  clear Hw Ga Gb Oa Ob Ta Tb
  go_wp2_with fail
  refine (Ra.out _ (tab_below Htab.out (o7.out).1)).mono ?_
  rintro e v8 ⟨rfl, b8⟩
  have o8 := Lib.hid ((o7.out).on b8)
  clear b8 o7
  have nb := Six.new ⟨kind, fn, copy, name, n, cell⟩ v8 28
  have oA := o8.out.on (Below.alloc (Below.refl _ _) (Nat.le_refl _) (.cells (Nd.cells ⟨kind, fn, copy, name, n, cell⟩) 28))
  unfold Nd.cells at nb oA
  obtain ⟨_, ⟨k0, k1, k2, k3, k4, k5⟩, _⟩ := oA
  obtain ⟨m0, m1, m2, m3, m4, m5⟩ := nb
  have k0 := cell_regrown k0
  have k1 := cell_regrown k1
  have k2 := cell_regrown k2
  have k3 := cell_regrown k3
  have k4 := cell_regrown k4
  have k5 := cell_regrown k5
  have m0 := cell_regrown m0
  have m1 := cell_regrown m1
  have m2 := cell_regrown m2
  have m3 := cell_regrown m3
  have m4 := cell_regrown m4
  have m5 := cell_regrown m5
  have oA := Lib.hid (o8.out.on (Below.alloc (Below.refl _ _) (Nat.le_refl _) (.cells #[.int .i64 kind, .string fn, .int .i64 copy, .string name, .int .i64 n, .int .i64 cell] 28)))
  clear o8 Ra
  go_wp2_with fail
  refine wp_region_quiet_below (by kernel_rfl) (by kernel_rfl) ?_
  repeat (quiet_step (exact HO.out _ _ _))
  refine wpQuiet_nil ?_
  intro _ hw'
  obtain ⟨⟨dq, osq⟩, hw''⟩ := hw'
  subst hw''
  have o20 := Lib.hid (oA.out.on (below_regrown _ dq osq))
  clear oA k0 k1 k2 k3 k4 k5 m0 m1 m2 m3 m4 m5 HO
  generalize grow (redrawn (v8.alloc (.cells #[.int .i64 kind, .string fn, .int .i64 copy, .string name, .int .i64 n, .int .i64 cell] 28)) dq) osq = v20 at *
  go_wp2_with fail
  refine (Rs.out _ (tab_below Htab.out (o20.out).1)).mono ?_
  rintro e v21 ⟨rfl, b21⟩
  have o21 := Lib.hid ((o20.out).on b21)
  clear b21 o20
  have hbz := Below.alloc o21.out.1 o21.out.1.size (.cells #[.int .i64 ckind, .string cfn, .int .i64 ccopy, .string cname, .int .i64 cn, .int .i64 ccell] 28)
  clear o21 Rs
  go_wp2_with fail
  refine (Ts.out _ (tab_below Htab.out hbz)).mono ?_
  rintro e v30 ⟨rfl, b30⟩
  have hbt := below_on hbz b30
  clear b30 hbz Ts
  go_wp2_with fail
  go_ret
  exact ⟨rfl, hbt⟩


set_option maxRecDepth 100000 in
set_option maxHeartbeats 4000000 in
theorem one_yy_n (hd : Held) (he : HeldE) (hR : HeldR) (a b : Nd) (s : ByteArray) (w : World) (af : a.fn.size ≤ maxLen) (an : a.name.size ≤ maxLen) (bf : b.fn.size ≤ maxLen) (bn : b.name.size ≤ maxLen) (hs : s.size ≤ maxLen) (htab : Tab w) (hga : ¬ (200 < a.fn.size ∨ 200 < a.name.size)) (hgb : ¬ (200 < b.fn.size ∨ 200 < b.name.size)) (hgs : ¬ 300 < s.size) (hma : mayB a = true) (hmb : mayB b = true) (hrs : readB s = false) : Calls Tryd.prog 6 #[a.val, b.val, .string s] w (WorksPost w) := by
  have Hw := Lib.hid (fun w h => works_any hd he w h)
  unfold WorksPost at Hw
  have Ga := Lib.hid (fun w => great_any a w an af)
  unfold BPost at Ga
  have Gb := Lib.hid (fun w => great_any b w bn bf)
  unfold BPost at Gb
  rw [decide_eq_false hga] at Ga
  rw [decide_eq_false hgb] at Gb
  have hbb : decide (300 < (s.size : Int)) = false := decide_eq_false (by omega)
  have Oa := Lib.hid (fun w => lown_any a w)
  have Ob := Lib.hid (fun w => lown_any b w)
  unfold NPost at Oa Ob
  have Ta := Lib.hid (fun w h => text_any hd a w an af h)
  have Tb := Lib.hid (fun w h => text_any hd b w bn bf h)
  unfold TextPost at Ta Tb
  rw [show terr a = 0 from by unfold terr; rw [hma]; rfl] at Ta
  have Ra := Lib.hid (fun w h => read_yes hd (txt a) w (Nat.le_trans (txt_le a hma) (by decide)) h (readB_txt a hma))
  unfold ReadYes at Ra
  rw [cand_txt a hma] at Ra
  have HO : Hid (∀ (W : World) (d : Nat) (os : Array Obj), Calls Tryd.prog 10 #[a.val] (grow (redrawn W d) os) fun e w'' => e = .returned a.val ∧ ∃ p : Regrown, w'' = grow (redrawn W p.d) p.os) := Lib.hid (fun W d os => Calls.regrown_of (lown_any a _))
  have hne : ∀ w, (binOp .neq 28 a.val a.val).run Tryd.prog w = .ok (.bool false) w := fun w => by
    have := hd.neq a a w
    rw [same_self a] at this
    exact this
  have hgd := hd.guard
  rw [show terr b = 0 from by unfold terr; rw [hmb]; rfl] at Tb
  have hxy := txt_same a b hma hmb
  have heq := hR.eql a b
  have hgr := hR.guard
  generalize sameB a b = sm at *
  generalize txt a = ta at *
  generalize txt b = tb at *
  have Rs := Lib.hid (fun w h => read_no hd s w hs h hrs)
  unfold ReadNo at Rs
  clear hrs
  have Htab := Lib.hid htab
  clear hd he hR htab af an bf bn hs hga hgb hgs hma hmb
  obtain ⟨kind, fn, copy, name, n, cell⟩ := a
  obtain ⟨kind2, fn2, copy2, name2, n2, cell2⟩ := b
  have h0 := OS.new w ⟨kind, fn, copy, name, n, cell⟩ ⟨kind2, fn2, copy2, name2, n2, cell2⟩ 23 23
  unfold Nd.val Nd.cells at Ga Gb Oa Ob Ta Tb Ra HO hne heq ⊢
  unfold Nd.cells at h0
  go_enter Tryd.func6, Tryd.ntmps6
  go_wp2_with fail
  refine (Hw.out _ (tab_below Htab.out (h0).1)).mono ?_
  rintro e v1 ⟨rfl, b1⟩
  have o1 := Lib.hid ((h0).on b1)
  clear b1 h0
  obtain ⟨_, ⟨k0, k1, k2, k3, k4, k5⟩, ⟨m0, m1, m2, m3, m4, m5⟩⟩ := o1.out
  go_wp2_with fail
  refine (Ga.out _).mono ?_
  rintro e v2 ⟨rfl, b2⟩
  have o2 := Lib.hid ((o1.out).on b2)
  clear b2 o1
  clear k0 k1 k2 k3 k4 k5 m0 m1 m2 m3 m4 m5
  obtain ⟨_, ⟨k0, k1, k2, k3, k4, k5⟩, ⟨m0, m1, m2, m3, m4, m5⟩⟩ := o2.out
  go_wp2_with fail
  refine (Gb.out _).mono ?_
  rintro e v3 ⟨rfl, b3⟩
  have o3 := Lib.hid ((o2.out).on b3)
  clear b3 o2
  clear k0 k1 k2 k3 k4 k5 m0 m1 m2 m3 m4 m5
  obtain ⟨_, ⟨k0, k1, k2, k3, k4, k5⟩, ⟨m0, m1, m2, m3, m4, m5⟩⟩ := o3.out
  go_wp2_with fail
  refine (Oa.out _).mono ?_
  rintro e v4 ⟨rfl, b4⟩
  have o4 := Lib.hid ((o3.out).on b4)
  clear b4 o3
  clear k0 k1 k2 k3 k4 k5 m0 m1 m2 m3 m4 m5
  go_wp2_with fail
  refine (Ta.out _ (tab_below Htab.out (o4.out).1)).mono ?_
  rintro e v5 ⟨rfl, b5⟩
  have o5 := Lib.hid ((o4.out).on b5)
  clear b5 o4
  obtain ⟨_, ⟨k0, k1, k2, k3, k4, k5⟩, ⟨m0, m1, m2, m3, m4, m5⟩⟩ := o5.out
  go_wp2_with fail
  refine (Ob.out _).mono ?_
  rintro e v6 ⟨rfl, b6⟩
  have o6 := Lib.hid ((o5.out).on b6)
  clear b6 o5
  clear k0 k1 k2 k3 k4 k5 m0 m1 m2 m3 m4 m5
  go_wp2_with fail
  refine (Tb.out _ (tab_below Htab.out (o6.out).1)).mono ?_
  rintro e v7 ⟨rfl, b7⟩
  have o7 := Lib.hid ((o6.out).on b7)
  clear b7 o6
  clear Hw Ga Gb Oa Ob Ta Tb
  go_wp2_with fail
  refine (Ra.out _ (tab_below Htab.out (o7.out).1)).mono ?_
  rintro e v8 ⟨rfl, b8⟩
  have o8 := Lib.hid ((o7.out).on b8)
  clear b8 o7
  have nb := Six.new ⟨kind, fn, copy, name, n, cell⟩ v8 28
  have oA := o8.out.on (Below.alloc (Below.refl _ _) (Nat.le_refl _) (.cells (Nd.cells ⟨kind, fn, copy, name, n, cell⟩) 28))
  unfold Nd.cells at nb oA
  obtain ⟨_, ⟨k0, k1, k2, k3, k4, k5⟩, _⟩ := oA
  obtain ⟨m0, m1, m2, m3, m4, m5⟩ := nb
  have k0 := cell_regrown k0
  have k1 := cell_regrown k1
  have k2 := cell_regrown k2
  have k3 := cell_regrown k3
  have k4 := cell_regrown k4
  have k5 := cell_regrown k5
  have m0 := cell_regrown m0
  have m1 := cell_regrown m1
  have m2 := cell_regrown m2
  have m3 := cell_regrown m3
  have m4 := cell_regrown m4
  have m5 := cell_regrown m5
  have oA := Lib.hid (o8.out.on (Below.alloc (Below.refl _ _) (Nat.le_refl _) (.cells #[.int .i64 kind, .string fn, .int .i64 copy, .string name, .int .i64 n, .int .i64 cell] 28)))
  clear o8 Ra
  go_wp2_with fail
  refine wp_region_quiet_below (by kernel_rfl) (by kernel_rfl) ?_
  repeat (quiet_step (exact HO.out _ _ _))
  refine wpQuiet_nil ?_
  intro _ hw'
  obtain ⟨⟨dq, osq⟩, hw''⟩ := hw'
  subst hw''
  have o20 := Lib.hid (oA.out.on (below_regrown _ dq osq))
  clear oA k0 k1 k2 k3 k4 k5 m0 m1 m2 m3 m4 m5 HO
  generalize grow (redrawn (v8.alloc (.cells #[.int .i64 kind, .string fn, .int .i64 copy, .string name, .int .i64 n, .int .i64 cell] 28)) dq) osq = v20 at *
  obtain ⟨_, ⟨k0, k1, k2, k3, k4, k5⟩, ⟨m0, m1, m2, m3, m4, m5⟩⟩ := o20.out
  go_wp2_with fail
  refine (Rs.out _ (tab_below Htab.out (o20.out).1)).mono ?_
  rintro e v21 ⟨rfl, b21⟩
  have o21 := Lib.hid ((o20.out).on b21)
  clear b21 o20
  clear k0 k1 k2 k3 k4 k5 m0 m1 m2 m3 m4 m5
  have hbz := Below.alloc o21.out.1 o21.out.1.size (.cells #[.int .i64 0, .string ⟨#[]⟩, .int .i64 0, .string ⟨#[]⟩, .int .i64 0, .int .i64 0] 28)
  clear o21 Rs
  go_wp2_with fail
  go_ret
  exact ⟨rfl, hbz⟩


set_option maxRecDepth 100000 in
set_option maxHeartbeats 4000000 in
theorem one_yy_y (hd : Held) (he : HeldE) (hR : HeldR) (a b : Nd) (s : ByteArray) (w : World) (af : a.fn.size ≤ maxLen) (an : a.name.size ≤ maxLen) (bf : b.fn.size ≤ maxLen) (bn : b.name.size ≤ maxLen) (hs : s.size ≤ maxLen) (htab : Tab w) (hga : ¬ (200 < a.fn.size ∨ 200 < a.name.size)) (hgb : ¬ (200 < b.fn.size ∨ 200 < b.name.size)) (hgs : ¬ 300 < s.size) (hma : mayB a = true) (hmb : mayB b = true) (hrs : readB s = true) : Calls Tryd.prog 6 #[a.val, b.val, .string s] w (WorksPost w) := by
  have Hw := Lib.hid (fun w h => works_any hd he w h)
  unfold WorksPost at Hw
  have Ga := Lib.hid (fun w => great_any a w an af)
  unfold BPost at Ga
  have Gb := Lib.hid (fun w => great_any b w bn bf)
  unfold BPost at Gb
  rw [decide_eq_false hga] at Ga
  rw [decide_eq_false hgb] at Gb
  have hbb : decide (300 < (s.size : Int)) = false := decide_eq_false (by omega)
  have Oa := Lib.hid (fun w => lown_any a w)
  have Ob := Lib.hid (fun w => lown_any b w)
  unfold NPost at Oa Ob
  have Ta := Lib.hid (fun w h => text_any hd a w an af h)
  have Tb := Lib.hid (fun w h => text_any hd b w bn bf h)
  unfold TextPost at Ta Tb
  rw [show terr a = 0 from by unfold terr; rw [hma]; rfl] at Ta
  have Ra := Lib.hid (fun w h => read_yes hd (txt a) w (Nat.le_trans (txt_le a hma) (by decide)) h (readB_txt a hma))
  unfold ReadYes at Ra
  rw [cand_txt a hma] at Ra
  have HO : Hid (∀ (W : World) (d : Nat) (os : Array Obj), Calls Tryd.prog 10 #[a.val] (grow (redrawn W d) os) fun e w'' => e = .returned a.val ∧ ∃ p : Regrown, w'' = grow (redrawn W p.d) p.os) := Lib.hid (fun W d os => Calls.regrown_of (lown_any a _))
  have hne : ∀ w, (binOp .neq 28 a.val a.val).run Tryd.prog w = .ok (.bool false) w := fun w => by
    have := hd.neq a a w
    rw [same_self a] at this
    exact this
  have hgd := hd.guard
  rw [show terr b = 0 from by unfold terr; rw [hmb]; rfl] at Tb
  have hxy := txt_same a b hma hmb
  have heq := hR.eql a b
  have hgr := hR.guard
  generalize sameB a b = sm at *
  generalize txt a = ta at *
  generalize txt b = tb at *
  have hmc := readB_may hrs
  obtain ⟨q1, q2⟩ := may_sizes _ hmc
  have Rs := Lib.hid (fun w h => read_yes hd s w hs h hrs)
  unfold ReadYes at Rs
  have Ts := Lib.hid (fun w h => text_any hd (cand s) w (small_le q2) (small_le q1) h)
  unfold TextPost at Ts
  rw [txt_cand s hrs, show terr (cand s) = 0 from by unfold terr; rw [hmc]; rfl] at Ts
  generalize cand s = c at *
  obtain ⟨ckind, cfn, ccopy, cname, cn, ccell⟩ := c
  unfold Nd.val Nd.cells at Rs Ts
  have hss : (s.toList == s.toList) = true := by simp
  clear hmc q1 q2
  clear hrs
  have Htab := Lib.hid htab
  clear hd he hR htab af an bf bn hs hga hgb hgs hma hmb
  obtain ⟨kind, fn, copy, name, n, cell⟩ := a
  obtain ⟨kind2, fn2, copy2, name2, n2, cell2⟩ := b
  have h0 := OS.new w ⟨kind, fn, copy, name, n, cell⟩ ⟨kind2, fn2, copy2, name2, n2, cell2⟩ 23 23
  unfold Nd.val Nd.cells at Ga Gb Oa Ob Ta Tb Ra HO hne heq ⊢
  unfold Nd.cells at h0
  go_enter Tryd.func6, Tryd.ntmps6
  go_wp2_with fail
  refine (Hw.out _ (tab_below Htab.out (h0).1)).mono ?_
  rintro e v1 ⟨rfl, b1⟩
  have o1 := Lib.hid ((h0).on b1)
  clear b1 h0
  obtain ⟨_, ⟨k0, k1, k2, k3, k4, k5⟩, ⟨m0, m1, m2, m3, m4, m5⟩⟩ := o1.out
  go_wp2_with fail
  refine (Ga.out _).mono ?_
  rintro e v2 ⟨rfl, b2⟩
  have o2 := Lib.hid ((o1.out).on b2)
  clear b2 o1
  clear k0 k1 k2 k3 k4 k5 m0 m1 m2 m3 m4 m5
  obtain ⟨_, ⟨k0, k1, k2, k3, k4, k5⟩, ⟨m0, m1, m2, m3, m4, m5⟩⟩ := o2.out
  go_wp2_with fail
  refine (Gb.out _).mono ?_
  rintro e v3 ⟨rfl, b3⟩
  have o3 := Lib.hid ((o2.out).on b3)
  clear b3 o2
  clear k0 k1 k2 k3 k4 k5 m0 m1 m2 m3 m4 m5
  obtain ⟨_, ⟨k0, k1, k2, k3, k4, k5⟩, ⟨m0, m1, m2, m3, m4, m5⟩⟩ := o3.out
  go_wp2_with fail
  refine (Oa.out _).mono ?_
  rintro e v4 ⟨rfl, b4⟩
  have o4 := Lib.hid ((o3.out).on b4)
  clear b4 o3
  clear k0 k1 k2 k3 k4 k5 m0 m1 m2 m3 m4 m5
  go_wp2_with fail
  refine (Ta.out _ (tab_below Htab.out (o4.out).1)).mono ?_
  rintro e v5 ⟨rfl, b5⟩
  have o5 := Lib.hid ((o4.out).on b5)
  clear b5 o4
  obtain ⟨_, ⟨k0, k1, k2, k3, k4, k5⟩, ⟨m0, m1, m2, m3, m4, m5⟩⟩ := o5.out
  go_wp2_with fail
  refine (Ob.out _).mono ?_
  rintro e v6 ⟨rfl, b6⟩
  have o6 := Lib.hid ((o5.out).on b6)
  clear b6 o5
  clear k0 k1 k2 k3 k4 k5 m0 m1 m2 m3 m4 m5
  go_wp2_with fail
  refine (Tb.out _ (tab_below Htab.out (o6.out).1)).mono ?_
  rintro e v7 ⟨rfl, b7⟩
  have o7 := Lib.hid ((o6.out).on b7)
  clear b7 o6
  clear Hw Ga Gb Oa Ob Ta Tb
  go_wp2_with fail
  refine (Ra.out _ (tab_below Htab.out (o7.out).1)).mono ?_
  rintro e v8 ⟨rfl, b8⟩
  have o8 := Lib.hid ((o7.out).on b8)
  clear b8 o7
  have nb := Six.new ⟨kind, fn, copy, name, n, cell⟩ v8 28
  have oA := o8.out.on (Below.alloc (Below.refl _ _) (Nat.le_refl _) (.cells (Nd.cells ⟨kind, fn, copy, name, n, cell⟩) 28))
  unfold Nd.cells at nb oA
  obtain ⟨_, ⟨k0, k1, k2, k3, k4, k5⟩, _⟩ := oA
  obtain ⟨m0, m1, m2, m3, m4, m5⟩ := nb
  have k0 := cell_regrown k0
  have k1 := cell_regrown k1
  have k2 := cell_regrown k2
  have k3 := cell_regrown k3
  have k4 := cell_regrown k4
  have k5 := cell_regrown k5
  have m0 := cell_regrown m0
  have m1 := cell_regrown m1
  have m2 := cell_regrown m2
  have m3 := cell_regrown m3
  have m4 := cell_regrown m4
  have m5 := cell_regrown m5
  have oA := Lib.hid (o8.out.on (Below.alloc (Below.refl _ _) (Nat.le_refl _) (.cells #[.int .i64 kind, .string fn, .int .i64 copy, .string name, .int .i64 n, .int .i64 cell] 28)))
  clear o8 Ra
  go_wp2_with fail
  refine wp_region_quiet_below (by kernel_rfl) (by kernel_rfl) ?_
  repeat (quiet_step (exact HO.out _ _ _))
  refine wpQuiet_nil ?_
  intro _ hw'
  obtain ⟨⟨dq, osq⟩, hw''⟩ := hw'
  subst hw''
  have o20 := Lib.hid (oA.out.on (below_regrown _ dq osq))
  clear oA k0 k1 k2 k3 k4 k5 m0 m1 m2 m3 m4 m5 HO
  generalize grow (redrawn (v8.alloc (.cells #[.int .i64 kind, .string fn, .int .i64 copy, .string name, .int .i64 n, .int .i64 cell] 28)) dq) osq = v20 at *
  obtain ⟨_, ⟨k0, k1, k2, k3, k4, k5⟩, ⟨m0, m1, m2, m3, m4, m5⟩⟩ := o20.out
  go_wp2_with fail
  refine (Rs.out _ (tab_below Htab.out (o20.out).1)).mono ?_
  rintro e v21 ⟨rfl, b21⟩
  have o21 := Lib.hid ((o20.out).on b21)
  clear b21 o20
  clear k0 k1 k2 k3 k4 k5 m0 m1 m2 m3 m4 m5
  have hbz := Below.alloc o21.out.1 o21.out.1.size (.cells #[.int .i64 ckind, .string cfn, .int .i64 ccopy, .string cname, .int .i64 cn, .int .i64 ccell] 28)
  clear o21 Rs
  go_wp2_with fail
  refine (Ts.out _ (tab_below Htab.out hbz)).mono ?_
  rintro e v30 ⟨rfl, b30⟩
  have hbt := below_on hbz b30
  clear b30 hbz Ts
  go_wp2_with fail
  go_ret
  exact ⟨rfl, hbt⟩


theorem law_one (hd : Held) (he : HeldE) (hR : HeldR) (a b : Nd) (s : ByteArray) (w : World) (af : a.fn.size ≤ maxLen) (an : a.name.size ≤ maxLen) (bf : b.fn.size ≤ maxLen) (bn : b.name.size ≤ maxLen) (hs : s.size ≤ maxLen) (htab : Tab w) : Calls Tryd.prog 6 #[a.val, b.val, .string s] w (WorksPost w) := by
  by_cases hga : 200 < a.fn.size ∨ 200 < a.name.size
  · exact one_ga hd he hR a b s w af an bf bn hs htab hga
  by_cases hgb : 200 < b.fn.size ∨ 200 < b.name.size
  · exact one_gb hd he hR a b s w af an bf bn hs htab hga hgb
  by_cases hgs : 300 < s.size
  · exact one_gs hd he hR a b s w af an bf bn hs htab hga hgb hgs
  rcases hma : mayB a with _ | _
  · rcases hrs : readB s with _ | _
    · exact one_n_n hd he hR a b s w af an bf bn hs htab hga hgb hgs hma hrs
    · exact one_n_y hd he hR a b s w af an bf bn hs htab hga hgb hgs hma hrs
  · rcases hmb : mayB b with _ | _
    · rcases hrs : readB s with _ | _
      · exact one_yn_n hd he hR a b s w af an bf bn hs htab hga hgb hgs hma hmb hrs
      · exact one_yn_y hd he hR a b s w af an bf bn hs htab hga hgb hgs hma hmb hrs
    · rcases hrs : readB s with _ | _
      · exact one_yy_n hd he hR a b s w af an bf bn hs htab hga hgb hgs hma hmb hrs
      · exact one_yy_y hd he hR a b s w af an bf bn hs htab hga hgb hgs hma hmb hrs
end Go.Proofs.YtenohenkedofkabDoor.nm
