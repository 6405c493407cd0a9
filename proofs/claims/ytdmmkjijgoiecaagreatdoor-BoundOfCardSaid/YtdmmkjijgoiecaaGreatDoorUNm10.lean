import Derived.Test.YtdmmkjijgoiecaaGreatDoorV11
import Derived.WalkSmall
/-
  weftref14.Text: the text of a node, by definition.
-/
set_option linter.all false
namespace Go.Proofs.YtdmmkjijgoiecaaGreatDoor.nm
open Go.RowKit Go.Sort

theorem rmay_any (d : Nd) (w : World) (hsn : d.name.size ≤ maxLen) (hsf : d.fn.size ≤ maxLen) : Calls Tryz.prog 196 #[d.val] w (BPost (mayB d) w) := by
  rw [← right_may d]; exact right_any d w hsn hsf

theorem rtext_of (x : Int) (h0 : 0 ≤ x) (h1 : x ≤ 268435456) : ∃ T : ByteArray, T.data.toList = Lib.itoa x ∧ T.size ≤ 20 ∧ ∀ w, Calls Tryz.prog 197 #[.int .i64 x] w fun e w' => e = .returned (.string T) ∧ Below w.heap.size w w' :=
  ⟨⟨(Lib.itoa x).toArray⟩, rfl, by rw [mk_size]; exact itoa_len x h0 h1, fun w => dt.rtext_any x w (by omega) (by omega)⟩

theorem may_5 {fn : ByteArray} {copy : Int} {name : ByteArray} {n cell : Int} (hm : mayB ⟨5, fn, copy, name, n, cell⟩ = true) : fn.data.toList = [] ∧ copy = 0 := by
  rw [mayB_eq _ (by show (1 : Int) ≤ 5; omega) (by show (5 : Int) ≤ 7; omega)] at hm
  unfold mayF at hm
  simp only [Bool.and_eq_true, beq_iff_eq, if_true] at hm
  have h1 := hm.1
  have h2 := hm.2.1
  refine ⟨?_, h2⟩
  have hz := empty_of fn (List.isEmpty_iff.1 h1)
  have : fn.data.toList.length = 0 := by simpa using hz
  exact List.length_eq_zero_iff.1 this

set_option maxRecDepth 100000 in
set_option maxHeartbeats 4000000 in
theorem rtext_1 (fn : ByteArray) (copy : Int) (name : ByteArray) (n cell : Int) (w : World) (hm : mayB ⟨1, fn, copy, name, n, cell⟩ = true)  :
    Calls Tryz.prog 169 #[Nd.val ⟨1, fn, copy, name, n, cell⟩] w (TextPost ⟨1, fn, copy, name, n, cell⟩ w) := by
  obtain ⟨hsf, hsn⟩ := may_sizes _ hm
  obtain ⟨hcp, hce, _⟩ := may_bounds _ hm
  have hsf1 : fn.size ≤ 16 := hsf
  have hsn1 : name.size ≤ 16 := hsn
  have hcp1 : 0 ≤ copy ∧ copy ≤ 268435456 := hcp
  have hce1 : -1 ≤ cell ∧ cell ≤ 268435456 := hce
  clear hsf hsn hcp hce
  have Hmay : Hid (∀ w, Calls Tryz.prog 196 #[.agg #[.int .i64 1, .string fn, .int .i64 copy, .string name, .int .i64 n, .int .i64 cell]] w fun e w' => e = .returned (.bool true) ∧ Below w.heap.size w w') := Lib.hid (fun w => by
    have := rmay_any ⟨1, fn, copy, name, n, cell⟩ w (by show name.size ≤ maxLen; unfold maxLen; omega) (by show fn.size ≤ maxLen; unfold maxLen; omega)
    rw [hm] at this
    exact this)
  have Hm := Lib.hid hm
  clear hm
  obtain ⟨Tc, eTc, sTc, hTc⟩ := rtext_of copy hcp1.1 hcp1.2
  have eTc := Lib.hid eTc
  have hTc := Lib.hid hTc
  have Hnew : Hid (Six ⟨1, fn, copy, name, n, cell⟩ w.heap.size (w.alloc (.cells #[.int .i64 1, .string fn, .int .i64 copy, .string name, .int .i64 n, .int .i64 cell] 163))) := Lib.hid (Six.new ⟨1, fn, copy, name, n, cell⟩ w _)
  have hb0 : Below w.heap.size w (w.alloc (.cells #[.int .i64 1, .string fn, .int .i64 copy, .string name, .int .i64 n, .int .i64 cell] 163)) := (Below.refl _ _).alloc (Nat.le_refl _) _
  unfold Nd.val Nd.cells
  by_cases hl : cell = -1
  · have hlb : decide (0 ≤ cell) = false := by rw [hl]; rfl
    have hlc : ¬ 0 ≤ cell := by omega
    have hld : decide (cell < 0) = true := by rw [hl]; rfl
    have Hl := Lib.hid hl
    clear hl
    by_cases hc0 : 0 < copy
    · have Hc0 := Lib.hid hc0
      go_enter Tryz.func169, Tryz.ntmps169
      go_wp2_with fail
      refine (Hmay.out _).mono ?_
      rintro e w1 ⟨rfl, b1⟩
      have Hs1 := Lib.hid (Hnew.out.on b1)
      have hb1 := below_on hb0 b1
      obtain ⟨k0, k1, k2, k3, k4, k5⟩ := Hs1.out
      clear b1
      go_wp2_with fail
      refine (hTc.out _).mono ?_
      rintro e w2 ⟨rfl, b2⟩
      have Hs2 := Lib.hid (Hs1.out.on b2)
      have hb2 := below_on hb1 b2
      clear k0 k1 k2 k3 k4 k5 b2
      obtain ⟨k0, k1, k2, k3, k4, k5⟩ := Hs2.out
      go_wp2_with fail
      go_ret2
      refine textPost_mk Hm.out ?_ hb2
      unfold textL copyL cellL
      rw [if_pos Hc0.out, if_pos Hl.out]
      simp [markL, bodyL, eTc.out]
    · have Hc0 := Lib.hid hc0
      go_enter Tryz.func169, Tryz.ntmps169
      go_wp2_with fail
      refine (Hmay.out _).mono ?_
      rintro e w1 ⟨rfl, b1⟩
      have Hs1 := Lib.hid (Hnew.out.on b1)
      have hb1 := below_on hb0 b1
      obtain ⟨k0, k1, k2, k3, k4, k5⟩ := Hs1.out
      clear b1
      go_wp2_with fail
      go_ret2
      refine textPost_mk Hm.out ?_ hb1
      unfold textL copyL cellL
      rw [if_neg (show ¬ 0 < copy by have := Hc0.out; omega), if_pos Hl.out]
      simp [markL, bodyL]
  · have hlc : 0 ≤ cell := by omega
    have hlb : decide (0 ≤ cell) = true := decide_eq_true hlc
    have hld : decide (cell < 0) = false := decide_eq_false (by omega)
    obtain ⟨Tl, eTl, sTl, hTl⟩ := rtext_of cell (by omega) hce1.2
    have eTl := Lib.hid eTl
    have hTl := Lib.hid hTl
    have Hl := Lib.hid hl
    clear hl
    by_cases hc0 : 0 < copy
    · have Hc0 := Lib.hid hc0
      go_enter Tryz.func169, Tryz.ntmps169
      go_wp2_with fail
      refine (Hmay.out _).mono ?_
      rintro e w1 ⟨rfl, b1⟩
      have Hs1 := Lib.hid (Hnew.out.on b1)
      have hb1 := below_on hb0 b1
      obtain ⟨k0, k1, k2, k3, k4, k5⟩ := Hs1.out
      clear b1
      go_wp2_with fail
      refine (hTc.out _).mono ?_
      rintro e w2 ⟨rfl, b2⟩
      have Hs2 := Lib.hid (Hs1.out.on b2)
      have hb2 := below_on hb1 b2
      clear k0 k1 k2 k3 k4 k5 b2
      obtain ⟨k0, k1, k2, k3, k4, k5⟩ := Hs2.out
      go_wp2_with fail
      refine (hTl.out _).mono ?_
      rintro e w3 ⟨rfl, b3⟩
      have Hs3 := Lib.hid (Hs2.out.on b3)
      have hb3 := below_on hb2 b3
      clear k0 k1 k2 k3 k4 k5 b3
      obtain ⟨k0, k1, k2, k3, k4, k5⟩ := Hs3.out
      go_wp2_with fail
      go_ret2
      refine textPost_mk Hm.out ?_ hb3
      unfold textL copyL cellL
      rw [if_pos Hc0.out, if_neg Hl.out]
      simp [markL, bodyL, eTc.out, eTl.out]
    · have Hc0 := Lib.hid hc0
      go_enter Tryz.func169, Tryz.ntmps169
      go_wp2_with fail
      refine (Hmay.out _).mono ?_
      rintro e w1 ⟨rfl, b1⟩
      have Hs1 := Lib.hid (Hnew.out.on b1)
      have hb1 := below_on hb0 b1
      obtain ⟨k0, k1, k2, k3, k4, k5⟩ := Hs1.out
      clear b1
      go_wp2_with fail
      refine (hTl.out _).mono ?_
      rintro e w2 ⟨rfl, b2⟩
      have Hs2 := Lib.hid (Hs1.out.on b2)
      have hb2 := below_on hb1 b2
      clear k0 k1 k2 k3 k4 k5 b2
      obtain ⟨k0, k1, k2, k3, k4, k5⟩ := Hs2.out
      go_wp2_with fail
      go_ret2
      refine textPost_mk Hm.out ?_ hb2
      unfold textL copyL cellL
      rw [if_neg (show ¬ 0 < copy by have := Hc0.out; omega), if_neg Hl.out]
      simp [markL, bodyL, eTl.out]

set_option maxRecDepth 100000 in
set_option maxHeartbeats 4000000 in
theorem rtext_2 (fn : ByteArray) (copy : Int) (name : ByteArray) (n cell : Int) (w : World) (hm : mayB ⟨2, fn, copy, name, n, cell⟩ = true)  :
    Calls Tryz.prog 169 #[Nd.val ⟨2, fn, copy, name, n, cell⟩] w (TextPost ⟨2, fn, copy, name, n, cell⟩ w) := by
  obtain ⟨hsf, hsn⟩ := may_sizes _ hm
  obtain ⟨hcp, hce, _⟩ := may_bounds _ hm
  have hn1 : 0 ≤ n ∧ n ≤ 268435456 := may_n _ hm (by simp)
  have hsf1 : fn.size ≤ 16 := hsf
  have hsn1 : name.size ≤ 16 := hsn
  have hcp1 : 0 ≤ copy ∧ copy ≤ 268435456 := hcp
  have hce1 : -1 ≤ cell ∧ cell ≤ 268435456 := hce
  clear hsf hsn hcp hce
  have Hmay : Hid (∀ w, Calls Tryz.prog 196 #[.agg #[.int .i64 2, .string fn, .int .i64 copy, .string name, .int .i64 n, .int .i64 cell]] w fun e w' => e = .returned (.bool true) ∧ Below w.heap.size w w') := Lib.hid (fun w => by
    have := rmay_any ⟨2, fn, copy, name, n, cell⟩ w (by show name.size ≤ maxLen; unfold maxLen; omega) (by show fn.size ≤ maxLen; unfold maxLen; omega)
    rw [hm] at this
    exact this)
  have Hm := Lib.hid hm
  clear hm
  obtain ⟨Tc, eTc, sTc, hTc⟩ := rtext_of copy hcp1.1 hcp1.2
  have eTc := Lib.hid eTc
  have hTc := Lib.hid hTc
  obtain ⟨Tn, eTn, sTn, hTn⟩ := rtext_of n hn1.1 hn1.2
  have eTn := Lib.hid eTn
  have hTn := Lib.hid hTn
  have Hnew : Hid (Six ⟨2, fn, copy, name, n, cell⟩ w.heap.size (w.alloc (.cells #[.int .i64 2, .string fn, .int .i64 copy, .string name, .int .i64 n, .int .i64 cell] 163))) := Lib.hid (Six.new ⟨2, fn, copy, name, n, cell⟩ w _)
  have hb0 : Below w.heap.size w (w.alloc (.cells #[.int .i64 2, .string fn, .int .i64 copy, .string name, .int .i64 n, .int .i64 cell] 163)) := (Below.refl _ _).alloc (Nat.le_refl _) _
  unfold Nd.val Nd.cells
  by_cases hl : cell = -1
  · have hlb : decide (0 ≤ cell) = false := by rw [hl]; rfl
    have hlc : ¬ 0 ≤ cell := by omega
    have hld : decide (cell < 0) = true := by rw [hl]; rfl
    have Hl := Lib.hid hl
    clear hl
    by_cases hc0 : 0 < copy
    · have Hc0 := Lib.hid hc0
      go_enter Tryz.func169, Tryz.ntmps169
      go_wp2_with fail
      refine (Hmay.out _).mono ?_
      rintro e w1 ⟨rfl, b1⟩
      have Hs1 := Lib.hid (Hnew.out.on b1)
      have hb1 := below_on hb0 b1
      obtain ⟨k0, k1, k2, k3, k4, k5⟩ := Hs1.out
      clear b1
      go_wp2_with fail
      refine (hTc.out _).mono ?_
      rintro e w2 ⟨rfl, b2⟩
      have Hs2 := Lib.hid (Hs1.out.on b2)
      have hb2 := below_on hb1 b2
      clear k0 k1 k2 k3 k4 k5 b2
      obtain ⟨k0, k1, k2, k3, k4, k5⟩ := Hs2.out
      go_wp2_with fail
      refine (hTn.out _).mono ?_
      rintro e w3 ⟨rfl, b3⟩
      have Hs3 := Lib.hid (Hs2.out.on b3)
      have hb3 := below_on hb2 b3
      clear k0 k1 k2 k3 k4 k5 b3
      obtain ⟨k0, k1, k2, k3, k4, k5⟩ := Hs3.out
      go_wp2_with fail
      go_ret2
      refine textPost_mk Hm.out ?_ hb3
      unfold textL copyL cellL
      rw [if_pos Hc0.out, if_pos Hl.out]
      simp [markL, bodyL, eTc.out, eTn.out]
    · have Hc0 := Lib.hid hc0
      go_enter Tryz.func169, Tryz.ntmps169
      go_wp2_with fail
      refine (Hmay.out _).mono ?_
      rintro e w1 ⟨rfl, b1⟩
      have Hs1 := Lib.hid (Hnew.out.on b1)
      have hb1 := below_on hb0 b1
      obtain ⟨k0, k1, k2, k3, k4, k5⟩ := Hs1.out
      clear b1
      go_wp2_with fail
      refine (hTn.out _).mono ?_
      rintro e w2 ⟨rfl, b2⟩
      have Hs2 := Lib.hid (Hs1.out.on b2)
      have hb2 := below_on hb1 b2
      clear k0 k1 k2 k3 k4 k5 b2
      obtain ⟨k0, k1, k2, k3, k4, k5⟩ := Hs2.out
      go_wp2_with fail
      go_ret2
      refine textPost_mk Hm.out ?_ hb2
      unfold textL copyL cellL
      rw [if_neg (show ¬ 0 < copy by have := Hc0.out; omega), if_pos Hl.out]
      simp [markL, bodyL, eTn.out]
  · have hlc : 0 ≤ cell := by omega
    have hlb : decide (0 ≤ cell) = true := decide_eq_true hlc
    have hld : decide (cell < 0) = false := decide_eq_false (by omega)
    obtain ⟨Tl, eTl, sTl, hTl⟩ := rtext_of cell (by omega) hce1.2
    have eTl := Lib.hid eTl
    have hTl := Lib.hid hTl
    have Hl := Lib.hid hl
    clear hl
    by_cases hc0 : 0 < copy
    · have Hc0 := Lib.hid hc0
      go_enter Tryz.func169, Tryz.ntmps169
      go_wp2_with fail
      refine (Hmay.out _).mono ?_
      rintro e w1 ⟨rfl, b1⟩
      have Hs1 := Lib.hid (Hnew.out.on b1)
      have hb1 := below_on hb0 b1
      obtain ⟨k0, k1, k2, k3, k4, k5⟩ := Hs1.out
      clear b1
      go_wp2_with fail
      refine (hTc.out _).mono ?_
      rintro e w2 ⟨rfl, b2⟩
      have Hs2 := Lib.hid (Hs1.out.on b2)
      have hb2 := below_on hb1 b2
      clear k0 k1 k2 k3 k4 k5 b2
      obtain ⟨k0, k1, k2, k3, k4, k5⟩ := Hs2.out
      go_wp2_with fail
      refine (hTn.out _).mono ?_
      rintro e w3 ⟨rfl, b3⟩
      have Hs3 := Lib.hid (Hs2.out.on b3)
      have hb3 := below_on hb2 b3
      clear k0 k1 k2 k3 k4 k5 b3
      obtain ⟨k0, k1, k2, k3, k4, k5⟩ := Hs3.out
      go_wp2_with fail
      refine (hTl.out _).mono ?_
      rintro e w4 ⟨rfl, b4⟩
      have Hs4 := Lib.hid (Hs3.out.on b4)
      have hb4 := below_on hb3 b4
      clear k0 k1 k2 k3 k4 k5 b4
      obtain ⟨k0, k1, k2, k3, k4, k5⟩ := Hs4.out
      go_wp2_with fail
      go_ret2
      refine textPost_mk Hm.out ?_ hb4
      unfold textL copyL cellL
      rw [if_pos Hc0.out, if_neg Hl.out]
      simp [markL, bodyL, eTc.out, eTn.out, eTl.out]
    · have Hc0 := Lib.hid hc0
      go_enter Tryz.func169, Tryz.ntmps169
      go_wp2_with fail
      refine (Hmay.out _).mono ?_
      rintro e w1 ⟨rfl, b1⟩
      have Hs1 := Lib.hid (Hnew.out.on b1)
      have hb1 := below_on hb0 b1
      obtain ⟨k0, k1, k2, k3, k4, k5⟩ := Hs1.out
      clear b1
      go_wp2_with fail
      refine (hTn.out _).mono ?_
      rintro e w2 ⟨rfl, b2⟩
      have Hs2 := Lib.hid (Hs1.out.on b2)
      have hb2 := below_on hb1 b2
      clear k0 k1 k2 k3 k4 k5 b2
      obtain ⟨k0, k1, k2, k3, k4, k5⟩ := Hs2.out
      go_wp2_with fail
      refine (hTl.out _).mono ?_
      rintro e w3 ⟨rfl, b3⟩
      have Hs3 := Lib.hid (Hs2.out.on b3)
      have hb3 := below_on hb2 b3
      clear k0 k1 k2 k3 k4 k5 b3
      obtain ⟨k0, k1, k2, k3, k4, k5⟩ := Hs3.out
      go_wp2_with fail
      go_ret2
      refine textPost_mk Hm.out ?_ hb3
      unfold textL copyL cellL
      rw [if_neg (show ¬ 0 < copy by have := Hc0.out; omega), if_neg Hl.out]
      simp [markL, bodyL, eTn.out, eTl.out]

set_option maxRecDepth 100000 in
set_option maxHeartbeats 4000000 in
theorem rtext_3 (fn : ByteArray) (copy : Int) (name : ByteArray) (n cell : Int) (w : World) (hm : mayB ⟨3, fn, copy, name, n, cell⟩ = true)  :
    Calls Tryz.prog 169 #[Nd.val ⟨3, fn, copy, name, n, cell⟩] w (TextPost ⟨3, fn, copy, name, n, cell⟩ w) := by
  obtain ⟨hsf, hsn⟩ := may_sizes _ hm
  obtain ⟨hcp, hce, _⟩ := may_bounds _ hm
  have hn1 : 0 ≤ n ∧ n ≤ 268435456 := may_n _ hm (by simp)
  have hsf1 : fn.size ≤ 16 := hsf
  have hsn1 : name.size ≤ 16 := hsn
  have hcp1 : 0 ≤ copy ∧ copy ≤ 268435456 := hcp
  have hce1 : -1 ≤ cell ∧ cell ≤ 268435456 := hce
  clear hsf hsn hcp hce
  have Hmay : Hid (∀ w, Calls Tryz.prog 196 #[.agg #[.int .i64 3, .string fn, .int .i64 copy, .string name, .int .i64 n, .int .i64 cell]] w fun e w' => e = .returned (.bool true) ∧ Below w.heap.size w w') := Lib.hid (fun w => by
    have := rmay_any ⟨3, fn, copy, name, n, cell⟩ w (by show name.size ≤ maxLen; unfold maxLen; omega) (by show fn.size ≤ maxLen; unfold maxLen; omega)
    rw [hm] at this
    exact this)
  have Hm := Lib.hid hm
  clear hm
  obtain ⟨Tc, eTc, sTc, hTc⟩ := rtext_of copy hcp1.1 hcp1.2
  have eTc := Lib.hid eTc
  have hTc := Lib.hid hTc
  obtain ⟨Tn, eTn, sTn, hTn⟩ := rtext_of n hn1.1 hn1.2
  have eTn := Lib.hid eTn
  have hTn := Lib.hid hTn
  have Hnew : Hid (Six ⟨3, fn, copy, name, n, cell⟩ w.heap.size (w.alloc (.cells #[.int .i64 3, .string fn, .int .i64 copy, .string name, .int .i64 n, .int .i64 cell] 163))) := Lib.hid (Six.new ⟨3, fn, copy, name, n, cell⟩ w _)
  have hb0 : Below w.heap.size w (w.alloc (.cells #[.int .i64 3, .string fn, .int .i64 copy, .string name, .int .i64 n, .int .i64 cell] 163)) := (Below.refl _ _).alloc (Nat.le_refl _) _
  unfold Nd.val Nd.cells
  by_cases hl : cell = -1
  · have hlb : decide (0 ≤ cell) = false := by rw [hl]; rfl
    have hlc : ¬ 0 ≤ cell := by omega
    have hld : decide (cell < 0) = true := by rw [hl]; rfl
    have Hl := Lib.hid hl
    clear hl
    by_cases hc0 : 0 < copy
    · have Hc0 := Lib.hid hc0
      go_enter Tryz.func169, Tryz.ntmps169
      go_wp2_with fail
      refine (Hmay.out _).mono ?_
      rintro e w1 ⟨rfl, b1⟩
      have Hs1 := Lib.hid (Hnew.out.on b1)
      have hb1 := below_on hb0 b1
      obtain ⟨k0, k1, k2, k3, k4, k5⟩ := Hs1.out
      clear b1
      go_wp2_with fail
      refine (hTc.out _).mono ?_
      rintro e w2 ⟨rfl, b2⟩
      have Hs2 := Lib.hid (Hs1.out.on b2)
      have hb2 := below_on hb1 b2
      clear k0 k1 k2 k3 k4 k5 b2
      obtain ⟨k0, k1, k2, k3, k4, k5⟩ := Hs2.out
      go_wp2_with fail
      refine (hTn.out _).mono ?_
      rintro e w3 ⟨rfl, b3⟩
      have Hs3 := Lib.hid (Hs2.out.on b3)
      have hb3 := below_on hb2 b3
      clear k0 k1 k2 k3 k4 k5 b3
      obtain ⟨k0, k1, k2, k3, k4, k5⟩ := Hs3.out
      go_wp2_with fail
      go_ret2
      refine textPost_mk Hm.out ?_ hb3
      unfold textL copyL cellL
      rw [if_pos Hc0.out, if_pos Hl.out]
      simp [markL, bodyL, eTc.out, eTn.out]
    · have Hc0 := Lib.hid hc0
      go_enter Tryz.func169, Tryz.ntmps169
      go_wp2_with fail
      refine (Hmay.out _).mono ?_
      rintro e w1 ⟨rfl, b1⟩
      have Hs1 := Lib.hid (Hnew.out.on b1)
      have hb1 := below_on hb0 b1
      obtain ⟨k0, k1, k2, k3, k4, k5⟩ := Hs1.out
      clear b1
      go_wp2_with fail
      refine (hTn.out _).mono ?_
      rintro e w2 ⟨rfl, b2⟩
      have Hs2 := Lib.hid (Hs1.out.on b2)
      have hb2 := below_on hb1 b2
      clear k0 k1 k2 k3 k4 k5 b2
      obtain ⟨k0, k1, k2, k3, k4, k5⟩ := Hs2.out
      go_wp2_with fail
      go_ret2
      refine textPost_mk Hm.out ?_ hb2
      unfold textL copyL cellL
      rw [if_neg (show ¬ 0 < copy by have := Hc0.out; omega), if_pos Hl.out]
      simp [markL, bodyL, eTn.out]
  · have hlc : 0 ≤ cell := by omega
    have hlb : decide (0 ≤ cell) = true := decide_eq_true hlc
    have hld : decide (cell < 0) = false := decide_eq_false (by omega)
    obtain ⟨Tl, eTl, sTl, hTl⟩ := rtext_of cell (by omega) hce1.2
    have eTl := Lib.hid eTl
    have hTl := Lib.hid hTl
    have Hl := Lib.hid hl
    clear hl
    by_cases hc0 : 0 < copy
    · have Hc0 := Lib.hid hc0
      go_enter Tryz.func169, Tryz.ntmps169
      go_wp2_with fail
      refine (Hmay.out _).mono ?_
      rintro e w1 ⟨rfl, b1⟩
      have Hs1 := Lib.hid (Hnew.out.on b1)
      have hb1 := below_on hb0 b1
      obtain ⟨k0, k1, k2, k3, k4, k5⟩ := Hs1.out
      clear b1
      go_wp2_with fail
      refine (hTc.out _).mono ?_
      rintro e w2 ⟨rfl, b2⟩
      have Hs2 := Lib.hid (Hs1.out.on b2)
      have hb2 := below_on hb1 b2
      clear k0 k1 k2 k3 k4 k5 b2
      obtain ⟨k0, k1, k2, k3, k4, k5⟩ := Hs2.out
      go_wp2_with fail
      refine (hTn.out _).mono ?_
      rintro e w3 ⟨rfl, b3⟩
      have Hs3 := Lib.hid (Hs2.out.on b3)
      have hb3 := below_on hb2 b3
      clear k0 k1 k2 k3 k4 k5 b3
      obtain ⟨k0, k1, k2, k3, k4, k5⟩ := Hs3.out
      go_wp2_with fail
      refine (hTl.out _).mono ?_
      rintro e w4 ⟨rfl, b4⟩
      have Hs4 := Lib.hid (Hs3.out.on b4)
      have hb4 := below_on hb3 b4
      clear k0 k1 k2 k3 k4 k5 b4
      obtain ⟨k0, k1, k2, k3, k4, k5⟩ := Hs4.out
      go_wp2_with fail
      go_ret2
      refine textPost_mk Hm.out ?_ hb4
      unfold textL copyL cellL
      rw [if_pos Hc0.out, if_neg Hl.out]
      simp [markL, bodyL, eTc.out, eTn.out, eTl.out]
    · have Hc0 := Lib.hid hc0
      go_enter Tryz.func169, Tryz.ntmps169
      go_wp2_with fail
      refine (Hmay.out _).mono ?_
      rintro e w1 ⟨rfl, b1⟩
      have Hs1 := Lib.hid (Hnew.out.on b1)
      have hb1 := below_on hb0 b1
      obtain ⟨k0, k1, k2, k3, k4, k5⟩ := Hs1.out
      clear b1
      go_wp2_with fail
      refine (hTn.out _).mono ?_
      rintro e w2 ⟨rfl, b2⟩
      have Hs2 := Lib.hid (Hs1.out.on b2)
      have hb2 := below_on hb1 b2
      clear k0 k1 k2 k3 k4 k5 b2
      obtain ⟨k0, k1, k2, k3, k4, k5⟩ := Hs2.out
      go_wp2_with fail
      refine (hTl.out _).mono ?_
      rintro e w3 ⟨rfl, b3⟩
      have Hs3 := Lib.hid (Hs2.out.on b3)
      have hb3 := below_on hb2 b3
      clear k0 k1 k2 k3 k4 k5 b3
      obtain ⟨k0, k1, k2, k3, k4, k5⟩ := Hs3.out
      go_wp2_with fail
      go_ret2
      refine textPost_mk Hm.out ?_ hb3
      unfold textL copyL cellL
      rw [if_neg (show ¬ 0 < copy by have := Hc0.out; omega), if_neg Hl.out]
      simp [markL, bodyL, eTn.out, eTl.out]

set_option maxRecDepth 100000 in
set_option maxHeartbeats 4000000 in
theorem rtext_4 (fn : ByteArray) (copy : Int) (name : ByteArray) (n cell : Int) (w : World) (hm : mayB ⟨4, fn, copy, name, n, cell⟩ = true)  :
    Calls Tryz.prog 169 #[Nd.val ⟨4, fn, copy, name, n, cell⟩] w (TextPost ⟨4, fn, copy, name, n, cell⟩ w) := by
  obtain ⟨hsf, hsn⟩ := may_sizes _ hm
  obtain ⟨hcp, hce, _⟩ := may_bounds _ hm
  have hsf1 : fn.size ≤ 16 := hsf
  have hsn1 : name.size ≤ 16 := hsn
  have hcp1 : 0 ≤ copy ∧ copy ≤ 268435456 := hcp
  have hce1 : -1 ≤ cell ∧ cell ≤ 268435456 := hce
  clear hsf hsn hcp hce
  have Hmay : Hid (∀ w, Calls Tryz.prog 196 #[.agg #[.int .i64 4, .string fn, .int .i64 copy, .string name, .int .i64 n, .int .i64 cell]] w fun e w' => e = .returned (.bool true) ∧ Below w.heap.size w w') := Lib.hid (fun w => by
    have := rmay_any ⟨4, fn, copy, name, n, cell⟩ w (by show name.size ≤ maxLen; unfold maxLen; omega) (by show fn.size ≤ maxLen; unfold maxLen; omega)
    rw [hm] at this
    exact this)
  have Hm := Lib.hid hm
  clear hm
  obtain ⟨Tc, eTc, sTc, hTc⟩ := rtext_of copy hcp1.1 hcp1.2
  have eTc := Lib.hid eTc
  have hTc := Lib.hid hTc
  have Hnew : Hid (Six ⟨4, fn, copy, name, n, cell⟩ w.heap.size (w.alloc (.cells #[.int .i64 4, .string fn, .int .i64 copy, .string name, .int .i64 n, .int .i64 cell] 163))) := Lib.hid (Six.new ⟨4, fn, copy, name, n, cell⟩ w _)
  have hb0 : Below w.heap.size w (w.alloc (.cells #[.int .i64 4, .string fn, .int .i64 copy, .string name, .int .i64 n, .int .i64 cell] 163)) := (Below.refl _ _).alloc (Nat.le_refl _) _
  unfold Nd.val Nd.cells
  by_cases hl : cell = -1
  · have hlb : decide (0 ≤ cell) = false := by rw [hl]; rfl
    have hlc : ¬ 0 ≤ cell := by omega
    have hld : decide (cell < 0) = true := by rw [hl]; rfl
    have Hl := Lib.hid hl
    clear hl
    by_cases hc0 : 0 < copy
    · have Hc0 := Lib.hid hc0
      go_enter Tryz.func169, Tryz.ntmps169
      go_wp2_with fail
      refine (Hmay.out _).mono ?_
      rintro e w1 ⟨rfl, b1⟩
      have Hs1 := Lib.hid (Hnew.out.on b1)
      have hb1 := below_on hb0 b1
      obtain ⟨k0, k1, k2, k3, k4, k5⟩ := Hs1.out
      clear b1
      go_wp2_with fail
      refine (hTc.out _).mono ?_
      rintro e w2 ⟨rfl, b2⟩
      have Hs2 := Lib.hid (Hs1.out.on b2)
      have hb2 := below_on hb1 b2
      clear k0 k1 k2 k3 k4 k5 b2
      obtain ⟨k0, k1, k2, k3, k4, k5⟩ := Hs2.out
      go_wp2_with fail
      go_ret2
      refine textPost_mk Hm.out ?_ hb2
      unfold textL copyL cellL
      rw [if_pos Hc0.out, if_pos Hl.out]
      simp [markL, bodyL, eTc.out]
    · have Hc0 := Lib.hid hc0
      go_enter Tryz.func169, Tryz.ntmps169
      go_wp2_with fail
      refine (Hmay.out _).mono ?_
      rintro e w1 ⟨rfl, b1⟩
      have Hs1 := Lib.hid (Hnew.out.on b1)
      have hb1 := below_on hb0 b1
      obtain ⟨k0, k1, k2, k3, k4, k5⟩ := Hs1.out
      clear b1
      go_wp2_with fail
      go_ret2
      refine textPost_mk Hm.out ?_ hb1
      unfold textL copyL cellL
      rw [if_neg (show ¬ 0 < copy by have := Hc0.out; omega), if_pos Hl.out]
      simp [markL, bodyL]
  · have hlc : 0 ≤ cell := by omega
    have hlb : decide (0 ≤ cell) = true := decide_eq_true hlc
    have hld : decide (cell < 0) = false := decide_eq_false (by omega)
    obtain ⟨Tl, eTl, sTl, hTl⟩ := rtext_of cell (by omega) hce1.2
    have eTl := Lib.hid eTl
    have hTl := Lib.hid hTl
    have Hl := Lib.hid hl
    clear hl
    by_cases hc0 : 0 < copy
    · have Hc0 := Lib.hid hc0
      go_enter Tryz.func169, Tryz.ntmps169
      go_wp2_with fail
      refine (Hmay.out _).mono ?_
      rintro e w1 ⟨rfl, b1⟩
      have Hs1 := Lib.hid (Hnew.out.on b1)
      have hb1 := below_on hb0 b1
      obtain ⟨k0, k1, k2, k3, k4, k5⟩ := Hs1.out
      clear b1
      go_wp2_with fail
      refine (hTc.out _).mono ?_
      rintro e w2 ⟨rfl, b2⟩
      have Hs2 := Lib.hid (Hs1.out.on b2)
      have hb2 := below_on hb1 b2
      clear k0 k1 k2 k3 k4 k5 b2
      obtain ⟨k0, k1, k2, k3, k4, k5⟩ := Hs2.out
      go_wp2_with fail
      refine (hTl.out _).mono ?_
      rintro e w3 ⟨rfl, b3⟩
      have Hs3 := Lib.hid (Hs2.out.on b3)
      have hb3 := below_on hb2 b3
      clear k0 k1 k2 k3 k4 k5 b3
      obtain ⟨k0, k1, k2, k3, k4, k5⟩ := Hs3.out
      go_wp2_with fail
      go_ret2
      refine textPost_mk Hm.out ?_ hb3
      unfold textL copyL cellL
      rw [if_pos Hc0.out, if_neg Hl.out]
      simp [markL, bodyL, eTc.out, eTl.out]
    · have Hc0 := Lib.hid hc0
      go_enter Tryz.func169, Tryz.ntmps169
      go_wp2_with fail
      refine (Hmay.out _).mono ?_
      rintro e w1 ⟨rfl, b1⟩
      have Hs1 := Lib.hid (Hnew.out.on b1)
      have hb1 := below_on hb0 b1
      obtain ⟨k0, k1, k2, k3, k4, k5⟩ := Hs1.out
      clear b1
      go_wp2_with fail
      refine (hTl.out _).mono ?_
      rintro e w2 ⟨rfl, b2⟩
      have Hs2 := Lib.hid (Hs1.out.on b2)
      have hb2 := below_on hb1 b2
      clear k0 k1 k2 k3 k4 k5 b2
      obtain ⟨k0, k1, k2, k3, k4, k5⟩ := Hs2.out
      go_wp2_with fail
      go_ret2
      refine textPost_mk Hm.out ?_ hb2
      unfold textL copyL cellL
      rw [if_neg (show ¬ 0 < copy by have := Hc0.out; omega), if_neg Hl.out]
      simp [markL, bodyL, eTl.out]

set_option maxRecDepth 100000 in
set_option maxHeartbeats 4000000 in
theorem rtext_5 (fn : ByteArray) (copy : Int) (name : ByteArray) (n cell : Int) (w : World) (hm : mayB ⟨5, fn, copy, name, n, cell⟩ = true)  :
    Calls Tryz.prog 169 #[Nd.val ⟨5, fn, copy, name, n, cell⟩] w (TextPost ⟨5, fn, copy, name, n, cell⟩ w) := by
  obtain ⟨hsf, hsn⟩ := may_sizes _ hm
  obtain ⟨hcp, hce, _⟩ := may_bounds _ hm
  have hsf1 : fn.size ≤ 16 := hsf
  have hsn1 : name.size ≤ 16 := hsn
  have hcp1 : 0 ≤ copy ∧ copy ≤ 268435456 := hcp
  have hce1 : -1 ≤ cell ∧ cell ≤ 268435456 := hce
  clear hsf hsn hcp hce
  have Hmay : Hid (∀ w, Calls Tryz.prog 196 #[.agg #[.int .i64 5, .string fn, .int .i64 copy, .string name, .int .i64 n, .int .i64 cell]] w fun e w' => e = .returned (.bool true) ∧ Below w.heap.size w w') := Lib.hid (fun w => by
    have := rmay_any ⟨5, fn, copy, name, n, cell⟩ w (by show name.size ≤ maxLen; unfold maxLen; omega) (by show fn.size ≤ maxLen; unfold maxLen; omega)
    rw [hm] at this
    exact this)
  obtain ⟨hfe, hce5⟩ := may_5 hm
  have Hcz := Lib.hid hce5
  have Hfe := Lib.hid hfe
  clear hfe hce5
  have Hm := Lib.hid hm
  clear hm
  obtain ⟨Tc, eTc, sTc, hTc⟩ := rtext_of copy hcp1.1 hcp1.2
  have eTc := Lib.hid eTc
  have hTc := Lib.hid hTc
  have Hnew : Hid (Six ⟨5, fn, copy, name, n, cell⟩ w.heap.size (w.alloc (.cells #[.int .i64 5, .string fn, .int .i64 copy, .string name, .int .i64 n, .int .i64 cell] 163))) := Lib.hid (Six.new ⟨5, fn, copy, name, n, cell⟩ w _)
  have hb0 : Below w.heap.size w (w.alloc (.cells #[.int .i64 5, .string fn, .int .i64 copy, .string name, .int .i64 n, .int .i64 cell] 163)) := (Below.refl _ _).alloc (Nat.le_refl _) _
  unfold Nd.val Nd.cells
  by_cases hl : cell = -1
  · have hlb : decide (0 ≤ cell) = false := by rw [hl]; rfl
    have hlc : ¬ 0 ≤ cell := by omega
    have hld : decide (cell < 0) = true := by rw [hl]; rfl
    have Hl := Lib.hid hl
    clear hl
    by_cases hc0 : 0 < copy
    · have Hc0 := Lib.hid hc0
      exact absurd Hc0.out (by have := Hcz.out; omega)
    · have Hc0 := Lib.hid hc0
      go_enter Tryz.func169, Tryz.ntmps169
      go_wp2_with fail
      refine (Hmay.out _).mono ?_
      rintro e w1 ⟨rfl, b1⟩
      have Hs1 := Lib.hid (Hnew.out.on b1)
      have hb1 := below_on hb0 b1
      obtain ⟨k0, k1, k2, k3, k4, k5⟩ := Hs1.out
      clear b1
      go_wp2_with fail
      go_ret2
      refine textPost_mk Hm.out ?_ hb1
      unfold textL copyL cellL
      rw [if_neg (show ¬ 0 < copy by have := Hc0.out; omega), if_pos Hl.out]
      simp [markL, bodyL, Hfe.out]
  · have hlc : 0 ≤ cell := by omega
    have hlb : decide (0 ≤ cell) = true := decide_eq_true hlc
    have hld : decide (cell < 0) = false := decide_eq_false (by omega)
    obtain ⟨Tl, eTl, sTl, hTl⟩ := rtext_of cell (by omega) hce1.2
    have eTl := Lib.hid eTl
    have hTl := Lib.hid hTl
    have Hl := Lib.hid hl
    clear hl
    by_cases hc0 : 0 < copy
    · have Hc0 := Lib.hid hc0
      exact absurd Hc0.out (by have := Hcz.out; omega)
    · have Hc0 := Lib.hid hc0
      go_enter Tryz.func169, Tryz.ntmps169
      go_wp2_with fail
      refine (Hmay.out _).mono ?_
      rintro e w1 ⟨rfl, b1⟩
      have Hs1 := Lib.hid (Hnew.out.on b1)
      have hb1 := below_on hb0 b1
      obtain ⟨k0, k1, k2, k3, k4, k5⟩ := Hs1.out
      clear b1
      go_wp2_with fail
      refine (hTl.out _).mono ?_
      rintro e w2 ⟨rfl, b2⟩
      have Hs2 := Lib.hid (Hs1.out.on b2)
      have hb2 := below_on hb1 b2
      clear k0 k1 k2 k3 k4 k5 b2
      obtain ⟨k0, k1, k2, k3, k4, k5⟩ := Hs2.out
      go_wp2_with fail
      go_ret2
      refine textPost_mk Hm.out ?_ hb2
      unfold textL copyL cellL
      rw [if_neg (show ¬ 0 < copy by have := Hc0.out; omega), if_neg Hl.out]
      simp [markL, bodyL, Hfe.out, eTl.out]

set_option maxRecDepth 100000 in
set_option maxHeartbeats 4000000 in
theorem rtext_6 (fn : ByteArray) (copy : Int) (name : ByteArray) (n cell : Int) (w : World) (hm : mayB ⟨6, fn, copy, name, n, cell⟩ = true)  :
    Calls Tryz.prog 169 #[Nd.val ⟨6, fn, copy, name, n, cell⟩] w (TextPost ⟨6, fn, copy, name, n, cell⟩ w) := by
  obtain ⟨hsf, hsn⟩ := may_sizes _ hm
  obtain ⟨hcp, hce, _⟩ := may_bounds _ hm
  have hsf1 : fn.size ≤ 16 := hsf
  have hsn1 : name.size ≤ 16 := hsn
  have hcp1 : 0 ≤ copy ∧ copy ≤ 268435456 := hcp
  have hce1 : -1 ≤ cell ∧ cell ≤ 268435456 := hce
  clear hsf hsn hcp hce
  have Hmay : Hid (∀ w, Calls Tryz.prog 196 #[.agg #[.int .i64 6, .string fn, .int .i64 copy, .string name, .int .i64 n, .int .i64 cell]] w fun e w' => e = .returned (.bool true) ∧ Below w.heap.size w w') := Lib.hid (fun w => by
    have := rmay_any ⟨6, fn, copy, name, n, cell⟩ w (by show name.size ≤ maxLen; unfold maxLen; omega) (by show fn.size ≤ maxLen; unfold maxLen; omega)
    rw [hm] at this
    exact this)
  have Hm := Lib.hid hm
  clear hm
  obtain ⟨Tc, eTc, sTc, hTc⟩ := rtext_of copy hcp1.1 hcp1.2
  have eTc := Lib.hid eTc
  have hTc := Lib.hid hTc
  have Hnew : Hid (Six ⟨6, fn, copy, name, n, cell⟩ w.heap.size (w.alloc (.cells #[.int .i64 6, .string fn, .int .i64 copy, .string name, .int .i64 n, .int .i64 cell] 163))) := Lib.hid (Six.new ⟨6, fn, copy, name, n, cell⟩ w _)
  have hb0 : Below w.heap.size w (w.alloc (.cells #[.int .i64 6, .string fn, .int .i64 copy, .string name, .int .i64 n, .int .i64 cell] 163)) := (Below.refl _ _).alloc (Nat.le_refl _) _
  unfold Nd.val Nd.cells
  by_cases hl : cell = -1
  · have hlb : decide (0 ≤ cell) = false := by rw [hl]; rfl
    have hlc : ¬ 0 ≤ cell := by omega
    have hld : decide (cell < 0) = true := by rw [hl]; rfl
    have Hl := Lib.hid hl
    clear hl
    by_cases hc0 : 0 < copy
    · have Hc0 := Lib.hid hc0
      go_enter Tryz.func169, Tryz.ntmps169
      go_wp2_with fail
      refine (Hmay.out _).mono ?_
      rintro e w1 ⟨rfl, b1⟩
      have Hs1 := Lib.hid (Hnew.out.on b1)
      have hb1 := below_on hb0 b1
      obtain ⟨k0, k1, k2, k3, k4, k5⟩ := Hs1.out
      clear b1
      go_wp2_with fail
      refine (hTc.out _).mono ?_
      rintro e w2 ⟨rfl, b2⟩
      have Hs2 := Lib.hid (Hs1.out.on b2)
      have hb2 := below_on hb1 b2
      clear k0 k1 k2 k3 k4 k5 b2
      obtain ⟨k0, k1, k2, k3, k4, k5⟩ := Hs2.out
      go_wp2_with fail
      go_ret2
      refine textPost_mk Hm.out ?_ hb2
      unfold textL copyL cellL
      rw [if_pos Hc0.out, if_pos Hl.out]
      simp [markL, bodyL, eTc.out]
    · have Hc0 := Lib.hid hc0
      go_enter Tryz.func169, Tryz.ntmps169
      go_wp2_with fail
      refine (Hmay.out _).mono ?_
      rintro e w1 ⟨rfl, b1⟩
      have Hs1 := Lib.hid (Hnew.out.on b1)
      have hb1 := below_on hb0 b1
      obtain ⟨k0, k1, k2, k3, k4, k5⟩ := Hs1.out
      clear b1
      go_wp2_with fail
      go_ret2
      refine textPost_mk Hm.out ?_ hb1
      unfold textL copyL cellL
      rw [if_neg (show ¬ 0 < copy by have := Hc0.out; omega), if_pos Hl.out]
      simp [markL, bodyL]
  · have hlc : 0 ≤ cell := by omega
    have hlb : decide (0 ≤ cell) = true := decide_eq_true hlc
    have hld : decide (cell < 0) = false := decide_eq_false (by omega)
    obtain ⟨Tl, eTl, sTl, hTl⟩ := rtext_of cell (by omega) hce1.2
    have eTl := Lib.hid eTl
    have hTl := Lib.hid hTl
    have Hl := Lib.hid hl
    clear hl
    by_cases hc0 : 0 < copy
    · have Hc0 := Lib.hid hc0
      go_enter Tryz.func169, Tryz.ntmps169
      go_wp2_with fail
      refine (Hmay.out _).mono ?_
      rintro e w1 ⟨rfl, b1⟩
      have Hs1 := Lib.hid (Hnew.out.on b1)
      have hb1 := below_on hb0 b1
      obtain ⟨k0, k1, k2, k3, k4, k5⟩ := Hs1.out
      clear b1
      go_wp2_with fail
      refine (hTc.out _).mono ?_
      rintro e w2 ⟨rfl, b2⟩
      have Hs2 := Lib.hid (Hs1.out.on b2)
      have hb2 := below_on hb1 b2
      clear k0 k1 k2 k3 k4 k5 b2
      obtain ⟨k0, k1, k2, k3, k4, k5⟩ := Hs2.out
      go_wp2_with fail
      refine (hTl.out _).mono ?_
      rintro e w3 ⟨rfl, b3⟩
      have Hs3 := Lib.hid (Hs2.out.on b3)
      have hb3 := below_on hb2 b3
      clear k0 k1 k2 k3 k4 k5 b3
      obtain ⟨k0, k1, k2, k3, k4, k5⟩ := Hs3.out
      go_wp2_with fail
      go_ret2
      refine textPost_mk Hm.out ?_ hb3
      unfold textL copyL cellL
      rw [if_pos Hc0.out, if_neg Hl.out]
      simp [markL, bodyL, eTc.out, eTl.out]
    · have Hc0 := Lib.hid hc0
      go_enter Tryz.func169, Tryz.ntmps169
      go_wp2_with fail
      refine (Hmay.out _).mono ?_
      rintro e w1 ⟨rfl, b1⟩
      have Hs1 := Lib.hid (Hnew.out.on b1)
      have hb1 := below_on hb0 b1
      obtain ⟨k0, k1, k2, k3, k4, k5⟩ := Hs1.out
      clear b1
      go_wp2_with fail
      refine (hTl.out _).mono ?_
      rintro e w2 ⟨rfl, b2⟩
      have Hs2 := Lib.hid (Hs1.out.on b2)
      have hb2 := below_on hb1 b2
      clear k0 k1 k2 k3 k4 k5 b2
      obtain ⟨k0, k1, k2, k3, k4, k5⟩ := Hs2.out
      go_wp2_with fail
      go_ret2
      refine textPost_mk Hm.out ?_ hb2
      unfold textL copyL cellL
      rw [if_neg (show ¬ 0 < copy by have := Hc0.out; omega), if_neg Hl.out]
      simp [markL, bodyL, eTl.out]

set_option maxRecDepth 100000 in
set_option maxHeartbeats 4000000 in
theorem rtext_7 (fn : ByteArray) (copy : Int) (name : ByteArray) (n cell : Int) (w : World) (hm : mayB ⟨7, fn, copy, name, n, cell⟩ = true)  :
    Calls Tryz.prog 169 #[Nd.val ⟨7, fn, copy, name, n, cell⟩] w (TextPost ⟨7, fn, copy, name, n, cell⟩ w) := by
  obtain ⟨hsf, hsn⟩ := may_sizes _ hm
  obtain ⟨hcp, hce, _⟩ := may_bounds _ hm
  have hn1 : 0 ≤ n ∧ n ≤ 268435456 := may_n _ hm (by simp)
  have hsf1 : fn.size ≤ 16 := hsf
  have hsn1 : name.size ≤ 16 := hsn
  have hcp1 : 0 ≤ copy ∧ copy ≤ 268435456 := hcp
  have hce1 : -1 ≤ cell ∧ cell ≤ 268435456 := hce
  clear hsf hsn hcp hce
  have Hmay : Hid (∀ w, Calls Tryz.prog 196 #[.agg #[.int .i64 7, .string fn, .int .i64 copy, .string name, .int .i64 n, .int .i64 cell]] w fun e w' => e = .returned (.bool true) ∧ Below w.heap.size w w') := Lib.hid (fun w => by
    have := rmay_any ⟨7, fn, copy, name, n, cell⟩ w (by show name.size ≤ maxLen; unfold maxLen; omega) (by show fn.size ≤ maxLen; unfold maxLen; omega)
    rw [hm] at this
    exact this)
  have Hm := Lib.hid hm
  clear hm
  obtain ⟨Tc, eTc, sTc, hTc⟩ := rtext_of copy hcp1.1 hcp1.2
  have eTc := Lib.hid eTc
  have hTc := Lib.hid hTc
  obtain ⟨Tn, eTn, sTn, hTn⟩ := rtext_of n hn1.1 hn1.2
  have eTn := Lib.hid eTn
  have hTn := Lib.hid hTn
  have Hnew : Hid (Six ⟨7, fn, copy, name, n, cell⟩ w.heap.size (w.alloc (.cells #[.int .i64 7, .string fn, .int .i64 copy, .string name, .int .i64 n, .int .i64 cell] 163))) := Lib.hid (Six.new ⟨7, fn, copy, name, n, cell⟩ w _)
  have hb0 : Below w.heap.size w (w.alloc (.cells #[.int .i64 7, .string fn, .int .i64 copy, .string name, .int .i64 n, .int .i64 cell] 163)) := (Below.refl _ _).alloc (Nat.le_refl _) _
  unfold Nd.val Nd.cells
  by_cases hl : cell = -1
  · have hlb : decide (0 ≤ cell) = false := by rw [hl]; rfl
    have hlc : ¬ 0 ≤ cell := by omega
    have hld : decide (cell < 0) = true := by rw [hl]; rfl
    have Hl := Lib.hid hl
    clear hl
    by_cases hc0 : 0 < copy
    · have Hc0 := Lib.hid hc0
      go_enter Tryz.func169, Tryz.ntmps169
      go_wp2_with fail
      refine (Hmay.out _).mono ?_
      rintro e w1 ⟨rfl, b1⟩
      have Hs1 := Lib.hid (Hnew.out.on b1)
      have hb1 := below_on hb0 b1
      obtain ⟨k0, k1, k2, k3, k4, k5⟩ := Hs1.out
      clear b1
      go_wp2_with fail
      refine (hTc.out _).mono ?_
      rintro e w2 ⟨rfl, b2⟩
      have Hs2 := Lib.hid (Hs1.out.on b2)
      have hb2 := below_on hb1 b2
      clear k0 k1 k2 k3 k4 k5 b2
      obtain ⟨k0, k1, k2, k3, k4, k5⟩ := Hs2.out
      go_wp2_with fail
      refine (hTn.out _).mono ?_
      rintro e w3 ⟨rfl, b3⟩
      have Hs3 := Lib.hid (Hs2.out.on b3)
      have hb3 := below_on hb2 b3
      clear k0 k1 k2 k3 k4 k5 b3
      obtain ⟨k0, k1, k2, k3, k4, k5⟩ := Hs3.out
      go_wp2_with fail
      go_ret2
      refine textPost_mk Hm.out ?_ hb3
      unfold textL copyL cellL
      rw [if_pos Hc0.out, if_pos Hl.out]
      simp [markL, bodyL, eTc.out, eTn.out]
    · have Hc0 := Lib.hid hc0
      go_enter Tryz.func169, Tryz.ntmps169
      go_wp2_with fail
      refine (Hmay.out _).mono ?_
      rintro e w1 ⟨rfl, b1⟩
      have Hs1 := Lib.hid (Hnew.out.on b1)
      have hb1 := below_on hb0 b1
      obtain ⟨k0, k1, k2, k3, k4, k5⟩ := Hs1.out
      clear b1
      go_wp2_with fail
      refine (hTn.out _).mono ?_
      rintro e w2 ⟨rfl, b2⟩
      have Hs2 := Lib.hid (Hs1.out.on b2)
      have hb2 := below_on hb1 b2
      clear k0 k1 k2 k3 k4 k5 b2
      obtain ⟨k0, k1, k2, k3, k4, k5⟩ := Hs2.out
      go_wp2_with fail
      go_ret2
      refine textPost_mk Hm.out ?_ hb2
      unfold textL copyL cellL
      rw [if_neg (show ¬ 0 < copy by have := Hc0.out; omega), if_pos Hl.out]
      simp [markL, bodyL, eTn.out]
  · have hlc : 0 ≤ cell := by omega
    have hlb : decide (0 ≤ cell) = true := decide_eq_true hlc
    have hld : decide (cell < 0) = false := decide_eq_false (by omega)
    obtain ⟨Tl, eTl, sTl, hTl⟩ := rtext_of cell (by omega) hce1.2
    have eTl := Lib.hid eTl
    have hTl := Lib.hid hTl
    have Hl := Lib.hid hl
    clear hl
    by_cases hc0 : 0 < copy
    · have Hc0 := Lib.hid hc0
      go_enter Tryz.func169, Tryz.ntmps169
      go_wp2_with fail
      refine (Hmay.out _).mono ?_
      rintro e w1 ⟨rfl, b1⟩
      have Hs1 := Lib.hid (Hnew.out.on b1)
      have hb1 := below_on hb0 b1
      obtain ⟨k0, k1, k2, k3, k4, k5⟩ := Hs1.out
      clear b1
      go_wp2_with fail
      refine (hTc.out _).mono ?_
      rintro e w2 ⟨rfl, b2⟩
      have Hs2 := Lib.hid (Hs1.out.on b2)
      have hb2 := below_on hb1 b2
      clear k0 k1 k2 k3 k4 k5 b2
      obtain ⟨k0, k1, k2, k3, k4, k5⟩ := Hs2.out
      go_wp2_with fail
      refine (hTn.out _).mono ?_
      rintro e w3 ⟨rfl, b3⟩
      have Hs3 := Lib.hid (Hs2.out.on b3)
      have hb3 := below_on hb2 b3
      clear k0 k1 k2 k3 k4 k5 b3
      obtain ⟨k0, k1, k2, k3, k4, k5⟩ := Hs3.out
      go_wp2_with fail
      refine (hTl.out _).mono ?_
      rintro e w4 ⟨rfl, b4⟩
      have Hs4 := Lib.hid (Hs3.out.on b4)
      have hb4 := below_on hb3 b4
      clear k0 k1 k2 k3 k4 k5 b4
      obtain ⟨k0, k1, k2, k3, k4, k5⟩ := Hs4.out
      go_wp2_with fail
      go_ret2
      refine textPost_mk Hm.out ?_ hb4
      unfold textL copyL cellL
      rw [if_pos Hc0.out, if_neg Hl.out]
      simp [markL, bodyL, eTc.out, eTn.out, eTl.out]
    · have Hc0 := Lib.hid hc0
      go_enter Tryz.func169, Tryz.ntmps169
      go_wp2_with fail
      refine (Hmay.out _).mono ?_
      rintro e w1 ⟨rfl, b1⟩
      have Hs1 := Lib.hid (Hnew.out.on b1)
      have hb1 := below_on hb0 b1
      obtain ⟨k0, k1, k2, k3, k4, k5⟩ := Hs1.out
      clear b1
      go_wp2_with fail
      refine (hTn.out _).mono ?_
      rintro e w2 ⟨rfl, b2⟩
      have Hs2 := Lib.hid (Hs1.out.on b2)
      have hb2 := below_on hb1 b2
      clear k0 k1 k2 k3 k4 k5 b2
      obtain ⟨k0, k1, k2, k3, k4, k5⟩ := Hs2.out
      go_wp2_with fail
      refine (hTl.out _).mono ?_
      rintro e w3 ⟨rfl, b3⟩
      have Hs3 := Lib.hid (Hs2.out.on b3)
      have hb3 := below_on hb2 b3
      clear k0 k1 k2 k3 k4 k5 b3
      obtain ⟨k0, k1, k2, k3, k4, k5⟩ := Hs3.out
      go_wp2_with fail
      go_ret2
      refine textPost_mk Hm.out ?_ hb3
      unfold textL copyL cellL
      rw [if_neg (show ¬ 0 < copy by have := Hc0.out; omega), if_neg Hl.out]
      simp [markL, bodyL, eTn.out, eTl.out]

theorem rtext_no (d : Nd) (w : World) (hm : mayB d = false) (hsn : d.name.size ≤ maxLen) (hsf : d.fn.size ≤ maxLen) :
    Calls Tryz.prog 169 #[d.val] w (TextPost d w) := by
  have H := Lib.hid (fun w => rmay_any d w hsn hsf)
  rw [hm] at H
  unfold BPost at H
  have Hp : Hid (∀ w', Below w.heap.size w w' → TextPost d w (.returned (.tuple #[.string ⟨#[]⟩, .int .i64 11])) w') := Lib.hid fun w' hb => ⟨by unfold txt terr; rw [hm]; rfl, hb⟩
  obtain ⟨kind, fn, copy, name, n, cell⟩ := d
  unfold Nd.val Nd.cells at H ⊢
  clear hm hsn hsf
  go_enter Tryz.func169, Tryz.ntmps169
  go_wp2_with fail
  refine (H.out _).mono ?_
  rintro e w1 ⟨rfl, b1⟩
  go_wp2_with fail
  go_ret2
  exact Hp.out _ (below_on ((Below.refl _ _).alloc (Nat.le_refl _) _) b1)

theorem rtext_any (d : Nd) (w : World) (hsn : d.name.size ≤ maxLen) (hsf : d.fn.size ≤ maxLen) :
    Calls Tryz.prog 169 #[d.val] w (TextPost d w) := by
  rcases hm : mayB d with _ | _
  · exact rtext_no d w hm hsn hsf
  · obtain ⟨_, _, h1, h7⟩ := may_bounds d hm
    obtain ⟨kind, fn, copy, name, n, cell⟩ := d
    have h1' : 1 ≤ kind := h1
    have h7' : kind ≤ 7 := h7
    rcases (by omega : kind = 1 ∨ kind = 2 ∨ kind = 3 ∨ kind = 4 ∨ kind = 5 ∨ kind = 6 ∨ kind = 7) with rfl | rfl | rfl | rfl | rfl | rfl | rfl
    · exact rtext_1 _ _ _ _ _ w hm
    · exact rtext_2 _ _ _ _ _ w hm
    · exact rtext_3 _ _ _ _ _ w hm
    · exact rtext_4 _ _ _ _ _ w hm
    · exact rtext_5 _ _ _ _ _ w hm
    · exact rtext_6 _ _ _ _ _ w hm
    · exact rtext_7 _ _ _ _ _ w hm

end Go.Proofs.YtdmmkjijgoiecaaGreatDoor.nm
