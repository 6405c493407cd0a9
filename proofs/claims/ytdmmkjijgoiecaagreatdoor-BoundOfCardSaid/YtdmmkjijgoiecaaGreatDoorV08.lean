import Derived.Test.YtdmmkjijgoiecaaGreatDoorV07
/-
  names.Read: a text as a node.
-/
set_option linter.all false
namespace Go.Proofs.YtdmmkjijgoiecaaGreatDoor.nm
open Go.RowKit Go.Sort

def fn0 (s : ByteArray) : ByteArray := s.extract 0 (dg.splN s)
def rest1 (s : ByteArray) : ByteArray := s.extract (dg.splN s) s.size
def cp0 (s : ByteArray) : Int := (behS (rest1 s) 126 0).1
def rest2 (s : ByteArray) : ByteArray := (behS (rest1 s) 126 0).2
def tailS (s : ByteArray) : ByteArray := s.extract 1 s.size
def cellOf (r : ByteArray) : Int := (behS r 43 (-1)).1

/-- the node that a text may be -/
def cand (s : ByteArray) : Nd :=
  if kindS (rest2 s) = 5 then ⟨5, ⟨#[]⟩, cp0 s, fn0 s, 0, cellOf (rest2 s)⟩
  else if kindS (rest2 s) = 1 then ⟨1, fn0 s, cp0 s, fn0 (tailS (rest2 s)), 0, cellOf (rest1 (tailS (rest2 s)))⟩
  else if kindS (rest2 s) = 6 then ⟨6, fn0 s, cp0 s, fn0 (tailS (rest2 s)), 0, cellOf (rest1 (tailS (rest2 s)))⟩
  else if kindS (rest2 s) = 4 then ⟨4, fn0 s, cp0 s, ⟨#[]⟩, 0, cellOf ⟨#[]⟩⟩
  else ⟨kindS (rest2 s), fn0 s, cp0 s, ⟨#[]⟩, (behS (rest2 s) (headI (rest2 s)) 0).1, cellOf (behS (rest2 s) (headI (rest2 s)) 0).2⟩

def zeroN : Nd := ⟨0, ⟨#[]⟩, 0, ⟨#[]⟩, 0, 0⟩
/-- is a text what would be written? -/
def readB (s : ByteArray) : Bool := mayB (cand s) && ((txt (cand s)).toList == s.toList)
def readN (s : ByteArray) : Nd := if readB s then cand s else zeroN
def readE (s : ByteArray) : Int := if readB s then 0 else 11

def ReadPost (s : ByteArray) (w : World) (e : Ending) (w' : World) : Prop := e = .returned (.tuple #[(readN s).val, .int .i64 (readE s)]) ∧ Below w.heap.size w w'

theorem frozen_below {W w' : World} {a : Addr} (hl : a.block < W.heap.size) (h : W.frozen? a = false) (hb : Below W.heap.size W w') : w'.frozen? a = false := by
  rw [hb.frozen hl]; exact h

theorem call_abs {P : Program} {f : FuncId} {args : Array Value} {W : World} {post : Ending → World → Prop} (Q : World → Prop) (hQ : Q W) (h : ∀ W', Q W' → Calls P f args W' post) : Calls P f args W post := h W hQ

/-- the six cells of a box may be written -/
def Free (b : Nat) (w : World) : Prop := w.frozen? ⟨b, 0, none⟩ = false ∧ w.frozen? ⟨b, 1, none⟩ = false ∧ w.frozen? ⟨b, 2, none⟩ = false ∧ w.frozen? ⟨b, 3, none⟩ = false ∧ w.frozen? ⟨b, 4, none⟩ = false ∧ w.frozen? ⟨b, 5, none⟩ = false
theorem Free.on {b : Nat} {w w' : World} (h : Free b w) (hl : b < w.heap.size) (hb : Below w.heap.size w w') : Free b w' :=
  ⟨frozen_below hl h.1 hb, frozen_below hl h.2.1 hb, frozen_below hl h.2.2.1 hb, frozen_below hl h.2.2.2.1 hb, frozen_below hl h.2.2.2.2.1 hb, frozen_below hl h.2.2.2.2.2 hb⟩

theorem beh_le (s : ByteArray) (m a : Int) : (behS s m a).2.size ≤ s.size := by
  unfold behS
  split
  · exact Nat.le_refl _
  · split
    · exact Nat.le_trans (ext_le _ _ _) (ext_le _ _ _)
    · exact Nat.zero_le _

theorem rest1_le (s : ByteArray) : (rest1 s).size ≤ s.size := ext_le _ _ _
theorem rest2_le (s : ByteArray) : (rest2 s).size ≤ s.size := Nat.le_trans (beh_le _ _ _) (rest1_le s)
theorem fn0_le (s : ByteArray) : (fn0 s).size ≤ s.size := ext_le _ _ _
theorem tailS_le (s : ByteArray) : (tailS s).size ≤ s.size := ext_le _ _ _

theorem split_of (s : ByteArray) (w : World) (hs : s.size ≤ maxLen) : Calls Tryz.prog 211 #[.string s] w fun e w' => e = .returned (.tuple #[.string (fn0 s), .string (rest1 s)]) ∧ ∃ n, w' = w.drewN n := dg.split_any s w hs
theorem beh_of (s : ByteArray) (m a : Int) (w : World) (hs : s.size ≤ maxLen) : Calls Tryz.prog 212 #[.string s, .int .u8 m, .int .i64 a] w fun e w' => e = .returned (.tuple #[.int .i64 (behS s m a).1, .string (behS s m a).2]) ∧ ∃ n, w' = w.drewN n := behind_any s m a w hs

theorem beh1_of (s : ByteArray) (w : World) (hs : (rest1 s).size ≤ maxLen) : Calls Tryz.prog 212 #[.string (rest1 s), .int .u8 126, .int .i64 0] w fun e w' => e = .returned (.tuple #[.int .i64 (cp0 s), .string (rest2 s)]) ∧ ∃ n, w' = w.drewN n := behind_any (rest1 s) 126 0 w hs
theorem behc_of (r : ByteArray) (w : World) (hs : r.size ≤ maxLen) : ∃ t, Calls Tryz.prog 212 #[.string r, .int .u8 43, .int .i64 (-1)] w fun e w' => e = .returned (.tuple #[.int .i64 (cellOf r), .string t]) ∧ ∃ n, w' = w.drewN n := ⟨(behS r 43 (-1)).2, behind_any r 43 (-1) w hs⟩
theorem behc_all (r : ByteArray) (hs : r.size ≤ maxLen) : ∃ t, ∀ w, Calls Tryz.prog 212 #[.string r, .int .u8 43, .int .i64 (-1)] w fun e w' => e = .returned (.tuple #[.int .i64 (cellOf r), .string t]) ∧ ∃ n, w' = w.drewN n := ⟨(behS r 43 (-1)).2, fun w => behind_any r 43 (-1) w hs⟩

theorem readPost_yes {s : ByteArray} {d : Nd} {w w' : World} (hc : cand s = d) (hm : mayB d = true) (ht : ((txt d).toList == s.toList) = true) (hb : Below w.heap.size w w') : ReadPost s w (.returned (.tuple #[d.val, .int .i64 0])) w' := by
  have hr : readB s = true := by unfold readB; rw [hc, hm, ht]; rfl
  refine ⟨?_, hb⟩
  unfold readN readE
  rw [hr, hc]; rfl
theorem readPost_no {s : ByteArray} {d : Nd} {w w' : World} (hc : cand s = d) (hm : mayB d = false ∨ ((txt d).toList == s.toList) = false) (hb : Below w.heap.size w w') : ReadPost s w (.returned (.tuple #[zeroN.val, .int .i64 11])) w' := by
  have hr : readB s = false := by unfold readB; rw [hc]; rcases hm with h | h <;> rw [h] <;> simp
  refine ⟨?_, hb⟩
  unfold readN readE
  rw [hr]; rfl

/-- how the text of a node stands to a text -/
theorem three_ways (d : Nd) (s : ByteArray) : (mayB d = false ∧ terr d = 11) ∨ (mayB d = true ∧ terr d = 0 ∧ ((txt d).toList == s.toList) = false) ∨ (mayB d = true ∧ terr d = 0 ∧ ((txt d).toList == s.toList) = true) := by
  unfold terr
  rcases h : mayB d with _ | _
  · exact Or.inl ⟨rfl, by simp⟩
  · rcases h2 : ((txt d).toList == s.toList) with _ | _
    · exact Or.inr (Or.inl ⟨rfl, by simp, rfl⟩)
    · exact Or.inr (Or.inr ⟨rfl, by simp, rfl⟩)

theorem kind_pos {s : ByteArray} {k : Int} (h : kindS s = k) (hk : k ≠ 5) : 0 < s.size := by
  rcases Nat.eq_zero_or_pos s.size with h0 | h0
  · unfold kindS at h; rw [if_pos h0] at h; exact absurd h.symm hk
  · exact h0
theorem split_tail (r : ByteArray) (w : World) (hs : r.size ≤ maxLen) : Calls Tryz.prog 211 #[.string (r.extract 1 r.size)] w fun e w' => e = .returned (.tuple #[.string (fn0 (tailS r)), .string (rest1 (tailS r))]) ∧ ∃ n, w' = w.drewN n := dg.split_any (tailS r) w (Nat.le_trans (tailS_le r) hs)
theorem beh_head (r : ByteArray) (hz : 0 < r.size) (w : World) (hs : r.size ≤ maxLen) : Calls Tryz.prog 212 #[.string r, .int .u8 (r[0].toNat : Int), .int .i64 0] w fun e w' => e = .returned (.tuple #[.int .i64 (behS r (headI r) 0).1, .string (behS r (headI r) 0).2]) ∧ ∃ n, w' = w.drewN n := by
  have hh : headI r = (r[0].toNat : Int) := by unfold headI; rw [dg.headD_zero r hz]
  rw [hh]; exact behind_any r (r[0].toNat : Int) 0 w hs

set_option maxRecDepth 100000 in
set_option maxHeartbeats 1000000 in
theorem read_5 (hd : Held) (s : ByteArray) (w : World) (hs : s.size ≤ maxLen) (htab : Tab w) (hk : kindS (rest2 s) = 5) : Calls Tryz.prog 190 #[.string s] w (ReadPost s w) := by
  have l1 := rest1_le s
  have l2 := rest2_le s
  have l0 := fn0_le s
  obtain ⟨r4, Hb2⟩ := behc_all (rest2 s) (by omega)
  have Hb2 := Lib.hid Hb2
  have Hc : Hid (cand s = ⟨5, ⟨#[]⟩, cp0 s, fn0 s, 0, cellOf (rest2 s)⟩) := Lib.hid (by unfold cand; rw [hk]; first | rfl | simp)
  have Htx := Lib.hid (fun w h => text_any hd ⟨5, ⟨#[]⟩, cp0 s, fn0 s, 0, cellOf (rest2 s)⟩ w (by show (fn0 s : ByteArray).size ≤ maxLen; first | omega | exact Nat.zero_le _) (by show (⟨#[]⟩ : ByteArray).size ≤ maxLen; first | omega | exact Nat.zero_le _) h)
  have Hways := Lib.hid (three_ways ⟨5, ⟨#[]⟩, cp0 s, fn0 s, 0, cellOf (rest2 s)⟩ s)
  unfold TextPost Nd.val Nd.cells at Htx
  have Hsp := Lib.hid (fun w => split_of s w hs)
  have Hb1 := Lib.hid (fun w => beh1_of s w (by omega))
  have Hkd := Lib.hid (fun w => kind_any (rest2 s) w (by omega))
  rw [hk] at Hkd
  have Htab := Lib.hid htab
  clear htab hk hd l0 l1 l2
  unfold maxLen at hs
  go_enter Tryz.func190, Tryz.ntmps190
  go_wp2_with fail
  refine (Hsp.out _).mono ?_
  rintro e w' ⟨rfl, q1, rfl⟩
  go_wp2_with fail
  refine (Hb1.out _).mono ?_
  rintro e w' ⟨rfl, q2, rfl⟩
  go_wp2_with fail
  refine (Hkd.out _).mono ?_
  rintro e w' ⟨rfl, rfl⟩
  go_wp2_with fail
  refine (Hb2.out _).mono ?_
  rintro e w' ⟨rfl, r0, rfl⟩
  go_wp2_with fail
  refine call_abs (fun W' => Below w.heap.size w W' ∧ Six ⟨5, ⟨#[]⟩, cp0 s, fn0 s, 0, cellOf (rest2 s)⟩ (w.heap.size + 1) W' ∧ Six zeroN w.heap.size W' ∧ Free w.heap.size W' ∧ w.heap.size + 1 < W'.heap.size) ⟨?_, ?_, ?_, ?_, ?_⟩ ?_
  · repeat (first | (with_reducible exact Below.refl _ _) | (with_reducible refine dt.below_drewN ?_ _) | (with_reducible refine Below.setCell ?_ (by simp) _) | (with_reducible refine Below.alloc ?_ (by simp) _))
  · unfold Six; refine ⟨?_, ?_, ?_, ?_, ?_, ?_⟩ <;> go_simp
  · unfold Six zeroN; refine ⟨?_, ?_, ?_, ?_, ?_, ?_⟩ <;> go_simp
  · unfold Free; refine ⟨?_, ?_, ?_, ?_, ?_, ?_⟩ <;> go_simp
  · simp
  rintro W4 ⟨hb4, hs4, hz4, hf4, hl4⟩
  refine (Htx.out W4 (tab_below Htab.out hb4)).mono ?_
  rintro e w5 ⟨rfl, b5⟩
  have Hs5 := Lib.hid (hs4.on b5)
  have Hz5 := Lib.hid (hz4.on b5)
  have Hf5 := Lib.hid (hf4.on (by omega) b5)
  have hb5 := below_on hb4 b5
  have hlt5 : w.heap.size + 1 < w5.heap.size := by have := b5.size; omega
  clear b5 hb4 hs4 hz4 hf4 hl4
  obtain ⟨k0, k1, k2, k3, k4, k5⟩ := Hs5.out
  unfold zeroN at Hz5
  obtain ⟨z0, z1, z2, z3, z4, z5⟩ := Hz5.out
  obtain ⟨f0, f1, f2, f3, f4, f5⟩ := Hf5.out
  have H3 := Hways.out
  have Hno := Lib.hid (fun w' => readPost_no (w := w) (w' := w') Hc.out)
  have Hyes := Lib.hid (fun w' => readPost_yes (w := w) (w' := w') Hc.out)
  unfold zeroN at Hno
  unfold Nd.val Nd.cells at Hno Hyes
  generalize mayB ⟨5, ⟨#[]⟩, cp0 s, fn0 s, 0, cellOf (rest2 s)⟩ = mb at *
  generalize terr ⟨5, ⟨#[]⟩, cp0 s, fn0 s, 0, cellOf (rest2 s)⟩ = te at *
  generalize txt ⟨5, ⟨#[]⟩, cp0 s, fn0 s, 0, cellOf (rest2 s)⟩ = tt at *
  clear Hc Hb2 Hsp Hb1 Hkd Htx Hways
  rcases H3 with ⟨hmb, rfl⟩ | ⟨hmb, rfl, htt⟩ | ⟨hmb, rfl, htt⟩
  · have hno := Lib.hid (fun w' => Hno.out w' (Or.inl hmb))
    clear Hno Hyes hmb
    go_wp2_with fail
    refine bodyPost_ret (v := .tuple #[.agg #[.int .i64 0, .string ⟨#[]⟩, .int .i64 0, .string ⟨#[]⟩, .int .i64 0, .int .i64 0], .int .i64 11]) ?_ rfl (hno.out _ ?_)
    · simp only [results, Tryz.results190]
      clear hno
      go_simp
    · repeat (first | (with_reducible exact hb5) | (with_reducible refine Below.setCell ?_ (by simp) _))
  · have hno := Lib.hid (fun w' => Hno.out w' (Or.inr htt))
    clear Hno Hyes hmb
    go_wp2_with fail
    refine bodyPost_ret (v := .tuple #[.agg #[.int .i64 0, .string ⟨#[]⟩, .int .i64 0, .string ⟨#[]⟩, .int .i64 0, .int .i64 0], .int .i64 11]) ?_ rfl (hno.out _ ?_)
    · simp only [results, Tryz.results190]
      clear hno
      go_simp
    · repeat (first | (with_reducible exact hb5) | (with_reducible refine Below.setCell ?_ (by simp) _))
  · have hyes := Lib.hid (fun w' => Hyes.out w' hmb htt)
    clear Hno Hyes hmb
    go_wp2_with fail
    refine bodyPost_ret ?_ rfl (hyes.out _ ?_)
    · simp only [results, Tryz.results190]
      clear hyes
      go_simp
    · repeat (first | (with_reducible exact hb5) | (with_reducible refine Below.setCell ?_ (by simp) _))

set_option maxRecDepth 100000 in
set_option maxHeartbeats 1000000 in
theorem read_1 (hd : Held) (s : ByteArray) (w : World) (hs : s.size ≤ maxLen) (htab : Tab w) (hk : kindS (rest2 s) = 1) : Calls Tryz.prog 190 #[.string s] w (ReadPost s w) := by
  have l1 := rest1_le s
  have l2 := rest2_le s
  have l0 := fn0_le s
  have hz := kind_pos hk (by decide)
  have lt := tailS_le (rest2 s)
  have lf := fn0_le (tailS (rest2 s))
  have lr := rest1_le (tailS (rest2 s))
  have Hst := Lib.hid (fun w => split_tail (rest2 s) w (by omega))
  obtain ⟨r4, Hb2⟩ := behc_all (rest1 (tailS (rest2 s))) (by omega)
  have Hb2 := Lib.hid Hb2
  clear lr
  have Hc : Hid (cand s = ⟨1, fn0 s, cp0 s, fn0 (tailS (rest2 s)), 0, cellOf (rest1 (tailS (rest2 s)))⟩) := Lib.hid (by unfold cand; rw [hk]; first | rfl | simp)
  have Htx := Lib.hid (fun w h => text_any hd ⟨1, fn0 s, cp0 s, fn0 (tailS (rest2 s)), 0, cellOf (rest1 (tailS (rest2 s)))⟩ w (by show (fn0 (tailS (rest2 s)) : ByteArray).size ≤ maxLen; first | omega | exact Nat.zero_le _) (by show (fn0 s : ByteArray).size ≤ maxLen; first | omega | exact Nat.zero_le _) h)
  have Hways := Lib.hid (three_ways ⟨1, fn0 s, cp0 s, fn0 (tailS (rest2 s)), 0, cellOf (rest1 (tailS (rest2 s)))⟩ s)
  unfold TextPost Nd.val Nd.cells at Htx
  have Hsp := Lib.hid (fun w => split_of s w hs)
  have Hb1 := Lib.hid (fun w => beh1_of s w (by omega))
  have Hkd := Lib.hid (fun w => kind_any (rest2 s) w (by omega))
  rw [hk] at Hkd
  have Htab := Lib.hid htab
  clear htab hk hd l0 l1 l2
  unfold maxLen at hs
  go_enter Tryz.func190, Tryz.ntmps190
  go_wp2_with fail
  refine (Hsp.out _).mono ?_
  rintro e w' ⟨rfl, q1, rfl⟩
  go_wp2_with fail
  refine (Hb1.out _).mono ?_
  rintro e w' ⟨rfl, q2, rfl⟩
  go_wp2_with fail
  refine (Hkd.out _).mono ?_
  rintro e w' ⟨rfl, rfl⟩
  go_wp2_with fail
  refine (Hst.out _).mono ?_
  rintro e w' ⟨rfl, r0, rfl⟩
  go_wp2_with fail
  refine (Hb2.out _).mono ?_
  rintro e w' ⟨rfl, r1, rfl⟩
  go_wp2_with fail
  refine call_abs (fun W' => Below w.heap.size w W' ∧ Six ⟨1, fn0 s, cp0 s, fn0 (tailS (rest2 s)), 0, cellOf (rest1 (tailS (rest2 s)))⟩ (w.heap.size + 1) W' ∧ Six zeroN w.heap.size W' ∧ Free w.heap.size W' ∧ w.heap.size + 1 < W'.heap.size) ⟨?_, ?_, ?_, ?_, ?_⟩ ?_
  · repeat (first | (with_reducible exact Below.refl _ _) | (with_reducible refine dt.below_drewN ?_ _) | (with_reducible refine Below.setCell ?_ (by simp) _) | (with_reducible refine Below.alloc ?_ (by simp) _))
  · unfold Six; refine ⟨?_, ?_, ?_, ?_, ?_, ?_⟩ <;> go_simp
  · unfold Six zeroN; refine ⟨?_, ?_, ?_, ?_, ?_, ?_⟩ <;> go_simp
  · unfold Free; refine ⟨?_, ?_, ?_, ?_, ?_, ?_⟩ <;> go_simp
  · simp
  rintro W4 ⟨hb4, hs4, hz4, hf4, hl4⟩
  refine (Htx.out W4 (tab_below Htab.out hb4)).mono ?_
  rintro e w5 ⟨rfl, b5⟩
  have Hs5 := Lib.hid (hs4.on b5)
  have Hz5 := Lib.hid (hz4.on b5)
  have Hf5 := Lib.hid (hf4.on (by omega) b5)
  have hb5 := below_on hb4 b5
  have hlt5 : w.heap.size + 1 < w5.heap.size := by have := b5.size; omega
  clear b5 hb4 hs4 hz4 hf4 hl4
  obtain ⟨k0, k1, k2, k3, k4, k5⟩ := Hs5.out
  unfold zeroN at Hz5
  obtain ⟨z0, z1, z2, z3, z4, z5⟩ := Hz5.out
  obtain ⟨f0, f1, f2, f3, f4, f5⟩ := Hf5.out
  have H3 := Hways.out
  have Hno := Lib.hid (fun w' => readPost_no (w := w) (w' := w') Hc.out)
  have Hyes := Lib.hid (fun w' => readPost_yes (w := w) (w' := w') Hc.out)
  unfold zeroN at Hno
  unfold Nd.val Nd.cells at Hno Hyes
  generalize mayB ⟨1, fn0 s, cp0 s, fn0 (tailS (rest2 s)), 0, cellOf (rest1 (tailS (rest2 s)))⟩ = mb at *
  generalize terr ⟨1, fn0 s, cp0 s, fn0 (tailS (rest2 s)), 0, cellOf (rest1 (tailS (rest2 s)))⟩ = te at *
  generalize txt ⟨1, fn0 s, cp0 s, fn0 (tailS (rest2 s)), 0, cellOf (rest1 (tailS (rest2 s)))⟩ = tt at *
  clear Hc Hb2 Hsp Hb1 Hkd Htx Hways
  rcases H3 with ⟨hmb, rfl⟩ | ⟨hmb, rfl, htt⟩ | ⟨hmb, rfl, htt⟩
  · have hno := Lib.hid (fun w' => Hno.out w' (Or.inl hmb))
    clear Hno Hyes hmb
    go_wp2_with fail
    refine bodyPost_ret (v := .tuple #[.agg #[.int .i64 0, .string ⟨#[]⟩, .int .i64 0, .string ⟨#[]⟩, .int .i64 0, .int .i64 0], .int .i64 11]) ?_ rfl (hno.out _ ?_)
    · simp only [results, Tryz.results190]
      clear hno
      go_simp
    · repeat (first | (with_reducible exact hb5) | (with_reducible refine Below.setCell ?_ (by simp) _))
  · have hno := Lib.hid (fun w' => Hno.out w' (Or.inr htt))
    clear Hno Hyes hmb
    go_wp2_with fail
    refine bodyPost_ret (v := .tuple #[.agg #[.int .i64 0, .string ⟨#[]⟩, .int .i64 0, .string ⟨#[]⟩, .int .i64 0, .int .i64 0], .int .i64 11]) ?_ rfl (hno.out _ ?_)
    · simp only [results, Tryz.results190]
      clear hno
      go_simp
    · repeat (first | (with_reducible exact hb5) | (with_reducible refine Below.setCell ?_ (by simp) _))
  · have hyes := Lib.hid (fun w' => Hyes.out w' hmb htt)
    clear Hno Hyes hmb
    go_wp2_with fail
    refine bodyPost_ret ?_ rfl (hyes.out _ ?_)
    · simp only [results, Tryz.results190]
      clear hyes
      go_simp
    · repeat (first | (with_reducible exact hb5) | (with_reducible refine Below.setCell ?_ (by simp) _))

set_option maxRecDepth 100000 in
set_option maxHeartbeats 1000000 in
theorem read_6 (hd : Held) (s : ByteArray) (w : World) (hs : s.size ≤ maxLen) (htab : Tab w) (hk : kindS (rest2 s) = 6) : Calls Tryz.prog 190 #[.string s] w (ReadPost s w) := by
  have l1 := rest1_le s
  have l2 := rest2_le s
  have l0 := fn0_le s
  have hz := kind_pos hk (by decide)
  have lt := tailS_le (rest2 s)
  have lf := fn0_le (tailS (rest2 s))
  have lr := rest1_le (tailS (rest2 s))
  have Hst := Lib.hid (fun w => split_tail (rest2 s) w (by omega))
  obtain ⟨r4, Hb2⟩ := behc_all (rest1 (tailS (rest2 s))) (by omega)
  have Hb2 := Lib.hid Hb2
  clear lr
  have Hc : Hid (cand s = ⟨6, fn0 s, cp0 s, fn0 (tailS (rest2 s)), 0, cellOf (rest1 (tailS (rest2 s)))⟩) := Lib.hid (by unfold cand; rw [hk]; first | rfl | simp)
  have Htx := Lib.hid (fun w h => text_any hd ⟨6, fn0 s, cp0 s, fn0 (tailS (rest2 s)), 0, cellOf (rest1 (tailS (rest2 s)))⟩ w (by show (fn0 (tailS (rest2 s)) : ByteArray).size ≤ maxLen; first | omega | exact Nat.zero_le _) (by show (fn0 s : ByteArray).size ≤ maxLen; first | omega | exact Nat.zero_le _) h)
  have Hways := Lib.hid (three_ways ⟨6, fn0 s, cp0 s, fn0 (tailS (rest2 s)), 0, cellOf (rest1 (tailS (rest2 s)))⟩ s)
  unfold TextPost Nd.val Nd.cells at Htx
  have Hsp := Lib.hid (fun w => split_of s w hs)
  have Hb1 := Lib.hid (fun w => beh1_of s w (by omega))
  have Hkd := Lib.hid (fun w => kind_any (rest2 s) w (by omega))
  rw [hk] at Hkd
  have Htab := Lib.hid htab
  clear htab hk hd l0 l1 l2
  unfold maxLen at hs
  go_enter Tryz.func190, Tryz.ntmps190
  go_wp2_with fail
  refine (Hsp.out _).mono ?_
  rintro e w' ⟨rfl, q1, rfl⟩
  go_wp2_with fail
  refine (Hb1.out _).mono ?_
  rintro e w' ⟨rfl, q2, rfl⟩
  go_wp2_with fail
  refine (Hkd.out _).mono ?_
  rintro e w' ⟨rfl, rfl⟩
  go_wp2_with fail
  refine (Hst.out _).mono ?_
  rintro e w' ⟨rfl, r0, rfl⟩
  go_wp2_with fail
  refine (Hb2.out _).mono ?_
  rintro e w' ⟨rfl, r1, rfl⟩
  go_wp2_with fail
  refine call_abs (fun W' => Below w.heap.size w W' ∧ Six ⟨6, fn0 s, cp0 s, fn0 (tailS (rest2 s)), 0, cellOf (rest1 (tailS (rest2 s)))⟩ (w.heap.size + 1) W' ∧ Six zeroN w.heap.size W' ∧ Free w.heap.size W' ∧ w.heap.size + 1 < W'.heap.size) ⟨?_, ?_, ?_, ?_, ?_⟩ ?_
  · repeat (first | (with_reducible exact Below.refl _ _) | (with_reducible refine dt.below_drewN ?_ _) | (with_reducible refine Below.setCell ?_ (by simp) _) | (with_reducible refine Below.alloc ?_ (by simp) _))
  · unfold Six; refine ⟨?_, ?_, ?_, ?_, ?_, ?_⟩ <;> go_simp
  · unfold Six zeroN; refine ⟨?_, ?_, ?_, ?_, ?_, ?_⟩ <;> go_simp
  · unfold Free; refine ⟨?_, ?_, ?_, ?_, ?_, ?_⟩ <;> go_simp
  · simp
  rintro W4 ⟨hb4, hs4, hz4, hf4, hl4⟩
  refine (Htx.out W4 (tab_below Htab.out hb4)).mono ?_
  rintro e w5 ⟨rfl, b5⟩
  have Hs5 := Lib.hid (hs4.on b5)
  have Hz5 := Lib.hid (hz4.on b5)
  have Hf5 := Lib.hid (hf4.on (by omega) b5)
  have hb5 := below_on hb4 b5
  have hlt5 : w.heap.size + 1 < w5.heap.size := by have := b5.size; omega
  clear b5 hb4 hs4 hz4 hf4 hl4
  obtain ⟨k0, k1, k2, k3, k4, k5⟩ := Hs5.out
  unfold zeroN at Hz5
  obtain ⟨z0, z1, z2, z3, z4, z5⟩ := Hz5.out
  obtain ⟨f0, f1, f2, f3, f4, f5⟩ := Hf5.out
  have H3 := Hways.out
  have Hno := Lib.hid (fun w' => readPost_no (w := w) (w' := w') Hc.out)
  have Hyes := Lib.hid (fun w' => readPost_yes (w := w) (w' := w') Hc.out)
  unfold zeroN at Hno
  unfold Nd.val Nd.cells at Hno Hyes
  generalize mayB ⟨6, fn0 s, cp0 s, fn0 (tailS (rest2 s)), 0, cellOf (rest1 (tailS (rest2 s)))⟩ = mb at *
  generalize terr ⟨6, fn0 s, cp0 s, fn0 (tailS (rest2 s)), 0, cellOf (rest1 (tailS (rest2 s)))⟩ = te at *
  generalize txt ⟨6, fn0 s, cp0 s, fn0 (tailS (rest2 s)), 0, cellOf (rest1 (tailS (rest2 s)))⟩ = tt at *
  clear Hc Hb2 Hsp Hb1 Hkd Htx Hways
  rcases H3 with ⟨hmb, rfl⟩ | ⟨hmb, rfl, htt⟩ | ⟨hmb, rfl, htt⟩
  · have hno := Lib.hid (fun w' => Hno.out w' (Or.inl hmb))
    clear Hno Hyes hmb
    go_wp2_with fail
    refine bodyPost_ret (v := .tuple #[.agg #[.int .i64 0, .string ⟨#[]⟩, .int .i64 0, .string ⟨#[]⟩, .int .i64 0, .int .i64 0], .int .i64 11]) ?_ rfl (hno.out _ ?_)
    · simp only [results, Tryz.results190]
      clear hno
      go_simp
    · repeat (first | (with_reducible exact hb5) | (with_reducible refine Below.setCell ?_ (by simp) _))
  · have hno := Lib.hid (fun w' => Hno.out w' (Or.inr htt))
    clear Hno Hyes hmb
    go_wp2_with fail
    refine bodyPost_ret (v := .tuple #[.agg #[.int .i64 0, .string ⟨#[]⟩, .int .i64 0, .string ⟨#[]⟩, .int .i64 0, .int .i64 0], .int .i64 11]) ?_ rfl (hno.out _ ?_)
    · simp only [results, Tryz.results190]
      clear hno
      go_simp
    · repeat (first | (with_reducible exact hb5) | (with_reducible refine Below.setCell ?_ (by simp) _))
  · have hyes := Lib.hid (fun w' => Hyes.out w' hmb htt)
    clear Hno Hyes hmb
    go_wp2_with fail
    refine bodyPost_ret ?_ rfl (hyes.out _ ?_)
    · simp only [results, Tryz.results190]
      clear hyes
      go_simp
    · repeat (first | (with_reducible exact hb5) | (with_reducible refine Below.setCell ?_ (by simp) _))

set_option maxRecDepth 100000 in
set_option maxHeartbeats 1000000 in
theorem read_4 (hd : Held) (s : ByteArray) (w : World) (hs : s.size ≤ maxLen) (htab : Tab w) (hk : kindS (rest2 s) = 4) : Calls Tryz.prog 190 #[.string s] w (ReadPost s w) := by
  have l1 := rest1_le s
  have l2 := rest2_le s
  have l0 := fn0_le s
  obtain ⟨r4, Hb2⟩ := behc_all ⟨#[]⟩ (by exact Nat.zero_le _)
  have Hb2 := Lib.hid Hb2
  have Hc : Hid (cand s = ⟨4, fn0 s, cp0 s, ⟨#[]⟩, 0, cellOf ⟨#[]⟩⟩) := Lib.hid (by unfold cand; rw [hk]; first | rfl | simp)
  have Htx := Lib.hid (fun w h => text_any hd ⟨4, fn0 s, cp0 s, ⟨#[]⟩, 0, cellOf ⟨#[]⟩⟩ w (by show (⟨#[]⟩ : ByteArray).size ≤ maxLen; first | omega | exact Nat.zero_le _) (by show (fn0 s : ByteArray).size ≤ maxLen; first | omega | exact Nat.zero_le _) h)
  have Hways := Lib.hid (three_ways ⟨4, fn0 s, cp0 s, ⟨#[]⟩, 0, cellOf ⟨#[]⟩⟩ s)
  unfold TextPost Nd.val Nd.cells at Htx
  have Hsp := Lib.hid (fun w => split_of s w hs)
  have Hb1 := Lib.hid (fun w => beh1_of s w (by omega))
  have Hkd := Lib.hid (fun w => kind_any (rest2 s) w (by omega))
  rw [hk] at Hkd
  have Htab := Lib.hid htab
  clear htab hk hd l0 l1 l2
  unfold maxLen at hs
  go_enter Tryz.func190, Tryz.ntmps190
  go_wp2_with fail
  refine (Hsp.out _).mono ?_
  rintro e w' ⟨rfl, q1, rfl⟩
  go_wp2_with fail
  refine (Hb1.out _).mono ?_
  rintro e w' ⟨rfl, q2, rfl⟩
  go_wp2_with fail
  refine (Hkd.out _).mono ?_
  rintro e w' ⟨rfl, rfl⟩
  go_wp2_with fail
  refine (Hb2.out _).mono ?_
  rintro e w' ⟨rfl, r0, rfl⟩
  go_wp2_with fail
  refine call_abs (fun W' => Below w.heap.size w W' ∧ Six ⟨4, fn0 s, cp0 s, ⟨#[]⟩, 0, cellOf ⟨#[]⟩⟩ (w.heap.size + 1) W' ∧ Six zeroN w.heap.size W' ∧ Free w.heap.size W' ∧ w.heap.size + 1 < W'.heap.size) ⟨?_, ?_, ?_, ?_, ?_⟩ ?_
  · repeat (first | (with_reducible exact Below.refl _ _) | (with_reducible refine dt.below_drewN ?_ _) | (with_reducible refine Below.setCell ?_ (by simp) _) | (with_reducible refine Below.alloc ?_ (by simp) _))
  · unfold Six; refine ⟨?_, ?_, ?_, ?_, ?_, ?_⟩ <;> go_simp
  · unfold Six zeroN; refine ⟨?_, ?_, ?_, ?_, ?_, ?_⟩ <;> go_simp
  · unfold Free; refine ⟨?_, ?_, ?_, ?_, ?_, ?_⟩ <;> go_simp
  · simp
  rintro W4 ⟨hb4, hs4, hz4, hf4, hl4⟩
  refine (Htx.out W4 (tab_below Htab.out hb4)).mono ?_
  rintro e w5 ⟨rfl, b5⟩
  have Hs5 := Lib.hid (hs4.on b5)
  have Hz5 := Lib.hid (hz4.on b5)
  have Hf5 := Lib.hid (hf4.on (by omega) b5)
  have hb5 := below_on hb4 b5
  have hlt5 : w.heap.size + 1 < w5.heap.size := by have := b5.size; omega
  clear b5 hb4 hs4 hz4 hf4 hl4
  obtain ⟨k0, k1, k2, k3, k4, k5⟩ := Hs5.out
  unfold zeroN at Hz5
  obtain ⟨z0, z1, z2, z3, z4, z5⟩ := Hz5.out
  obtain ⟨f0, f1, f2, f3, f4, f5⟩ := Hf5.out
  have H3 := Hways.out
  have Hno := Lib.hid (fun w' => readPost_no (w := w) (w' := w') Hc.out)
  have Hyes := Lib.hid (fun w' => readPost_yes (w := w) (w' := w') Hc.out)
  unfold zeroN at Hno
  unfold Nd.val Nd.cells at Hno Hyes
  generalize mayB ⟨4, fn0 s, cp0 s, ⟨#[]⟩, 0, cellOf ⟨#[]⟩⟩ = mb at *
  generalize terr ⟨4, fn0 s, cp0 s, ⟨#[]⟩, 0, cellOf ⟨#[]⟩⟩ = te at *
  generalize txt ⟨4, fn0 s, cp0 s, ⟨#[]⟩, 0, cellOf ⟨#[]⟩⟩ = tt at *
  clear Hc Hb2 Hsp Hb1 Hkd Htx Hways
  rcases H3 with ⟨hmb, rfl⟩ | ⟨hmb, rfl, htt⟩ | ⟨hmb, rfl, htt⟩
  · have hno := Lib.hid (fun w' => Hno.out w' (Or.inl hmb))
    clear Hno Hyes hmb
    go_wp2_with fail
    refine bodyPost_ret (v := .tuple #[.agg #[.int .i64 0, .string ⟨#[]⟩, .int .i64 0, .string ⟨#[]⟩, .int .i64 0, .int .i64 0], .int .i64 11]) ?_ rfl (hno.out _ ?_)
    · simp only [results, Tryz.results190]
      clear hno
      go_simp
    · repeat (first | (with_reducible exact hb5) | (with_reducible refine Below.setCell ?_ (by simp) _))
  · have hno := Lib.hid (fun w' => Hno.out w' (Or.inr htt))
    clear Hno Hyes hmb
    go_wp2_with fail
    refine bodyPost_ret (v := .tuple #[.agg #[.int .i64 0, .string ⟨#[]⟩, .int .i64 0, .string ⟨#[]⟩, .int .i64 0, .int .i64 0], .int .i64 11]) ?_ rfl (hno.out _ ?_)
    · simp only [results, Tryz.results190]
      clear hno
      go_simp
    · repeat (first | (with_reducible exact hb5) | (with_reducible refine Below.setCell ?_ (by simp) _))
  · have hyes := Lib.hid (fun w' => Hyes.out w' hmb htt)
    clear Hno Hyes hmb
    go_wp2_with fail
    refine bodyPost_ret ?_ rfl (hyes.out _ ?_)
    · simp only [results, Tryz.results190]
      clear hyes
      go_simp
    · repeat (first | (with_reducible exact hb5) | (with_reducible refine Below.setCell ?_ (by simp) _))

set_option maxRecDepth 100000 in
set_option maxHeartbeats 1000000 in
theorem read_2 (hd : Held) (s : ByteArray) (w : World) (hs : s.size ≤ maxLen) (htab : Tab w) (hk : kindS (rest2 s) = 2) : Calls Tryz.prog 190 #[.string s] w (ReadPost s w) := by
  have l1 := rest1_le s
  have l2 := rest2_le s
  have l0 := fn0_le s
  have hz := kind_pos hk (by decide)
  have Hst := Lib.hid (fun w => beh_head (rest2 s) hz w (by omega))
  obtain ⟨r4, Hb2⟩ := behc_all (behS (rest2 s) (headI (rest2 s)) 0).2 (by have := beh_le (rest2 s) (headI (rest2 s)) 0; omega)
  have Hb2 := Lib.hid Hb2
  have Hc : Hid (cand s = ⟨2, fn0 s, cp0 s, ⟨#[]⟩, (behS (rest2 s) (headI (rest2 s)) 0).1, cellOf (behS (rest2 s) (headI (rest2 s)) 0).2⟩) := Lib.hid (by unfold cand; rw [hk]; first | rfl | simp)
  have Htx := Lib.hid (fun w h => text_any hd ⟨2, fn0 s, cp0 s, ⟨#[]⟩, (behS (rest2 s) (headI (rest2 s)) 0).1, cellOf (behS (rest2 s) (headI (rest2 s)) 0).2⟩ w (by show (⟨#[]⟩ : ByteArray).size ≤ maxLen; first | omega | exact Nat.zero_le _) (by show (fn0 s : ByteArray).size ≤ maxLen; first | omega | exact Nat.zero_le _) h)
  have Hways := Lib.hid (three_ways ⟨2, fn0 s, cp0 s, ⟨#[]⟩, (behS (rest2 s) (headI (rest2 s)) 0).1, cellOf (behS (rest2 s) (headI (rest2 s)) 0).2⟩ s)
  unfold TextPost Nd.val Nd.cells at Htx
  have Hsp := Lib.hid (fun w => split_of s w hs)
  have Hb1 := Lib.hid (fun w => beh1_of s w (by omega))
  have Hkd := Lib.hid (fun w => kind_any (rest2 s) w (by omega))
  rw [hk] at Hkd
  have Htab := Lib.hid htab
  clear htab hk hd l0 l1 l2
  unfold maxLen at hs
  go_enter Tryz.func190, Tryz.ntmps190
  go_wp2_with fail
  refine (Hsp.out _).mono ?_
  rintro e w' ⟨rfl, q1, rfl⟩
  go_wp2_with fail
  refine (Hb1.out _).mono ?_
  rintro e w' ⟨rfl, q2, rfl⟩
  go_wp2_with fail
  refine (Hkd.out _).mono ?_
  rintro e w' ⟨rfl, rfl⟩
  go_wp2_with fail
  refine (Hst.out _).mono ?_
  rintro e w' ⟨rfl, r0, rfl⟩
  go_wp2_with fail
  refine (Hb2.out _).mono ?_
  rintro e w' ⟨rfl, r1, rfl⟩
  go_wp2_with fail
  refine call_abs (fun W' => Below w.heap.size w W' ∧ Six ⟨2, fn0 s, cp0 s, ⟨#[]⟩, (behS (rest2 s) (headI (rest2 s)) 0).1, cellOf (behS (rest2 s) (headI (rest2 s)) 0).2⟩ (w.heap.size + 1) W' ∧ Six zeroN w.heap.size W' ∧ Free w.heap.size W' ∧ w.heap.size + 1 < W'.heap.size) ⟨?_, ?_, ?_, ?_, ?_⟩ ?_
  · repeat (first | (with_reducible exact Below.refl _ _) | (with_reducible refine dt.below_drewN ?_ _) | (with_reducible refine Below.setCell ?_ (by simp) _) | (with_reducible refine Below.alloc ?_ (by simp) _))
  · unfold Six; refine ⟨?_, ?_, ?_, ?_, ?_, ?_⟩ <;> go_simp
  · unfold Six zeroN; refine ⟨?_, ?_, ?_, ?_, ?_, ?_⟩ <;> go_simp
  · unfold Free; refine ⟨?_, ?_, ?_, ?_, ?_, ?_⟩ <;> go_simp
  · simp
  rintro W4 ⟨hb4, hs4, hz4, hf4, hl4⟩
  refine (Htx.out W4 (tab_below Htab.out hb4)).mono ?_
  rintro e w5 ⟨rfl, b5⟩
  have Hs5 := Lib.hid (hs4.on b5)
  have Hz5 := Lib.hid (hz4.on b5)
  have Hf5 := Lib.hid (hf4.on (by omega) b5)
  have hb5 := below_on hb4 b5
  have hlt5 : w.heap.size + 1 < w5.heap.size := by have := b5.size; omega
  clear b5 hb4 hs4 hz4 hf4 hl4
  obtain ⟨k0, k1, k2, k3, k4, k5⟩ := Hs5.out
  unfold zeroN at Hz5
  obtain ⟨z0, z1, z2, z3, z4, z5⟩ := Hz5.out
  obtain ⟨f0, f1, f2, f3, f4, f5⟩ := Hf5.out
  have H3 := Hways.out
  have Hno := Lib.hid (fun w' => readPost_no (w := w) (w' := w') Hc.out)
  have Hyes := Lib.hid (fun w' => readPost_yes (w := w) (w' := w') Hc.out)
  unfold zeroN at Hno
  unfold Nd.val Nd.cells at Hno Hyes
  generalize mayB ⟨2, fn0 s, cp0 s, ⟨#[]⟩, (behS (rest2 s) (headI (rest2 s)) 0).1, cellOf (behS (rest2 s) (headI (rest2 s)) 0).2⟩ = mb at *
  generalize terr ⟨2, fn0 s, cp0 s, ⟨#[]⟩, (behS (rest2 s) (headI (rest2 s)) 0).1, cellOf (behS (rest2 s) (headI (rest2 s)) 0).2⟩ = te at *
  generalize txt ⟨2, fn0 s, cp0 s, ⟨#[]⟩, (behS (rest2 s) (headI (rest2 s)) 0).1, cellOf (behS (rest2 s) (headI (rest2 s)) 0).2⟩ = tt at *
  clear Hc Hb2 Hsp Hb1 Hkd Htx Hways
  rcases H3 with ⟨hmb, rfl⟩ | ⟨hmb, rfl, htt⟩ | ⟨hmb, rfl, htt⟩
  · have hno := Lib.hid (fun w' => Hno.out w' (Or.inl hmb))
    clear Hno Hyes hmb
    go_wp2_with fail
    refine bodyPost_ret (v := .tuple #[.agg #[.int .i64 0, .string ⟨#[]⟩, .int .i64 0, .string ⟨#[]⟩, .int .i64 0, .int .i64 0], .int .i64 11]) ?_ rfl (hno.out _ ?_)
    · simp only [results, Tryz.results190]
      clear hno
      go_simp
    · repeat (first | (with_reducible exact hb5) | (with_reducible refine Below.setCell ?_ (by simp) _))
  · have hno := Lib.hid (fun w' => Hno.out w' (Or.inr htt))
    clear Hno Hyes hmb
    go_wp2_with fail
    refine bodyPost_ret (v := .tuple #[.agg #[.int .i64 0, .string ⟨#[]⟩, .int .i64 0, .string ⟨#[]⟩, .int .i64 0, .int .i64 0], .int .i64 11]) ?_ rfl (hno.out _ ?_)
    · simp only [results, Tryz.results190]
      clear hno
      go_simp
    · repeat (first | (with_reducible exact hb5) | (with_reducible refine Below.setCell ?_ (by simp) _))
  · have hyes := Lib.hid (fun w' => Hyes.out w' hmb htt)
    clear Hno Hyes hmb
    go_wp2_with fail
    refine bodyPost_ret ?_ rfl (hyes.out _ ?_)
    · simp only [results, Tryz.results190]
      clear hyes
      go_simp
    · repeat (first | (with_reducible exact hb5) | (with_reducible refine Below.setCell ?_ (by simp) _))

set_option maxRecDepth 100000 in
set_option maxHeartbeats 1000000 in
theorem read_3 (hd : Held) (s : ByteArray) (w : World) (hs : s.size ≤ maxLen) (htab : Tab w) (hk : kindS (rest2 s) = 3) : Calls Tryz.prog 190 #[.string s] w (ReadPost s w) := by
  have l1 := rest1_le s
  have l2 := rest2_le s
  have l0 := fn0_le s
  have hz := kind_pos hk (by decide)
  have Hst := Lib.hid (fun w => beh_head (rest2 s) hz w (by omega))
  obtain ⟨r4, Hb2⟩ := behc_all (behS (rest2 s) (headI (rest2 s)) 0).2 (by have := beh_le (rest2 s) (headI (rest2 s)) 0; omega)
  have Hb2 := Lib.hid Hb2
  have Hc : Hid (cand s = ⟨3, fn0 s, cp0 s, ⟨#[]⟩, (behS (rest2 s) (headI (rest2 s)) 0).1, cellOf (behS (rest2 s) (headI (rest2 s)) 0).2⟩) := Lib.hid (by unfold cand; rw [hk]; first | rfl | simp)
  have Htx := Lib.hid (fun w h => text_any hd ⟨3, fn0 s, cp0 s, ⟨#[]⟩, (behS (rest2 s) (headI (rest2 s)) 0).1, cellOf (behS (rest2 s) (headI (rest2 s)) 0).2⟩ w (by show (⟨#[]⟩ : ByteArray).size ≤ maxLen; first | omega | exact Nat.zero_le _) (by show (fn0 s : ByteArray).size ≤ maxLen; first | omega | exact Nat.zero_le _) h)
  have Hways := Lib.hid (three_ways ⟨3, fn0 s, cp0 s, ⟨#[]⟩, (behS (rest2 s) (headI (rest2 s)) 0).1, cellOf (behS (rest2 s) (headI (rest2 s)) 0).2⟩ s)
  unfold TextPost Nd.val Nd.cells at Htx
  have Hsp := Lib.hid (fun w => split_of s w hs)
  have Hb1 := Lib.hid (fun w => beh1_of s w (by omega))
  have Hkd := Lib.hid (fun w => kind_any (rest2 s) w (by omega))
  rw [hk] at Hkd
  have Htab := Lib.hid htab
  clear htab hk hd l0 l1 l2
  unfold maxLen at hs
  go_enter Tryz.func190, Tryz.ntmps190
  go_wp2_with fail
  refine (Hsp.out _).mono ?_
  rintro e w' ⟨rfl, q1, rfl⟩
  go_wp2_with fail
  refine (Hb1.out _).mono ?_
  rintro e w' ⟨rfl, q2, rfl⟩
  go_wp2_with fail
  refine (Hkd.out _).mono ?_
  rintro e w' ⟨rfl, rfl⟩
  go_wp2_with fail
  refine (Hst.out _).mono ?_
  rintro e w' ⟨rfl, r0, rfl⟩
  go_wp2_with fail
  refine (Hb2.out _).mono ?_
  rintro e w' ⟨rfl, r1, rfl⟩
  go_wp2_with fail
  refine call_abs (fun W' => Below w.heap.size w W' ∧ Six ⟨3, fn0 s, cp0 s, ⟨#[]⟩, (behS (rest2 s) (headI (rest2 s)) 0).1, cellOf (behS (rest2 s) (headI (rest2 s)) 0).2⟩ (w.heap.size + 1) W' ∧ Six zeroN w.heap.size W' ∧ Free w.heap.size W' ∧ w.heap.size + 1 < W'.heap.size) ⟨?_, ?_, ?_, ?_, ?_⟩ ?_
  · repeat (first | (with_reducible exact Below.refl _ _) | (with_reducible refine dt.below_drewN ?_ _) | (with_reducible refine Below.setCell ?_ (by simp) _) | (with_reducible refine Below.alloc ?_ (by simp) _))
  · unfold Six; refine ⟨?_, ?_, ?_, ?_, ?_, ?_⟩ <;> go_simp
  · unfold Six zeroN; refine ⟨?_, ?_, ?_, ?_, ?_, ?_⟩ <;> go_simp
  · unfold Free; refine ⟨?_, ?_, ?_, ?_, ?_, ?_⟩ <;> go_simp
  · simp
  rintro W4 ⟨hb4, hs4, hz4, hf4, hl4⟩
  refine (Htx.out W4 (tab_below Htab.out hb4)).mono ?_
  rintro e w5 ⟨rfl, b5⟩
  have Hs5 := Lib.hid (hs4.on b5)
  have Hz5 := Lib.hid (hz4.on b5)
  have Hf5 := Lib.hid (hf4.on (by omega) b5)
  have hb5 := below_on hb4 b5
  have hlt5 : w.heap.size + 1 < w5.heap.size := by have := b5.size; omega
  clear b5 hb4 hs4 hz4 hf4 hl4
  obtain ⟨k0, k1, k2, k3, k4, k5⟩ := Hs5.out
  unfold zeroN at Hz5
  obtain ⟨z0, z1, z2, z3, z4, z5⟩ := Hz5.out
  obtain ⟨f0, f1, f2, f3, f4, f5⟩ := Hf5.out
  have H3 := Hways.out
  have Hno := Lib.hid (fun w' => readPost_no (w := w) (w' := w') Hc.out)
  have Hyes := Lib.hid (fun w' => readPost_yes (w := w) (w' := w') Hc.out)
  unfold zeroN at Hno
  unfold Nd.val Nd.cells at Hno Hyes
  generalize mayB ⟨3, fn0 s, cp0 s, ⟨#[]⟩, (behS (rest2 s) (headI (rest2 s)) 0).1, cellOf (behS (rest2 s) (headI (rest2 s)) 0).2⟩ = mb at *
  generalize terr ⟨3, fn0 s, cp0 s, ⟨#[]⟩, (behS (rest2 s) (headI (rest2 s)) 0).1, cellOf (behS (rest2 s) (headI (rest2 s)) 0).2⟩ = te at *
  generalize txt ⟨3, fn0 s, cp0 s, ⟨#[]⟩, (behS (rest2 s) (headI (rest2 s)) 0).1, cellOf (behS (rest2 s) (headI (rest2 s)) 0).2⟩ = tt at *
  clear Hc Hb2 Hsp Hb1 Hkd Htx Hways
  rcases H3 with ⟨hmb, rfl⟩ | ⟨hmb, rfl, htt⟩ | ⟨hmb, rfl, htt⟩
  · have hno := Lib.hid (fun w' => Hno.out w' (Or.inl hmb))
    clear Hno Hyes hmb
    go_wp2_with fail
    refine bodyPost_ret (v := .tuple #[.agg #[.int .i64 0, .string ⟨#[]⟩, .int .i64 0, .string ⟨#[]⟩, .int .i64 0, .int .i64 0], .int .i64 11]) ?_ rfl (hno.out _ ?_)
    · simp only [results, Tryz.results190]
      clear hno
      go_simp
    · repeat (first | (with_reducible exact hb5) | (with_reducible refine Below.setCell ?_ (by simp) _))
  · have hno := Lib.hid (fun w' => Hno.out w' (Or.inr htt))
    clear Hno Hyes hmb
    go_wp2_with fail
    refine bodyPost_ret (v := .tuple #[.agg #[.int .i64 0, .string ⟨#[]⟩, .int .i64 0, .string ⟨#[]⟩, .int .i64 0, .int .i64 0], .int .i64 11]) ?_ rfl (hno.out _ ?_)
    · simp only [results, Tryz.results190]
      clear hno
      go_simp
    · repeat (first | (with_reducible exact hb5) | (with_reducible refine Below.setCell ?_ (by simp) _))
  · have hyes := Lib.hid (fun w' => Hyes.out w' hmb htt)
    clear Hno Hyes hmb
    go_wp2_with fail
    refine bodyPost_ret ?_ rfl (hyes.out _ ?_)
    · simp only [results, Tryz.results190]
      clear hyes
      go_simp
    · repeat (first | (with_reducible exact hb5) | (with_reducible refine Below.setCell ?_ (by simp) _))

set_option maxRecDepth 100000 in
set_option maxHeartbeats 1000000 in
theorem read_7 (hd : Held) (s : ByteArray) (w : World) (hs : s.size ≤ maxLen) (htab : Tab w) (hk : kindS (rest2 s) = 7) : Calls Tryz.prog 190 #[.string s] w (ReadPost s w) := by
  have l1 := rest1_le s
  have l2 := rest2_le s
  have l0 := fn0_le s
  have hz := kind_pos hk (by decide)
  have Hst := Lib.hid (fun w => beh_head (rest2 s) hz w (by omega))
  obtain ⟨r4, Hb2⟩ := behc_all (behS (rest2 s) (headI (rest2 s)) 0).2 (by have := beh_le (rest2 s) (headI (rest2 s)) 0; omega)
  have Hb2 := Lib.hid Hb2
  have Hc : Hid (cand s = ⟨7, fn0 s, cp0 s, ⟨#[]⟩, (behS (rest2 s) (headI (rest2 s)) 0).1, cellOf (behS (rest2 s) (headI (rest2 s)) 0).2⟩) := Lib.hid (by unfold cand; rw [hk]; first | rfl | simp)
  have Htx := Lib.hid (fun w h => text_any hd ⟨7, fn0 s, cp0 s, ⟨#[]⟩, (behS (rest2 s) (headI (rest2 s)) 0).1, cellOf (behS (rest2 s) (headI (rest2 s)) 0).2⟩ w (by show (⟨#[]⟩ : ByteArray).size ≤ maxLen; first | omega | exact Nat.zero_le _) (by show (fn0 s : ByteArray).size ≤ maxLen; first | omega | exact Nat.zero_le _) h)
  have Hways := Lib.hid (three_ways ⟨7, fn0 s, cp0 s, ⟨#[]⟩, (behS (rest2 s) (headI (rest2 s)) 0).1, cellOf (behS (rest2 s) (headI (rest2 s)) 0).2⟩ s)
  unfold TextPost Nd.val Nd.cells at Htx
  have Hsp := Lib.hid (fun w => split_of s w hs)
  have Hb1 := Lib.hid (fun w => beh1_of s w (by omega))
  have Hkd := Lib.hid (fun w => kind_any (rest2 s) w (by omega))
  rw [hk] at Hkd
  have Htab := Lib.hid htab
  clear htab hk hd l0 l1 l2
  unfold maxLen at hs
  go_enter Tryz.func190, Tryz.ntmps190
  go_wp2_with fail
  refine (Hsp.out _).mono ?_
  rintro e w' ⟨rfl, q1, rfl⟩
  go_wp2_with fail
  refine (Hb1.out _).mono ?_
  rintro e w' ⟨rfl, q2, rfl⟩
  go_wp2_with fail
  refine (Hkd.out _).mono ?_
  rintro e w' ⟨rfl, rfl⟩
  go_wp2_with fail
  refine (Hst.out _).mono ?_
  rintro e w' ⟨rfl, r0, rfl⟩
  go_wp2_with fail
  refine (Hb2.out _).mono ?_
  rintro e w' ⟨rfl, r1, rfl⟩
  go_wp2_with fail
  refine call_abs (fun W' => Below w.heap.size w W' ∧ Six ⟨7, fn0 s, cp0 s, ⟨#[]⟩, (behS (rest2 s) (headI (rest2 s)) 0).1, cellOf (behS (rest2 s) (headI (rest2 s)) 0).2⟩ (w.heap.size + 1) W' ∧ Six zeroN w.heap.size W' ∧ Free w.heap.size W' ∧ w.heap.size + 1 < W'.heap.size) ⟨?_, ?_, ?_, ?_, ?_⟩ ?_
  · repeat (first | (with_reducible exact Below.refl _ _) | (with_reducible refine dt.below_drewN ?_ _) | (with_reducible refine Below.setCell ?_ (by simp) _) | (with_reducible refine Below.alloc ?_ (by simp) _))
  · unfold Six; refine ⟨?_, ?_, ?_, ?_, ?_, ?_⟩ <;> go_simp
  · unfold Six zeroN; refine ⟨?_, ?_, ?_, ?_, ?_, ?_⟩ <;> go_simp
  · unfold Free; refine ⟨?_, ?_, ?_, ?_, ?_, ?_⟩ <;> go_simp
  · simp
  rintro W4 ⟨hb4, hs4, hz4, hf4, hl4⟩
  refine (Htx.out W4 (tab_below Htab.out hb4)).mono ?_
  rintro e w5 ⟨rfl, b5⟩
  have Hs5 := Lib.hid (hs4.on b5)
  have Hz5 := Lib.hid (hz4.on b5)
  have Hf5 := Lib.hid (hf4.on (by omega) b5)
  have hb5 := below_on hb4 b5
  have hlt5 : w.heap.size + 1 < w5.heap.size := by have := b5.size; omega
  clear b5 hb4 hs4 hz4 hf4 hl4
  obtain ⟨k0, k1, k2, k3, k4, k5⟩ := Hs5.out
  unfold zeroN at Hz5
  obtain ⟨z0, z1, z2, z3, z4, z5⟩ := Hz5.out
  obtain ⟨f0, f1, f2, f3, f4, f5⟩ := Hf5.out
  have H3 := Hways.out
  have Hno := Lib.hid (fun w' => readPost_no (w := w) (w' := w') Hc.out)
  have Hyes := Lib.hid (fun w' => readPost_yes (w := w) (w' := w') Hc.out)
  unfold zeroN at Hno
  unfold Nd.val Nd.cells at Hno Hyes
  generalize mayB ⟨7, fn0 s, cp0 s, ⟨#[]⟩, (behS (rest2 s) (headI (rest2 s)) 0).1, cellOf (behS (rest2 s) (headI (rest2 s)) 0).2⟩ = mb at *
  generalize terr ⟨7, fn0 s, cp0 s, ⟨#[]⟩, (behS (rest2 s) (headI (rest2 s)) 0).1, cellOf (behS (rest2 s) (headI (rest2 s)) 0).2⟩ = te at *
  generalize txt ⟨7, fn0 s, cp0 s, ⟨#[]⟩, (behS (rest2 s) (headI (rest2 s)) 0).1, cellOf (behS (rest2 s) (headI (rest2 s)) 0).2⟩ = tt at *
  clear Hc Hb2 Hsp Hb1 Hkd Htx Hways
  rcases H3 with ⟨hmb, rfl⟩ | ⟨hmb, rfl, htt⟩ | ⟨hmb, rfl, htt⟩
  · have hno := Lib.hid (fun w' => Hno.out w' (Or.inl hmb))
    clear Hno Hyes hmb
    go_wp2_with fail
    refine bodyPost_ret (v := .tuple #[.agg #[.int .i64 0, .string ⟨#[]⟩, .int .i64 0, .string ⟨#[]⟩, .int .i64 0, .int .i64 0], .int .i64 11]) ?_ rfl (hno.out _ ?_)
    · simp only [results, Tryz.results190]
      clear hno
      go_simp
    · repeat (first | (with_reducible exact hb5) | (with_reducible refine Below.setCell ?_ (by simp) _))
  · have hno := Lib.hid (fun w' => Hno.out w' (Or.inr htt))
    clear Hno Hyes hmb
    go_wp2_with fail
    refine bodyPost_ret (v := .tuple #[.agg #[.int .i64 0, .string ⟨#[]⟩, .int .i64 0, .string ⟨#[]⟩, .int .i64 0, .int .i64 0], .int .i64 11]) ?_ rfl (hno.out _ ?_)
    · simp only [results, Tryz.results190]
      clear hno
      go_simp
    · repeat (first | (with_reducible exact hb5) | (with_reducible refine Below.setCell ?_ (by simp) _))
  · have hyes := Lib.hid (fun w' => Hyes.out w' hmb htt)
    clear Hno Hyes hmb
    go_wp2_with fail
    refine bodyPost_ret ?_ rfl (hyes.out _ ?_)
    · simp only [results, Tryz.results190]
      clear hyes
      go_simp
    · repeat (first | (with_reducible exact hb5) | (with_reducible refine Below.setCell ?_ (by simp) _))

theorem kindS_of (s : ByteArray) : kindS s = 1 ∨ kindS s = 2 ∨ kindS s = 3 ∨ kindS s = 4 ∨ kindS s = 5 ∨ kindS s = 6 ∨ kindS s = 7 := by
  unfold kindS
  repeat' split
  all_goals simp

theorem read_any (hd : Held) (s : ByteArray) (w : World) (hs : s.size ≤ maxLen) (htab : Tab w) : Calls Tryz.prog 190 #[.string s] w (ReadPost s w) := by
  rcases kindS_of (rest2 s) with h | h | h | h | h | h | h
  · exact read_1 hd s w hs htab h
  · exact read_2 hd s w hs htab h
  · exact read_3 hd s w hs htab h
  · exact read_4 hd s w hs htab h
  · exact read_5 hd s w hs htab h
  · exact read_6 hd s w hs htab h
  · exact read_7 hd s w hs htab h

end Go.Proofs.YtdmmkjijgoiecaaGreatDoor.nm

/-
  names.Base, Cell, Object, Of.
-/
set_option linter.all false
namespace Go.Proofs.YtdmmkjijgoiecaaGreatDoor.nm
open Go.RowKit Go.Sort

def ReadYes (s : ByteArray) (w : World) (e : Ending) (w' : World) : Prop := e = .returned (.tuple #[(cand s).val, .int .i64 0]) ∧ Below w.heap.size w w'
def ReadNo (w : World) (e : Ending) (w' : World) : Prop := e = .returned (.tuple #[.agg #[.int .i64 0, .string ⟨#[]⟩, .int .i64 0, .string ⟨#[]⟩, .int .i64 0, .int .i64 0], .int .i64 11]) ∧ Below w.heap.size w w'

theorem read_yes (hd : Held) (s : ByteArray) (w : World) (hs : s.size ≤ maxLen) (htab : Tab w) (h : readB s = true) : Calls Tryz.prog 190 #[.string s] w (ReadYes s w) := by
  refine (read_any hd s w hs htab).mono ?_
  rintro e w' ⟨rfl, hb⟩
  refine ⟨?_, hb⟩
  unfold readN readE
  rw [if_pos h, if_pos h]

theorem read_no (hd : Held) (s : ByteArray) (w : World) (hs : s.size ≤ maxLen) (htab : Tab w) (h : readB s = false) : Calls Tryz.prog 190 #[.string s] w (ReadNo w) := by
  refine (read_any hd s w hs htab).mono ?_
  rintro e w' ⟨rfl, hb⟩
  refine ⟨?_, hb⟩
  unfold readN readE
  rw [if_neg (by rw [h]; decide), if_neg (by rw [h]; decide)]
  rfl

theorem readB_may {s : ByteArray} (h : readB s = true) : mayB (cand s) = true := by
  unfold readB at h
  exact (Bool.and_eq_true _ _ ▸ h).1

theorem small_le {s : ByteArray} (h : s.size ≤ 16) : s.size ≤ maxLen := Nat.le_trans h (by decide)

/-- the base of a text -/
def baseS (s : ByteArray) : ByteArray := if readB s then txt ⟨(cand s).kind, (cand s).fn, 0, (cand s).name, (cand s).n, (cand s).cell⟩ else ⟨#[]⟩

def StrPost (t : ByteArray) (w : World) (e : Ending) (w' : World) : Prop := e = .returned (.string t) ∧ Below w.heap.size w w'


/-- an object's cell -/
def cellTS (s : ByteArray) (k : Int) : ByteArray := if readB s = true ∧ (cand s).cell = -1 ∧ 0 ≤ k then txt ⟨(cand s).kind, (cand s).fn, (cand s).copy, (cand s).name, (cand s).n, k⟩ else ⟨#[]⟩

set_option maxHeartbeats 1000000 in
theorem cell_any (hd : Held) (s : ByteArray) (k : Int) (w : World) (hs : s.size ≤ maxLen) (htab : Tab w) : Calls Tryz.prog 186 #[.string s, .int .i64 k] w (StrPost (cellTS s k) w) := by
  rcases hr : readB s with _ | _
  · have Hr := Lib.hid (fun w h => read_no hd s w hs h hr)
    have Hv : Hid (cellTS s k = ⟨#[]⟩) := Lib.hid (by unfold cellTS; rw [if_neg (by rintro ⟨h, _⟩; rw [hr] at h; exact absurd h (by decide))])
    unfold ReadNo at Hr
    have Htab := Lib.hid htab
    clear hr hd htab
    unfold maxLen at hs
    go_enter Tryz.func186, Tryz.ntmps186
    go_wp2_with fail
    refine (Hr.out w Htab.out).mono ?_
    rintro e w2 ⟨rfl, hb2⟩
    clear Hr Htab
    go_wp2_with fail
    go_ret
    exact ⟨by rw [Hv.out]; rfl, by repeat (first | (with_reducible exact hb2) | (with_reducible refine Below.setCell ?_ (by simp [hb2.size]; done) _) | (with_reducible refine Below.alloc ?_ hb2.size _))⟩
  · have Hr := Lib.hid (fun w h => read_yes hd s w hs h hr)
    have hm := readB_may hr
    have Hvv : cellTS s k = if (cand s).cell = -1 ∧ 0 ≤ k then txt ⟨(cand s).kind, (cand s).fn, (cand s).copy, (cand s).name, (cand s).n, k⟩ else ⟨#[]⟩ := by unfold cellTS; simp only [hr, true_and]
    obtain ⟨m1, m2⟩ := may_sizes _ hm
    unfold ReadYes at Hr
    generalize cand s = d at *
    obtain ⟨kind, fn, copy, name, n, cell⟩ := d
    have Ht := Lib.hid (fun w h => text_any hd ⟨kind, fn, copy, name, n, k⟩ w (small_le m2) (small_le m1) h)
    unfold Nd.val Nd.cells at Hr
    unfold TextPost Nd.val Nd.cells at Ht
    have Hv2 : Hid (cellTS s k = if cell = -1 ∧ 0 ≤ k then txt ⟨kind, fn, copy, name, n, k⟩ else ⟨#[]⟩) := Lib.hid Hvv
    generalize txt ⟨kind, fn, copy, name, n, k⟩ = tt at *
    generalize terr ⟨kind, fn, copy, name, n, k⟩ = te at *
    have Htab := Lib.hid htab
    clear hr hd htab hm m1 m2 Hvv
    unfold maxLen at hs
    by_cases hc : cell = -1
    · by_cases hk : 0 ≤ k
      · have Hv3 : Hid (cellTS s k = tt) := Lib.hid (by rw [Hv2.out, if_pos ⟨hc, hk⟩])
        have hk2 : decide (k < 0) = false := by simp; omega
        subst hc
        clear Hv2 hk
        go_enter Tryz.func186, Tryz.ntmps186
        go_wp2_with fail
        refine (Hr.out w Htab.out).mono ?_
        rintro e w2 ⟨rfl, hb2⟩
        have hz := hb2.size
        clear Hr
        go_wp2_with fail
        refine call_abs (fun W' => Below w.heap.size w W') ?_ ?_
        · repeat (first | (with_reducible exact hb2) | (with_reducible refine Below.setCell ?_ (by simp; done) _) | (with_reducible refine Below.alloc ?_ (by simp; done) _) | (with_reducible refine Below.setCell ?_ hz _) | (with_reducible refine Below.alloc ?_ hz _))
        intro W4 hb4
        refine (Ht.out W4 (tab_below Htab.out hb4)).mono ?_
        rintro e w5 ⟨rfl, b5⟩
        have hb5 := below_on hb4 b5
        clear hb4 b5 Ht Htab
        go_wp2_with fail
        go_ret
        exact ⟨by rw [Hv3.out]; rfl, hb5⟩
      · have Hv3 : Hid (cellTS s k = ⟨#[]⟩) := Lib.hid (by rw [Hv2.out, if_neg (by rintro ⟨_, h⟩; exact hk h)])
        have hk2 : decide (k < 0) = true := by simp; omega
        subst hc
        clear Hv2 hk Ht
        go_enter Tryz.func186, Tryz.ntmps186
        go_wp2_with fail
        refine (Hr.out w Htab.out).mono ?_
        rintro e w2 ⟨rfl, hb2⟩
        clear Hr Htab
        go_wp2_with fail
        go_ret
        exact ⟨by rw [Hv3.out]; rfl, by repeat (first | (with_reducible exact hb2) | (with_reducible refine Below.setCell ?_ (by simp [hb2.size]; done) _) | (with_reducible refine Below.alloc ?_ hb2.size _))⟩
    · have Hv3 : Hid (cellTS s k = ⟨#[]⟩) := Lib.hid (by rw [Hv2.out, if_neg (by rintro ⟨h, _⟩; exact hc h)])
      have hc2 : (cell != -1) = true := by rw [bne_iff_ne]; exact hc
      clear Hv2 Ht hc
      go_enter Tryz.func186, Tryz.ntmps186
      go_wp2_with fail
      refine (Hr.out w Htab.out).mono ?_
      rintro e w2 ⟨rfl, hb2⟩
      clear Hr Htab
      go_wp2_with fail
      go_ret
      exact ⟨by rw [Hv3.out]; rfl, by repeat (first | (with_reducible exact hb2) | (with_reducible refine Below.setCell ?_ (by simp [hb2.size]; done) _) | (with_reducible refine Below.alloc ?_ hb2.size _))⟩

/-- a cell's object -/
def objS (s : ByteArray) : ByteArray := if readB s = true ∧ (cand s).cell ≠ -1 then txt ⟨(cand s).kind, (cand s).fn, (cand s).copy, (cand s).name, (cand s).n, -1⟩ else ⟨#[]⟩
def objN (s : ByteArray) : Int := if readB s = true ∧ (cand s).cell ≠ -1 then (cand s).cell else 0
def objB (s : ByteArray) : Bool := decide (readB s = true ∧ (cand s).cell ≠ -1)
def ObjPost (s : ByteArray) (w : World) (e : Ending) (w' : World) : Prop := e = .returned (.tuple #[.string (objS s), .int .i64 (objN s), .bool (objB s)]) ∧ Below w.heap.size w w'

theorem results_tmp3 {fn : Func} {t u v : Tmp} (h : fn.results = #[.tmp t, .tmp u, .tmp v]) (tmps : Array Value) (P : Program) (w : World) :
    (results fn tmps).run P w = .ok (.tuple #[tmps.getD t undef, tmps.getD u undef, tmps.getD v undef]) w := by
  simp [results, h]

end Go.Proofs.YtdmmkjijgoiecaaGreatDoor.nm

/-
  weftref14.Right: whether a node may be, by definition: what is common.
-/
set_option linter.all false
namespace Go.Proofs.YtdmmkjijgoiecaaGreatDoor.nm
open Go.RowKit Go.Sort


def rcB (n : Int) : Bool := decide (0 ≤ n ∧ n ≤ 268435456)

theorem rcount_any (n : Int) (w : World) : Calls Tryz.prog 214 #[.int .i64 n] w fun e w' => e = .returned (.bool (rcB n)) ∧ w = w' := by
  by_cases h0 : 0 ≤ n
  · have h0' : decide (n < 0) = false := by simp; omega
    have Hv : Hid (rcB n = decide (n ≤ 268435456)) := Lib.hid (by unfold rcB; simp [h0])
    go_enter Tryz.func214, Tryz.ntmps214
    go_wp2_with fail
    go_ret
    exact ⟨by rw [Hv.out]; rfl, rfl⟩
  · have Hv : Hid (rcB n = false) := Lib.hid (by unfold rcB; simp [h0])
    have h0' : decide (n < 0) = true := by simp; omega
    go_enter Tryz.func214, Tryz.ntmps214
    go_wp2_with fail
    go_ret
    exact ⟨by rw [Hv.out]; rfl, rfl⟩

def RPost (b : Bool) (w : World) (e : Ending) (w' : World) : Prop := e = .returned (.bool b) ∧ Below w.heap.size w w'

set_option maxRecDepth 100000 in
set_option maxHeartbeats 1000000 in
theorem right_kind (kind : Int) (fn : ByteArray) (copy : Int) (name : ByteArray) (n cell : Int) (w : World) (h : ¬ (1 ≤ kind ∧ kind ≤ 7)) :
    Calls Tryz.prog 196 #[Nd.val ⟨kind, fn, copy, name, n, cell⟩] w (RPost false w) := by
  unfold Nd.val Nd.cells
  by_cases h1 : kind < 1
  · clear h
    go_enter Tryz.func196, Tryz.ntmps196
    go_wp2_with fail
    go_ret
    exact ⟨rfl, (Below.refl _ _).alloc (Nat.le_refl _) _⟩
  · have h2 : 7 < kind := by omega
    clear h
    go_enter Tryz.func196, Tryz.ntmps196
    go_wp2_with fail
    go_ret
    exact ⟨rfl, (Below.refl _ _).alloc (Nat.le_refl _) _⟩

def rightF (k copy n cell : Int) (c1 c2 c3 fE fN nE nN : Bool) : Bool :=
  (decide (1 ≤ k ∧ k ≤ 7) && (c1 && (c2 && ((cell == -1) || c3)))) &&
  ((!(((k == 5) != fE) || ((!fE && !fN) || ((k == 5) && (copy != 0))))) &&
  ((!(((k == 1 || (k == 5 || k == 6)) != !nE) || ((k == 1 || (k == 5 || k == 6)) && !nN))) &&
  ((!((!(k == 2 || (k == 3 || k == 7)) && (n != 0)) || ((n == 0) && (k == 3 || k == 7)))) &&
  (decide (5 ≤ k) || (cell == -1)))))
def rightB (d : Nd) : Bool := rightF d.kind d.copy d.n d.cell (rcB d.copy) (rcB d.n) (rcB d.cell) d.fn.toList.isEmpty (dg.nameB d.fn) d.name.toList.isEmpty (dg.nameB d.name)

set_option maxRecDepth 100000 in
set_option maxHeartbeats 400000 in
theorem right_copy (kind : Int) (fn : ByteArray) (copy : Int) (name : ByteArray) (n cell : Int) (w : World) (h1 : 1 ≤ kind) (h7 : kind ≤ 7) (Hc1 : Hid (∀ w, Calls Tryz.prog 214 #[.int .i64 (copy)] w fun e w' => e = .returned (.bool false) ∧ w = w')) (hc1 : rcB copy = false) :
    Calls Tryz.prog 196 #[Nd.val ⟨kind, fn, copy, name, n, cell⟩] w (RPost (rightB ⟨kind, fn, copy, name, n, cell⟩) w) := by
  have hk1 : decide (kind < 1) = false := decide_eq_false (by omega)
  have hk7 : decide (7 < kind) = false := decide_eq_false (by omega)
  have Hv : Hid (rightB ⟨kind, fn, copy, name, n, cell⟩ = false) := Lib.hid (by unfold rightB; simp only [hc1]; unfold rightF; simp)
  unfold Nd.val Nd.cells
  clear h1 h7
  go_enter Tryz.func196, Tryz.ntmps196
  go_wp2_with fail
  repeat (first | (with_reducible refine (Hc1.out _).mono ?_; rintro e w' ⟨rfl, rfl⟩; go_wp2_with fail))
  go_ret
  exact ⟨by rw [Hv.out]; try rfl, (Below.refl _ _).alloc (Nat.le_refl _) _⟩

set_option maxRecDepth 100000 in
set_option maxHeartbeats 400000 in
theorem right_n (kind : Int) (fn : ByteArray) (copy : Int) (name : ByteArray) (n cell : Int) (w : World) (h1 : 1 ≤ kind) (h7 : kind ≤ 7) (Hc1 : Hid (∀ w, Calls Tryz.prog 214 #[.int .i64 (copy)] w fun e w' => e = .returned (.bool true) ∧ w = w')) (Hc2 : Hid (∀ w, Calls Tryz.prog 214 #[.int .i64 (n)] w fun e w' => e = .returned (.bool false) ∧ w = w')) (hc2 : rcB n = false) :
    Calls Tryz.prog 196 #[Nd.val ⟨kind, fn, copy, name, n, cell⟩] w (RPost (rightB ⟨kind, fn, copy, name, n, cell⟩) w) := by
  have hk1 : decide (kind < 1) = false := decide_eq_false (by omega)
  have hk7 : decide (7 < kind) = false := decide_eq_false (by omega)
  have Hv : Hid (rightB ⟨kind, fn, copy, name, n, cell⟩ = false) := Lib.hid (by unfold rightB; simp only [hc2]; unfold rightF; simp)
  unfold Nd.val Nd.cells
  clear h1 h7
  go_enter Tryz.func196, Tryz.ntmps196
  go_wp2_with fail
  repeat (first | (with_reducible refine (Hc1.out _).mono ?_; rintro e w' ⟨rfl, rfl⟩; go_wp2_with fail) | (with_reducible refine (Hc2.out _).mono ?_; rintro e w' ⟨rfl, rfl⟩; go_wp2_with fail))
  go_ret
  exact ⟨by rw [Hv.out]; try rfl, (Below.refl _ _).alloc (Nat.le_refl _) _⟩

set_option maxRecDepth 100000 in
set_option maxHeartbeats 400000 in
theorem right_cell (kind : Int) (fn : ByteArray) (copy : Int) (name : ByteArray) (n cell : Int) (w : World) (h1 : 1 ≤ kind) (h7 : kind ≤ 7) (Hc1 : Hid (∀ w, Calls Tryz.prog 214 #[.int .i64 (copy)] w fun e w' => e = .returned (.bool true) ∧ w = w')) (Hc2 : Hid (∀ w, Calls Tryz.prog 214 #[.int .i64 (n)] w fun e w' => e = .returned (.bool true) ∧ w = w')) (Hc3 : Hid (∀ w, Calls Tryz.prog 214 #[.int .i64 (cell)] w fun e w' => e = .returned (.bool false) ∧ w = w')) (hc3 : rcB cell = false) (hz3 : (cell == -1) = false) (hz4 : (cell != -1) = true) :
    Calls Tryz.prog 196 #[Nd.val ⟨kind, fn, copy, name, n, cell⟩] w (RPost (rightB ⟨kind, fn, copy, name, n, cell⟩) w) := by
  have hk1 : decide (kind < 1) = false := decide_eq_false (by omega)
  have hk7 : decide (7 < kind) = false := decide_eq_false (by omega)
  have Hv : Hid (rightB ⟨kind, fn, copy, name, n, cell⟩ = false) := Lib.hid (by unfold rightB; simp only [hc3]; unfold rightF; simp only [hz3]; simp)
  unfold Nd.val Nd.cells
  clear h1 h7
  go_enter Tryz.func196, Tryz.ntmps196
  go_wp2_with fail
  repeat (first | (with_reducible refine (Hc1.out _).mono ?_; rintro e w' ⟨rfl, rfl⟩; go_wp2_with fail) | (with_reducible refine (Hc2.out _).mono ?_; rintro e w' ⟨rfl, rfl⟩; go_wp2_with fail) | (with_reducible refine (Hc3.out _).mono ?_; rintro e w' ⟨rfl, rfl⟩; go_wp2_with fail))
  go_ret
  exact ⟨by rw [Hv.out]; try rfl, (Below.refl _ _).alloc (Nat.le_refl _) _⟩

theorem cnt_val {x : Int} {b : Bool} (h : rcB x = b) : Hid (∀ w, Calls Tryz.prog 214 #[.int .i64 x] w fun e w' => e = .returned (.bool b) ∧ w = w') := Lib.hid fun w => by rw [← h]; exact rcount_any x w
theorem nam_val {x : ByteArray} {b : Bool} (hs : x.size ≤ maxLen) (h : dg.nameB x = b) : Hid (∀ w, Calls Tryz.prog 56 #[.string x] w fun e w' => e = .returned (.bool b) ∧ w = w') := Lib.hid fun w => by rw [← h]; exact dg.rname_any x w hs
end Go.Proofs.YtdmmkjijgoiecaaGreatDoor.nm

/-
  the examples of the statements over names.
-/
set_option linter.all false
namespace Go.Proofs.YtdmmkjijgoiecaaGreatDoor.nm
open Go.RowKit Go.Sort

/-- what the walks take of == over nodes (proved in a text beside this one) -/
structure HeldE : Prop where
  eql : ∀ (a b : Nd) (w : World), (binOp .eql 175 a.val b.val).run Tryz.prog w = .ok (.bool (sameB a b)) w
  guard : ∀ (op : BinOp) (x y : Operand) (xs ys : Array Value) (w : World), (eqGuard op 175 x y (.agg xs) (.agg ys)).run Tryz.prog w = .ok () w

def ex1 : ByteArray := ⟨#[102, 126, 51, 46, 112]⟩
def ex2 : ByteArray := ⟨#[102, 37, 120]⟩

def WorksPost (w : World) (e : Ending) (w' : World) : Prop := e = .returned (.bool true) ∧ Below w.heap.size w w'

theorem ex_le (s : ByteArray) (h : s.size ≤ 9) : s.size ≤ maxLen := Nat.le_trans h (by decide)

end Go.Proofs.YtdmmkjijgoiecaaGreatDoor.nm
