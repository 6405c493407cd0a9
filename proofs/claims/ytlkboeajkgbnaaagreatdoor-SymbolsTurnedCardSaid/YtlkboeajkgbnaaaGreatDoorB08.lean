import Derived.Test.YtlkboeajkgbnaaaGreatDoorB07
set_option linter.all false
set_option maxHeartbeats 4000000
namespace Go.Proofs.YtlkboeajkgbnaaaGreatDoor.nm
open Go.RowKit Go.Sort
def fn0 (s : ByteArray) : ByteArray := s.extract 0 (dg.splN s)
def rest1 (s : ByteArray) : ByteArray := s.extract (dg.splN s) s.size
def cp0 (s : ByteArray) : Int := (behS (rest1 s) 126 0).1
def rest2 (s : ByteArray) : ByteArray := (behS (rest1 s) 126 0).2
def tailS (s : ByteArray) : ByteArray := s.extract 1 s.size
def cellOf (r : ByteArray) : Int := (behS r 43 (-1)).1
def cand (s : ByteArray) : Nd :=
  if kindS (rest2 s) = 5 then ⟨5, ⟨#[]⟩, cp0 s, fn0 s, 0, cellOf (rest2 s)⟩
  else if kindS (rest2 s) = 1 then ⟨1, fn0 s, cp0 s, fn0 (tailS (rest2 s)), 0, cellOf (rest1 (tailS (rest2 s)))⟩
  else if kindS (rest2 s) = 6 then ⟨6, fn0 s, cp0 s, fn0 (tailS (rest2 s)), 0, cellOf (rest1 (tailS (rest2 s)))⟩
  else if kindS (rest2 s) = 4 then ⟨4, fn0 s, cp0 s, ⟨#[]⟩, 0, cellOf ⟨#[]⟩⟩
  else ⟨kindS (rest2 s), fn0 s, cp0 s, ⟨#[]⟩, (behS (rest2 s) (headI (rest2 s)) 0).1, cellOf (behS (rest2 s) (headI (rest2 s)) 0).2⟩
def zeroN : Nd := ⟨0, ⟨#[]⟩, 0, ⟨#[]⟩, 0, 0⟩
def readB (s : ByteArray) : Bool := mayB (cand s) && ((txt (cand s)).toList == s.toList)
def readN (s : ByteArray) : Nd := if readB s then cand s else zeroN
def readE (s : ByteArray) : Int := if readB s then 0 else 11
def ReadPost (s : ByteArray) (w : World) (e : Ending) (w' : World) : Prop := e = .returned (.tuple #[(readN s).val, .int .i64 (readE s)]) ∧ Below w.heap.size w w'
theorem frozen_below {W w' : World} {a : Addr} (hl : a.block < W.heap.size) (h : W.frozen? a = false) (hb : Below W.heap.size W w') : w'.frozen? a = false := by
  rw [hb.frozen hl]; exact h
theorem call_abs {P : Program} {f : FuncId} {args : Array Value} {W : World} {post : Ending → World → Prop} (Q : World → Prop) (hQ : Q W) (h : ∀ W', Q W' → Calls P f args W' post) : Calls P f args W post := h W hQ
def Free (b : Nat) (w : World) : Prop := w.frozen? ⟨b, 0, none⟩ = false ∧ w.frozen? ⟨b, 1, none⟩ = false ∧ w.frozen? ⟨b, 2, none⟩ = false ∧ w.frozen? ⟨b, 3, none⟩ = false ∧ w.frozen? ⟨b, 4, none⟩ = false ∧ w.frozen? ⟨b, 5, none⟩ = false
theorem Free.on {b : Nat} {w w' : World} (h : Free b w) (hl : b < w.heap.size) (hb : Below w.heap.size w w') : Free b w' :=
  ⟨frozen_below hl h.1 hb, frozen_below hl h.2.1 hb, frozen_below hl h.2.2.1 hb, frozen_below hl h.2.2.2.1 hb, frozen_below hl h.2.2.2.2.1 hb, frozen_below hl h.2.2.2.2.2 hb⟩
theorem beh_le (s : ByteArray) (m a : Int) : (behS s m a).2.size ≤ s.size := by
  unfold behS
  split
  · exact Nat.le_refl _
  · split
    · exact Nat.le_trans (ext_le _ _ _) (ext_le _ _ _)
    · exact Nat.zero_le _
theorem rest1_le (s : ByteArray) : (rest1 s).size ≤ s.size := ext_le _ _ _
theorem rest2_le (s : ByteArray) : (rest2 s).size ≤ s.size := Nat.le_trans (beh_le _ _ _) (rest1_le s)
theorem fn0_le (s : ByteArray) : (fn0 s).size ≤ s.size := ext_le _ _ _
theorem tailS_le (s : ByteArray) : (tailS s).size ≤ s.size := ext_le _ _ _
theorem split_of (s : ByteArray) (w : World) (hs : s.size ≤ maxLen) : Calls Tryz.prog 117 #[.string s] w fun e w' => e = .returned (.tuple #[.string (fn0 s), .string (rest1 s)]) ∧ ∃ n, w' = w.drewN n := dg.split_any s w hs
theorem beh1_of (s : ByteArray) (w : World) (hs : (rest1 s).size ≤ maxLen) : Calls Tryz.prog 118 #[.string (rest1 s), .int .u8 126, .int .i64 0] w fun e w' => e = .returned (.tuple #[.int .i64 (cp0 s), .string (rest2 s)]) ∧ ∃ n, w' = w.drewN n := behind_any (rest1 s) 126 0 w hs
theorem behc_all (r : ByteArray) (hs : r.size ≤ maxLen) : ∃ t, ∀ w, Calls Tryz.prog 118 #[.string r, .int .u8 43, .int .i64 (-1)] w fun e w' => e = .returned (.tuple #[.int .i64 (cellOf r), .string t]) ∧ ∃ n, w' = w.drewN n := ⟨(behS r 43 (-1)).2, fun w => behind_any r 43 (-1) w hs⟩
theorem readPost_yes {s : ByteArray} {d : Nd} {w w' : World} (hc : cand s = d) (hm : mayB d = true) (ht : ((txt d).toList == s.toList) = true) (hb : Below w.heap.size w w') : ReadPost s w (.returned (.tuple #[d.val, .int .i64 0])) w' := by
  have hr : readB s = true := by unfold readB; rw [hc, hm, ht]; rfl
  refine ⟨?_, hb⟩
  unfold readN readE
  rw [hr, hc]; rfl
theorem readPost_no {s : ByteArray} {d : Nd} {w w' : World} (hc : cand s = d) (hm : mayB d = false ∨ ((txt d).toList == s.toList) = false) (hb : Below w.heap.size w w') : ReadPost s w (.returned (.tuple #[zeroN.val, .int .i64 11])) w' := by
  have hr : readB s = false := by unfold readB; rw [hc]; rcases hm with h | h <;> rw [h] <;> simp
  refine ⟨?_, hb⟩
  unfold readN readE
  rw [hr]; rfl
theorem three_ways (d : Nd) (s : ByteArray) : (mayB d = false ∧ terr d = 11) ∨ (mayB d = true ∧ terr d = 0 ∧ ((txt d).toList == s.toList) = false) ∨ (mayB d = true ∧ terr d = 0 ∧ ((txt d).toList == s.toList) = true) := by
  unfold terr
  rcases h : mayB d with _ | _
  · exact Or.inl ⟨rfl, by simp⟩
  · rcases h2 : ((txt d).toList == s.toList) with _ | _
    · exact Or.inr (Or.inl ⟨rfl, by simp, rfl⟩)
    · exact Or.inr (Or.inr ⟨rfl, by simp, rfl⟩)
theorem kind_pos {s : ByteArray} {k : Int} (h : kindS s = k) (hk : k ≠ 5) : 0 < s.size := by
  rcases Nat.eq_zero_or_pos s.size with h0 | h0
  · unfold kindS at h; rw [if_pos h0] at h; exact absurd h.symm hk
  · exact h0
theorem split_tail (r : ByteArray) (w : World) (hs : r.size ≤ maxLen) : Calls Tryz.prog 117 #[.string (r.extract 1 r.size)] w fun e w' => e = .returned (.tuple #[.string (fn0 (tailS r)), .string (rest1 (tailS r))]) ∧ ∃ n, w' = w.drewN n := dg.split_any (tailS r) w (Nat.le_trans (tailS_le r) hs)
theorem beh_head (r : ByteArray) (hz : 0 < r.size) (w : World) (hs : r.size ≤ maxLen) : Calls Tryz.prog 118 #[.string r, .int .u8 (r[0].toNat : Int), .int .i64 0] w fun e w' => e = .returned (.tuple #[.int .i64 (behS r (headI r) 0).1, .string (behS r (headI r) 0).2]) ∧ ∃ n, w' = w.drewN n := by
  have hh : headI r = (r[0].toNat : Int) := by unfold headI; rw [dg.headD_zero r hz]
  rw [hh]; exact behind_any r (r[0].toNat : Int) 0 w hs
set_option maxRecDepth 100000 in
theorem read_5 (hd : Held) (s : ByteArray) (w : World) (hs : s.size ≤ maxLen) (htab : Tab w) (hk : kindS (rest2 s) = 5) : Calls Tryz.prog 97 #[.string s] w (ReadPost s w) := by
  have l1 := rest1_le s
  have l2 := rest2_le s
  have l0 := fn0_le s
  obtain ⟨r4, Hb2⟩ := behc_all (rest2 s) (by omega)
  have Hb2 := Lib.hid Hb2
  have Hc : Hid (cand s = ⟨5, ⟨#[]⟩, cp0 s, fn0 s, 0, cellOf (rest2 s)⟩) := Lib.hid (by unfold cand; rw [hk]; first | rfl | simp)
  have Htx := Lib.hid (fun w h => text_any hd ⟨5, ⟨#[]⟩, cp0 s, fn0 s, 0, cellOf (rest2 s)⟩ w (by show (fn0 s : ByteArray).size ≤ maxLen; first | omega | exact Nat.zero_le _) (by show (⟨#[]⟩ : ByteArray).size ≤ maxLen; first | omega | exact Nat.zero_le _) h)
  have Hways := Lib.hid (three_ways ⟨5, ⟨#[]⟩, cp0 s, fn0 s, 0, cellOf (rest2 s)⟩ s)
  unfold TextPost Nd.val Nd.cells at Htx
  have Hsp := Lib.hid (fun w => split_of s w hs)
  have Hb1 := Lib.hid (fun w => beh1_of s w (by omega))
  have Hkd := Lib.hid (fun w => kind_any (rest2 s) w (by omega))
  rw [hk] at Hkd
  have Htab := Lib.hid htab
  clear htab hk hd l0 l1 l2
  unfold maxLen at hs
  go_enter Tryz.func97, Tryz.ntmps97
  go_wp2_with fail
  refine (Hsp.out _).mono ?_
  rintro e w' ⟨rfl, q1, rfl⟩
  go_wp2_with fail
  refine (Hb1.out _).mono ?_
  rintro e w' ⟨rfl, q2, rfl⟩
  go_wp2_with fail
  refine (Hkd.out _).mono ?_
  rintro e w' ⟨rfl, rfl⟩
  go_wp2_with fail
  refine (Hb2.out _).mono ?_
  rintro e w' ⟨rfl, r0, rfl⟩
  go_wp2_with fail
  refine call_abs (fun W' => Below w.heap.size w W' ∧ Six ⟨5, ⟨#[]⟩, cp0 s, fn0 s, 0, cellOf (rest2 s)⟩ (w.heap.size + 1) W' ∧ Six zeroN w.heap.size W' ∧ Free w.heap.size W' ∧ w.heap.size + 1 < W'.heap.size) ⟨?_, ?_, ?_, ?_, ?_⟩ ?_
  · repeat (first | (with_reducible exact Below.refl _ _) | (with_reducible refine dt.below_drewN ?_ _) | (with_reducible refine Below.setCell ?_ (by simp) _) | (with_reducible refine Below.alloc ?_ (by simp) _))
  · unfold Six; refine ⟨?_, ?_, ?_, ?_, ?_, ?_⟩ <;> go_simp
  · unfold Six zeroN; refine ⟨?_, ?_, ?_, ?_, ?_, ?_⟩ <;> go_simp
  · unfold Free; refine ⟨?_, ?_, ?_, ?_, ?_, ?_⟩ <;> go_simp
  · simp
  rintro W4 ⟨hb4, hs4, hz4, hf4, hl4⟩
  refine (Htx.out W4 (tab_below Htab.out hb4)).mono ?_
  rintro e w5 ⟨rfl, b5⟩
  have Hs5 := Lib.hid (hs4.on b5)
  have Hz5 := Lib.hid (hz4.on b5)
  have Hf5 := Lib.hid (hf4.on (by omega) b5)
  have hb5 := below_on hb4 b5
  have hlt5 : w.heap.size + 1 < w5.heap.size := by have := b5.size; omega
  clear b5 hb4 hs4 hz4 hf4 hl4
  obtain ⟨k0, k1, k2, k3, k4, k5⟩ := Hs5.out
  unfold zeroN at Hz5
  obtain ⟨z0, z1, z2, z3, z4, z5⟩ := Hz5.out
  obtain ⟨f0, f1, f2, f3, f4, f5⟩ := Hf5.out
  have H3 := Hways.out
  have Hno := Lib.hid (fun w' => readPost_no (w := w) (w' := w') Hc.out)
  have Hyes := Lib.hid (fun w' => readPost_yes (w := w) (w' := w') Hc.out)
  unfold zeroN at Hno
  unfold Nd.val Nd.cells at Hno Hyes
  generalize mayB ⟨5, ⟨#[]⟩, cp0 s, fn0 s, 0, cellOf (rest2 s)⟩ = mb at *
  generalize terr ⟨5, ⟨#[]⟩, cp0 s, fn0 s, 0, cellOf (rest2 s)⟩ = te at *
  generalize txt ⟨5, ⟨#[]⟩, cp0 s, fn0 s, 0, cellOf (rest2 s)⟩ = tt at *
  clear Hc Hb2 Hsp Hb1 Hkd Htx Hways
  rcases H3 with ⟨hmb, rfl⟩ | ⟨hmb, rfl, htt⟩ | ⟨hmb, rfl, htt⟩
  · have hno := Lib.hid (fun w' => Hno.out w' (Or.inl hmb))
    clear Hno Hyes hmb
    go_wp2_with fail
    refine bodyPost_ret (v := .tuple #[.agg #[.int .i64 0, .string ⟨#[]⟩, .int .i64 0, .string ⟨#[]⟩, .int .i64 0, .int .i64 0], .int .i64 11]) ?_ rfl (hno.out _ ?_)
    · simp only [results, Tryz.results97]
      clear hno
      go_simp
    · repeat (first | (with_reducible exact hb5) | (with_reducible refine Below.setCell ?_ (by simp) _))
  · have hno := Lib.hid (fun w' => Hno.out w' (Or.inr htt))
    clear Hno Hyes hmb
    go_wp2_with fail
    refine bodyPost_ret (v := .tuple #[.agg #[.int .i64 0, .string ⟨#[]⟩, .int .i64 0, .string ⟨#[]⟩, .int .i64 0, .int .i64 0], .int .i64 11]) ?_ rfl (hno.out _ ?_)
    · simp only [results, Tryz.results97]
      clear hno
      go_simp
    · repeat (first | (with_reducible exact hb5) | (with_reducible refine Below.setCell ?_ (by simp) _))
  · have hyes := Lib.hid (fun w' => Hyes.out w' hmb htt)
    clear Hno Hyes hmb
    go_wp2_with fail
    refine bodyPost_ret ?_ rfl (hyes.out _ ?_)
    · simp only [results, Tryz.results97]
      clear hyes
      go_simp
    · repeat (first | (with_reducible exact hb5) | (with_reducible refine Below.setCell ?_ (by simp) _))
set_option maxRecDepth 100000 in
theorem read_1 (hd : Held) (s : ByteArray) (w : World) (hs : s.size ≤ maxLen) (htab : Tab w) (hk : kindS (rest2 s) = 1) : Calls Tryz.prog 97 #[.string s] w (ReadPost s w) := by
  have l1 := rest1_le s
  have l2 := rest2_le s
  have l0 := fn0_le s
  have hz := kind_pos hk (by decide)
  have lt := tailS_le (rest2 s)
  have lf := fn0_le (tailS (rest2 s))
  have lr := rest1_le (tailS (rest2 s))
  have Hst := Lib.hid (fun w => split_tail (rest2 s) w (by omega))
  obtain ⟨r4, Hb2⟩ := behc_all (rest1 (tailS (rest2 s))) (by omega)
  have Hb2 := Lib.hid Hb2
  clear lr
  have Hc : Hid (cand s = ⟨1, fn0 s, cp0 s, fn0 (tailS (rest2 s)), 0, cellOf (rest1 (tailS (rest2 s)))⟩) := Lib.hid (by unfold cand; rw [hk]; first | rfl | simp)
  have Htx := Lib.hid (fun w h => text_any hd ⟨1, fn0 s, cp0 s, fn0 (tailS (rest2 s)), 0, cellOf (rest1 (tailS (rest2 s)))⟩ w (by show (fn0 (tailS (rest2 s)) : ByteArray).size ≤ maxLen; first | omega | exact Nat.zero_le _) (by show (fn0 s : ByteArray).size ≤ maxLen; first | omega | exact Nat.zero_le _) h)
  have Hways := Lib.hid (three_ways ⟨1, fn0 s, cp0 s, fn0 (tailS (rest2 s)), 0, cellOf (rest1 (tailS (rest2 s)))⟩ s)
  unfold TextPost Nd.val Nd.cells at Htx
  have Hsp := Lib.hid (fun w => split_of s w hs)
  have Hb1 := Lib.hid (fun w => beh1_of s w (by omega))
  have Hkd := Lib.hid (fun w => kind_any (rest2 s) w (by omega))
  rw [hk] at Hkd
  have Htab := Lib.hid htab
  clear htab hk hd l0 l1 l2
  unfold maxLen at hs
  go_enter Tryz.func97, Tryz.ntmps97
  go_wp2_with fail
  refine (Hsp.out _).mono ?_
  rintro e w' ⟨rfl, q1, rfl⟩
  go_wp2_with fail
  refine (Hb1.out _).mono ?_
  rintro e w' ⟨rfl, q2, rfl⟩
  go_wp2_with fail
  refine (Hkd.out _).mono ?_
  rintro e w' ⟨rfl, rfl⟩
  go_wp2_with fail
  refine (Hst.out _).mono ?_
  rintro e w' ⟨rfl, r0, rfl⟩
  go_wp2_with fail
  refine (Hb2.out _).mono ?_
  rintro e w' ⟨rfl, r1, rfl⟩
  go_wp2_with fail
  refine call_abs (fun W' => Below w.heap.size w W' ∧ Six ⟨1, fn0 s, cp0 s, fn0 (tailS (rest2 s)), 0, cellOf (rest1 (tailS (rest2 s)))⟩ (w.heap.size + 1) W' ∧ Six zeroN w.heap.size W' ∧ Free w.heap.size W' ∧ w.heap.size + 1 < W'.heap.size) ⟨?_, ?_, ?_, ?_, ?_⟩ ?_
  · repeat (first | (with_reducible exact Below.refl _ _) | (with_reducible refine dt.below_drewN ?_ _) | (with_reducible refine Below.setCell ?_ (by simp) _) | (with_reducible refine Below.alloc ?_ (by simp) _))
  · unfold Six; refine ⟨?_, ?_, ?_, ?_, ?_, ?_⟩ <;> go_simp
  · unfold Six zeroN; refine ⟨?_, ?_, ?_, ?_, ?_, ?_⟩ <;> go_simp
  · unfold Free; refine ⟨?_, ?_, ?_, ?_, ?_, ?_⟩ <;> go_simp
  · simp
  rintro W4 ⟨hb4, hs4, hz4, hf4, hl4⟩
  refine (Htx.out W4 (tab_below Htab.out hb4)).mono ?_
  rintro e w5 ⟨rfl, b5⟩
  have Hs5 := Lib.hid (hs4.on b5)
  have Hz5 := Lib.hid (hz4.on b5)
  have Hf5 := Lib.hid (hf4.on (by omega) b5)
  have hb5 := below_on hb4 b5
  have hlt5 : w.heap.size + 1 < w5.heap.size := by have := b5.size; omega
  clear b5 hb4 hs4 hz4 hf4 hl4
  obtain ⟨k0, k1, k2, k3, k4, k5⟩ := Hs5.out
  unfold zeroN at Hz5
  obtain ⟨z0, z1, z2, z3, z4, z5⟩ := Hz5.out
  obtain ⟨f0, f1, f2, f3, f4, f5⟩ := Hf5.out
  have H3 := Hways.out
  have Hno := Lib.hid (fun w' => readPost_no (w := w) (w' := w') Hc.out)
  have Hyes := Lib.hid (fun w' => readPost_yes (w := w) (w' := w') Hc.out)
  unfold zeroN at Hno
  unfold Nd.val Nd.cells at Hno Hyes
  generalize mayB ⟨1, fn0 s, cp0 s, fn0 (tailS (rest2 s)), 0, cellOf (rest1 (tailS (rest2 s)))⟩ = mb at *
  generalize terr ⟨1, fn0 s, cp0 s, fn0 (tailS (rest2 s)), 0, cellOf (rest1 (tailS (rest2 s)))⟩ = te at *
  generalize txt ⟨1, fn0 s, cp0 s, fn0 (tailS (rest2 s)), 0, cellOf (rest1 (tailS (rest2 s)))⟩ = tt at *
  clear Hc Hb2 Hsp Hb1 Hkd Htx Hways
  rcases H3 with ⟨hmb, rfl⟩ | ⟨hmb, rfl, htt⟩ | ⟨hmb, rfl, htt⟩
  · have hno := Lib.hid (fun w' => Hno.out w' (Or.inl hmb))
    clear Hno Hyes hmb
    go_wp2_with fail
    refine bodyPost_ret (v := .tuple #[.agg #[.int .i64 0, .string ⟨#[]⟩, .int .i64 0, .string ⟨#[]⟩, .int .i64 0, .int .i64 0], .int .i64 11]) ?_ rfl (hno.out _ ?_)
    · simp only [results, Tryz.results97]
      clear hno
      go_simp
    · repeat (first | (with_reducible exact hb5) | (with_reducible refine Below.setCell ?_ (by simp) _))
  · have hno := Lib.hid (fun w' => Hno.out w' (Or.inr htt))
    clear Hno Hyes hmb
    go_wp2_with fail
    refine bodyPost_ret (v := .tuple #[.agg #[.int .i64 0, .string ⟨#[]⟩, .int .i64 0, .string ⟨#[]⟩, .int .i64 0, .int .i64 0], .int .i64 11]) ?_ rfl (hno.out _ ?_)
    · simp only [results, Tryz.results97]
      clear hno
      go_simp
    · repeat (first | (with_reducible exact hb5) | (with_reducible refine Below.setCell ?_ (by simp) _))
  · have hyes := Lib.hid (fun w' => Hyes.out w' hmb htt)
    clear Hno Hyes hmb
    go_wp2_with fail
    refine bodyPost_ret ?_ rfl (hyes.out _ ?_)
    · simp only [results, Tryz.results97]
      clear hyes
      go_simp
    · repeat (first | (with_reducible exact hb5) | (with_reducible refine Below.setCell ?_ (by simp) _))
set_option maxRecDepth 100000 in
theorem read_6 (hd : Held) (s : ByteArray) (w : World) (hs : s.size ≤ maxLen) (htab : Tab w) (hk : kindS (rest2 s) = 6) : Calls Tryz.prog 97 #[.string s] w (ReadPost s w) := by
  have l1 := rest1_le s
  have l2 := rest2_le s
  have l0 := fn0_le s
  have hz := kind_pos hk (by decide)
  have lt := tailS_le (rest2 s)
  have lf := fn0_le (tailS (rest2 s))
  have lr := rest1_le (tailS (rest2 s))
  have Hst := Lib.hid (fun w => split_tail (rest2 s) w (by omega))
  obtain ⟨r4, Hb2⟩ := behc_all (rest1 (tailS (rest2 s))) (by omega)
  have Hb2 := Lib.hid Hb2
  clear lr
  have Hc : Hid (cand s = ⟨6, fn0 s, cp0 s, fn0 (tailS (rest2 s)), 0, cellOf (rest1 (tailS (rest2 s)))⟩) := Lib.hid (by unfold cand; rw [hk]; first | rfl | simp)
  have Htx := Lib.hid (fun w h => text_any hd ⟨6, fn0 s, cp0 s, fn0 (tailS (rest2 s)), 0, cellOf (rest1 (tailS (rest2 s)))⟩ w (by show (fn0 (tailS (rest2 s)) : ByteArray).size ≤ maxLen; first | omega | exact Nat.zero_le _) (by show (fn0 s : ByteArray).size ≤ maxLen; first | omega | exact Nat.zero_le _) h)
  have Hways := Lib.hid (three_ways ⟨6, fn0 s, cp0 s, fn0 (tailS (rest2 s)), 0, cellOf (rest1 (tailS (rest2 s)))⟩ s)
  unfold TextPost Nd.val Nd.cells at Htx
  have Hsp := Lib.hid (fun w => split_of s w hs)
  have Hb1 := Lib.hid (fun w => beh1_of s w (by omega))
  have Hkd := Lib.hid (fun w => kind_any (rest2 s) w (by omega))
  rw [hk] at Hkd
  have Htab := Lib.hid htab
  clear htab hk hd l0 l1 l2
  unfold maxLen at hs
  go_enter Tryz.func97, Tryz.ntmps97
  go_wp2_with fail
  refine (Hsp.out _).mono ?_
  rintro e w' ⟨rfl, q1, rfl⟩
  go_wp2_with fail
  refine (Hb1.out _).mono ?_
  rintro e w' ⟨rfl, q2, rfl⟩
  go_wp2_with fail
  refine (Hkd.out _).mono ?_
  rintro e w' ⟨rfl, rfl⟩
  go_wp2_with fail
  refine (Hst.out _).mono ?_
  rintro e w' ⟨rfl, r0, rfl⟩
  go_wp2_with fail
  refine (Hb2.out _).mono ?_
  rintro e w' ⟨rfl, r1, rfl⟩
  go_wp2_with fail
  refine call_abs (fun W' => Below w.heap.size w W' ∧ Six ⟨6, fn0 s, cp0 s, fn0 (tailS (rest2 s)), 0, cellOf (rest1 (tailS (rest2 s)))⟩ (w.heap.size + 1) W' ∧ Six zeroN w.heap.size W' ∧ Free w.heap.size W' ∧ w.heap.size + 1 < W'.heap.size) ⟨?_, ?_, ?_, ?_, ?_⟩ ?_
  · repeat (first | (with_reducible exact Below.refl _ _) | (with_reducible refine dt.below_drewN ?_ _) | (with_reducible refine Below.setCell ?_ (by simp) _) | (with_reducible refine Below.alloc ?_ (by simp) _))
  · unfold Six; refine ⟨?_, ?_, ?_, ?_, ?_, ?_⟩ <;> go_simp
  · unfold Six zeroN; refine ⟨?_, ?_, ?_, ?_, ?_, ?_⟩ <;> go_simp
  · unfold Free; refine ⟨?_, ?_, ?_, ?_, ?_, ?_⟩ <;> go_simp
  · simp
  rintro W4 ⟨hb4, hs4, hz4, hf4, hl4⟩
  refine (Htx.out W4 (tab_below Htab.out hb4)).mono ?_
  rintro e w5 ⟨rfl, b5⟩
  have Hs5 := Lib.hid (hs4.on b5)
  have Hz5 := Lib.hid (hz4.on b5)
  have Hf5 := Lib.hid (hf4.on (by omega) b5)
  have hb5 := below_on hb4 b5
  have hlt5 : w.heap.size + 1 < w5.heap.size := by have := b5.size; omega
  clear b5 hb4 hs4 hz4 hf4 hl4
  obtain ⟨k0, k1, k2, k3, k4, k5⟩ := Hs5.out
  unfold zeroN at Hz5
  obtain ⟨z0, z1, z2, z3, z4, z5⟩ := Hz5.out
  obtain ⟨f0, f1, f2, f3, f4, f5⟩ := Hf5.out
  have H3 := Hways.out
  have Hno := Lib.hid (fun w' => readPost_no (w := w) (w' := w') Hc.out)
  have Hyes := Lib.hid (fun w' => readPost_yes (w := w) (w' := w') Hc.out)
  unfold zeroN at Hno
  unfold Nd.val Nd.cells at Hno Hyes
  generalize mayB ⟨6, fn0 s, cp0 s, fn0 (tailS (rest2 s)), 0, cellOf (rest1 (tailS (rest2 s)))⟩ = mb at *
  generalize terr ⟨6, fn0 s, cp0 s, fn0 (tailS (rest2 s)), 0, cellOf (rest1 (tailS (rest2 s)))⟩ = te at *
  generalize txt ⟨6, fn0 s, cp0 s, fn0 (tailS (rest2 s)), 0, cellOf (rest1 (tailS (rest2 s)))⟩ = tt at *
  clear Hc Hb2 Hsp Hb1 Hkd Htx Hways
  rcases H3 with ⟨hmb, rfl⟩ | ⟨hmb, rfl, htt⟩ | ⟨hmb, rfl, htt⟩
  · have hno := Lib.hid (fun w' => Hno.out w' (Or.inl hmb))
    clear Hno Hyes hmb
    go_wp2_with fail
    refine bodyPost_ret (v := .tuple #[.agg #[.int .i64 0, .string ⟨#[]⟩, .int .i64 0, .string ⟨#[]⟩, .int .i64 0, .int .i64 0], .int .i64 11]) ?_ rfl (hno.out _ ?_)
    · simp only [results, Tryz.results97]
      clear hno
      go_simp
    · repeat (first | (with_reducible exact hb5) | (with_reducible refine Below.setCell ?_ (by simp) _))
  · have hno := Lib.hid (fun w' => Hno.out w' (Or.inr htt))
    clear Hno Hyes hmb
    go_wp2_with fail
    refine bodyPost_ret (v := .tuple #[.agg #[.int .i64 0, .string ⟨#[]⟩, .int .i64 0, .string ⟨#[]⟩, .int .i64 0, .int .i64 0], .int .i64 11]) ?_ rfl (hno.out _ ?_)
    · simp only [results, Tryz.results97]
      clear hno
      go_simp
    · repeat (first | (with_reducible exact hb5) | (with_reducible refine Below.setCell ?_ (by simp) _))
  · have hyes := Lib.hid (fun w' => Hyes.out w' hmb htt)
    clear Hno Hyes hmb
    go_wp2_with fail
    refine bodyPost_ret ?_ rfl (hyes.out _ ?_)
    · simp only [results, Tryz.results97]
      clear hyes
      go_simp
    · repeat (first | (with_reducible exact hb5) | (with_reducible refine Below.setCell ?_ (by simp) _))
set_option maxRecDepth 100000 in
theorem read_4 (hd : Held) (s : ByteArray) (w : World) (hs : s.size ≤ maxLen) (htab : Tab w) (hk : kindS (rest2 s) = 4) : Calls Tryz.prog 97 #[.string s] w (ReadPost s w) := by
  have l1 := rest1_le s
  have l2 := rest2_le s
  have l0 := fn0_le s
  obtain ⟨r4, Hb2⟩ := behc_all ⟨#[]⟩ (by exact Nat.zero_le _)
  have Hb2 := Lib.hid Hb2
  have Hc : Hid (cand s = ⟨4, fn0 s, cp0 s, ⟨#[]⟩, 0, cellOf ⟨#[]⟩⟩) := Lib.hid (by unfold cand; rw [hk]; first | rfl | simp)
  have Htx := Lib.hid (fun w h => text_any hd ⟨4, fn0 s, cp0 s, ⟨#[]⟩, 0, cellOf ⟨#[]⟩⟩ w (by show (⟨#[]⟩ : ByteArray).size ≤ maxLen; first | omega | exact Nat.zero_le _) (by show (fn0 s : ByteArray).size ≤ maxLen; first | omega | exact Nat.zero_le _) h)
  have Hways := Lib.hid (three_ways ⟨4, fn0 s, cp0 s, ⟨#[]⟩, 0, cellOf ⟨#[]⟩⟩ s)
  unfold TextPost Nd.val Nd.cells at Htx
  have Hsp := Lib.hid (fun w => split_of s w hs)
  have Hb1 := Lib.hid (fun w => beh1_of s w (by omega))
  have Hkd := Lib.hid (fun w => kind_any (rest2 s) w (by omega))
  rw [hk] at Hkd
  have Htab := Lib.hid htab
  clear htab hk hd l0 l1 l2
  unfold maxLen at hs
  go_enter Tryz.func97, Tryz.ntmps97
  go_wp2_with fail
  refine (Hsp.out _).mono ?_
  rintro e w' ⟨rfl, q1, rfl⟩
  go_wp2_with fail
  refine (Hb1.out _).mono ?_
  rintro e w' ⟨rfl, q2, rfl⟩
  go_wp2_with fail
  refine (Hkd.out _).mono ?_
  rintro e w' ⟨rfl, rfl⟩
  go_wp2_with fail
  refine (Hb2.out _).mono ?_
  rintro e w' ⟨rfl, r0, rfl⟩
  go_wp2_with fail
  refine call_abs (fun W' => Below w.heap.size w W' ∧ Six ⟨4, fn0 s, cp0 s, ⟨#[]⟩, 0, cellOf ⟨#[]⟩⟩ (w.heap.size + 1) W' ∧ Six zeroN w.heap.size W' ∧ Free w.heap.size W' ∧ w.heap.size + 1 < W'.heap.size) ⟨?_, ?_, ?_, ?_, ?_⟩ ?_
  · repeat (first | (with_reducible exact Below.refl _ _) | (with_reducible refine dt.below_drewN ?_ _) | (with_reducible refine Below.setCell ?_ (by simp) _) | (with_reducible refine Below.alloc ?_ (by simp) _))
  · unfold Six; refine ⟨?_, ?_, ?_, ?_, ?_, ?_⟩ <;> go_simp
  · unfold Six zeroN; refine ⟨?_, ?_, ?_, ?_, ?_, ?_⟩ <;> go_simp
  · unfold Free; refine ⟨?_, ?_, ?_, ?_, ?_, ?_⟩ <;> go_simp
  · simp
  rintro W4 ⟨hb4, hs4, hz4, hf4, hl4⟩
  refine (Htx.out W4 (tab_below Htab.out hb4)).mono ?_
  rintro e w5 ⟨rfl, b5⟩
  have Hs5 := Lib.hid (hs4.on b5)
  have Hz5 := Lib.hid (hz4.on b5)
  have Hf5 := Lib.hid (hf4.on (by omega) b5)
  have hb5 := below_on hb4 b5
  have hlt5 : w.heap.size + 1 < w5.heap.size := by have := b5.size; omega
  clear b5 hb4 hs4 hz4 hf4 hl4
  obtain ⟨k0, k1, k2, k3, k4, k5⟩ := Hs5.out
  unfold zeroN at Hz5
  obtain ⟨z0, z1, z2, z3, z4, z5⟩ := Hz5.out
  obtain ⟨f0, f1, f2, f3, f4, f5⟩ := Hf5.out
  have H3 := Hways.out
  have Hno := Lib.hid (fun w' => readPost_no (w := w) (w' := w') Hc.out)
  have Hyes := Lib.hid (fun w' => readPost_yes (w := w) (w' := w') Hc.out)
  unfold zeroN at Hno
  unfold Nd.val Nd.cells at Hno Hyes
  generalize mayB ⟨4, fn0 s, cp0 s, ⟨#[]⟩, 0, cellOf ⟨#[]⟩⟩ = mb at *
  generalize terr ⟨4, fn0 s, cp0 s, ⟨#[]⟩, 0, cellOf ⟨#[]⟩⟩ = te at *
  generalize txt ⟨4, fn0 s, cp0 s, ⟨#[]⟩, 0, cellOf ⟨#[]⟩⟩ = tt at *
  clear Hc Hb2 Hsp Hb1 Hkd Htx Hways
  rcases H3 with ⟨hmb, rfl⟩ | ⟨hmb, rfl, htt⟩ | ⟨hmb, rfl, htt⟩
  · have hno := Lib.hid (fun w' => Hno.out w' (Or.inl hmb))
    clear Hno Hyes hmb
    go_wp2_with fail
    refine bodyPost_ret (v := .tuple #[.agg #[.int .i64 0, .string ⟨#[]⟩, .int .i64 0, .string ⟨#[]⟩, .int .i64 0, .int .i64 0], .int .i64 11]) ?_ rfl (hno.out _ ?_)
    · simp only [results, Tryz.results97]
      clear hno
      go_simp
    · repeat (first | (with_reducible exact hb5) | (with_reducible refine Below.setCell ?_ (by simp) _))
  · have hno := Lib.hid (fun w' => Hno.out w' (Or.inr htt))
    clear Hno Hyes hmb
    go_wp2_with fail
    refine bodyPost_ret (v := .tuple #[.agg #[.int .i64 0, .string ⟨#[]⟩, .int .i64 0, .string ⟨#[]⟩, .int .i64 0, .int .i64 0], .int .i64 11]) ?_ rfl (hno.out _ ?_)
    · simp only [results, Tryz.results97]
      clear hno
      go_simp
    · repeat (first | (with_reducible exact hb5) | (with_reducible refine Below.setCell ?_ (by simp) _))
  · have hyes := Lib.hid (fun w' => Hyes.out w' hmb htt)
    clear Hno Hyes hmb
    go_wp2_with fail
    refine bodyPost_ret ?_ rfl (hyes.out _ ?_)
    · simp only [results, Tryz.results97]
      clear hyes
      go_simp
    · repeat (first | (with_reducible exact hb5) | (with_reducible refine Below.setCell ?_ (by simp) _))
set_option maxRecDepth 100000 in
theorem read_2 (hd : Held) (s : ByteArray) (w : World) (hs : s.size ≤ maxLen) (htab : Tab w) (hk : kindS (rest2 s) = 2) : Calls Tryz.prog 97 #[.string s] w (ReadPost s w) := by
  have l1 := rest1_le s
  have l2 := rest2_le s
  have l0 := fn0_le s
  have hz := kind_pos hk (by decide)
  have Hst := Lib.hid (fun w => beh_head (rest2 s) hz w (by omega))
  obtain ⟨r4, Hb2⟩ := behc_all (behS (rest2 s) (headI (rest2 s)) 0).2 (by have := beh_le (rest2 s) (headI (rest2 s)) 0; omega)
  have Hb2 := Lib.hid Hb2
  have Hc : Hid (cand s = ⟨2, fn0 s, cp0 s, ⟨#[]⟩, (behS (rest2 s) (headI (rest2 s)) 0).1, cellOf (behS (rest2 s) (headI (rest2 s)) 0).2⟩) := Lib.hid (by unfold cand; rw [hk]; first | rfl | simp)
  have Htx := Lib.hid (fun w h => text_any hd ⟨2, fn0 s, cp0 s, ⟨#[]⟩, (behS (rest2 s) (headI (rest2 s)) 0).1, cellOf (behS (rest2 s) (headI (rest2 s)) 0).2⟩ w (by show (⟨#[]⟩ : ByteArray).size ≤ maxLen; first | omega | exact Nat.zero_le _) (by show (fn0 s : ByteArray).size ≤ maxLen; first | omega | exact Nat.zero_le _) h)
  have Hways := Lib.hid (three_ways ⟨2, fn0 s, cp0 s, ⟨#[]⟩, (behS (rest2 s) (headI (rest2 s)) 0).1, cellOf (behS (rest2 s) (headI (rest2 s)) 0).2⟩ s)
  unfold TextPost Nd.val Nd.cells at Htx
  have Hsp := Lib.hid (fun w => split_of s w hs)
  have Hb1 := Lib.hid (fun w => beh1_of s w (by omega))
  have Hkd := Lib.hid (fun w => kind_any (rest2 s) w (by omega))
  rw [hk] at Hkd
  have Htab := Lib.hid htab
  clear htab hk hd l0 l1 l2
  unfold maxLen at hs
  go_enter Tryz.func97, Tryz.ntmps97
  go_wp2_with fail
  refine (Hsp.out _).mono ?_
  rintro e w' ⟨rfl, q1, rfl⟩
  go_wp2_with fail
  refine (Hb1.out _).mono ?_
  rintro e w' ⟨rfl, q2, rfl⟩
  go_wp2_with fail
  refine (Hkd.out _).mono ?_
  rintro e w' ⟨rfl, rfl⟩
  go_wp2_with fail
  refine (Hst.out _).mono ?_
  rintro e w' ⟨rfl, r0, rfl⟩
  go_wp2_with fail
  refine (Hb2.out _).mono ?_
  rintro e w' ⟨rfl, r1, rfl⟩
  go_wp2_with fail
  refine call_abs (fun W' => Below w.heap.size w W' ∧ Six ⟨2, fn0 s, cp0 s, ⟨#[]⟩, (behS (rest2 s) (headI (rest2 s)) 0).1, cellOf (behS (rest2 s) (headI (rest2 s)) 0).2⟩ (w.heap.size + 1) W' ∧ Six zeroN w.heap.size W' ∧ Free w.heap.size W' ∧ w.heap.size + 1 < W'.heap.size) ⟨?_, ?_, ?_, ?_, ?_⟩ ?_
  · repeat (first | (with_reducible exact Below.refl _ _) | (with_reducible refine dt.below_drewN ?_ _) | (with_reducible refine Below.setCell ?_ (by simp) _) | (with_reducible refine Below.alloc ?_ (by simp) _))
  · unfold Six; refine ⟨?_, ?_, ?_, ?_, ?_, ?_⟩ <;> go_simp
  · unfold Six zeroN; refine ⟨?_, ?_, ?_, ?_, ?_, ?_⟩ <;> go_simp
  · unfold Free; refine ⟨?_, ?_, ?_, ?_, ?_, ?_⟩ <;> go_simp
  · simp
  rintro W4 ⟨hb4, hs4, hz4, hf4, hl4⟩
  refine (Htx.out W4 (tab_below Htab.out hb4)).mono ?_
  rintro e w5 ⟨rfl, b5⟩
  have Hs5 := Lib.hid (hs4.on b5)
  have Hz5 := Lib.hid (hz4.on b5)
  have Hf5 := Lib.hid (hf4.on (by omega) b5)
  have hb5 := below_on hb4 b5
  have hlt5 : w.heap.size + 1 < w5.heap.size := by have := b5.size; omega
  clear b5 hb4 hs4 hz4 hf4 hl4
  obtain ⟨k0, k1, k2, k3, k4, k5⟩ := Hs5.out
  unfold zeroN at Hz5
  obtain ⟨z0, z1, z2, z3, z4, z5⟩ := Hz5.out
  obtain ⟨f0, f1, f2, f3, f4, f5⟩ := Hf5.out
  have H3 := Hways.out
  have Hno := Lib.hid (fun w' => readPost_no (w := w) (w' := w') Hc.out)
  have Hyes := Lib.hid (fun w' => readPost_yes (w := w) (w' := w') Hc.out)
  unfold zeroN at Hno
  unfold Nd.val Nd.cells at Hno Hyes
  generalize mayB ⟨2, fn0 s, cp0 s, ⟨#[]⟩, (behS (rest2 s) (headI (rest2 s)) 0).1, cellOf (behS (rest2 s) (headI (rest2 s)) 0).2⟩ = mb at *
  generalize terr ⟨2, fn0 s, cp0 s, ⟨#[]⟩, (behS (rest2 s) (headI (rest2 s)) 0).1, cellOf (behS (rest2 s) (headI (rest2 s)) 0).2⟩ = te at *
  generalize txt ⟨2, fn0 s, cp0 s, ⟨#[]⟩, (behS (rest2 s) (headI (rest2 s)) 0).1, cellOf (behS (rest2 s) (headI (rest2 s)) 0).2⟩ = tt at *
  clear Hc Hb2 Hsp Hb1 Hkd Htx Hways
  rcases H3 with ⟨hmb, rfl⟩ | ⟨hmb, rfl, htt⟩ | ⟨hmb, rfl, htt⟩
  · have hno := Lib.hid (fun w' => Hno.out w' (Or.inl hmb))
    clear Hno Hyes hmb
    go_wp2_with fail
    refine bodyPost_ret (v := .tuple #[.agg #[.int .i64 0, .string ⟨#[]⟩, .int .i64 0, .string ⟨#[]⟩, .int .i64 0, .int .i64 0], .int .i64 11]) ?_ rfl (hno.out _ ?_)
    · simp only [results, Tryz.results97]
      clear hno
      go_simp
    · repeat (first | (with_reducible exact hb5) | (with_reducible refine Below.setCell ?_ (by simp) _))
  · have hno := Lib.hid (fun w' => Hno.out w' (Or.inr htt))
    clear Hno Hyes hmb
    go_wp2_with fail
    refine bodyPost_ret (v := .tuple #[.agg #[.int .i64 0, .string ⟨#[]⟩, .int .i64 0, .string ⟨#[]⟩, .int .i64 0, .int .i64 0], .int .i64 11]) ?_ rfl (hno.out _ ?_)
    · simp only [results, Tryz.results97]
      clear hno
      go_simp
    · repeat (first | (with_reducible exact hb5) | (with_reducible refine Below.setCell ?_ (by simp) _))
  · have hyes := Lib.hid (fun w' => Hyes.out w' hmb htt)
    clear Hno Hyes hmb
    go_wp2_with fail
    refine bodyPost_ret ?_ rfl (hyes.out _ ?_)
    · simp only [results, Tryz.results97]
      clear hyes
      go_simp
    · repeat (first | (with_reducible exact hb5) | (with_reducible refine Below.setCell ?_ (by simp) _))
set_option maxRecDepth 100000 in
theorem read_3 (hd : Held) (s : ByteArray) (w : World) (hs : s.size ≤ maxLen) (htab : Tab w) (hk : kindS (rest2 s) = 3) : Calls Tryz.prog 97 #[.string s] w (ReadPost s w) := by
  have l1 := rest1_le s
  have l2 := rest2_le s
  have l0 := fn0_le s
  have hz := kind_pos hk (by decide)
  have Hst := Lib.hid (fun w => beh_head (rest2 s) hz w (by omega))
  obtain ⟨r4, Hb2⟩ := behc_all (behS (rest2 s) (headI (rest2 s)) 0).2 (by have := beh_le (rest2 s) (headI (rest2 s)) 0; omega)
  have Hb2 := Lib.hid Hb2
  have Hc : Hid (cand s = ⟨3, fn0 s, cp0 s, ⟨#[]⟩, (behS (rest2 s) (headI (rest2 s)) 0).1, cellOf (behS (rest2 s) (headI (rest2 s)) 0).2⟩) := Lib.hid (by unfold cand; rw [hk]; first | rfl | simp)
  have Htx := Lib.hid (fun w h => text_any hd ⟨3, fn0 s, cp0 s, ⟨#[]⟩, (behS (rest2 s) (headI (rest2 s)) 0).1, cellOf (behS (rest2 s) (headI (rest2 s)) 0).2⟩ w (by show (⟨#[]⟩ : ByteArray).size ≤ maxLen; first | omega | exact Nat.zero_le _) (by show (fn0 s : ByteArray).size ≤ maxLen; first | omega | exact Nat.zero_le _) h)
  have Hways := Lib.hid (three_ways ⟨3, fn0 s, cp0 s, ⟨#[]⟩, (behS (rest2 s) (headI (rest2 s)) 0).1, cellOf (behS (rest2 s) (headI (rest2 s)) 0).2⟩ s)
  unfold TextPost Nd.val Nd.cells at Htx
  have Hsp := Lib.hid (fun w => split_of s w hs)
  have Hb1 := Lib.hid (fun w => beh1_of s w (by omega))
  have Hkd := Lib.hid (fun w => kind_any (rest2 s) w (by omega))
  rw [hk] at Hkd
  have Htab := Lib.hid htab
  clear htab hk hd l0 l1 l2
  unfold maxLen at hs
  go_enter Tryz.func97, Tryz.ntmps97
  go_wp2_with fail
  refine (Hsp.out _).mono ?_
  rintro e w' ⟨rfl, q1, rfl⟩
  go_wp2_with fail
  refine (Hb1.out _).mono ?_
  rintro e w' ⟨rfl, q2, rfl⟩
  go_wp2_with fail
  refine (Hkd.out _).mono ?_
  rintro e w' ⟨rfl, rfl⟩
  go_wp2_with fail
  refine (Hst.out _).mono ?_
  rintro e w' ⟨rfl, r0, rfl⟩
  go_wp2_with fail
  refine (Hb2.out _).mono ?_
  rintro e w' ⟨rfl, r1, rfl⟩
  go_wp2_with fail
  refine call_abs (fun W' => Below w.heap.size w W' ∧ Six ⟨3, fn0 s, cp0 s, ⟨#[]⟩, (behS (rest2 s) (headI (rest2 s)) 0).1, cellOf (behS (rest2 s) (headI (rest2 s)) 0).2⟩ (w.heap.size + 1) W' ∧ Six zeroN w.heap.size W' ∧ Free w.heap.size W' ∧ w.heap.size + 1 < W'.heap.size) ⟨?_, ?_, ?_, ?_, ?_⟩ ?_
  · repeat (first | (with_reducible exact Below.refl _ _) | (with_reducible refine dt.below_drewN ?_ _) | (with_reducible refine Below.setCell ?_ (by simp) _) | (with_reducible refine Below.alloc ?_ (by simp) _))
  · unfold Six; refine ⟨?_, ?_, ?_, ?_, ?_, ?_⟩ <;> go_simp
  · unfold Six zeroN; refine ⟨?_, ?_, ?_, ?_, ?_, ?_⟩ <;> go_simp
  · unfold Free; refine ⟨?_, ?_, ?_, ?_, ?_, ?_⟩ <;> go_simp
  · simp
  rintro W4 ⟨hb4, hs4, hz4, hf4, hl4⟩
  refine (Htx.out W4 (tab_below Htab.out hb4)).mono ?_
  rintro e w5 ⟨rfl, b5⟩
  have Hs5 := Lib.hid (hs4.on b5)
  have Hz5 := Lib.hid (hz4.on b5)
  have Hf5 := Lib.hid (hf4.on (by omega) b5)
  have hb5 := below_on hb4 b5
  have hlt5 : w.heap.size + 1 < w5.heap.size := by have := b5.size; omega
  clear b5 hb4 hs4 hz4 hf4 hl4
  obtain ⟨k0, k1, k2, k3, k4, k5⟩ := Hs5.out
  unfold zeroN at Hz5
  obtain ⟨z0, z1, z2, z3, z4, z5⟩ := Hz5.out
  obtain ⟨f0, f1, f2, f3, f4, f5⟩ := Hf5.out
  have H3 := Hways.out
  have Hno := Lib.hid (fun w' => readPost_no (w := w) (w' := w') Hc.out)
  have Hyes := Lib.hid (fun w' => readPost_yes (w := w) (w' := w') Hc.out)
  unfold zeroN at Hno
  unfold Nd.val Nd.cells at Hno Hyes
  generalize mayB ⟨3, fn0 s, cp0 s, ⟨#[]⟩, (behS (rest2 s) (headI (rest2 s)) 0).1, cellOf (behS (rest2 s) (headI (rest2 s)) 0).2⟩ = mb at *
  generalize terr ⟨3, fn0 s, cp0 s, ⟨#[]⟩, (behS (rest2 s) (headI (rest2 s)) 0).1, cellOf (behS (rest2 s) (headI (rest2 s)) 0).2⟩ = te at *
  generalize txt ⟨3, fn0 s, cp0 s, ⟨#[]⟩, (behS (rest2 s) (headI (rest2 s)) 0).1, cellOf (behS (rest2 s) (headI (rest2 s)) 0).2⟩ = tt at *
  clear Hc Hb2 Hsp Hb1 Hkd Htx Hways
  rcases H3 with ⟨hmb, rfl⟩ | ⟨hmb, rfl, htt⟩ | ⟨hmb, rfl, htt⟩
  · have hno := Lib.hid (fun w' => Hno.out w' (Or.inl hmb))
    clear Hno Hyes hmb
    go_wp2_with fail
    refine bodyPost_ret (v := .tuple #[.agg #[.int .i64 0, .string ⟨#[]⟩, .int .i64 0, .string ⟨#[]⟩, .int .i64 0, .int .i64 0], .int .i64 11]) ?_ rfl (hno.out _ ?_)
    · simp only [results, Tryz.results97]
      clear hno
      go_simp
    · repeat (first | (with_reducible exact hb5) | (with_reducible refine Below.setCell ?_ (by simp) _))
  · have hno := Lib.hid (fun w' => Hno.out w' (Or.inr htt))
    clear Hno Hyes hmb
    go_wp2_with fail
    refine bodyPost_ret (v := .tuple #[.agg #[.int .i64 0, .string ⟨#[]⟩, .int .i64 0, .string ⟨#[]⟩, .int .i64 0, .int .i64 0], .int .i64 11]) ?_ rfl (hno.out _ ?_)
    · simp only [results, Tryz.results97]
      clear hno
      go_simp
    · repeat (first | (with_reducible exact hb5) | (with_reducible refine Below.setCell ?_ (by simp) _))
  · have hyes := Lib.hid (fun w' => Hyes.out w' hmb htt)
    clear Hno Hyes hmb
    go_wp2_with fail
    refine bodyPost_ret ?_ rfl (hyes.out _ ?_)
    · simp only [results, Tryz.results97]
      clear hyes
      go_simp
    · repeat (first | (with_reducible exact hb5) | (with_reducible refine Below.setCell ?_ (by simp) _))
set_option maxRecDepth 100000 in
theorem read_7 (hd : Held) (s : ByteArray) (w : World) (hs : s.size ≤ maxLen) (htab : Tab w) (hk : kindS (rest2 s) = 7) : Calls Tryz.prog 97 #[.string s] w (ReadPost s w) := by
  have l1 := rest1_le s
  have l2 := rest2_le s
  have l0 := fn0_le s
  have hz := kind_pos hk (by decide)
  have Hst := Lib.hid (fun w => beh_head (rest2 s) hz w (by omega))
  obtain ⟨r4, Hb2⟩ := behc_all (behS (rest2 s) (headI (rest2 s)) 0).2 (by have := beh_le (rest2 s) (headI (rest2 s)) 0; omega)
  have Hb2 := Lib.hid Hb2
  have Hc : Hid (cand s = ⟨7, fn0 s, cp0 s, ⟨#[]⟩, (behS (rest2 s) (headI (rest2 s)) 0).1, cellOf (behS (rest2 s) (headI (rest2 s)) 0).2⟩) := Lib.hid (by unfold cand; rw [hk]; first | rfl | simp)
  have Htx := Lib.hid (fun w h => text_any hd ⟨7, fn0 s, cp0 s, ⟨#[]⟩, (behS (rest2 s) (headI (rest2 s)) 0).1, cellOf (behS (rest2 s) (headI (rest2 s)) 0).2⟩ w (by show (⟨#[]⟩ : ByteArray).size ≤ maxLen; first | omega | exact Nat.zero_le _) (by show (fn0 s : ByteArray).size ≤ maxLen; first | omega | exact Nat.zero_le _) h)
  have Hways := Lib.hid (three_ways ⟨7, fn0 s, cp0 s, ⟨#[]⟩, (behS (rest2 s) (headI (rest2 s)) 0).1, cellOf (behS (rest2 s) (headI (rest2 s)) 0).2⟩ s)
  unfold TextPost Nd.val Nd.cells at Htx
  have Hsp := Lib.hid (fun w => split_of s w hs)
  have Hb1 := Lib.hid (fun w => beh1_of s w (by omega))
  have Hkd := Lib.hid (fun w => kind_any (rest2 s) w (by omega))
  rw [hk] at Hkd
  have Htab := Lib.hid htab
  clear htab hk hd l0 l1 l2
  unfold maxLen at hs
  go_enter Tryz.func97, Tryz.ntmps97
  go_wp2_with fail
  refine (Hsp.out _).mono ?_
  rintro e w' ⟨rfl, q1, rfl⟩
  go_wp2_with fail
  refine (Hb1.out _).mono ?_
  rintro e w' ⟨rfl, q2, rfl⟩
  go_wp2_with fail
  refine (Hkd.out _).mono ?_
  rintro e w' ⟨rfl, rfl⟩
  go_wp2_with fail
  refine (Hst.out _).mono ?_
  rintro e w' ⟨rfl, r0, rfl⟩
  go_wp2_with fail
  refine (Hb2.out _).mono ?_
  rintro e w' ⟨rfl, r1, rfl⟩
  go_wp2_with fail
  refine call_abs (fun W' => Below w.heap.size w W' ∧ Six ⟨7, fn0 s, cp0 s, ⟨#[]⟩, (behS (rest2 s) (headI (rest2 s)) 0).1, cellOf (behS (rest2 s) (headI (rest2 s)) 0).2⟩ (w.heap.size + 1) W' ∧ Six zeroN w.heap.size W' ∧ Free w.heap.size W' ∧ w.heap.size + 1 < W'.heap.size) ⟨?_, ?_, ?_, ?_, ?_⟩ ?_
  · repeat (first | (with_reducible exact Below.refl _ _) | (with_reducible refine dt.below_drewN ?_ _) | (with_reducible refine Below.setCell ?_ (by simp) _) | (with_reducible refine Below.alloc ?_ (by simp) _))
  · unfold Six; refine ⟨?_, ?_, ?_, ?_, ?_, ?_⟩ <;> go_simp
  · unfold Six zeroN; refine ⟨?_, ?_, ?_, ?_, ?_, ?_⟩ <;> go_simp
  · unfold Free; refine ⟨?_, ?_, ?_, ?_, ?_, ?_⟩ <;> go_simp
  · simp
  rintro W4 ⟨hb4, hs4, hz4, hf4, hl4⟩
  refine (Htx.out W4 (tab_below Htab.out hb4)).mono ?_
  rintro e w5 ⟨rfl, b5⟩
  have Hs5 := Lib.hid (hs4.on b5)
  have Hz5 := Lib.hid (hz4.on b5)
  have Hf5 := Lib.hid (hf4.on (by omega) b5)
  have hb5 := below_on hb4 b5
  have hlt5 : w.heap.size + 1 < w5.heap.size := by have := b5.size; omega
  clear b5 hb4 hs4 hz4 hf4 hl4
  obtain ⟨k0, k1, k2, k3, k4, k5⟩ := Hs5.out
  unfold zeroN at Hz5
  obtain ⟨z0, z1, z2, z3, z4, z5⟩ := Hz5.out
  obtain ⟨f0, f1, f2, f3, f4, f5⟩ := Hf5.out
  have H3 := Hways.out
  have Hno := Lib.hid (fun w' => readPost_no (w := w) (w' := w') Hc.out)
  have Hyes := Lib.hid (fun w' => readPost_yes (w := w) (w' := w') Hc.out)
  unfold zeroN at Hno
  unfold Nd.val Nd.cells at Hno Hyes
  generalize mayB ⟨7, fn0 s, cp0 s, ⟨#[]⟩, (behS (rest2 s) (headI (rest2 s)) 0).1, cellOf (behS (rest2 s) (headI (rest2 s)) 0).2⟩ = mb at *
  generalize terr ⟨7, fn0 s, cp0 s, ⟨#[]⟩, (behS (rest2 s) (headI (rest2 s)) 0).1, cellOf (behS (rest2 s) (headI (rest2 s)) 0).2⟩ = te at *
  generalize txt ⟨7, fn0 s, cp0 s, ⟨#[]⟩, (behS (rest2 s) (headI (rest2 s)) 0).1, cellOf (behS (rest2 s) (headI (rest2 s)) 0).2⟩ = tt at *
  clear Hc Hb2 Hsp Hb1 Hkd Htx Hways
  rcases H3 with ⟨hmb, rfl⟩ | ⟨hmb, rfl, htt⟩ | ⟨hmb, rfl, htt⟩
  · have hno := Lib.hid (fun w' => Hno.out w' (Or.inl hmb))
    clear Hno Hyes hmb
    go_wp2_with fail
    refine bodyPost_ret (v := .tuple #[.agg #[.int .i64 0, .string ⟨#[]⟩, .int .i64 0, .string ⟨#[]⟩, .int .i64 0, .int .i64 0], .int .i64 11]) ?_ rfl (hno.out _ ?_)
    · simp only [results, Tryz.results97]
      clear hno
      go_simp
    · repeat (first | (with_reducible exact hb5) | (with_reducible refine Below.setCell ?_ (by simp) _))
  · have hno := Lib.hid (fun w' => Hno.out w' (Or.inr htt))
    clear Hno Hyes hmb
    go_wp2_with fail
    refine bodyPost_ret (v := .tuple #[.agg #[.int .i64 0, .string ⟨#[]⟩, .int .i64 0, .string ⟨#[]⟩, .int .i64 0, .int .i64 0], .int .i64 11]) ?_ rfl (hno.out _ ?_)
    · simp only [results, Tryz.results97]
      clear hno
      go_simp
    · repeat (first | (with_reducible exact hb5) | (with_reducible refine Below.setCell ?_ (by simp) _))
  · have hyes := Lib.hid (fun w' => Hyes.out w' hmb htt)
    clear Hno Hyes hmb
    go_wp2_with fail
    refine bodyPost_ret ?_ rfl (hyes.out _ ?_)
    · simp only [results, Tryz.results97]
      clear hyes
      go_simp
    · repeat (first | (with_reducible exact hb5) | (with_reducible refine Below.setCell ?_ (by simp) _))
theorem kindS_of (s : ByteArray) : kindS s = 1 ∨ kindS s = 2 ∨ kindS s = 3 ∨ kindS s = 4 ∨ kindS s = 5 ∨ kindS s = 6 ∨ kindS s = 7 := by
  unfold kindS
  repeat' split
  all_goals simp
theorem read_any (hd : Held) (s : ByteArray) (w : World) (hs : s.size ≤ maxLen) (htab : Tab w) : Calls Tryz.prog 97 #[.string s] w (ReadPost s w) := by
  rcases kindS_of (rest2 s) with h | h | h | h | h | h | h
  · exact read_1 hd s w hs htab h
  · exact read_2 hd s w hs htab h
  · exact read_3 hd s w hs htab h
  · exact read_4 hd s w hs htab h
  · exact read_5 hd s w hs htab h
  · exact read_6 hd s w hs htab h
  · exact read_7 hd s w hs htab h
end Go.Proofs.YtlkboeajkgbnaaaGreatDoor.nm
namespace Go.Proofs.YtlkboeajkgbnaaaGreatDoor.sy
open Go.Proofs.YtlkboeajkgbnaaaGreatDoor.nm
def nodeB (s : ByteArray) : Bool := readB s && (decide ((cand s).kind ≤ 3) || decide (0 ≤ (cand s).cell))
def placeB (s : ByteArray) : Bool := readB s && (decide ((cand s).kind = 4) || decide (0 ≤ (cand s).cell))
def objB (s : ByteArray) : Bool := readB s && (decide (5 ≤ (cand s).kind) && decide ((cand s).cell < 0))
def funcB (s : ByteArray) : Bool := readB s && decide ((cand s).kind = 4)
def siteB (s : ByteArray) : Bool := readB s && decide ((cand s).kind = 3)
def ipB (s : ByteArray) : Bool := s.toList.all fun b => b == 105 || b == 112
def kindsB (s : ByteArray) (least most : Nat) : Bool := ipB s && (decide (least ≤ s.size) && decide (s.size ≤ most))
def tagB (s : ByteArray) : Bool := decide (1 ≤ s.size) && decide (s.size ≤ 60)
structure Mk where
  at_ : Int
  tag : ByteArray
structure SO where
  name : ByteArray
  kinds : ByteArray
  marks : List Mk
structure SF where
  name : ByteArray
  kinds : ByteArray
  ret : ByteArray
structure SC where
  op : Int
  a : ByteArray
  b : ByteArray
  k : Int
  tag : ByteArray
  args : List ByteArray
structure SS where
  objs : List SO
  fns : List SF
  cons : List SC
def mkGood (ms : List Mk) (n i : Nat) (m : Mk) : Prop := 0 ≤ m.at_ ∧ m.at_ < n ∧ tagB m.tag = true ∧ (∀ q, i = q + 1 → ∀ p, ms[q]? = some p → p.at_ ≤ m.at_) ∧ ∀ q, q < i → ∀ p, ms[q]? = some p → ¬ (p.at_ = m.at_ ∧ p.tag = m.tag)
def mksOk (ms : List Mk) (n k : Nat) : Prop := ∀ i m, i < k → ms[i]? = some m → mkGood ms n i m
open Classical in
noncomputable def objE (o : SO) : Int := if objB o.name = false then 11 else if kindsB o.kinds 1 64 = false then 5 else if mksOk o.marks o.kinds.size o.marks.length then 0 else 3
def retB (s : ByteArray) : Bool := s.toList == [105] || (s.toList == [112] || s.toList == [118])
def fnE (f : SF) : Int := if funcB f.name = false then 11 else if kindsB f.kinds 0 6 = false ∨ retB f.ret = false then 5 else 0
def cutAt (l : List UInt8) : Option (List UInt8 × List UInt8) :=
  match l with
  | [] => none
  | b :: r => if b = 62 then some ([], r) else (cutAt r).map fun x => (b :: x.1, x.2)
def argB (p : Bool) (s : ByteArray) : Bool := s.size == 0 || (p && nodeB s)
def argsB : List UInt8 → List ByteArray → Bool
  | _, [] => true
  | [], _ :: _ => true
  | k :: ks, a :: r => argB (k == 112) a && argsB ks r
def callB (tag : ByteArray) (args : List ByteArray) : Bool :=
  match cutAt tag.toList with
  | none => false
  | some (l, r) => kindsB ⟨l.toArray⟩ 0 6 && ((r == [] || (r == [105] || r == [112])) && (decide (args.length = l.length + 1) && argsB ((if r = [112] then 112 else 0) :: l) args))
def rightB (c : SC) : Bool :=
  if c.op = 6 then decide (c.k = 0) && callB c.tag c.args
  else if c.op = 5 then decide (0 ≤ c.k) && (decide (c.k ≤ 64) && (tagB c.tag && decide (c.args.length = 0)))
  else decide (c.k = 0) && (decide (c.tag.size = 0) && decide (c.args.length = 0))
def namesB (c : SC) : Bool := (if c.op = 6 then siteB c.a else nodeB c.a) && (if c.op = 1 then placeB c.b else nodeB c.b)
def conE (c : SC) : Int := if c.op < 1 ∨ 6 < c.op then 5 else if namesB c = false then 11 else if rightB c then 0 else 3
end Go.Proofs.YtlkboeajkgbnaaaGreatDoor.sy
namespace Go.Proofs.YtlkboeajkgbnaaaGreatDoor.nm
open Go.RowKit Go.Sort
def ReadYes (s : ByteArray) (w : World) (e : Ending) (w' : World) : Prop := e = .returned (.tuple #[(cand s).val, .int .i64 0]) ∧ Below w.heap.size w w'
def ReadNo (w : World) (e : Ending) (w' : World) : Prop := e = .returned (.tuple #[.agg #[.int .i64 0, .string ⟨#[]⟩, .int .i64 0, .string ⟨#[]⟩, .int .i64 0, .int .i64 0], .int .i64 11]) ∧ Below w.heap.size w w'
theorem read_yes (hd : Held) (s : ByteArray) (w : World) (hs : s.size ≤ maxLen) (htab : Tab w) (h : readB s = true) : Calls Tryz.prog 97 #[.string s] w (ReadYes s w) := by
  refine (read_any hd s w hs htab).mono ?_
  rintro e w' ⟨rfl, hb⟩
  refine ⟨?_, hb⟩
  unfold readN readE
  rw [if_pos h, if_pos h]
theorem read_no (hd : Held) (s : ByteArray) (w : World) (hs : s.size ≤ maxLen) (htab : Tab w) (h : readB s = false) : Calls Tryz.prog 97 #[.string s] w (ReadNo w) := by
  refine (read_any hd s w hs htab).mono ?_
  rintro e w' ⟨rfl, hb⟩
  refine ⟨?_, hb⟩
  unfold readN readE
  rw [if_neg (by rw [h]; decide), if_neg (by rw [h]; decide)]
  rfl
end Go.Proofs.YtlkboeajkgbnaaaGreatDoor.nm
