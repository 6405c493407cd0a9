/-
  varint: the law on reading.
-/
import Derived.Test.YtidmcifckbpgbaaVrE
import Derived.Test.YtidmcifckbpgbaaVr9
namespace Go.Proofs.Ytidmcifckbpgbaa.vr
open Go.RowKit Go.Proofs.Ytidmcifckbpgbaa.mem

/-- a reader and the reference's, of one text -/
structure Two (w wr : World) (a b : Nat) (s : ByteArray) (p : Nat) (er : Int) (q : Nat) (d : Int) : Prop where
  x : RD wr a s p er
  y : RR wr b s q d
  on : Below w.heap.size w wr
  ba : w.heap.size ≤ a
  bb : w.heap.size ≤ b

theorem Two.ne {w wr : World} {a b : Nat} {s : ByteArray} {p q : Nat} {er d : Int} (h : Two w wr a b s p er q d) : a ≠ b := by
  rintro rfl
  have h1 := h.x.box
  have h2 := h.y.box
  unfold Box at h1 h2
  rw [h1] at h2
  simp at h2

theorem Two.setA {w wr w2 : World} {a b : Nat} {s : ByteArray} {p q : Nat} {er d : Int} (h : Two w wr a b s p er q d) {p' : Nat} {er' : Int} (h2 : RD w2 a s p' er') (hf : Fr [a] wr w2) : Two w w2 a b s p' er' q d :=
  ⟨h2, ⟨h.y.box.kept hf (by simp; exact fun e => h.ne e.symm)⟩, h.on.trans (hf.below (by simpa using h.ba) h.on.size), h.ba, h.bb⟩
theorem Two.setB {w wr w2 : World} {a b : Nat} {s : ByteArray} {p q : Nat} {er d : Int} (h : Two w wr a b s p er q d) {q' : Nat} {d' : Int} (h2 : RR w2 b s q' d') (hf : Fr [b] wr w2) : Two w w2 a b s p er q' d' :=
  ⟨⟨h.x.box.kept hf (by simp; exact h.ne)⟩, h2, h.on.trans (hf.below (by simpa using h.bb) h.on.size), h.ba, h.bb⟩

theorem two_number {w wr : World} {a b : Nat} {s : ByteArray} {p q : Nat} {er d : Int} (h : Two w wr a b s p er q d) (hs : s.size ≤ maxLen) (hp : p ≤ s.size) :
    Calls Try.prog 25 #[.pointer (some ⟨a, 0, none⟩)] wr fun e w' => e = .returned (.int .i64 (nV s p er)) ∧ Two w w' a b s (nP s p er) (nE s p er) q d := by
  refine (rd_number wr a s p er h.x hs hp).mono ?_
  rintro e w' ⟨rfl, h2, hf⟩
  exact ⟨rfl, h.setA h2 hf⟩
theorem two_rnumber {w wr : World} {a b : Nat} {s : ByteArray} {p q : Nat} {er d : Int} (h : Two w wr a b s p er q d) (hs : s.size ≤ maxLen) (hq : q ≤ s.size) :
    Calls Try.prog 26 #[.pointer (some ⟨b, 0, none⟩)] wr fun e w' => e = .returned (.int .i64 (nV s q d)) ∧ Two w w' a b s p er (nP s q d) (nE s q d) := by
  refine (rr_number wr b s q d h.y hs hq).mono ?_
  rintro e w' ⟨rfl, h2, hf⟩
  exact ⟨rfl, h.setB h2 hf⟩
theorem two_text {w wr : World} {a b : Nat} {s : ByteArray} {p q : Nat} {er d : Int} (h : Two w wr a b s p er q d) (hs : s.size ≤ maxLen) (hp : p ≤ s.size) :
    Calls Try.prog 27 #[.pointer (some ⟨a, 0, none⟩)] wr fun e w' => e = .returned (.string (tx s p er).1) ∧ Two w w' a b s (tx s p er).2.1 (tx s p er).2.2 q d := by
  refine (rd_text wr a s p er h.x hs hp).mono ?_
  rintro e w' ⟨rfl, h2, hf⟩
  exact ⟨rfl, h.setA h2 hf⟩
theorem two_rtext {w wr : World} {a b : Nat} {s : ByteArray} {p q : Nat} {er d : Int} (h : Two w wr a b s p er q d) (hs : s.size ≤ maxLen) (hq : q ≤ s.size) :
    Calls Try.prog 28 #[.pointer (some ⟨b, 0, none⟩)] wr fun e w' => e = .returned (.string (tx s q d).1) ∧ Two w w' a b s p er (tx s q d).2.1 (tx s q d).2.2 := by
  refine (rr_text wr b s q d h.y hs hq).mono ?_
  rintro e w' ⟨rfl, h2, hf⟩
  exact ⟨rfl, h.setB h2 hf⟩
theorem two_fail {w wr : World} {a b : Nat} {s : ByteArray} {p q : Nat} {er d : Int} (h : Two w wr a b s p er q d) (f : Int) :
    Calls Try.prog 29 #[.pointer (some ⟨a, 0, none⟩), .int .i64 f] wr fun e w' => e = .returned (.tuple #[]) ∧ Two w w' a b s p (fE er f) q d := by
  refine (rd_fail wr a s p er f h.x).mono ?_
  rintro e w' ⟨rfl, h2, hf⟩
  exact ⟨rfl, h.setA h2 hf⟩
theorem two_rfail {w wr : World} {a b : Nat} {s : ByteArray} {p q : Nat} {er d : Int} (h : Two w wr a b s p er q d) (f : Int) :
    Calls Try.prog 30 #[.pointer (some ⟨b, 0, none⟩), .int .i64 f] wr fun e w' => e = .returned (.tuple #[]) ∧ Two w w' a b s p er q (fE d f) := by
  refine (rr_fail wr b s q d f h.y).mono ?_
  rintro e w' ⟨rfl, h2, hf⟩
  exact ⟨rfl, h.setB h2 hf⟩
theorem two_done {w wr : World} {a b : Nat} {s : ByteArray} {p q : Nat} {er d : Int} (h : Two w wr a b s p er q d) :
    Calls Try.prog 31 #[.pointer (some ⟨a, 0, none⟩)] wr fun e w' => e = .returned (.tuple #[.int .i64 (p : Int), .int .i64 (dE s p er)]) ∧ Two w w' a b s p er q d := by
  refine (rd_done wr a s p er h.x).mono ?_
  rintro e w' ⟨rfl, h2, hf⟩
  exact ⟨rfl, h.setA h2 hf⟩
theorem two_rdone {w wr : World} {a b : Nat} {s : ByteArray} {p q : Nat} {er d : Int} (h : Two w wr a b s p er q d) :
    Calls Try.prog 32 #[.pointer (some ⟨b, 0, none⟩)] wr fun e w' => e = .returned (.tuple #[.int .i64 (q : Int), .int .i64 (dE s q d)]) ∧ Two w w' a b s p er q d := by
  refine (rr_done wr b s q d h.y).mono ?_
  rintro e w' ⟨rfl, h2, hf⟩
  exact ⟨rfl, h.setB h2 hf⟩

theorem nP_le (s : ByteArray) (p : Nat) (er : Int) (hp : p ≤ s.size) : nP s p er ≤ s.size := by
  unfold nP
  split
  · exact hp
  · exact ct_le s p hp
theorem tx_le (s : ByteArray) (p : Nat) (er : Int) (hp : p ≤ s.size) : (tx s p er).2.1 ≤ s.size := by
  unfold tx
  split
  · exact hp
  · split
    · exact hp
    · rename_i h
      split
      · exact hp
      · have := ct_ok s p hp (by simpa using h)
        show p + (ct s p).2.1 + (ct s p).1 ≤ s.size
        omega

theorem two_new (s : ByteArray) (w w1 : World) (h : w1 = w.alloc (.cells #[.string s, .int .i64 0, .int .i64 0] 73)) : Two w (w1.alloc (.cells #[.string s, .int .i64 0, .int .i64 0] 45)) w.heap.size w1.heap.size s 0 0 0 0 := by
  subst h
  have h1 := Box.new w 73 #[.string s, .int .i64 0, .int .i64 0]
  exact ⟨⟨h1.kept ((Fr.refl [] _).alloc _) (by simp)⟩, ⟨Box.new _ _ _⟩, ((Below.refl _ _).alloc (Nat.le_refl _) _).alloc (by simp) _, Nat.le_refl _, by simp⟩

set_option maxRecDepth 100000 in
set_option maxHeartbeats 1000000 in
theorem law_reads (s : ByteArray) (A : Option Addr) (cap : Nat) (l : List Int) (w : World) (h : Rd w A (l.map (Value.int .i64))) (hm : l.length ≤ 9223372036854775807) (hs : s.size ≤ maxLen) :
    Calls Try.prog 6 #[.string s, .slice A l.length cap] w (WorksPost w) := by
  have Hh := Lib.hid h
  have Hs := Lib.hid hs
  have K0 := Lib.hid (rd_new s w)
  have HT := Lib.hid (two_new s w)
  have HW := Lib.hid (fun w' => works_any w')
  unfold WorksPost at HW
  clear h hs
  go_enter Try.func6, Try.ntmps6
  go_wp2_with fail
  refine K0.out.mono ?_
  rintro e w1 ⟨rfl, h1⟩
  have H2 := Lib.hid (HT.out w1 h1)
  clear h1 K0 HT
  obtain ⟨a, ha⟩ : ∃ a, Hid (w.heap.size = a) := ⟨_, Lib.hid rfl⟩
  go_wp2_with fail
  go_loopw [7] (fun i wr => ∃ (k p : Nat) (er : Int), k ≤ l.length ∧ k ≤ 300 ∧ p ≤ s.size ∧ i = .int .i64 k ∧ Hid (Two w wr w.heap.size w1.heap.size s p er p er)) (fun i _ => l.length - (intOf i).toNat)
  case atStart => exact ⟨0, 0, 0, by omega, by omega, by omega, rfl, H2⟩
  case round =>
    obtain ⟨k, p, er, hk, hk3, hp, rfl, ht⟩ := hrel
    rename_i wr _
    clear H2
    by_cases hkl : k < l.length ∧ k < 300
    · have e1 : decide ((k : Int) < (l.length : Int)) = true := decide_eq_true (by omega)
      have e2 : decide ((k : Int) < 300) = true := decide_eq_true (by omega)
      obtain ⟨b, off, rfl, hlt, hcell⟩ := Hh.out (by rw [List.length_map]; omega)
      have hc0 := hcell k (by rw [List.length_map]; omega)
      have hc : wr.cell? ⟨b, off + k, none⟩ = some (.int .i64 (l[k]'hkl.1)) := ((ht.out.on.cell (p := ⟨b, off + k, none⟩) hlt).trans hc0).trans (by simp)
      clear hcell hc0 hlt
      generalize l[k]'hkl.1 = x at *
      by_cases x0 : x = 0
      · subst x0
        have KN := Lib.hid (fun w' (h : Two w w' w.heap.size w1.heap.size s p er p er) => two_number h Hs.out hp)
        have KM := Lib.hid (fun w' (h : Two w w' w.heap.size w1.heap.size s (nP s p er) (nE s p er) p er) => two_rnumber h Hs.out hp)
        generalize nV s p er = v at *
        have dv : (((v : Nat) : Int) != (v : Int)) = false := by simp
        have hnp := Lib.hid (nP_le s p er hp)
        go_wp2_with fail
        refine (KN.out _ ht.out).mono ?_
        rintro e v0 ⟨rfl, t0⟩
        have T0 := Lib.hid t0
        clear t0 KN ht
        try clear hc
        go_wp2_with fail
        refine (KM.out _ T0.out).mono ?_
        rintro e v1 ⟨rfl, t1⟩
        have T1 := Lib.hid t1
        clear t1 KM T0
        have hpl : nP s p er ≤ s.size := hnp.out
        generalize nP s p er = p1 at *
        generalize nE s p er = er1 at *
        have KA := Lib.hid (fun w' (h : Two w w' w.heap.size w1.heap.size s p1 er1 p1 er1) => two_done h)
        have KB := Lib.hid (fun w' (h : Two w w' w.heap.size w1.heap.size s p1 er1 p1 er1) => two_rdone h)
        generalize dE s p1 er1 = z at *
        have d1 : (((p1 : Nat) : Int) != (p1 : Int)) = false := by simp
        have d2 : (z != z) = false := by simp
        go_wp2_with fail
        refine (KA.out _ T1.out).mono ?_
        rintro e u1 ⟨rfl, s1⟩
        have S1 := Lib.hid s1
        clear s1 KA T1
        try clear hc
        go_wp2_with fail
        refine (KB.out _ S1.out).mono ?_
        rintro e u2 ⟨rfl, s2⟩
        have S2 := Lib.hid s2
        clear s2 KB S1
        go_wp2_with fail
        go_roundw
        case rel => exact ⟨k + 1, p1, er1, by omega, by omega, hpl, by go_num, S2⟩
        case measure => simp [intOf]; omega
      by_cases x1 : x = 1
      · subst x1
        have KN := Lib.hid (fun w' (h : Two w w' w.heap.size w1.heap.size s p er p er) => two_text h Hs.out hp)
        have KM := Lib.hid (fun w' (h : Two w w' w.heap.size w1.heap.size s (tx s p er).2.1 (tx s p er).2.2 p er) => two_rtext h Hs.out hp)
        have hnp := Lib.hid (tx_le s p er hp)
        generalize tx s p er = tr at *
        obtain ⟨v, p1, er1⟩ := tr
        simp only at KN KM hnp
        have dv : (v.toList != v.toList) = false := by simp
        go_wp2_with fail
        refine (KN.out _ ht.out).mono ?_
        rintro e v0 ⟨rfl, t0⟩
        have T0 := Lib.hid t0
        clear t0 KN ht
        try clear hc
        go_wp2_with fail
        refine (KM.out _ T0.out).mono ?_
        rintro e v1 ⟨rfl, t1⟩
        have T1 := Lib.hid t1
        clear t1 KM T0
        have hpl : p1 ≤ s.size := hnp.out
        skip
        skip
        have KA := Lib.hid (fun w' (h : Two w w' w.heap.size w1.heap.size s p1 er1 p1 er1) => two_done h)
        have KB := Lib.hid (fun w' (h : Two w w' w.heap.size w1.heap.size s p1 er1 p1 er1) => two_rdone h)
        generalize dE s p1 er1 = z at *
        have d1 : (((p1 : Nat) : Int) != (p1 : Int)) = false := by simp
        have d2 : (z != z) = false := by simp
        go_wp2_with fail
        refine (KA.out _ T1.out).mono ?_
        rintro e u1 ⟨rfl, s1⟩
        have S1 := Lib.hid s1
        clear s1 KA T1
        try clear hc
        go_wp2_with fail
        refine (KB.out _ S1.out).mono ?_
        rintro e u2 ⟨rfl, s2⟩
        have S2 := Lib.hid s2
        clear s2 KB S1
        go_wp2_with fail
        go_roundw
        case rel => exact ⟨k + 1, p1, er1, by omega, by omega, hpl, by go_num, S2⟩
        case measure => simp [intOf]; omega
      by_cases x2 : x = 2
      · subst x2
        have KN := Lib.hid (fun w' (h : Two w w' w.heap.size w1.heap.size s p er p er) => two_fail h 5)
        have KM := Lib.hid (fun w' (h : Two w w' w.heap.size w1.heap.size s p (fE er 5) p er) => two_rfail h 5)
        go_wp2_with fail
        refine (KN.out _ ht.out).mono ?_
        rintro e v0 ⟨rfl, t0⟩
        have T0 := Lib.hid t0
        clear t0 KN ht
        try clear hc
        go_wp2_with fail
        refine (KM.out _ T0.out).mono ?_
        rintro e v1 ⟨rfl, t1⟩
        have T1 := Lib.hid t1
        clear t1 KM T0
        have hpl : p ≤ s.size := hp
        generalize fE er 5 = er1 at *
        have KA := Lib.hid (fun w' (h : Two w w' w.heap.size w1.heap.size s p er1 p er1) => two_done h)
        have KB := Lib.hid (fun w' (h : Two w w' w.heap.size w1.heap.size s p er1 p er1) => two_rdone h)
        generalize dE s p er1 = z at *
        have d1 : (((p : Nat) : Int) != (p : Int)) = false := by simp
        have d2 : (z != z) = false := by simp
        go_wp2_with fail
        refine (KA.out _ T1.out).mono ?_
        rintro e u1 ⟨rfl, s1⟩
        have S1 := Lib.hid s1
        clear s1 KA T1
        try clear hc
        go_wp2_with fail
        refine (KB.out _ S1.out).mono ?_
        rintro e u2 ⟨rfl, s2⟩
        have S2 := Lib.hid s2
        clear s2 KB S1
        go_wp2_with fail
        go_roundw
        case rel => exact ⟨k + 1, p, er1, by omega, by omega, hpl, by go_num, S2⟩
        case measure => simp [intOf]; omega
      by_cases x3 : x = 3
      · subst x3
        have KN := Lib.hid (fun w' (h : Two w w' w.heap.size w1.heap.size s p er p er) => two_fail h 0)
        have KM := Lib.hid (fun w' (h : Two w w' w.heap.size w1.heap.size s p (fE er 0) p er) => two_rfail h 0)
        go_wp2_with fail
        refine (KN.out _ ht.out).mono ?_
        rintro e v0 ⟨rfl, t0⟩
        have T0 := Lib.hid t0
        clear t0 KN ht
        try clear hc
        go_wp2_with fail
        refine (KM.out _ T0.out).mono ?_
        rintro e v1 ⟨rfl, t1⟩
        have T1 := Lib.hid t1
        clear t1 KM T0
        have hpl : p ≤ s.size := hp
        generalize fE er 0 = er1 at *
        have KA := Lib.hid (fun w' (h : Two w w' w.heap.size w1.heap.size s p er1 p er1) => two_done h)
        have KB := Lib.hid (fun w' (h : Two w w' w.heap.size w1.heap.size s p er1 p er1) => two_rdone h)
        generalize dE s p er1 = z at *
        have d1 : (((p : Nat) : Int) != (p : Int)) = false := by simp
        have d2 : (z != z) = false := by simp
        go_wp2_with fail
        refine (KA.out _ T1.out).mono ?_
        rintro e u1 ⟨rfl, s1⟩
        have S1 := Lib.hid s1
        clear s1 KA T1
        try clear hc
        go_wp2_with fail
        refine (KB.out _ S1.out).mono ?_
        rintro e u2 ⟨rfl, s2⟩
        have S2 := Lib.hid s2
        clear s2 KB S1
        go_wp2_with fail
        go_roundw
        case rel => exact ⟨k + 1, p, er1, by omega, by omega, hpl, by go_num, S2⟩
        case measure => simp [intOf]; omega
      have y0 : (x == 0) = false := by simp; exact x0
      have y1 : (x == 1) = false := by simp; exact x1
      have y2 : (x == 2) = false := by simp; exact x2
      have y3 : (x == 3) = false := by simp; exact x3
      clear x0 x1 x2 x3
      have hpl : p ≤ s.size := hp
      have KA := Lib.hid (fun w' (h : Two w w' w.heap.size w1.heap.size s p er p er) => two_done h)
      have KB := Lib.hid (fun w' (h : Two w w' w.heap.size w1.heap.size s p er p er) => two_rdone h)
      generalize dE s p er = z at *
      have d1 : (((p : Nat) : Int) != (p : Int)) = false := by simp
      have d2 : (z != z) = false := by simp
      go_wp2_with fail
      refine (KA.out _ ht.out).mono ?_
      rintro e u1 ⟨rfl, s1⟩
      have S1 := Lib.hid s1
      clear s1 KA ht
      try clear hc
      go_wp2_with fail
      refine (KB.out _ S1.out).mono ?_
      rintro e u2 ⟨rfl, s2⟩
      have S2 := Lib.hid s2
      clear s2 KB S1
      go_wp2_with fail
      go_roundw
      case rel => exact ⟨k + 1, p, er, by omega, by omega, hpl, by go_num, S2⟩
      case measure => simp [intOf]; omega
    · by_cases hkl2 : k < l.length
      · have e1 : decide ((k : Int) < (l.length : Int)) = true := decide_eq_true (by omega)
        have e2 : decide ((k : Int) < 300) = false := decide_eq_false (by omega)
        go_wp2_with fail
        refine (HW.out _).mono ?_
        rintro e w5 ⟨rfl, b5⟩
        have B5 := Lib.hid (ht.out.on.trans (b5.mono ht.out.on.size))
        clear b5
        go_wp2_with fail
        go_ret
        exact ⟨rfl, B5.out⟩
      · have e1 : decide ((k : Int) < (l.length : Int)) = false := decide_eq_false (by omega)
        go_wp2_with fail
        refine (HW.out _).mono ?_
        rintro e w5 ⟨rfl, b5⟩
        have B5 := Lib.hid (ht.out.on.trans (b5.mono ht.out.on.size))
        clear b5
        go_wp2_with fail
        go_ret
        exact ⟨rfl, B5.out⟩
end Go.Proofs.Ytidmcifckbpgbaa.vr
