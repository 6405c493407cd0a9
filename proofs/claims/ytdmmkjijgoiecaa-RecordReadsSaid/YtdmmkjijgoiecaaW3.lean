import Derived.Test.YtdmmkjijgoiecaaW2
set_option linter.all false
/-
  record: the program's list of marks, read.
-/
namespace Go.Proofs.Ytdmmkjijgoiecaa.re
open Go.RowKit Go.Shelf Go.Proofs.Ytdmmkjijgoiecaa.mem Go.Proofs.Ytdmmkjijgoiecaa.sy Go.Proofs.Ytdmmkjijgoiecaa.vr Go.Proofs.Ytdmmkjijgoiecaa.po

theorem info_mk : (Try.prog.info? 98).map (fun i => (i.zero, i.size, i.bytes)) = some (some (.agg #[.int .i64 0, .string ⟨#[]⟩]), 2, 24) := by kernel_rfl
theorem infp_mk : ∃ i, Try.prog.info? 98 = some i ∧ i.zero = some (.agg #[.int .i64 0, .string ⟨#[]⟩]) ∧ i.size = 2 ∧ i.bytes = 24 := by
  have h := info_mk
  rcases hi : Try.prog.info? 98 with _ | i
  · rw [hi] at h; cases h
  · rw [hi] at h
    simp only [Option.map_some, Option.some.injEq, Prod.mk.injEq] at h
    exact ⟨i, rfl, h.1, h.2.1, h.2.2⟩

set_option maxRecDepth 100000 in
set_option maxHeartbeats 2000000 in
theorem list_mk {w0 : World} {r pb rb : Nat} {s : ByteArray} {p : Nat} {er : Int} {one : Nat → Int → Mk × Nat × Int} {w : World} (hs : s.size ≤ maxLen) (hps : p ≤ s.size) (h : PD w0 r s p er w) (he : er ≠ 6)
    (hone : Hid (∀ q e, q ≤ s.size → e ≠ 6 → (one q e).2.1 ≤ s.size ∧ (one q e).2.2 ≠ 6))
    (HT : Hid (∀ (w2 : World) (q : Nat) (e : Int), q ≤ s.size → e ≠ 6 → PD w0 r s q e w2 → Fr [r] w w2 → Calls Try.prog 62 #[.pointer (some ⟨rb, 0, none⟩)] w2 (OP EMk (fun m : Mk => m) r (PD w0 r s) (one q e).1 (one q e).2.1 (one q e).2.2 w2))) :
    Calls Try.prog 61 #[rdV r pb, .func (.func 62) #[] #[.pointer (some ⟨rb, 0, none⟩)]] w (LP2 EMk 2 (fun m : Mk => m) r (PD w0 r s) 98 (listL one s p er).1 (listL one s p er).2.1 (listL one s p er).2.2 w) := by
  have hW := h.alloc (.cells #[.pointer (some ⟨r, 0, none⟩), .pointer (some ⟨pb, 0, none⟩)] 70)
  have B := Box.new w 70 #[.pointer (some ⟨r, 0, none⟩), .pointer (some ⟨pb, 0, none⟩)]
  obtain ⟨W, hWe⟩ : ∃ W, Hid (W = w.alloc (.cells #[.pointer (some ⟨r, 0, none⟩), .pointer (some ⟨pb, 0, none⟩)] 70)) := ⟨_, Lib.hid rfl⟩
  have hne : w.heap.size ≠ r := by have := h.lt; omega
  have hEnd : Hid (∀ (w2 : World) A cap (xs : List Mk) q e, LS2 EMk 2 [r] (PD w0 r s) q e W 98 A cap xs w2 → LP2 EMk 2 (fun m : Mk => m) r (PD w0 r s) 98 (xs.map (fun m : Mk => m)) q e w (.returned (.slice A xs.length cap)) w2) := Lib.hid (fun w2 A cap xs q e x => x.end_ hWe.out)
  have hf : Fr [] w W := by rw [hWe.out]; exact (Fr.refl [] w).alloc _
  have HT2 : Hid (∀ (w2 : World) (q : Nat) (e : Int), q ≤ s.size → e ≠ 6 → PD w0 r s q e w2 → Fr [r] W w2 → Calls Try.prog 62 #[.pointer (some ⟨rb, 0, none⟩)] w2 (OP EMk (fun m : Mk => m) r (PD w0 r s) (one q e).1 (one q e).2.1 (one q e).2.2 w2)) := Lib.hid (fun w2 q e a b c f => HT.out w2 q e a b c (hf.trans f (by simp) (fun x hx => Or.inl hx)))
  rw [← hWe.out] at hW B
  have hW0 : Hid (w0.heap.size ≤ W.heap.size) := Lib.hid hW.be.size
  have hrW : r < W.heap.size := hW.lt
  have hrH : Hid (r + 1 ≤ W.heap.size) := Lib.hid hrW
  have HB : Hid (∀ w2, Fr [r] W w2 → w2.cell? ⟨w.heap.size, 0, none⟩ = some (.pointer (some ⟨r, 0, none⟩)) ∧ w2.cell? ⟨w.heap.size, 1, none⟩ = some (.pointer (some ⟨pb, 0, none⟩))) := Lib.hid (fun w2 f => ⟨(B.kept f (by simpa using hne)).cell 0, (B.kept f (by simpa using hne)).cell 1⟩)
  have x0 : W.cell? ⟨w.heap.size, 0, none⟩ = some (.pointer (some ⟨r, 0, none⟩)) := B.cell 0
  have K := Lib.hid (rd_number W r s p er hW.rd hs hps)
  have HO1 : Hid (∀ w2, RD w2 r s (nP s p er) (nE s p er) → Fr [r] W w2 → LS2 EMk 2 [r] (PD w0 r s) (nP s p er) (nE s p er) W 98 none 0 [] w2) := Lib.hid (fun w2 x f => LS2.start (hW.of f x) f (by simpa using hrW))
  have HWr := Lib.hid (fun (w2 : World) (q : Nat) (e : Int) (x : PD w0 r s q e w2) => wrong_any (pb := pb) x)
  have hq1 := Lib.hid (nP_in s p er hps)
  have hE2 := Lib.hid (eL_ok s p er he)
  obtain ⟨R, hR⟩ : ∃ R, Hid (R = listL one s p er) := ⟨_, Lib.hid rfl⟩
  rw [← hR.out]
  have hR1 : Hid (R = goL one (nV s p er) (nP s p er) (eL s p er)) := Lib.hid hR.out
  have heL : Hid (eL s p er = if 6000 < nV s p er then fE (nE s p er) 4 else nE s p er) := Lib.hid rfl
  unfold DPost at K
  unfold PP at HWr
  have hh6 := Lib.hid (many_ok s p er he)
  clear hW B h hs hps hne hR he hf HT hrW
  generalize nP s p er = p1 at *
  generalize nE s p er = e1 at *
  generalize nV s p er = n at *
  generalize eL s p er = e2 at *
  obtain ⟨i0, hi0, hz0, hz1, hz2⟩ := infp_mk
  have Hi := Lib.hid hi0
  have Hz0 := Lib.hid hz0
  have Hz1 := Lib.hid hz1
  have Hz2 := Lib.hid hz2
  clear hi0 hz0 hz1 hz2
  unfold rdV at HWr HT2 ⊢
  go_enter Try.func61, Try.ntmps61
  go_upto_region 1 with fail
  rw [← hWe.out]
  clear hWe
  generalize w.heap.size = bx at *
  go_wp2_with fail
  refine K.out.mono ?_
  rintro e w2 ⟨rfl, x2, f2⟩
  have L2 := Lib.hid (HO1.out w2 x2 f2)
  obtain ⟨c0, c1⟩ := HB.out w2 f2
  clear x2 f2 K x0 HO1
  by_cases h6 : 6000 < n
  · have d6 : decide (6000 < (n : Int)) = true := decide_eq_true (by omega)
    have he2 : e2 = fE e1 4 := by rw [heL.out, if_pos h6]
    have KF := Lib.hid (rd_fail w2 r s p1 e1 4 L2.out.pd.rd)
    rw [← he2] at KF
    unfold DPost at KF
    clear heL he2
    go_wp2_with fail
    refine KF.out.mono ?_
    rintro e w3 ⟨rfl, x3, f3⟩
    have L3 := Lib.hid (L2.out.read gMk (L2.out.pd.of f3 x3) f3)
    clear x3 f3 KF c0 c1 L2
    have L3' : Hid (LS2 EMk 2 [r] (PD w0 r s) p1 e2 W 98 none 0 [] w3) := L3
    have hR0 : Hid (R = (([] : List Mk).map (fun m : Mk => m) ++ (goL one (n - 0) p1 e2).1, (goL one (n - 0) p1 e2).2)) := Lib.hid hR1.out
    clear L3 hR1
    obtain ⟨c0, c1⟩ := HB.out w3 L3'.out.fr
    go_wp2_with fail
    go_loopw [6, 7] (fun v i wr => ∃ (k : Nat) (A : Option Addr) (cap : Nat) (xs : List Mk) (q : Nat) (eq : Int), k ≤ n ∧ i = .int .i64 k ∧ v = .slice A xs.length cap ∧ xs.length ≤ k ∧ Hid (LS2 EMk 2 [r] (PD w0 r s) q eq W 98 A cap xs wr) ∧ Hid (q ≤ s.size) ∧ Hid (eq ≠ 6) ∧ Hid (n ≤ 6000 ∨ wrongB eq = true) ∧ Hid (R = (xs.map (fun m : Mk => m) ++ (goL one (n - k) q eq).1, (goL one (n - k) q eq).2))) (fun _ i _ => n - (intOf i).toNat)
    case atStart => exact ⟨0, none, 0, [], p1, e2, by omega, rfl, rfl, by simp, L3', hq1, hE2, hh6, hR0⟩
    case round =>
      obtain ⟨k, A, cap, xs, q, eq, hk, rfl, rfl, hxl, HL, hq, hq6, hh, hRk⟩ := hrel
      clear L3' hR0 c0 c1 hh6 hq1 hE2
      obtain ⟨c0, c1⟩ := HB.out wr HL.out.fr
      by_cases hkn : k < n
      · have d1 : decide ((k : Int) < (n : Int)) = true := decide_eq_true (by omega)
        have KW := Lib.hid (HWr.out wr q eq HL.out.pd)
        obtain ⟨j, hj⟩ : ∃ j, n - k = j + 1 := ⟨n - k - 1, by omega⟩
        have hj2 : n - (k + 1) = j := by omega
        rcases hb : wrongB eq with _ | _
        · rw [hb] at KW
          have hn6 : n ≤ 6000 := by
            rcases hh.out with h1 | h1
            · exact h1
            · rw [hb] at h1; cases h1
          exact absurd h6 (by omega)
        · rw [hb] at KW
          have hRn : Hid (R = (xs.map (fun m : Mk => m), q, eq)) := Lib.hid (by
            rw [hRk.out, hj]
            show (xs.map (fun m : Mk => m) ++ (if wrongB eq then _ else _ : List Mk × Nat × Int).1, (if wrongB eq then _ else _ : List Mk × Nat × Int).2) = _
            rw [hb]
            simp)
          clear hRk hh hj hj2
          have HLr := Lib.hid (fun (w4 : World) (x : PD w0 r s q eq w4) (f : Fr [r] wr w4) => HL.out.read gMk x f)
          go_wp2_with fail
          refine KW.out.mono ?_
          rintro e w4 ⟨rfl, x4, f4⟩
          have L4 := Lib.hid (HLr.out w4 x4 f4)
          clear x4 f4 KW HLr HL
          go_wp2_with fail
          go_ret
          rw [hRn.out]
          exact hEnd.out _ _ _ _ _ _ L4.out
      · obtain rfl : k = n := by omega
        have d1 : decide ((k : Int) < (k : Int)) = false := decide_eq_false (by omega)
        have hRn : Hid (R = (xs.map (fun m : Mk => m), q, eq)) := Lib.hid (by rw [hRk.out, Nat.sub_self]; simp [goL])
        go_wp2_with fail
        go_ret
        rw [hRn.out]
        exact hEnd.out _ _ _ _ _ _ HL.out
  · have d6 : decide (6000 < (n : Int)) = false := decide_eq_false (by omega)
    have he2 : e2 = e1 := by rw [heL.out, if_neg h6]
    subst he2
    have L3 := L2
    clear heL c0 c1 L2
    have L3' : Hid (LS2 EMk 2 [r] (PD w0 r s) p1 e2 W 98 none 0 [] w2) := L3
    have hR0 : Hid (R = (([] : List Mk).map (fun m : Mk => m) ++ (goL one (n - 0) p1 e2).1, (goL one (n - 0) p1 e2).2)) := Lib.hid hR1.out
    clear L3 hR1
    obtain ⟨c0, c1⟩ := HB.out w2 L3'.out.fr
    go_wp2_with fail
    go_loopw [6, 7] (fun v i wr => ∃ (k : Nat) (A : Option Addr) (cap : Nat) (xs : List Mk) (q : Nat) (eq : Int), k ≤ n ∧ i = .int .i64 k ∧ v = .slice A xs.length cap ∧ xs.length ≤ k ∧ Hid (LS2 EMk 2 [r] (PD w0 r s) q eq W 98 A cap xs wr) ∧ Hid (q ≤ s.size) ∧ Hid (eq ≠ 6) ∧ Hid (n ≤ 6000 ∨ wrongB eq = true) ∧ Hid (R = (xs.map (fun m : Mk => m) ++ (goL one (n - k) q eq).1, (goL one (n - k) q eq).2))) (fun _ i _ => n - (intOf i).toNat)
    case atStart => exact ⟨0, none, 0, [], p1, e2, by omega, rfl, rfl, by simp, L3', hq1, hE2, hh6, hR0⟩
    case round =>
      obtain ⟨k, A, cap, xs, q, eq, hk, rfl, rfl, hxl, HL, hq, hq6, hh, hRk⟩ := hrel
      clear L3' hR0 c0 c1 hh6 hq1 hE2
      obtain ⟨c0, c1⟩ := HB.out wr HL.out.fr
      by_cases hkn : k < n
      · have d1 : decide ((k : Int) < (n : Int)) = true := decide_eq_true (by omega)
        have KW := Lib.hid (HWr.out wr q eq HL.out.pd)
        obtain ⟨j, hj⟩ : ∃ j, n - k = j + 1 := ⟨n - k - 1, by omega⟩
        have hj2 : n - (k + 1) = j := by omega
        rcases hb : wrongB eq with _ | _
        · rw [hb] at KW
          have hn6 : n ≤ 6000 := by
            rcases hh.out with h1 | h1
            · exact h1
            · rw [hb] at h1; cases h1
          have hRn : Hid (R = ((xs.map (fun m : Mk => m) ++ [(one q eq).1]) ++ (goL one (n - (k + 1)) (one q eq).2.1 (one q eq).2.2).1, (goL one (n - (k + 1)) (one q eq).2.1 (one q eq).2.2).2)) := Lib.hid (by
            rw [hRk.out, hj, hj2]
            show (xs.map (fun m : Mk => m) ++ (if wrongB eq then _ else _ : List Mk × Nat × Int).1, (if wrongB eq then _ else _ : List Mk × Nat × Int).2) = _
            rw [hb]
            simp)
          obtain ⟨hqn, hen⟩ := hone.out q eq hq.out hq6.out
          replace hqn := Lib.hid hqn
          replace hen := Lib.hid hen
          clear hRk hh hj hj2
          have HLr := Lib.hid (fun (w4 : World) (x : PD w0 r s q eq w4) (f : Fr [r] wr w4) => HL.out.read gMk x f)
          go_wp2_with fail
          refine KW.out.mono ?_
          rintro e w4 ⟨rfl, x4, f4⟩
          have L4 := Lib.hid (HLr.out w4 x4 f4)
          have KT := Lib.hid (HT2.out w4 q eq hq.out hq6.out x4 L4.out.fr)
          clear x4 f4 KW HLr HL
          unfold OP at KT
          generalize (one q eq).1 = y at *
          generalize (one q eq).2.1 = q2 at *
          generalize (one q eq).2.2 = e3 at *
          go_wp2_with fail
          refine KT.out.mono ?_
          rintro e w5 ⟨b, he, hpr, x5, f5, o5, n5⟩
          obtain rfl : e = .returned (.agg #[.int .i64 b.at_, .string b.tag]) := he
          have N5 := Lib.hid (L4.out.new n5)
          have L5 := Lib.hid (L4.out.read gMk x5 f5)
          have O5 := Lib.hid o5
          replace hpr := Lib.hid hpr
          clear x5 f5 KT L4 hq hq6 n5 o5
          go_wp2_with (at_builtin; refine wpList_row (us := [.int .i64 b.at_, .string b.tag]) rfl _ _ _ rfl (L5.out.sg.alloc _) Try.underlying74 Hi.out Hz0.out Hz1.out Hz2.out rfl rfl rfl rfl (row_cells _ _ [.int .i64 b.at_, .string b.tag]) (gMk.one b) (by omega) (by omega) ?_; intro A3 cap3 w6 hs6 f6 hf6; have L6 := Lib.hid (L5.out.push (rdr_pd w0 r s) gMk hrH.out O5.out N5.out hs6 f6 hf6); clear hs6 f6 hf6)
          have hxl2 : (xs ++ [b]).length = xs.length + 1 := by simp
          have hRm : Hid (R = ((xs ++ [b]).map (fun m : Mk => m) ++ (goL one (n - (k + 1)) q2 e3).1, (goL one (n - (k + 1)) q2 e3).2)) := Lib.hid (by rw [List.map_append, List.map_singleton, hpr.out]; exact hRn.out)
          go_roundw
          case rel => exact ⟨k + 1, A3, cap3, xs ++ [b], q2, e3, by omega, by go_num, by rw [hxl2], by omega, L6, hqn, hen, Lib.hid (Or.inl hn6), hRm⟩
          case measure => simp [intOf]; omega
        · rw [hb] at KW
          have hRn : Hid (R = (xs.map (fun m : Mk => m), q, eq)) := Lib.hid (by
            rw [hRk.out, hj]
            show (xs.map (fun m : Mk => m) ++ (if wrongB eq then _ else _ : List Mk × Nat × Int).1, (if wrongB eq then _ else _ : List Mk × Nat × Int).2) = _
            rw [hb]
            simp)
          clear hRk hh hj hj2
          have HLr := Lib.hid (fun (w4 : World) (x : PD w0 r s q eq w4) (f : Fr [r] wr w4) => HL.out.read gMk x f)
          go_wp2_with fail
          refine KW.out.mono ?_
          rintro e w4 ⟨rfl, x4, f4⟩
          have L4 := Lib.hid (HLr.out w4 x4 f4)
          clear x4 f4 KW HLr HL
          go_wp2_with fail
          go_ret
          rw [hRn.out]
          exact hEnd.out _ _ _ _ _ _ L4.out
      · obtain rfl : k = n := by omega
        have d1 : decide ((k : Int) < (k : Int)) = false := decide_eq_false (by omega)
        have hRn : Hid (R = (xs.map (fun m : Mk => m), q, eq)) := Lib.hid (by rw [hRk.out, Nat.sub_self]; simp [goL])
        go_wp2_with fail
        go_ret
        rw [hRn.out]
        exact hEnd.out _ _ _ _ _ _ HL.out
end Go.Proofs.Ytdmmkjijgoiecaa.re

/-
  record: the program's list of functions, read.
-/
namespace Go.Proofs.Ytdmmkjijgoiecaa.re
open Go.RowKit Go.Shelf Go.Proofs.Ytdmmkjijgoiecaa.mem Go.Proofs.Ytdmmkjijgoiecaa.sy Go.Proofs.Ytdmmkjijgoiecaa.vr Go.Proofs.Ytdmmkjijgoiecaa.po

theorem info_fn : (Try.prog.info? 80).map (fun i => (i.zero, i.size, i.bytes)) = some (some (.agg #[.string ⟨#[]⟩, .string ⟨#[]⟩, .string ⟨#[]⟩]), 3, 48) := by kernel_rfl
theorem infp_fn : ∃ i, Try.prog.info? 80 = some i ∧ i.zero = some (.agg #[.string ⟨#[]⟩, .string ⟨#[]⟩, .string ⟨#[]⟩]) ∧ i.size = 3 ∧ i.bytes = 48 := by
  have h := info_fn
  rcases hi : Try.prog.info? 80 with _ | i
  · rw [hi] at h; cases h
  · rw [hi] at h
    simp only [Option.map_some, Option.some.injEq, Prod.mk.injEq] at h
    exact ⟨i, rfl, h.1, h.2.1, h.2.2⟩

set_option maxRecDepth 100000 in
set_option maxHeartbeats 2000000 in
theorem list_fn {w0 : World} {r pb : Nat} {s : ByteArray} {p : Nat} {er : Int} {one : Nat → Int → SF × Nat × Int} {w : World} (hs : s.size ≤ maxLen) (hps : p ≤ s.size) (h : PD w0 r s p er w) (he : er ≠ 6)
    (hone : Hid (∀ q e, q ≤ s.size → e ≠ 6 → (one q e).2.1 ≤ s.size ∧ (one q e).2.2 ≠ 6))
    (HT : Hid (∀ (w2 : World) (q : Nat) (e : Int), q ≤ s.size → e ≠ 6 → PD w0 r s q e w2 → Fr [r] w w2 → Calls Try.prog 32 #[rdV r pb] w2 (OP EFn (fun m : SF => m) r (PD w0 r s) (one q e).1 (one q e).2.1 (one q e).2.2 w2))) :
    Calls Try.prog 31 #[rdV r pb, .func (.func 32) #[rdV r pb] #[]] w (LP2 EFn 3 (fun m : SF => m) r (PD w0 r s) 80 (listL one s p er).1 (listL one s p er).2.1 (listL one s p er).2.2 w) := by
  have hW := h.alloc (.cells #[.pointer (some ⟨r, 0, none⟩), .pointer (some ⟨pb, 0, none⟩)] 70)
  have B := Box.new w 70 #[.pointer (some ⟨r, 0, none⟩), .pointer (some ⟨pb, 0, none⟩)]
  obtain ⟨W, hWe⟩ : ∃ W, Hid (W = w.alloc (.cells #[.pointer (some ⟨r, 0, none⟩), .pointer (some ⟨pb, 0, none⟩)] 70)) := ⟨_, Lib.hid rfl⟩
  have hne : w.heap.size ≠ r := by have := h.lt; omega
  have hEnd : Hid (∀ (w2 : World) A cap (xs : List SF) q e, LS2 EFn 3 [r] (PD w0 r s) q e W 80 A cap xs w2 → LP2 EFn 3 (fun m : SF => m) r (PD w0 r s) 80 (xs.map (fun m : SF => m)) q e w (.returned (.slice A xs.length cap)) w2) := Lib.hid (fun w2 A cap xs q e x => x.end_ hWe.out)
  have hf : Fr [] w W := by rw [hWe.out]; exact (Fr.refl [] w).alloc _
  have HT2 : Hid (∀ (w2 : World) (q : Nat) (e : Int), q ≤ s.size → e ≠ 6 → PD w0 r s q e w2 → Fr [r] W w2 → Calls Try.prog 32 #[rdV r pb] w2 (OP EFn (fun m : SF => m) r (PD w0 r s) (one q e).1 (one q e).2.1 (one q e).2.2 w2)) := Lib.hid (fun w2 q e a b c f => HT.out w2 q e a b c (hf.trans f (by simp) (fun x hx => Or.inl hx)))
  rw [← hWe.out] at hW B
  have hW0 : Hid (w0.heap.size ≤ W.heap.size) := Lib.hid hW.be.size
  have hrW : r < W.heap.size := hW.lt
  have hrH : Hid (r + 1 ≤ W.heap.size) := Lib.hid hrW
  have HB : Hid (∀ w2, Fr [r] W w2 → w2.cell? ⟨w.heap.size, 0, none⟩ = some (.pointer (some ⟨r, 0, none⟩)) ∧ w2.cell? ⟨w.heap.size, 1, none⟩ = some (.pointer (some ⟨pb, 0, none⟩))) := Lib.hid (fun w2 f => ⟨(B.kept f (by simpa using hne)).cell 0, (B.kept f (by simpa using hne)).cell 1⟩)
  have x0 : W.cell? ⟨w.heap.size, 0, none⟩ = some (.pointer (some ⟨r, 0, none⟩)) := B.cell 0
  have K := Lib.hid (rd_number W r s p er hW.rd hs hps)
  have HO1 : Hid (∀ w2, RD w2 r s (nP s p er) (nE s p er) → Fr [r] W w2 → LS2 EFn 3 [r] (PD w0 r s) (nP s p er) (nE s p er) W 80 none 0 [] w2) := Lib.hid (fun w2 x f => LS2.start (hW.of f x) f (by simpa using hrW))
  have HWr := Lib.hid (fun (w2 : World) (q : Nat) (e : Int) (x : PD w0 r s q e w2) => wrong_any (pb := pb) x)
  have hq1 := Lib.hid (nP_in s p er hps)
  have hE2 := Lib.hid (eL_ok s p er he)
  obtain ⟨R, hR⟩ : ∃ R, Hid (R = listL one s p er) := ⟨_, Lib.hid rfl⟩
  rw [← hR.out]
  have hR1 : Hid (R = goL one (nV s p er) (nP s p er) (eL s p er)) := Lib.hid hR.out
  have heL : Hid (eL s p er = if 6000 < nV s p er then fE (nE s p er) 4 else nE s p er) := Lib.hid rfl
  unfold DPost at K
  unfold PP at HWr
  have hh6 := Lib.hid (many_ok s p er he)
  clear hW B h hs hps hne hR he hf HT hrW
  generalize nP s p er = p1 at *
  generalize nE s p er = e1 at *
  generalize nV s p er = n at *
  generalize eL s p er = e2 at *
  obtain ⟨i0, hi0, hz0, hz1, hz2⟩ := infp_fn
  have Hi := Lib.hid hi0
  have Hz0 := Lib.hid hz0
  have Hz1 := Lib.hid hz1
  have Hz2 := Lib.hid hz2
  clear hi0 hz0 hz1 hz2
  unfold rdV at HWr HT2 ⊢
  go_enter Try.func31, Try.ntmps31
  go_upto_region 1 with fail
  rw [← hWe.out]
  clear hWe
  generalize w.heap.size = bx at *
  go_wp2_with fail
  refine K.out.mono ?_
  rintro e w2 ⟨rfl, x2, f2⟩
  have L2 := Lib.hid (HO1.out w2 x2 f2)
  obtain ⟨c0, c1⟩ := HB.out w2 f2
  clear x2 f2 K x0 HO1
  by_cases h6 : 6000 < n
  · have d6 : decide (6000 < (n : Int)) = true := decide_eq_true (by omega)
    have he2 : e2 = fE e1 4 := by rw [heL.out, if_pos h6]
    have KF := Lib.hid (rd_fail w2 r s p1 e1 4 L2.out.pd.rd)
    rw [← he2] at KF
    unfold DPost at KF
    clear heL he2
    go_wp2_with fail
    refine KF.out.mono ?_
    rintro e w3 ⟨rfl, x3, f3⟩
    have L3 := Lib.hid (L2.out.read gFn (L2.out.pd.of f3 x3) f3)
    clear x3 f3 KF c0 c1 L2
    have L3' : Hid (LS2 EFn 3 [r] (PD w0 r s) p1 e2 W 80 none 0 [] w3) := L3
    have hR0 : Hid (R = (([] : List SF).map (fun m : SF => m) ++ (goL one (n - 0) p1 e2).1, (goL one (n - 0) p1 e2).2)) := Lib.hid hR1.out
    clear L3 hR1
    obtain ⟨c0, c1⟩ := HB.out w3 L3'.out.fr
    go_wp2_with fail
    go_loopw [6, 7] (fun v i wr => ∃ (k : Nat) (A : Option Addr) (cap : Nat) (xs : List SF) (q : Nat) (eq : Int), k ≤ n ∧ i = .int .i64 k ∧ v = .slice A xs.length cap ∧ xs.length ≤ k ∧ Hid (LS2 EFn 3 [r] (PD w0 r s) q eq W 80 A cap xs wr) ∧ Hid (q ≤ s.size) ∧ Hid (eq ≠ 6) ∧ Hid (n ≤ 6000 ∨ wrongB eq = true) ∧ Hid (R = (xs.map (fun m : SF => m) ++ (goL one (n - k) q eq).1, (goL one (n - k) q eq).2))) (fun _ i _ => n - (intOf i).toNat)
    case atStart => exact ⟨0, none, 0, [], p1, e2, by omega, rfl, rfl, by simp, L3', hq1, hE2, hh6, hR0⟩
    case round =>
      obtain ⟨k, A, cap, xs, q, eq, hk, rfl, rfl, hxl, HL, hq, hq6, hh, hRk⟩ := hrel
      clear L3' hR0 c0 c1 hh6 hq1 hE2
      obtain ⟨c0, c1⟩ := HB.out wr HL.out.fr
      by_cases hkn : k < n
      · have d1 : decide ((k : Int) < (n : Int)) = true := decide_eq_true (by omega)
        have KW := Lib.hid (HWr.out wr q eq HL.out.pd)
        obtain ⟨j, hj⟩ : ∃ j, n - k = j + 1 := ⟨n - k - 1, by omega⟩
        have hj2 : n - (k + 1) = j := by omega
        rcases hb : wrongB eq with _ | _
        · rw [hb] at KW
          have hn6 : n ≤ 6000 := by
            rcases hh.out with h1 | h1
            · exact h1
            · rw [hb] at h1; cases h1
          exact absurd h6 (by omega)
        · rw [hb] at KW
          have hRn : Hid (R = (xs.map (fun m : SF => m), q, eq)) := Lib.hid (by
            rw [hRk.out, hj]
            show (xs.map (fun m : SF => m) ++ (if wrongB eq then _ else _ : List SF × Nat × Int).1, (if wrongB eq then _ else _ : List SF × Nat × Int).2) = _
            rw [hb]
            simp)
          clear hRk hh hj hj2
          have HLr := Lib.hid (fun (w4 : World) (x : PD w0 r s q eq w4) (f : Fr [r] wr w4) => HL.out.read gFn x f)
          go_wp2_with fail
          refine KW.out.mono ?_
          rintro e w4 ⟨rfl, x4, f4⟩
          have L4 := Lib.hid (HLr.out w4 x4 f4)
          clear x4 f4 KW HLr HL
          go_wp2_with fail
          go_ret
          rw [hRn.out]
          exact hEnd.out _ _ _ _ _ _ L4.out
      · obtain rfl : k = n := by omega
        have d1 : decide ((k : Int) < (k : Int)) = false := decide_eq_false (by omega)
        have hRn : Hid (R = (xs.map (fun m : SF => m), q, eq)) := Lib.hid (by rw [hRk.out, Nat.sub_self]; simp [goL])
        go_wp2_with fail
        go_ret
        rw [hRn.out]
        exact hEnd.out _ _ _ _ _ _ HL.out
  · have d6 : decide (6000 < (n : Int)) = false := decide_eq_false (by omega)
    have he2 : e2 = e1 := by rw [heL.out, if_neg h6]
    subst he2
    have L3 := L2
    clear heL c0 c1 L2
    have L3' : Hid (LS2 EFn 3 [r] (PD w0 r s) p1 e2 W 80 none 0 [] w2) := L3
    have hR0 : Hid (R = (([] : List SF).map (fun m : SF => m) ++ (goL one (n - 0) p1 e2).1, (goL one (n - 0) p1 e2).2)) := Lib.hid hR1.out
    clear L3 hR1
    obtain ⟨c0, c1⟩ := HB.out w2 L3'.out.fr
    go_wp2_with fail
    go_loopw [6, 7] (fun v i wr => ∃ (k : Nat) (A : Option Addr) (cap : Nat) (xs : List SF) (q : Nat) (eq : Int), k ≤ n ∧ i = .int .i64 k ∧ v = .slice A xs.length cap ∧ xs.length ≤ k ∧ Hid (LS2 EFn 3 [r] (PD w0 r s) q eq W 80 A cap xs wr) ∧ Hid (q ≤ s.size) ∧ Hid (eq ≠ 6) ∧ Hid (n ≤ 6000 ∨ wrongB eq = true) ∧ Hid (R = (xs.map (fun m : SF => m) ++ (goL one (n - k) q eq).1, (goL one (n - k) q eq).2))) (fun _ i _ => n - (intOf i).toNat)
    case atStart => exact ⟨0, none, 0, [], p1, e2, by omega, rfl, rfl, by simp, L3', hq1, hE2, hh6, hR0⟩
    case round =>
      obtain ⟨k, A, cap, xs, q, eq, hk, rfl, rfl, hxl, HL, hq, hq6, hh, hRk⟩ := hrel
      clear L3' hR0 c0 c1 hh6 hq1 hE2
      obtain ⟨c0, c1⟩ := HB.out wr HL.out.fr
      by_cases hkn : k < n
      · have d1 : decide ((k : Int) < (n : Int)) = true := decide_eq_true (by omega)
        have KW := Lib.hid (HWr.out wr q eq HL.out.pd)
        obtain ⟨j, hj⟩ : ∃ j, n - k = j + 1 := ⟨n - k - 1, by omega⟩
        have hj2 : n - (k + 1) = j := by omega
        rcases hb : wrongB eq with _ | _
        · rw [hb] at KW
          have hn6 : n ≤ 6000 := by
            rcases hh.out with h1 | h1
            · exact h1
            · rw [hb] at h1; cases h1
          have hRn : Hid (R = ((xs.map (fun m : SF => m) ++ [(one q eq).1]) ++ (goL one (n - (k + 1)) (one q eq).2.1 (one q eq).2.2).1, (goL one (n - (k + 1)) (one q eq).2.1 (one q eq).2.2).2)) := Lib.hid (by
            rw [hRk.out, hj, hj2]
            show (xs.map (fun m : SF => m) ++ (if wrongB eq then _ else _ : List SF × Nat × Int).1, (if wrongB eq then _ else _ : List SF × Nat × Int).2) = _
            rw [hb]
            simp)
          obtain ⟨hqn, hen⟩ := hone.out q eq hq.out hq6.out
          replace hqn := Lib.hid hqn
          replace hen := Lib.hid hen
          clear hRk hh hj hj2
          have HLr := Lib.hid (fun (w4 : World) (x : PD w0 r s q eq w4) (f : Fr [r] wr w4) => HL.out.read gFn x f)
          go_wp2_with fail
          refine KW.out.mono ?_
          rintro e w4 ⟨rfl, x4, f4⟩
          have L4 := Lib.hid (HLr.out w4 x4 f4)
          have KT := Lib.hid (HT2.out w4 q eq hq.out hq6.out x4 L4.out.fr)
          clear x4 f4 KW HLr HL
          unfold OP at KT
          generalize (one q eq).1 = y at *
          generalize (one q eq).2.1 = q2 at *
          generalize (one q eq).2.2 = e3 at *
          go_wp2_with fail
          refine KT.out.mono ?_
          rintro e w5 ⟨b, he, hpr, x5, f5, o5, n5⟩
          obtain rfl : e = .returned (.agg #[.string b.name, .string b.kinds, .string b.ret]) := he
          have N5 := Lib.hid (L4.out.new n5)
          have L5 := Lib.hid (L4.out.read gFn x5 f5)
          have O5 := Lib.hid o5
          replace hpr := Lib.hid hpr
          clear x5 f5 KT L4 hq hq6 n5 o5
          go_wp2_with (at_builtin; refine wpList_row (us := [.string b.name, .string b.kinds, .string b.ret]) rfl _ _ _ rfl (L5.out.sg.alloc _) Try.underlying24 Hi.out Hz0.out Hz1.out Hz2.out rfl rfl rfl rfl (row_cells _ _ [.string b.name, .string b.kinds, .string b.ret]) (gFn.one b) (by omega) (by omega) ?_; intro A3 cap3 w6 hs6 f6 hf6; have L6 := Lib.hid (L5.out.push (rdr_pd w0 r s) gFn hrH.out O5.out N5.out hs6 f6 hf6); clear hs6 f6 hf6)
          have hxl2 : (xs ++ [b]).length = xs.length + 1 := by simp
          have hRm : Hid (R = ((xs ++ [b]).map (fun m : SF => m) ++ (goL one (n - (k + 1)) q2 e3).1, (goL one (n - (k + 1)) q2 e3).2)) := Lib.hid (by rw [List.map_append, List.map_singleton, hpr.out]; exact hRn.out)
          go_roundw
          case rel => exact ⟨k + 1, A3, cap3, xs ++ [b], q2, e3, by omega, by go_num, by rw [hxl2], by omega, L6, hqn, hen, Lib.hid (Or.inl hn6), hRm⟩
          case measure => simp [intOf]; omega
        · rw [hb] at KW
          have hRn : Hid (R = (xs.map (fun m : SF => m), q, eq)) := Lib.hid (by
            rw [hRk.out, hj]
            show (xs.map (fun m : SF => m) ++ (if wrongB eq then _ else _ : List SF × Nat × Int).1, (if wrongB eq then _ else _ : List SF × Nat × Int).2) = _
            rw [hb]
            simp)
          clear hRk hh hj hj2
          have HLr := Lib.hid (fun (w4 : World) (x : PD w0 r s q eq w4) (f : Fr [r] wr w4) => HL.out.read gFn x f)
          go_wp2_with fail
          refine KW.out.mono ?_
          rintro e w4 ⟨rfl, x4, f4⟩
          have L4 := Lib.hid (HLr.out w4 x4 f4)
          clear x4 f4 KW HLr HL
          go_wp2_with fail
          go_ret
          rw [hRn.out]
          exact hEnd.out _ _ _ _ _ _ L4.out
      · obtain rfl : k = n := by omega
        have d1 : decide ((k : Int) < (k : Int)) = false := decide_eq_false (by omega)
        have hRn : Hid (R = (xs.map (fun m : SF => m), q, eq)) := Lib.hid (by rw [hRk.out, Nat.sub_self]; simp [goL])
        go_wp2_with fail
        go_ret
        rw [hRn.out]
        exact hEnd.out _ _ _ _ _ _ HL.out
end Go.Proofs.Ytdmmkjijgoiecaa.re

/-
  record: the program's list of objects, read.
-/
namespace Go.Proofs.Ytdmmkjijgoiecaa.re
open Go.RowKit Go.Shelf Go.Proofs.Ytdmmkjijgoiecaa.mem Go.Proofs.Ytdmmkjijgoiecaa.sy Go.Proofs.Ytdmmkjijgoiecaa.vr Go.Proofs.Ytdmmkjijgoiecaa.po

theorem info_ob : (Try.prog.info? 76).map (fun i => (i.zero, i.size, i.bytes)) = some (some (.agg #[.string ⟨#[]⟩, .string ⟨#[]⟩, .slice none 0 0]), 3, 56) := by kernel_rfl
theorem infp_ob : ∃ i, Try.prog.info? 76 = some i ∧ i.zero = some (.agg #[.string ⟨#[]⟩, .string ⟨#[]⟩, .slice none 0 0]) ∧ i.size = 3 ∧ i.bytes = 56 := by
  have h := info_ob
  rcases hi : Try.prog.info? 76 with _ | i
  · rw [hi] at h; cases h
  · rw [hi] at h
    simp only [Option.map_some, Option.some.injEq, Prod.mk.injEq] at h
    exact ⟨i, rfl, h.1, h.2.1, h.2.2⟩

set_option maxRecDepth 100000 in
set_option maxHeartbeats 2000000 in
theorem list_ob {w0 : World} {r pb : Nat} {s : ByteArray} {p : Nat} {er : Int} {one : Nat → Int → SO × Nat × Int} {w : World} (hs : s.size ≤ maxLen) (hps : p ≤ s.size) (h : PD w0 r s p er w) (he : er ≠ 6)
    (hone : Hid (∀ q e, q ≤ s.size → e ≠ 6 → (one q e).2.1 ≤ s.size ∧ (one q e).2.2 ≠ 6))
    (HT : Hid (∀ (w2 : World) (q : Nat) (e : Int), q ≤ s.size → e ≠ 6 → PD w0 r s q e w2 → Fr [r] w w2 → Calls Try.prog 30 #[rdV r pb] w2 (OP EOb MO.o r (PD w0 r s) (one q e).1 (one q e).2.1 (one q e).2.2 w2))) :
    Calls Try.prog 29 #[rdV r pb, .func (.func 30) #[rdV r pb] #[]] w (LP2 EOb 3 MO.o r (PD w0 r s) 76 (listL one s p er).1 (listL one s p er).2.1 (listL one s p er).2.2 w) := by
  have hW := h.alloc (.cells #[.pointer (some ⟨r, 0, none⟩), .pointer (some ⟨pb, 0, none⟩)] 70)
  have B := Box.new w 70 #[.pointer (some ⟨r, 0, none⟩), .pointer (some ⟨pb, 0, none⟩)]
  obtain ⟨W, hWe⟩ : ∃ W, Hid (W = w.alloc (.cells #[.pointer (some ⟨r, 0, none⟩), .pointer (some ⟨pb, 0, none⟩)] 70)) := ⟨_, Lib.hid rfl⟩
  have hne : w.heap.size ≠ r := by have := h.lt; omega
  have hEnd : Hid (∀ (w2 : World) A cap (xs : List MO) q e, LS2 EOb 3 [r] (PD w0 r s) q e W 76 A cap xs w2 → LP2 EOb 3 MO.o r (PD w0 r s) 76 (xs.map MO.o) q e w (.returned (.slice A xs.length cap)) w2) := Lib.hid (fun w2 A cap xs q e x => x.end_ hWe.out)
  have hf : Fr [] w W := by rw [hWe.out]; exact (Fr.refl [] w).alloc _
  have HT2 : Hid (∀ (w2 : World) (q : Nat) (e : Int), q ≤ s.size → e ≠ 6 → PD w0 r s q e w2 → Fr [r] W w2 → Calls Try.prog 30 #[rdV r pb] w2 (OP EOb MO.o r (PD w0 r s) (one q e).1 (one q e).2.1 (one q e).2.2 w2)) := Lib.hid (fun w2 q e a b c f => HT.out w2 q e a b c (hf.trans f (by simp) (fun x hx => Or.inl hx)))
  rw [← hWe.out] at hW B
  have hW0 : Hid (w0.heap.size ≤ W.heap.size) := Lib.hid hW.be.size
  have hrW : r < W.heap.size := hW.lt
  have hrH : Hid (r + 1 ≤ W.heap.size) := Lib.hid hrW
  have HB : Hid (∀ w2, Fr [r] W w2 → w2.cell? ⟨w.heap.size, 0, none⟩ = some (.pointer (some ⟨r, 0, none⟩)) ∧ w2.cell? ⟨w.heap.size, 1, none⟩ = some (.pointer (some ⟨pb, 0, none⟩))) := Lib.hid (fun w2 f => ⟨(B.kept f (by simpa using hne)).cell 0, (B.kept f (by simpa using hne)).cell 1⟩)
  have x0 : W.cell? ⟨w.heap.size, 0, none⟩ = some (.pointer (some ⟨r, 0, none⟩)) := B.cell 0
  have K := Lib.hid (rd_number W r s p er hW.rd hs hps)
  have HO1 : Hid (∀ w2, RD w2 r s (nP s p er) (nE s p er) → Fr [r] W w2 → LS2 EOb 3 [r] (PD w0 r s) (nP s p er) (nE s p er) W 76 none 0 [] w2) := Lib.hid (fun w2 x f => LS2.start (hW.of f x) f (by simpa using hrW))
  have HWr := Lib.hid (fun (w2 : World) (q : Nat) (e : Int) (x : PD w0 r s q e w2) => wrong_any (pb := pb) x)
  have hq1 := Lib.hid (nP_in s p er hps)
  have hE2 := Lib.hid (eL_ok s p er he)
  obtain ⟨R, hR⟩ : ∃ R, Hid (R = listL one s p er) := ⟨_, Lib.hid rfl⟩
  rw [← hR.out]
  have hR1 : Hid (R = goL one (nV s p er) (nP s p er) (eL s p er)) := Lib.hid hR.out
  have heL : Hid (eL s p er = if 6000 < nV s p er then fE (nE s p er) 4 else nE s p er) := Lib.hid rfl
  unfold DPost at K
  unfold PP at HWr
  have hh6 := Lib.hid (many_ok s p er he)
  clear hW B h hs hps hne hR he hf HT hrW
  generalize nP s p er = p1 at *
  generalize nE s p er = e1 at *
  generalize nV s p er = n at *
  generalize eL s p er = e2 at *
  obtain ⟨i0, hi0, hz0, hz1, hz2⟩ := infp_ob
  have Hi := Lib.hid hi0
  have Hz0 := Lib.hid hz0
  have Hz1 := Lib.hid hz1
  have Hz2 := Lib.hid hz2
  clear hi0 hz0 hz1 hz2
  unfold rdV at HWr HT2 ⊢
  go_enter Try.func29, Try.ntmps29
  go_upto_region 1 with fail
  rw [← hWe.out]
  clear hWe
  generalize w.heap.size = bx at *
  go_wp2_with fail
  refine K.out.mono ?_
  rintro e w2 ⟨rfl, x2, f2⟩
  have L2 := Lib.hid (HO1.out w2 x2 f2)
  obtain ⟨c0, c1⟩ := HB.out w2 f2
  clear x2 f2 K x0 HO1
  by_cases h6 : 6000 < n
  · have d6 : decide (6000 < (n : Int)) = true := decide_eq_true (by omega)
    have he2 : e2 = fE e1 4 := by rw [heL.out, if_pos h6]
    have KF := Lib.hid (rd_fail w2 r s p1 e1 4 L2.out.pd.rd)
    rw [← he2] at KF
    unfold DPost at KF
    clear heL he2
    go_wp2_with fail
    refine KF.out.mono ?_
    rintro e w3 ⟨rfl, x3, f3⟩
    have L3 := Lib.hid (L2.out.read gOb (L2.out.pd.of f3 x3) f3)
    clear x3 f3 KF c0 c1 L2
    have L3' : Hid (LS2 EOb 3 [r] (PD w0 r s) p1 e2 W 76 none 0 [] w3) := L3
    have hR0 : Hid (R = (([] : List MO).map MO.o ++ (goL one (n - 0) p1 e2).1, (goL one (n - 0) p1 e2).2)) := Lib.hid hR1.out
    clear L3 hR1
    obtain ⟨c0, c1⟩ := HB.out w3 L3'.out.fr
    go_wp2_with fail
    go_loopw [6, 7] (fun v i wr => ∃ (k : Nat) (A : Option Addr) (cap : Nat) (xs : List MO) (q : Nat) (eq : Int), k ≤ n ∧ i = .int .i64 k ∧ v = .slice A xs.length cap ∧ xs.length ≤ k ∧ Hid (LS2 EOb 3 [r] (PD w0 r s) q eq W 76 A cap xs wr) ∧ Hid (q ≤ s.size) ∧ Hid (eq ≠ 6) ∧ Hid (n ≤ 6000 ∨ wrongB eq = true) ∧ Hid (R = (xs.map MO.o ++ (goL one (n - k) q eq).1, (goL one (n - k) q eq).2))) (fun _ i _ => n - (intOf i).toNat)
    case atStart => exact ⟨0, none, 0, [], p1, e2, by omega, rfl, rfl, by simp, L3', hq1, hE2, hh6, hR0⟩
    case round =>
      obtain ⟨k, A, cap, xs, q, eq, hk, rfl, rfl, hxl, HL, hq, hq6, hh, hRk⟩ := hrel
      clear L3' hR0 c0 c1 hh6 hq1 hE2
      obtain ⟨c0, c1⟩ := HB.out wr HL.out.fr
      by_cases hkn : k < n
      · have d1 : decide ((k : Int) < (n : Int)) = true := decide_eq_true (by omega)
        have KW := Lib.hid (HWr.out wr q eq HL.out.pd)
        obtain ⟨j, hj⟩ : ∃ j, n - k = j + 1 := ⟨n - k - 1, by omega⟩
        have hj2 : n - (k + 1) = j := by omega
        rcases hb : wrongB eq with _ | _
        · rw [hb] at KW
          have hn6 : n ≤ 6000 := by
            rcases hh.out with h1 | h1
            · exact h1
            · rw [hb] at h1; cases h1
          exact absurd h6 (by omega)
        · rw [hb] at KW
          have hRn : Hid (R = (xs.map MO.o, q, eq)) := Lib.hid (by
            rw [hRk.out, hj]
            show (xs.map MO.o ++ (if wrongB eq then _ else _ : List SO × Nat × Int).1, (if wrongB eq then _ else _ : List SO × Nat × Int).2) = _
            rw [hb]
            simp)
          clear hRk hh hj hj2
          have HLr := Lib.hid (fun (w4 : World) (x : PD w0 r s q eq w4) (f : Fr [r] wr w4) => HL.out.read gOb x f)
          go_wp2_with fail
          refine KW.out.mono ?_
          rintro e w4 ⟨rfl, x4, f4⟩
          have L4 := Lib.hid (HLr.out w4 x4 f4)
          clear x4 f4 KW HLr HL
          go_wp2_with fail
          go_ret
          rw [hRn.out]
          exact hEnd.out _ _ _ _ _ _ L4.out
      · obtain rfl : k = n := by omega
        have d1 : decide ((k : Int) < (k : Int)) = false := decide_eq_false (by omega)
        have hRn : Hid (R = (xs.map MO.o, q, eq)) := Lib.hid (by rw [hRk.out, Nat.sub_self]; simp [goL])
        go_wp2_with fail
        go_ret
        rw [hRn.out]
        exact hEnd.out _ _ _ _ _ _ HL.out
  · have d6 : decide (6000 < (n : Int)) = false := decide_eq_false (by omega)
    have he2 : e2 = e1 := by rw [heL.out, if_neg h6]
    subst he2
    have L3 := L2
    clear heL c0 c1 L2
    have L3' : Hid (LS2 EOb 3 [r] (PD w0 r s) p1 e2 W 76 none 0 [] w2) := L3
    have hR0 : Hid (R = (([] : List MO).map MO.o ++ (goL one (n - 0) p1 e2).1, (goL one (n - 0) p1 e2).2)) := Lib.hid hR1.out
    clear L3 hR1
    obtain ⟨c0, c1⟩ := HB.out w2 L3'.out.fr
    go_wp2_with fail
    go_loopw [6, 7] (fun v i wr => ∃ (k : Nat) (A : Option Addr) (cap : Nat) (xs : List MO) (q : Nat) (eq : Int), k ≤ n ∧ i = .int .i64 k ∧ v = .slice A xs.length cap ∧ xs.length ≤ k ∧ Hid (LS2 EOb 3 [r] (PD w0 r s) q eq W 76 A cap xs wr) ∧ Hid (q ≤ s.size) ∧ Hid (eq ≠ 6) ∧ Hid (n ≤ 6000 ∨ wrongB eq = true) ∧ Hid (R = (xs.map MO.o ++ (goL one (n - k) q eq).1, (goL one (n - k) q eq).2))) (fun _ i _ => n - (intOf i).toNat)
    case atStart => exact ⟨0, none, 0, [], p1, e2, by omega, rfl, rfl, by simp, L3', hq1, hE2, hh6, hR0⟩
    case round =>
      obtain ⟨k, A, cap, xs, q, eq, hk, rfl, rfl, hxl, HL, hq, hq6, hh, hRk⟩ := hrel
      clear L3' hR0 c0 c1 hh6 hq1 hE2
      obtain ⟨c0, c1⟩ := HB.out wr HL.out.fr
      by_cases hkn : k < n
      · have d1 : decide ((k : Int) < (n : Int)) = true := decide_eq_true (by omega)
        have KW := Lib.hid (HWr.out wr q eq HL.out.pd)
        obtain ⟨j, hj⟩ : ∃ j, n - k = j + 1 := ⟨n - k - 1, by omega⟩
        have hj2 : n - (k + 1) = j := by omega
        rcases hb : wrongB eq with _ | _
        · rw [hb] at KW
          have hn6 : n ≤ 6000 := by
            rcases hh.out with h1 | h1
            · exact h1
            · rw [hb] at h1; cases h1
          have hRn : Hid (R = ((xs.map MO.o ++ [(one q eq).1]) ++ (goL one (n - (k + 1)) (one q eq).2.1 (one q eq).2.2).1, (goL one (n - (k + 1)) (one q eq).2.1 (one q eq).2.2).2)) := Lib.hid (by
            rw [hRk.out, hj, hj2]
            show (xs.map MO.o ++ (if wrongB eq then _ else _ : List SO × Nat × Int).1, (if wrongB eq then _ else _ : List SO × Nat × Int).2) = _
            rw [hb]
            simp)
          obtain ⟨hqn, hen⟩ := hone.out q eq hq.out hq6.out
          replace hqn := Lib.hid hqn
          replace hen := Lib.hid hen
          clear hRk hh hj hj2
          have HLr := Lib.hid (fun (w4 : World) (x : PD w0 r s q eq w4) (f : Fr [r] wr w4) => HL.out.read gOb x f)
          go_wp2_with fail
          refine KW.out.mono ?_
          rintro e w4 ⟨rfl, x4, f4⟩
          have L4 := Lib.hid (HLr.out w4 x4 f4)
          have KT := Lib.hid (HT2.out w4 q eq hq.out hq6.out x4 L4.out.fr)
          clear x4 f4 KW HLr HL
          unfold OP at KT
          generalize (one q eq).1 = y at *
          generalize (one q eq).2.1 = q2 at *
          generalize (one q eq).2.2 = e3 at *
          go_wp2_with fail
          refine KT.out.mono ?_
          rintro e w5 ⟨b, he, hpr, x5, f5, o5, n5⟩
          obtain rfl : e = .returned (.agg #[.string b.o.name, .string b.o.kinds, .slice b.mA b.o.marks.length b.mc]) := he
          have N5 := Lib.hid (L4.out.new n5)
          have L5 := Lib.hid (L4.out.read gOb x5 f5)
          have O5 := Lib.hid o5
          replace hpr := Lib.hid hpr
          clear x5 f5 KT L4 hq hq6 n5 o5
          go_wp2_with (at_builtin; refine wpList_row (us := [.string b.o.name, .string b.o.kinds, .slice b.mA b.o.marks.length b.mc]) rfl _ _ _ rfl (L5.out.sg.alloc _) Try.underlying23 Hi.out Hz0.out Hz1.out Hz2.out rfl rfl rfl rfl (row_cells _ _ [.string b.o.name, .string b.o.kinds, .slice b.mA b.o.marks.length b.mc]) (gOb.one b) (by omega) (by omega) ?_; intro A3 cap3 w6 hs6 f6 hf6; have L6 := Lib.hid (L5.out.push (rdr_pd w0 r s) gOb hrH.out O5.out N5.out hs6 f6 hf6); clear hs6 f6 hf6)
          have hxl2 : (xs ++ [b]).length = xs.length + 1 := by simp
          have hRm : Hid (R = ((xs ++ [b]).map MO.o ++ (goL one (n - (k + 1)) q2 e3).1, (goL one (n - (k + 1)) q2 e3).2)) := Lib.hid (by rw [List.map_append, List.map_singleton, hpr.out]; exact hRn.out)
          go_roundw
          case rel => exact ⟨k + 1, A3, cap3, xs ++ [b], q2, e3, by omega, by go_num, by rw [hxl2], by omega, L6, hqn, hen, Lib.hid (Or.inl hn6), hRm⟩
          case measure => simp [intOf]; omega
        · rw [hb] at KW
          have hRn : Hid (R = (xs.map MO.o, q, eq)) := Lib.hid (by
            rw [hRk.out, hj]
            show (xs.map MO.o ++ (if wrongB eq then _ else _ : List SO × Nat × Int).1, (if wrongB eq then _ else _ : List SO × Nat × Int).2) = _
            rw [hb]
            simp)
          clear hRk hh hj hj2
          have HLr := Lib.hid (fun (w4 : World) (x : PD w0 r s q eq w4) (f : Fr [r] wr w4) => HL.out.read gOb x f)
          go_wp2_with fail
          refine KW.out.mono ?_
          rintro e w4 ⟨rfl, x4, f4⟩
          have L4 := Lib.hid (HLr.out w4 x4 f4)
          clear x4 f4 KW HLr HL
          go_wp2_with fail
          go_ret
          rw [hRn.out]
          exact hEnd.out _ _ _ _ _ _ L4.out
      · obtain rfl : k = n := by omega
        have d1 : decide ((k : Int) < (k : Int)) = false := decide_eq_false (by omega)
        have hRn : Hid (R = (xs.map MO.o, q, eq)) := Lib.hid (by rw [hRk.out, Nat.sub_self]; simp [goL])
        go_wp2_with fail
        go_ret
        rw [hRn.out]
        exact hEnd.out _ _ _ _ _ _ HL.out
end Go.Proofs.Ytdmmkjijgoiecaa.re

/-
  record: the program's list of constraints, read.
-/
namespace Go.Proofs.Ytdmmkjijgoiecaa.re
open Go.RowKit Go.Shelf Go.Proofs.Ytdmmkjijgoiecaa.mem Go.Proofs.Ytdmmkjijgoiecaa.sy Go.Proofs.Ytdmmkjijgoiecaa.vr Go.Proofs.Ytdmmkjijgoiecaa.po

theorem info_co : (Try.prog.info? 84).map (fun i => (i.zero, i.size, i.bytes)) = some (some (.agg #[.int .i64 0, .string ⟨#[]⟩, .string ⟨#[]⟩, .int .i64 0, .string ⟨#[]⟩, .slice none 0 0]), 6, 88) := by kernel_rfl
theorem infp_co : ∃ i, Try.prog.info? 84 = some i ∧ i.zero = some (.agg #[.int .i64 0, .string ⟨#[]⟩, .string ⟨#[]⟩, .int .i64 0, .string ⟨#[]⟩, .slice none 0 0]) ∧ i.size = 6 ∧ i.bytes = 88 := by
  have h := info_co
  rcases hi : Try.prog.info? 84 with _ | i
  · rw [hi] at h; cases h
  · rw [hi] at h
    simp only [Option.map_some, Option.some.injEq, Prod.mk.injEq] at h
    exact ⟨i, rfl, h.1, h.2.1, h.2.2⟩

set_option maxRecDepth 100000 in
set_option maxHeartbeats 2000000 in
theorem list_co {w0 : World} {r pb : Nat} {s : ByteArray} {p : Nat} {er : Int} {one : Nat → Int → SC × Nat × Int} {w : World} (hs : s.size ≤ maxLen) (hps : p ≤ s.size) (h : PD w0 r s p er w) (he : er ≠ 6)
    (hone : Hid (∀ q e, q ≤ s.size → e ≠ 6 → (one q e).2.1 ≤ s.size ∧ (one q e).2.2 ≠ 6))
    (HT : Hid (∀ (w2 : World) (q : Nat) (e : Int), q ≤ s.size → e ≠ 6 → PD w0 r s q e w2 → Fr [r] w w2 → Calls Try.prog 34 #[rdV r pb] w2 (OP ECo MC.c r (PD w0 r s) (one q e).1 (one q e).2.1 (one q e).2.2 w2))) :
    Calls Try.prog 33 #[rdV r pb, .func (.func 34) #[rdV r pb] #[]] w (LP2 ECo 6 MC.c r (PD w0 r s) 84 (listL one s p er).1 (listL one s p er).2.1 (listL one s p er).2.2 w) := by
  have hW := h.alloc (.cells #[.pointer (some ⟨r, 0, none⟩), .pointer (some ⟨pb, 0, none⟩)] 70)
  have B := Box.new w 70 #[.pointer (some ⟨r, 0, none⟩), .pointer (some ⟨pb, 0, none⟩)]
  obtain ⟨W, hWe⟩ : ∃ W, Hid (W = w.alloc (.cells #[.pointer (some ⟨r, 0, none⟩), .pointer (some ⟨pb, 0, none⟩)] 70)) := ⟨_, Lib.hid rfl⟩
  have hne : w.heap.size ≠ r := by have := h.lt; omega
  have hEnd : Hid (∀ (w2 : World) A cap (xs : List MC) q e, LS2 ECo 6 [r] (PD w0 r s) q e W 84 A cap xs w2 → LP2 ECo 6 MC.c r (PD w0 r s) 84 (xs.map MC.c) q e w (.returned (.slice A xs.length cap)) w2) := Lib.hid (fun w2 A cap xs q e x => x.end_ hWe.out)
  have hf : Fr [] w W := by rw [hWe.out]; exact (Fr.refl [] w).alloc _
  have HT2 : Hid (∀ (w2 : World) (q : Nat) (e : Int), q ≤ s.size → e ≠ 6 → PD w0 r s q e w2 → Fr [r] W w2 → Calls Try.prog 34 #[rdV r pb] w2 (OP ECo MC.c r (PD w0 r s) (one q e).1 (one q e).2.1 (one q e).2.2 w2)) := Lib.hid (fun w2 q e a b c f => HT.out w2 q e a b c (hf.trans f (by simp) (fun x hx => Or.inl hx)))
  rw [← hWe.out] at hW B
  have hW0 : Hid (w0.heap.size ≤ W.heap.size) := Lib.hid hW.be.size
  have hrW : r < W.heap.size := hW.lt
  have hrH : Hid (r + 1 ≤ W.heap.size) := Lib.hid hrW
  have HB : Hid (∀ w2, Fr [r] W w2 → w2.cell? ⟨w.heap.size, 0, none⟩ = some (.pointer (some ⟨r, 0, none⟩)) ∧ w2.cell? ⟨w.heap.size, 1, none⟩ = some (.pointer (some ⟨pb, 0, none⟩))) := Lib.hid (fun w2 f => ⟨(B.kept f (by simpa using hne)).cell 0, (B.kept f (by simpa using hne)).cell 1⟩)
  have x0 : W.cell? ⟨w.heap.size, 0, none⟩ = some (.pointer (some ⟨r, 0, none⟩)) := B.cell 0
  have K := Lib.hid (rd_number W r s p er hW.rd hs hps)
  have HO1 : Hid (∀ w2, RD w2 r s (nP s p er) (nE s p er) → Fr [r] W w2 → LS2 ECo 6 [r] (PD w0 r s) (nP s p er) (nE s p er) W 84 none 0 [] w2) := Lib.hid (fun w2 x f => LS2.start (hW.of f x) f (by simpa using hrW))
  have HWr := Lib.hid (fun (w2 : World) (q : Nat) (e : Int) (x : PD w0 r s q e w2) => wrong_any (pb := pb) x)
  have hq1 := Lib.hid (nP_in s p er hps)
  have hE2 := Lib.hid (eL_ok s p er he)
  obtain ⟨R, hR⟩ : ∃ R, Hid (R = listL one s p er) := ⟨_, Lib.hid rfl⟩
  rw [← hR.out]
  have hR1 : Hid (R = goL one (nV s p er) (nP s p er) (eL s p er)) := Lib.hid hR.out
  have heL : Hid (eL s p er = if 6000 < nV s p er then fE (nE s p er) 4 else nE s p er) := Lib.hid rfl
  unfold DPost at K
  unfold PP at HWr
  have hh6 := Lib.hid (many_ok s p er he)
  clear hW B h hs hps hne hR he hf HT hrW
  generalize nP s p er = p1 at *
  generalize nE s p er = e1 at *
  generalize nV s p er = n at *
  generalize eL s p er = e2 at *
  obtain ⟨i0, hi0, hz0, hz1, hz2⟩ := infp_co
  have Hi := Lib.hid hi0
  have Hz0 := Lib.hid hz0
  have Hz1 := Lib.hid hz1
  have Hz2 := Lib.hid hz2
  clear hi0 hz0 hz1 hz2
  unfold rdV at HWr HT2 ⊢
  go_enter Try.func33, Try.ntmps33
  go_upto_region 1 with fail
  rw [← hWe.out]
  clear hWe
  generalize w.heap.size = bx at *
  go_wp2_with fail
  refine K.out.mono ?_
  rintro e w2 ⟨rfl, x2, f2⟩
  have L2 := Lib.hid (HO1.out w2 x2 f2)
  obtain ⟨c0, c1⟩ := HB.out w2 f2
  clear x2 f2 K x0 HO1
  by_cases h6 : 6000 < n
  · have d6 : decide (6000 < (n : Int)) = true := decide_eq_true (by omega)
    have he2 : e2 = fE e1 4 := by rw [heL.out, if_pos h6]
    have KF := Lib.hid (rd_fail w2 r s p1 e1 4 L2.out.pd.rd)
    rw [← he2] at KF
    unfold DPost at KF
    clear heL he2
    go_wp2_with fail
    refine KF.out.mono ?_
    rintro e w3 ⟨rfl, x3, f3⟩
    have L3 := Lib.hid (L2.out.read gCo (L2.out.pd.of f3 x3) f3)
    clear x3 f3 KF c0 c1 L2
    have L3' : Hid (LS2 ECo 6 [r] (PD w0 r s) p1 e2 W 84 none 0 [] w3) := L3
    have hR0 : Hid (R = (([] : List MC).map MC.c ++ (goL one (n - 0) p1 e2).1, (goL one (n - 0) p1 e2).2)) := Lib.hid hR1.out
    clear L3 hR1
    obtain ⟨c0, c1⟩ := HB.out w3 L3'.out.fr
    go_wp2_with fail
    go_loopw [6, 7] (fun v i wr => ∃ (k : Nat) (A : Option Addr) (cap : Nat) (xs : List MC) (q : Nat) (eq : Int), k ≤ n ∧ i = .int .i64 k ∧ v = .slice A xs.length cap ∧ xs.length ≤ k ∧ Hid (LS2 ECo 6 [r] (PD w0 r s) q eq W 84 A cap xs wr) ∧ Hid (q ≤ s.size) ∧ Hid (eq ≠ 6) ∧ Hid (n ≤ 6000 ∨ wrongB eq = true) ∧ Hid (R = (xs.map MC.c ++ (goL one (n - k) q eq).1, (goL one (n - k) q eq).2))) (fun _ i _ => n - (intOf i).toNat)
    case atStart => exact ⟨0, none, 0, [], p1, e2, by omega, rfl, rfl, by simp, L3', hq1, hE2, hh6, hR0⟩
    case round =>
      obtain ⟨k, A, cap, xs, q, eq, hk, rfl, rfl, hxl, HL, hq, hq6, hh, hRk⟩ := hrel
      clear L3' hR0 c0 c1 hh6 hq1 hE2
      obtain ⟨c0, c1⟩ := HB.out wr HL.out.fr
      by_cases hkn : k < n
      · have d1 : decide ((k : Int) < (n : Int)) = true := decide_eq_true (by omega)
        have KW := Lib.hid (HWr.out wr q eq HL.out.pd)
        obtain ⟨j, hj⟩ : ∃ j, n - k = j + 1 := ⟨n - k - 1, by omega⟩
        have hj2 : n - (k + 1) = j := by omega
        rcases hb : wrongB eq with _ | _
        · rw [hb] at KW
          have hn6 : n ≤ 6000 := by
            rcases hh.out with h1 | h1
            · exact h1
            · rw [hb] at h1; cases h1
          exact absurd h6 (by omega)
        · rw [hb] at KW
          have hRn : Hid (R = (xs.map MC.c, q, eq)) := Lib.hid (by
            rw [hRk.out, hj]
            show (xs.map MC.c ++ (if wrongB eq then _ else _ : List SC × Nat × Int).1, (if wrongB eq then _ else _ : List SC × Nat × Int).2) = _
            rw [hb]
            simp)
          clear hRk hh hj hj2
          have HLr := Lib.hid (fun (w4 : World) (x : PD w0 r s q eq w4) (f : Fr [r] wr w4) => HL.out.read gCo x f)
          go_wp2_with fail
          refine KW.out.mono ?_
          rintro e w4 ⟨rfl, x4, f4⟩
          have L4 := Lib.hid (HLr.out w4 x4 f4)
          clear x4 f4 KW HLr HL
          go_wp2_with fail
          go_ret
          rw [hRn.out]
          exact hEnd.out _ _ _ _ _ _ L4.out
      · obtain rfl : k = n := by omega
        have d1 : decide ((k : Int) < (k : Int)) = false := decide_eq_false (by omega)
        have hRn : Hid (R = (xs.map MC.c, q, eq)) := Lib.hid (by rw [hRk.out, Nat.sub_self]; simp [goL])
        go_wp2_with fail
        go_ret
        rw [hRn.out]
        exact hEnd.out _ _ _ _ _ _ HL.out
  · have d6 : decide (6000 < (n : Int)) = false := decide_eq_false (by omega)
    have he2 : e2 = e1 := by rw [heL.out, if_neg h6]
    subst he2
    have L3 := L2
    clear heL c0 c1 L2
    have L3' : Hid (LS2 ECo 6 [r] (PD w0 r s) p1 e2 W 84 none 0 [] w2) := L3
    have hR0 : Hid (R = (([] : List MC).map MC.c ++ (goL one (n - 0) p1 e2).1, (goL one (n - 0) p1 e2).2)) := Lib.hid hR1.out
    clear L3 hR1
    obtain ⟨c0, c1⟩ := HB.out w2 L3'.out.fr
    go_wp2_with fail
    go_loopw [6, 7] (fun v i wr => ∃ (k : Nat) (A : Option Addr) (cap : Nat) (xs : List MC) (q : Nat) (eq : Int), k ≤ n ∧ i = .int .i64 k ∧ v = .slice A xs.length cap ∧ xs.length ≤ k ∧ Hid (LS2 ECo 6 [r] (PD w0 r s) q eq W 84 A cap xs wr) ∧ Hid (q ≤ s.size) ∧ Hid (eq ≠ 6) ∧ Hid (n ≤ 6000 ∨ wrongB eq = true) ∧ Hid (R = (xs.map MC.c ++ (goL one (n - k) q eq).1, (goL one (n - k) q eq).2))) (fun _ i _ => n - (intOf i).toNat)
    case atStart => exact ⟨0, none, 0, [], p1, e2, by omega, rfl, rfl, by simp, L3', hq1, hE2, hh6, hR0⟩
    case round =>
      obtain ⟨k, A, cap, xs, q, eq, hk, rfl, rfl, hxl, HL, hq, hq6, hh, hRk⟩ := hrel
      clear L3' hR0 c0 c1 hh6 hq1 hE2
      obtain ⟨c0, c1⟩ := HB.out wr HL.out.fr
      by_cases hkn : k < n
      · have d1 : decide ((k : Int) < (n : Int)) = true := decide_eq_true (by omega)
        have KW := Lib.hid (HWr.out wr q eq HL.out.pd)
        obtain ⟨j, hj⟩ : ∃ j, n - k = j + 1 := ⟨n - k - 1, by omega⟩
        have hj2 : n - (k + 1) = j := by omega
        rcases hb : wrongB eq with _ | _
        · rw [hb] at KW
          have hn6 : n ≤ 6000 := by
            rcases hh.out with h1 | h1
            · exact h1
            · rw [hb] at h1; cases h1
          have hRn : Hid (R = ((xs.map MC.c ++ [(one q eq).1]) ++ (goL one (n - (k + 1)) (one q eq).2.1 (one q eq).2.2).1, (goL one (n - (k + 1)) (one q eq).2.1 (one q eq).2.2).2)) := Lib.hid (by
            rw [hRk.out, hj, hj2]
            show (xs.map MC.c ++ (if wrongB eq then _ else _ : List SC × Nat × Int).1, (if wrongB eq then _ else _ : List SC × Nat × Int).2) = _
            rw [hb]
            simp)
          obtain ⟨hqn, hen⟩ := hone.out q eq hq.out hq6.out
          replace hqn := Lib.hid hqn
          replace hen := Lib.hid hen
          clear hRk hh hj hj2
          have HLr := Lib.hid (fun (w4 : World) (x : PD w0 r s q eq w4) (f : Fr [r] wr w4) => HL.out.read gCo x f)
          go_wp2_with fail
          refine KW.out.mono ?_
          rintro e w4 ⟨rfl, x4, f4⟩
          have L4 := Lib.hid (HLr.out w4 x4 f4)
          have KT := Lib.hid (HT2.out w4 q eq hq.out hq6.out x4 L4.out.fr)
          clear x4 f4 KW HLr HL
          unfold OP at KT
          generalize (one q eq).1 = y at *
          generalize (one q eq).2.1 = q2 at *
          generalize (one q eq).2.2 = e3 at *
          go_wp2_with fail
          refine KT.out.mono ?_
          rintro e w5 ⟨b, he, hpr, x5, f5, o5, n5⟩
          obtain rfl : e = .returned (.agg #[.int .i64 b.c.op, .string b.c.a, .string b.c.b, .int .i64 b.c.k, .string b.c.tag, .slice b.aA b.c.args.length b.ac]) := he
          have N5 := Lib.hid (L4.out.new n5)
          have L5 := Lib.hid (L4.out.read gCo x5 f5)
          have O5 := Lib.hid o5
          replace hpr := Lib.hid hpr
          clear x5 f5 KT L4 hq hq6 n5 o5
          go_wp2_with (at_builtin; refine wpList_row (us := [.int .i64 b.c.op, .string b.c.a, .string b.c.b, .int .i64 b.c.k, .string b.c.tag, .slice b.aA b.c.args.length b.ac]) rfl _ _ _ rfl (L5.out.sg.alloc _) Try.underlying25 Hi.out Hz0.out Hz1.out Hz2.out rfl rfl rfl rfl (row_cells _ _ [.int .i64 b.c.op, .string b.c.a, .string b.c.b, .int .i64 b.c.k, .string b.c.tag, .slice b.aA b.c.args.length b.ac]) (gCo.one b) (by omega) (by omega) ?_; intro A3 cap3 w6 hs6 f6 hf6; have L6 := Lib.hid (L5.out.push (rdr_pd w0 r s) gCo hrH.out O5.out N5.out hs6 f6 hf6); clear hs6 f6 hf6)
          have hxl2 : (xs ++ [b]).length = xs.length + 1 := by simp
          have hRm : Hid (R = ((xs ++ [b]).map MC.c ++ (goL one (n - (k + 1)) q2 e3).1, (goL one (n - (k + 1)) q2 e3).2)) := Lib.hid (by rw [List.map_append, List.map_singleton, hpr.out]; exact hRn.out)
          go_roundw
          case rel => exact ⟨k + 1, A3, cap3, xs ++ [b], q2, e3, by omega, by go_num, by rw [hxl2], by omega, L6, hqn, hen, Lib.hid (Or.inl hn6), hRm⟩
          case measure => simp [intOf]; omega
        · rw [hb] at KW
          have hRn : Hid (R = (xs.map MC.c, q, eq)) := Lib.hid (by
            rw [hRk.out, hj]
            show (xs.map MC.c ++ (if wrongB eq then _ else _ : List SC × Nat × Int).1, (if wrongB eq then _ else _ : List SC × Nat × Int).2) = _
            rw [hb]
            simp)
          clear hRk hh hj hj2
          have HLr := Lib.hid (fun (w4 : World) (x : PD w0 r s q eq w4) (f : Fr [r] wr w4) => HL.out.read gCo x f)
          go_wp2_with fail
          refine KW.out.mono ?_
          rintro e w4 ⟨rfl, x4, f4⟩
          have L4 := Lib.hid (HLr.out w4 x4 f4)
          clear x4 f4 KW HLr HL
          go_wp2_with fail
          go_ret
          rw [hRn.out]
          exact hEnd.out _ _ _ _ _ _ L4.out
      · obtain rfl : k = n := by omega
        have d1 : decide ((k : Int) < (k : Int)) = false := decide_eq_false (by omega)
        have hRn : Hid (R = (xs.map MC.c, q, eq)) := Lib.hid (by rw [hRk.out, Nat.sub_self]; simp [goL])
        go_wp2_with fail
        go_ret
        rw [hRn.out]
        exact hEnd.out _ _ _ _ _ _ HL.out
end Go.Proofs.Ytdmmkjijgoiecaa.re
