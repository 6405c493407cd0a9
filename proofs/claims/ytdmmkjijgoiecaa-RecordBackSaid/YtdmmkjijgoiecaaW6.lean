import Derived.Test.YtdmmkjijgoiecaaW4
set_option linter.all false
/-
  record: the reference's reader: a text, how many.
-/
namespace Go.Proofs.Ytdmmkjijgoiecaa.re
open Go.RowKit Go.Shelf Go.Proofs.Ytdmmkjijgoiecaa.mem Go.Proofs.Ytdmmkjijgoiecaa.sy Go.Proofs.Ytdmmkjijgoiecaa.vr Go.Proofs.Ytdmmkjijgoiecaa.po

/-- the reference's reader, with its pool -/
structure QD (w0 : World) (x r : Nat) (pA : Option Addr) (pc : Nat) (m : List (List UInt8)) (s : ByteArray) (p : Nat) (er : Int) (w : World) : Prop where
  rr : RR w r s p er
  bx : Box w x 93 #[.slice pA m.length pc, .pointer (some ⟨r, 0, none⟩)]
  be : Below w0.heap.size w0 w
  ge : w0.heap.size ≤ r
  gx : r < x

def QPP (D : Nat → Int → World → Prop) (r : Nat) (v : Value) (p : Nat) (er : Int) (w : World) (e : Ending) (w' : World) : Prop := e = .returned v ∧ D p er w' ∧ Fr [r] w w'

section
variable {w0 : World} {x r : Nat} {pA : Option Addr} {pc : Nat} {m : List (List UInt8)} {s : ByteArray} {p : Nat} {er : Int}

theorem QD.lt {w : World} (h : QD w0 x r pA pc m s p er w) : r < w.heap.size := h.rr.box.lt
theorem QD.of {w w' : World} {q : Nat} {e2 : Int} (h : QD w0 x r pA pc m s p er w) (f : Fr [r] w w') (y : RR w' r s q e2) : QD w0 x r pA pc m s q e2 w' :=
  ⟨y, h.bx.kept f (by have := h.gx; rw [List.mem_singleton]; omega), below_fr h.be f (fun g hg => by rw [List.mem_singleton] at hg; rw [hg]; exact h.ge), h.ge, h.gx⟩
theorem QD.kept {w w' : World} {G : List Nat} (h : QD w0 x r pA pc m s p er w) (f : Fr G w w') (hG : ∀ g ∈ G, x < g) : QD w0 x r pA pc m s p er w' :=
  ⟨⟨h.rr.box.kept f (fun hx => by have := hG r hx; have := h.gx; omega)⟩, h.bx.kept f (fun hx => by have := hG x hx; omega), below_fr h.be f (fun g hg => by have := hG g hg; have := h.ge; have := h.gx; omega), h.ge, h.gx⟩
theorem rdr_qd (w0 : World) (x r : Nat) (pA : Option Addr) (pc : Nat) (m : List (List UInt8)) (s : ByteArray) : Rdr (x + 1) (QD w0 x r pA pc m s) := ⟨by
  intro q e w w' G h f hg
  exact h.kept f (fun g hx => by have := hg g hx; omega)⟩

theorem QD.cells {w : World} (h : QD w0 x r pA pc m s p er w) : w.cell? ⟨x, 0, none⟩ = some (.slice pA m.length pc) ∧ w.cell? ⟨x, 1, none⟩ = some (.pointer (some ⟨r, 0, none⟩)) ∧ w.cell? ⟨r, 2, none⟩ = some (.int .i64 er) :=
  ⟨h.bx.cell 0, h.bx.cell 1, h.rr.box.cell 2⟩

theorem tN_bad (h6 : er ≠ 6) (hE : nE s p er ≠ 0) : tN m s p er = nE s p er ∧ tT m s p er = ⟨#[]⟩ := by
  have e1 : tN m s p er = nE s p er := by
    unfold tN
    split
    · rfl
    · unfold fE; rw [if_neg hE]
  refine ⟨e1, ?_⟩
  unfold tT
  rw [e1, wrong_iff _ (nE_ok s p er h6), decide_eq_true hE]
  rfl
theorem tN_in (hE : nE s p er = 0) (hn : nV s p er < m.length) : tN m s p er = 0 ∧ tT m s p er = ByteArray.mk (m[nV s p er]).toArray := by
  have e1 : tN m s p er = 0 := by
    unfold tN
    rw [if_pos hn, hE]
  refine ⟨e1, ?_⟩
  unfold tT
  rw [e1, List.getElem?_eq_getElem hn]
  rfl
theorem tN_out (hE : nE s p er = 0) (hn : ¬ nV s p er < m.length) : tN m s p er = 2 ∧ tT m s p er = ⟨#[]⟩ := by
  have e1 : tN m s p er = 2 := by
    unfold tN
    rw [if_neg hn, hE]
    rfl
  refine ⟨e1, ?_⟩
  unfold tT
  rw [e1]
  rfl

set_option maxRecDepth 100000 in
theorem qtext_any {w : World} (hp : Rd w0 pA (m.map encStr)) (hm : m.length ≤ 1000000) (hs : s.size ≤ maxLen) (hps : p ≤ s.size) (he6 : er ≠ 6) (h : QD w0 x r pA pc m s p er w) :
    Calls Try.prog 36 #[.pointer (some ⟨x, 0, none⟩)] w (QPP (QD w0 x r pA pc m s) r (.string (tT m s p er)) (nP s p er) (tN m s p er) w) := by
  obtain ⟨x0, x1, x2⟩ := h.cells
  have K := Lib.hid (rr_number w r s p er h.rr hs hps)
  have HO : Hid (∀ w2, RR w2 r s (nP s p er) (nE s p er) → Fr [r] w w2 → QD w0 x r pA pc m s (nP s p er) (nE s p er) w2) := Lib.hid (fun w2 y f => h.of f y)
  have HO2 : Hid (∀ (wa wb : World) (e : Int), QD w0 x r pA pc m s (nP s p er) e wa → Fr [r] wa wb → RR wb r s (nP s p er) 2 → QD w0 x r pA pc m s (nP s p er) 2 wb) := Lib.hid (fun wa wb e a f y => a.of f y)
  have HV : Hid (nE s p er ≠ 0 → tN m s p er = nE s p er ∧ tT m s p er = ⟨#[]⟩) := Lib.hid (fun hE => tN_bad he6 hE)
  have HI : Hid (nE s p er = 0 → ∀ hn : nV s p er < m.length, tN m s p er = 0 ∧ tT m s p er = ByteArray.mk (m[nV s p er]).toArray) := Lib.hid (fun hE hn => tN_in hE hn)
  have HU : Hid (nE s p er = 0 → ¬ nV s p er < m.length → tN m s p er = 2 ∧ tT m s p er = ⟨#[]⟩) := Lib.hid (fun hE hn => tN_out hE hn)
  have HR : Hid (∀ w2, Below w0.heap.size w0 w2 → Rd w2 pA (m.map encStr)) := Lib.hid (fun w2 b => hp.below b)
  unfold QPost at K
  clear h hp hs hps he6 x2
  generalize tT m s p er = V at *
  generalize tN m s p er = T at *
  generalize nP s p er = p1 at *
  generalize nE s p er = e1 at *
  generalize nV s p er = n at *
  go_enter Try.func36, Try.ntmps36
  go_wp2_with fail
  refine K.out.mono ?_
  rintro e w2 ⟨rfl, y2, f2⟩
  have D2 := Lib.hid (HO.out w2 y2 f2)
  have F2 := Lib.hid f2
  obtain ⟨c0, c1, c2⟩ := D2.out.cells
  clear y2 f2 K x0 x1 HO
  by_cases hE : e1 = 0
  · subst hE
    by_cases hn : n < m.length
    · have d1 : decide (m.length ≤ n) = false := decide_eq_false (by omega)
      obtain ⟨hT, hV⟩ := HI.out rfl hn
      replace hT := Lib.hid hT
      replace hV := Lib.hid hV
      obtain ⟨g, off, ha, hl, hc⟩ := HR.out w2 D2.out.be (by rw [List.length_map]; omega)
      subst ha
      have c3 := hc n (by rw [List.length_map]; exact hn)
      rw [List.getElem_map] at c3
      unfold encStr at c3
      clear HI HU HV HR hc HO2
      generalize ByteArray.mk m[n].toArray = y at *
      go_wp2_with fail
      go_ret
      exact ⟨by rw [hV.out]; rfl, by rw [hT.out]; exact D2.out, F2.out⟩
    · have d1 : decide (m.length ≤ n) = true := decide_eq_true (by omega)
      obtain ⟨hT, hV⟩ := HU.out rfl hn
      replace hT := Lib.hid hT
      replace hV := Lib.hid hV
      have v2 := D2.out.rr.box.free 2
      have D3 := Lib.hid (HO2.out w2 (w2.setCell ⟨r, 2, none⟩ (.int .i64 2)) 0 D2.out ((Fr.refl [r] w2).setCell (p := ⟨r, 2, none⟩) (Or.inl (by simp)) _) (D2.out.rr.setE 2))
      have F3 := Lib.hid (F2.out.trans ((Fr.refl [r] w2).setCell (p := ⟨r, 2, none⟩) (Or.inl (by simp)) (.int .i64 2)) (fun x hx => Or.inl hx) (fun x hx => Or.inl hx))
      clear HI HU HV HR HO2 hn
      go_wp2_with fail
      go_ret
      exact ⟨by rw [hV.out]; rfl, by rw [hT.out]; exact D3.out, F3.out⟩
  · have d0 : (e1 != 0) = true := by simpa using hE
    obtain ⟨hT, hV⟩ := HV.out hE
    replace hT := Lib.hid hT
    replace hV := Lib.hid hV
    clear HI HU HV HR HO2 hE
    go_wp2_with fail
    go_ret
    exact ⟨by rw [hV.out]; rfl, by rw [hT.out]; exact D2.out, F2.out⟩

set_option maxRecDepth 100000 in
theorem qmany_any {w : World} (hs : s.size ≤ maxLen) (hps : p ≤ s.size) (h : QD w0 x r pA pc m s p er w) :
    Calls Try.prog 38 #[.pointer (some ⟨x, 0, none⟩)] w (QPP (QD w0 x r pA pc m s) r (.int .i64 ((if 6000 < nV s p er then 0 else nV s p er : Nat) : Int)) (nP s p er) (eL s p er) w) := by
  obtain ⟨x0, x1, x2⟩ := h.cells
  have K := Lib.hid (rr_number w r s p er h.rr hs hps)
  have HO : Hid (∀ w2, RR w2 r s (nP s p er) (nE s p er) → Fr [r] w w2 → QD w0 x r pA pc m s (nP s p er) (nE s p er) w2) := Lib.hid (fun w2 y f => h.of f y)
  have heL : Hid (eL s p er = if 6000 < nV s p er then fE (nE s p er) 4 else nE s p er) := Lib.hid rfl
  have HO2 : Hid (∀ (wa wb : World), QD w0 x r pA pc m s (nP s p er) (nE s p er) wa → Fr [r] wa wb → RR wb r s (nP s p er) (fE (nE s p er) 4) → QD w0 x r pA pc m s (nP s p er) (fE (nE s p er) 4) wb) := Lib.hid (fun wa wb a f y => a.of f y)
  unfold QPost at K
  clear h hs hps x2 x0
  generalize nP s p er = p1 at *
  generalize nE s p er = e1 at *
  generalize nV s p er = n at *
  generalize eL s p er = e2 at *
  by_cases h6 : 6000 < n
  · rw [if_pos h6] at heL ⊢
    have d6 : decide (6000 < (n : Int)) = true := decide_eq_true (by omega)
    go_enter Try.func38, Try.ntmps38
    go_wp2_with fail
    refine K.out.mono ?_
    rintro e w2 ⟨rfl, y2, f2⟩
    have D2 := Lib.hid (HO.out w2 y2 f2)
    have F2 := Lib.hid f2
    obtain ⟨c0, c1, c2⟩ := D2.out.cells
    have KF := Lib.hid (rr_fail w2 r s p1 e1 4 D2.out.rr)
    unfold QPost at KF
    clear y2 f2 K x1 HO
    go_wp2_with fail
    refine KF.out.mono ?_
    rintro e w3 ⟨rfl, y3, f3⟩
    have D3 := Lib.hid (HO2.out w2 w3 D2.out f3 y3)
    have F3 := Lib.hid (F2.out.trans (G := [r]) f3 (fun x hx => Or.inl hx) (fun x hx => Or.inl hx))
    clear y3 f3 KF HO2
    go_wp2_with fail
    go_ret
    exact ⟨rfl, by rw [heL.out]; exact D3.out, F3.out⟩
  · rw [if_neg h6] at heL ⊢
    have d6 : decide (6000 < (n : Int)) = false := decide_eq_false (by omega)
    go_enter Try.func38, Try.ntmps38
    go_wp2_with fail
    refine K.out.mono ?_
    rintro e w2 ⟨rfl, y2, f2⟩
    have D2 := Lib.hid (HO.out w2 y2 f2)
    have F2 := Lib.hid f2
    clear y2 f2 K x1 HO HO2
    go_wp2_with fail
    go_ret
    exact ⟨rfl, by rw [heL.out]; exact D2.out, F2.out⟩
end
end Go.Proofs.Ytdmmkjijgoiecaa.re

/-
  record: the reference's reader: a list of texts.
-/
namespace Go.Proofs.Ytdmmkjijgoiecaa.re
open Go.RowKit Go.Shelf Go.Proofs.Ytdmmkjijgoiecaa.mem Go.Proofs.Ytdmmkjijgoiecaa.sy Go.Proofs.Ytdmmkjijgoiecaa.vr Go.Proofs.Ytdmmkjijgoiecaa.po

def nM (s : ByteArray) (p : Nat) (er : Int) : Nat := if 6000 < nV s p er then 0 else nV s p er
theorem nM_le (s : ByteArray) (p : Nat) (er : Int) : nM s p er ≤ 6000 := by unfold nM; split <;> omega
theorem list_many {α : Type} (one : Nat → Int → α × Nat × Int) (s : ByteArray) (p : Nat) (er : Int) (he : er ≠ 6) : listL one s p er = goL one (nM s p er) (nP s p er) (eL s p er) := by
  unfold listL nM
  split
  · rename_i h
    have hw : wrongB (eL s p er) = true := (many_ok s p er he).resolve_left (by omega)
    obtain ⟨k, hk⟩ : ∃ k, nV s p er = k + 1 := ⟨nV s p er - 1, by omega⟩
    rw [hk]
    show (if wrongB _ then _ else _) = _
    rw [hw]
    rfl
  · rfl
theorem go_end {α : Type} (one : Nat → Int → α × Nat × Int) (k q : Nat) (e : Int) (h6 : e ≠ 6) (h0 : e ≠ 0) : goL one k q e = ([], q, e) := by
  cases k with
  | zero => rfl
  | succ k =>
    show (if wrongB e then _ else _) = _
    rw [wrong_iff e h6, decide_eq_true h0]
    rfl
theorem go_step {α : Type} (one : Nat → Int → α × Nat × Int) (k q : Nat) : goL one (k + 1) q 0 = ((one q 0).1 :: (goL one k (one q 0).2.1 (one q 0).2.2).1, (goL one k (one q 0).2.1 (one q 0).2.2).2) := by
  show (if wrongB 0 then _ else _) = _
  rw [show wrongB 0 = false from rfl]
  rfl
/-- a round behind n - k more -/
theorem go_round {α β : Type} (one : Nat → Int → α × Nat × Int) (pr : β → α) {n k q : Nat} {xs : List β} {R : List α × Nat × Int} (hk : k < n) (hR : R = (xs.map pr ++ (goL one (n - k) q 0).1, (goL one (n - k) q 0).2)) : R = ((xs.map pr ++ [(one q 0).1]) ++ (goL one (n - (k + 1)) (one q 0).2.1 (one q 0).2.2).1, (goL one (n - (k + 1)) (one q 0).2.1 (one q 0).2.2).2) := by
  rw [hR, show n - k = (n - (k + 1)) + 1 by omega, go_step]
  simp
theorem go_stop {α β : Type} (one : Nat → Int → α × Nat × Int) (pr : β → α) {n k q : Nat} {e : Int} {xs : List β} {R : List α × Nat × Int} (h6 : e ≠ 6) (h0 : e ≠ 0) (hR : R = (xs.map pr ++ (goL one (n - k) q e).1, (goL one (n - k) q e).2)) : R = (xs.map pr, q, e) := by
  rw [hR, go_end one _ q e h6 h0]
  simp
theorem go_done {α β : Type} (one : Nat → Int → α × Nat × Int) (pr : β → α) {n q : Nat} {e : Int} {xs : List β} {R : List α × Nat × Int} (hR : R = (xs.map pr ++ (goL one (n - n) q e).1, (goL one (n - n) q e).2)) : R = (xs.map pr, q, e) := by
  rw [hR, Nat.sub_self]
  simp [goL]

theorem info_st1 : (Try.prog.info? 9).map (fun i => (i.zero, i.size, i.bytes)) = some (some (.string ⟨#[]⟩), 1, 16) := by kernel_rfl

section
variable {w0 : World} {x r : Nat} {pA : Option Addr} {pc : Nat} {m : List (List UInt8)} {s : ByteArray} {p : Nat} {er : Int}

set_option maxRecDepth 100000 in
set_option maxHeartbeats 2000000 in
theorem qtexts_any {w : World} (hp : Rd w0 pA (m.map encStr)) (hm : m.length ≤ 1000000) (hs : s.size ≤ maxLen) (hps : p ≤ s.size) (he6 : er ≠ 6) (h : QD w0 x r pA pc m s p er w) :
    Calls Try.prog 37 #[.pointer (some ⟨x, 0, none⟩)] w (LP2 ETx 1 (fun s : ByteArray => s) r (QD w0 x r pA pc m s) 9 (listL (oneT m s) s p er).1 (listL (oneT m s) s p er).2.1 (listL (oneT m s) s p er).2.2 w) := by
  have K := Lib.hid (qmany_any hs hps h)
  have HT : Hid (∀ (w2 : World) (q : Nat) (e : Int), q ≤ s.size → e ≠ 6 → QD w0 x r pA pc m s q e w2 → Calls Try.prog 36 #[.pointer (some ⟨x, 0, none⟩)] w2 (QPP (QD w0 x r pA pc m s) r (.string (oneT m s q e).1) (oneT m s q e).2.1 (oneT m s q e).2.2 w2)) := Lib.hid (fun w2 q e hq he d => qtext_any hp hm hs hq he d)
  have hone := Lib.hid (ok_T m s)
  unfold Okp at hone
  have hq1 := Lib.hid (nP_in s p er hps)
  have hE2 := Lib.hid (eL_ok s p er he6)
  have hn6 := nM_le s p er
  have hr : Hid (∀ y ∈ [r], y < w.heap.size) := Lib.hid (by have := h.lt; simpa using this)
  have hx : Hid (x + 1 ≤ w.heap.size) := Lib.hid h.bx.lt
  rw [list_many (oneT m s) s p er he6]
  change Hid (Calls _ _ _ w (QPP (QD w0 x r pA pc m s) r (.int .i64 (nM s p er : Int)) (nP s p er) (eL s p er) w)) at K
  obtain ⟨x0, x1, x2⟩ := h.cells
  unfold QPP at K HT
  clear h hp hm hs hps he6 x2
  generalize oneT m s = one at *
  obtain ⟨R, hR⟩ : ∃ R, Hid (R = goL one (nM s p er) (nP s p er) (eL s p er)) := ⟨_, Lib.hid rfl⟩
  rw [← hR.out]
  generalize nM s p er = n at *
  generalize nP s p er = p1 at *
  generalize eL s p er = e1 at *
  obtain ⟨i0, hi0, hz0, hz1, hz2⟩ := info_sp
  have Hi := Lib.hid hi0
  have Hz0 := Lib.hid hz0
  have Hz1 := Lib.hid hz1
  have Hz2 := Lib.hid hz2
  clear hi0 hz0 hz1 hz2
  go_enter Try.func37, Try.ntmps37
  go_wp2_with fail
  refine K.out.mono ?_
  rintro e w2 ⟨rfl, d2, f2⟩
  have L2 : Hid (LS2 ETx 1 [r] (QD w0 x r pA pc m s) p1 e1 w 9 none 0 [] w2) := Lib.hid (LS2.start d2 f2 hr.out)
  have hR0 : Hid (R = (([] : List ByteArray).map (fun s : ByteArray => s) ++ (goL one (n - 0) p1 e1).1, (goL one (n - 0) p1 e1).2)) := Lib.hid hR.out
  clear d2 f2 K x0 x1 hR
  go_wp2_with fail
  go_loopw [3, 5] (fun v i wr => ∃ (k : Nat) (A : Option Addr) (cap : Nat) (xs : List ByteArray) (q : Nat) (eq : Int), k ≤ n ∧ i = .int .i64 k ∧ v = .slice A xs.length cap ∧ xs.length ≤ k ∧ Hid (LS2 ETx 1 [r] (QD w0 x r pA pc m s) q eq w 9 A cap xs wr) ∧ Hid (q ≤ s.size) ∧ Hid (eq ≠ 6) ∧ Hid (R = (xs.map (fun s : ByteArray => s) ++ (goL one (n - k) q eq).1, (goL one (n - k) q eq).2))) (fun _ i _ => n - (intOf i).toNat)
  case atStart => exact ⟨0, none, 0, [], p1, e1, by omega, rfl, rfl, by simp, L2, hq1, hE2, hR0⟩
  case round =>
    obtain ⟨k, A, cap, xs, q, eq, hk, rfl, rfl, hxl, HL, hq, hq6, hRk⟩ := hrel
    clear L2 hR0 hq1 hE2
    obtain ⟨c0, c1, c2⟩ := HL.out.pd.cells
    by_cases hkn : k < n
    · have d1 : decide ((k : Int) < (n : Int)) = true := decide_eq_true (by omega)
      by_cases h0 : eq = 0
      · subst h0
        have hRn := Lib.hid (go_round one (fun s : ByteArray => s) hkn hRk.out)
        obtain ⟨hqn, hen⟩ := hone.out q 0 hq.out hq6.out
        replace hqn := Lib.hid hqn
        replace hen := Lib.hid hen
        have KT := Lib.hid (HT.out wr q 0 hq.out hq6.out HL.out.pd)
        clear hRk
        generalize (one q 0).1 = y at *
        generalize (one q 0).2.1 = q2 at *
        generalize (one q 0).2.2 = e3 at *
        go_wp2_with fail
        refine KT.out.mono ?_
        rintro e w5 ⟨rfl, d5, f5⟩
        have L5 := Lib.hid (HL.out.read gTx d5 f5)
        clear d5 f5 KT HL hq hq6 c0 c1 c2
        go_wp2_with (at_builtin; refine wpList_row (us := [.string y]) rfl _ _ _ rfl (L5.out.sg.alloc _) Try.underlying22 Hi.out Hz0.out Hz1.out Hz2.out rfl rfl rfl rfl (row_cells _ _ [.string y]) (gTx.one y) (by omega) (by omega) ?_; intro A3 cap3 w6 hs6 f6 hf6; have L6 := Lib.hid (L5.out.push (rdr_qd w0 x r pA pc m s) gTx hx.out (b := y) trivial (fun y hy => by cases hy) hs6 f6 hf6); clear hs6 f6 hf6)
        have hxl2 : (xs ++ [y]).length = xs.length + 1 := by simp
        have hRm : Hid (R = ((xs ++ [y]).map (fun s : ByteArray => s) ++ (goL one (n - (k + 1)) q2 e3).1, (goL one (n - (k + 1)) q2 e3).2)) := Lib.hid (by rw [List.map_append, List.map_singleton]; exact hRn.out)
        go_roundw
        case rel => exact ⟨k + 1, A3, cap3, xs ++ [y], q2, e3, by omega, by go_num, by rw [hxl2], by omega, L6, hqn, hen, hRm⟩
        case measure => simp [intOf]; omega
      · have d2 : (eq == 0) = false := by simpa using h0
        have hRn := Lib.hid (go_stop one (fun s : ByteArray => s) hq6.out h0 hRk.out)
        go_wp2_with fail
        go_ret
        rw [hRn.out]
        exact HL.out.fin
    · obtain rfl : k = n := by omega
      have d1 : decide ((k : Int) < (k : Int)) = false := decide_eq_false (by omega)
      have hRn := Lib.hid (go_done one (fun s : ByteArray => s) hRk.out)
      go_wp2_with fail
      go_ret
      rw [hRn.out]
      exact HL.out.fin
end
end Go.Proofs.Ytdmmkjijgoiecaa.re

/-
  record: the reference's reader: an object.
-/
namespace Go.Proofs.Ytdmmkjijgoiecaa.re
open Go.RowKit Go.Shelf Go.Proofs.Ytdmmkjijgoiecaa.mem Go.Proofs.Ytdmmkjijgoiecaa.sy Go.Proofs.Ytdmmkjijgoiecaa.vr Go.Proofs.Ytdmmkjijgoiecaa.po

/-- a struct that is being made behind a reader -/
structure SW2 (D : Nat → Int → World → Prop) (F : List Nat) (p : Nat) (er : Int) (W : World) (t : TypeId) (b : Nat) (cs : Array Value) (w : World) : Prop where
  pd : D p er w
  fr : Fr F W w
  bx : Box w b t cs
  nw : W.heap.size ≤ b
  hF : ∀ x ∈ F, x < W.heap.size

section
variable {D : Nat → Int → World → Prop} {F : List Nat} {lo p q : Nat} {er e2 : Int} {W w w2 : World} {t : TypeId} {b : Nat} {cs : Array Value}
theorem SW2.read (h : SW2 D F p er W t b cs w) (x : D q e2 w2) (f : Fr F w w2) : SW2 D F q e2 W t b cs w2 :=
  ⟨x, h.fr.trans f (fun x hx => Or.inl hx) (fun x hx => Or.inl hx), h.bx.kept f (fun hb => by have := h.hF b hb; have := h.nw; omega), h.nw, h.hF⟩
theorem SW2.put (R : Rdr lo D) (hlo : lo ≤ W.heap.size) (h : SW2 D F p er W t b cs w) (i : Nat) (v : Value) : SW2 D F p er W t b (cs.setIfInBounds i v) (w.setCell ⟨b, i, none⟩ v) :=
  ⟨R.kept h.pd ((Fr.refl [b] w).setCell (p := ⟨b, i, none⟩) (Or.inl (by simp)) v) (fun x hx => by rw [List.mem_singleton] at hx; have := h.nw; omega), h.fr.setCell (p := ⟨b, i, none⟩) (Or.inr h.nw) v, h.bx.put i v, h.nw, h.hF⟩
theorem SW2.new (R : Rdr lo D) (x : D p er w) (f : Fr F W w) (hF : ∀ x ∈ F, x < W.heap.size) (t : TypeId) (cs : Array Value) : SW2 D F p er W t w.heap.size cs (w.alloc (.cells cs t)) :=
  ⟨R.kept x ((Fr.refl [] w).alloc _) (by simp), f.alloc _, Box.new w t cs, f.size, hF⟩
end

theorem Fr.more {w w' : World} {r : Nat} {F : List Nat} (f : Fr [r] w w') (hr : r ∈ F) : Fr F w w' := (Fr.refl F w).trans f (fun x hx => Or.inl hx) (fun x hx => Or.inl (by rw [List.mem_singleton] at hx; subst hx; exact hr))

theorem qobj_end {w W w6 wr : World} {r bx ob lo : Nat} {q : Nat} {eq : Int} {a b : ByteArray} {A : Option Addr} {cap : Nat} {xs : List Mk} {e : TypeId} {D : Nat → Int → World → Prop} {z0 z1 z2 : Value} (R : Rdr lo D) (hbx : w.heap.size = bx) (hf : Fr [] w W) (fw : Fr [r] W wr) (hWx : lo ≤ W.heap.size ∧ r < W.heap.size) (hlo : lo ≤ w6.heap.size ∧ lo ≤ ob ∧ r ≠ ob ∧ bx < ob) (sa : a.size ≤ maxLen) (sb : b.size ≤ maxLen) (HL : LS2 EMk 2 [r, ob] D q eq w6 e A cap xs wr) (B : Box wr bx 76 #[z0, z1, z2]) (hlb : lo ≤ bx) :
    OP EOb MO.o r D (⟨a, b, xs.map (fun m : Mk => m)⟩ : SO) q eq w (.returned (.agg #[.string a, .string b, .slice A xs.length cap])) (((wr.setCell ⟨bx, 0, none⟩ (.string a)).setCell ⟨bx, 1, none⟩ (.string b)).setCell ⟨bx, 2, none⟩ (.slice A xs.length cap)) ∧ Box (((wr.setCell ⟨bx, 0, none⟩ (.string a)).setCell ⟨bx, 1, none⟩ (.string b)).setCell ⟨bx, 2, none⟩ (.slice A xs.length cap)) bx 76 #[.string a, .string b, .slice A xs.length cap] := by
  have f : Fr [bx] wr (((wr.setCell ⟨bx, 0, none⟩ (.string a)).setCell ⟨bx, 1, none⟩ (.string b)).setCell ⟨bx, 2, none⟩ (.slice A xs.length cap)) :=
    (((Fr.refl [bx] wr).setCell (p := ⟨bx, 0, none⟩) (Or.inl (by simp)) _).setCell (p := ⟨bx, 1, none⟩) (Or.inl (by simp)) _).setCell (p := ⟨bx, 2, none⟩) (Or.inl (by simp)) _
  refine ⟨?_, ((B.put 0 (.string a)).put 1 (.string b)).put 2 (.slice A xs.length cap)⟩
  have f1 : Fr [r] w wr := hf.trans fw (by simp) (fun y hy => Or.inl hy)
  have f2 := f1.trans (G := [r]) f (fun y hy => Or.inl hy) (fun y hy => Or.inr (by rw [List.mem_singleton] at hy; omega))
  have hn : ∀ g ∈ blk A, g ∉ [bx] := fun g hg h1 => by
    rw [List.mem_singleton] at h1
    have := HL.nw g hg
    have := HL.hr ob (by simp)
    omega
  have sg := HL.sg.kept f hn
  refine ⟨⟨⟨a, b, xs⟩, A, cap⟩, rfl, by simp, R.kept HL.pd f (fun y hy => by rw [List.mem_singleton] at hy; omega), f2, ⟨⟨sa, sb, sg_tbl (f := mkRow) (fun _ => rfl) (by decide) sg, Nat.le_trans sg.le sg.max, fun y hy => (HL.ok y hy).1.1, fun y hy => (HL.ok y hy).1.2, sg.le⟩, fun g hg => sg.lt g hg⟩, fun y hy => ?_⟩
  have a1 := HL.nw y hy
  have a2 := HL.hr ob (by simp)
  omega

section
variable {w0 : World} {x r : Nat} {pA : Option Addr} {pc : Nat} {m : List (List UInt8)} {s : ByteArray} {p : Nat} {er : Int}

set_option maxRecDepth 100000 in
set_option maxHeartbeats 4000000 in
theorem qobj_op {w : World} (hp : Rd w0 pA (m.map encStr)) (hm : m.length ≤ 1000000) (hml : ∀ x ∈ m, x.length ≤ maxLen) (hs : s.size ≤ maxLen) (hps : p ≤ s.size) (he6 : er ≠ 6) (h : QD w0 x r pA pc m s p er w) :
    Calls Try.prog 39 #[.pointer (some ⟨x, 0, none⟩)] w (OP EOb MO.o r (QD w0 x r pA pc m s) (oneO m s p er).1 (oneO m s p er).2.1 (oneO m s p er).2.2 w) := by
  have R := rdr_qd w0 x r pA pc m s
  obtain ⟨W, hWe⟩ : ∃ W, Hid (W = w.alloc (.cells #[.string ⟨#[]⟩, .string ⟨#[]⟩, .slice none 0 0] 76)) := ⟨_, Lib.hid rfl⟩
  have hW : QD w0 x r pA pc m s p er W := by rw [hWe.out]; exact R.kept h ((Fr.refl [] w).alloc _) (by simp)
  have hf : Hid (Fr [] w W) := Lib.hid (by rw [hWe.out]; exact (Fr.refl [] w).alloc _)
  have B1 : Box W w.heap.size 76 #[.string ⟨#[]⟩, .string ⟨#[]⟩, .slice none 0 0] := by rw [hWe.out]; exact Box.new _ _ _
  have hxl := h.bx.lt
  have hrl := h.lt
  have hWz : Hid (w.heap.size < W.heap.size) := Lib.hid B1.lt
  have hxb : Hid (x + 1 ≤ w.heap.size) := Lib.hid hxl
  have n1 : w.heap.size ≠ r := by omega
  have HB : Hid (∀ w2, Fr [r] W w2 → Box w2 w.heap.size 76 #[.string ⟨#[]⟩, .string ⟨#[]⟩, .slice none 0 0]) := Lib.hid (fun w2 f => B1.kept f (by simpa using n1))
  have HR := Lib.hid R
  have HT : Hid (∀ (w2 : World) (q : Nat) (e : Int), q ≤ s.size → e ≠ 6 → QD w0 x r pA pc m s q e w2 → Calls Try.prog 36 #[.pointer (some ⟨x, 0, none⟩)] w2 (QPP (QD w0 x r pA pc m s) r (.string (tT m s q e)) (nP s q e) (tN m s q e) w2)) := Lib.hid (fun w2 q e hq he d => qtext_any hp hm hs hq he d)
  have HN : Hid (∀ (w2 : World) (q : Nat) (e : Int), q ≤ s.size → QD w0 x r pA pc m s q e w2 → Calls Try.prog 40 #[.pointer (some ⟨r, 0, none⟩)] w2 (QPP (QD w0 x r pA pc m s) r (.int .i64 (nV s q e)) (nP s q e) (nE s q e) w2)) := Lib.hid (fun w2 q e hq d => (rr_number w2 r s q e d.rr hs hq).mono (fun e w' k => ⟨k.1, d.of k.2.2 k.2.1, k.2.2⟩))
  have HM : Hid (∀ (w2 : World) (q : Nat) (e : Int), q ≤ s.size → QD w0 x r pA pc m s q e w2 → Calls Try.prog 38 #[.pointer (some ⟨x, 0, none⟩)] w2 (QPP (QD w0 x r pA pc m s) r (.int .i64 (nM s q e : Int)) (nP s q e) (eL s q e) w2)) := Lib.hid (fun w2 q e hq d => qmany_any hs hq d)
  have hone := Lib.hid (ok_M m s)
  unfold Okp at hone
  have q1 := Lib.hid (nP_in s p er hps)
  have q2 := Lib.hid (nP_in s (nP s p er) (tN m s p er) q1.out)
  have q3 := Lib.hid (nP_in s (nP s (nP s p er) (tN m s p er)) (tN m s (nP s p er) (tN m s p er)) q2.out)
  have E0 := Lib.hid he6
  have E1 := Lib.hid (tN_ok m s p er he6)
  have E2 := Lib.hid (tN_ok m s (nP s p er) (tN m s p er) E1.out)
  have E3 := Lib.hid (eL_ok s (nP s (nP s p er) (tN m s p er)) (tN m s (nP s p er) (tN m s p er)) E2.out)
  have hn6 := nM_le s (nP s (nP s p er) (tN m s p er)) (tN m s (nP s p er) (tN m s p er))
  have K1 := Lib.hid (HT.out W p er hps he6 hW)
  have sa : Hid ((tT m s p er).size ≤ maxLen) := Lib.hid (tT_size m s _ _ hml)
  have sb : Hid ((tT m s (nP s p er) (tN m s p er)).size ≤ maxLen) := Lib.hid (tT_size m s _ _ hml)
  have hOK : Hid (∀ q e, q ≤ s.size → ∀ w9 : World, EMk.ok w9 (oneM m s q e).1) := Lib.hid (fun q e hq _ => ⟨tT_size m s _ _ hml, nV_wf s q e hq⟩)
  have hWx : Hid (x + 1 ≤ W.heap.size ∧ r < W.heap.size) := Lib.hid ⟨hW.bx.lt, hW.lt⟩
  unfold OP oneO
  dsimp only
  have hLm := list_many (oneM m s) s (nP s (nP s p er) (tN m s p er)) (tN m s (nP s p er) (tN m s p er)) E2.out
  rw [hLm]
  have hM1 : Hid (∀ q e, (oneM m s q e).1 = ⟨(nV s q e : Nat), tT m s (nP s q e) (nE s q e)⟩ ∧ (oneM m s q e).2.1 = nP s (nP s q e) (nE s q e) ∧ (oneM m s q e).2.2 = tN m s (nP s q e) (nE s q e)) := Lib.hid (fun q e => ⟨rfl, rfl, rfl⟩)
  have hQ : Hid (∀ p e, p ≤ s.size → nP s p e ≤ s.size) := Lib.hid (fun p e hp => nP_in s p e hp)
  have hNE : Hid (∀ p e, e ≠ 6 → nE s p e ≠ 6) := Lib.hid (fun p e he => nE_ok s p e he)
  have HK2 := Lib.hid (fun (w3 : World) (d : QD w0 x r pA pc m s (nP s p er) (tN m s p er) w3) => HT.out w3 _ _ q1.out E1.out d)
  have HK3 := Lib.hid (fun (w3 : World) (d : QD w0 x r pA pc m s (nP s (nP s p er) (tN m s p er)) (tN m s (nP s p er) (tN m s p er)) w3) => HM.out w3 _ _ q2.out d)
  clear hp hm hml hs hps h hW B1 hxl hrl n1 he6 R hLm E0 E1 E2 q1 q2 HM
  unfold QPP at K1 HT HN HK2 HK3
  generalize tT m s p er = a at *
  generalize nP s p er = p1 at *
  generalize tN m s p er = e1 at *
  generalize tT m s p1 e1 = b at *
  generalize nP s p1 e1 = p2 at *
  generalize tN m s p1 e1 = e2 at *
  generalize nM s p2 e2 = n at *
  generalize nP s p2 e2 = p3 at *
  generalize eL s p2 e2 = e3 at *
  obtain ⟨RR, hRR⟩ : ∃ RR, Hid (RR = goL (oneM m s) n p3 e3) := ⟨_, Lib.hid rfl⟩
  rw [← hRR.out]
  generalize oneM m s = one at *
  obtain ⟨i0, hi0, hz0, hz1, hz2⟩ := infp_mk
  have Hi := Lib.hid hi0
  have Hz0 := Lib.hid hz0
  have Hz1 := Lib.hid hz1
  have Hz2 := Lib.hid hz2
  clear hi0 hz0 hz1 hz2
  go_enter Try.func39, Try.ntmps39
  go_upto_region 1 with fail
  rw [← hWe.out]
  clear hWe
  generalize hbx : w.heap.size = bx at *
  replace hbx := Lib.hid hbx
  go_wp2_with fail
  refine K1.out.mono ?_
  rintro e w2 ⟨rfl, y2, f2⟩
  have S3 := Lib.hid (SW2.new HR.out y2 f2 (by simpa using hWx.out.2) 76 #[.string a, .string ⟨#[]⟩, .slice none 0 0])
  clear y2 f2 K1
  go_upto_region 2 with fail
  generalize w2.alloc (.cells #[.string a, .string ⟨#[]⟩, .slice none 0 0] 76) = w3 at *
  generalize w2.heap.size = ob at *
  have K2 := Lib.hid (HK2.out w3 S3.out.pd)
  go_wp2_with fail
  refine K2.out.mono ?_
  rintro e w4 ⟨rfl, y4, f4⟩
  have S4 := Lib.hid (S3.out.read y4 f4)
  have c4 := S4.out.bx.cell 1
  have g4 := S4.out.bx.free 1
  clear y4 f4 K2 S3 HK2
  go_upto_region 3 with fail
  have S5 := Lib.hid (SW2.put HR.out hWx.out.1 S4.out 1 (.string b))
  generalize w4.setCell ⟨ob, 1, none⟩ (.string b) = w5 at *
  clear c4 g4 S4
  have K3 := Lib.hid (HK3.out w5 S5.out.pd)
  go_wp2_with fail
  refine K3.out.mono ?_
  rintro e w6 ⟨rfl, y6, f6⟩
  have S6 := Lib.hid (S5.out.read y6 f6)
  clear y6 f6 K3 S5 HK3
  have hF : Hid (∀ y ∈ [r, ob], y < w6.heap.size) := Lib.hid (fun y hy => by
    have a1 := S6.out.bx.lt
    have a2 := S6.out.fr.size
    have a3 := hWx.out.2
    simp only [List.mem_cons, List.not_mem_nil, or_false] at hy
    omega)
  have hlb : Hid (x + 1 ≤ bx) := hxb
  have hlo6 : Hid (x + 1 ≤ w6.heap.size ∧ x + 1 ≤ ob ∧ r ≠ ob ∧ bx < ob) := Lib.hid (by
    have a1 := S6.out.fr.size
    have a2 := S6.out.nw
    have a3 := hWx.out
    have a4 := hWz.out
    omega)
  have L6 : Hid (LS2 EMk 2 [r, ob] (QD w0 x r pA pc m s) p3 e3 w6 98 none 0 [] w6) := Lib.hid (LS2.start S6.out.pd (Fr.refl _ _) hF.out)
  have hR0 : Hid (RR = (([] : List Mk).map (fun m : Mk => m) ++ (goL one (n - 0) p3 e3).1, (goL one (n - 0) p3 e3).2)) := Lib.hid hRR.out
  have B6 : Hid (Box w6 ob 76 #[.string a, .string b, .slice none ([] : List Mk).length 0]) := Lib.hid S6.out.bx
  have hfw : Hid (Fr [r] W w6) := Lib.hid S6.out.fr
  have hob : Hid (W.heap.size ≤ ob) := Lib.hid S6.out.nw
  clear hRR S6
  go_wp2_with fail
  go_loopw [5] (fun i wr => ∃ (k : Nat) (A : Option Addr) (cap : Nat) (xs : List Mk) (q : Nat) (eq : Int), k ≤ n ∧ i = .int .i64 k ∧ xs.length ≤ k ∧ Hid (LS2 EMk 2 [r, ob] (QD w0 x r pA pc m s) q eq w6 98 A cap xs wr) ∧ Hid (Box wr ob 76 #[.string a, .string b, .slice A xs.length cap]) ∧ Hid (q ≤ s.size) ∧ Hid (eq ≠ 6) ∧ Hid (RR = (xs.map (fun m : Mk => m) ++ (goL one (n - k) q eq).1, (goL one (n - k) q eq).2))) (fun i _ => n - (intOf i).toNat)
  case atStart => exact ⟨0, none, 0, [], p3, e3, by omega, rfl, by simp, L6, B6, q3, E3, hR0⟩
  case round =>
    obtain ⟨k, A, cap, xs, q, eq, hk, rfl, hxl, HL, HBo, hq, hq6, hRk⟩ := hrel
    clear L6 hR0 B6 q3 E3
    obtain ⟨c0, c1, c2⟩ := HL.out.pd.cells
    by_cases hkn : k < n
    · have d1 : decide ((k : Int) < (n : Int)) = true := decide_eq_true (by omega)
      by_cases h0 : eq = 0
      · subst h0
        have hRn := Lib.hid (go_round one (fun m : Mk => m) hkn hRk.out)
        obtain ⟨hqn, hen⟩ := hone.out q 0 hq.out hq6.out
        replace hqn := Lib.hid hqn
        replace hen := Lib.hid hen
        have hOk := Lib.hid (hOK.out q 0 hq.out)
        obtain ⟨m1, m2, m3⟩ := hM1.out q 0
        rw [m1, m2, m3] at hRn
        rw [m2] at hqn
        rw [m3] at hen
        rw [m1] at hOk
        clear m1 m2 m3
        have KN := Lib.hid (HN.out wr q 0 hq.out HL.out.pd)
        have KT := Lib.hid (fun w5 (d : QD w0 x r pA pc m s (nP s q 0) (nE s q 0) w5) => HT.out w5 (nP s q 0) (nE s q 0) (hQ.out q 0 hq.out) (hNE.out q 0 hq6.out) d)
        clear hRk
        generalize nV s q 0 = at1 at *
        generalize nP s q 0 = q1 at *
        generalize nE s q 0 = ee1 at *
        generalize tT m s q1 ee1 = tg at *
        generalize nP s q1 ee1 = q2 at *
        generalize tN m s q1 ee1 = ee2 at *
        go_wp2_with fail
        refine KN.out.mono ?_
        rintro e wa ⟨rfl, da, fa⟩
        have Sa := Lib.hid (SW2.new HR.out da fa (fun y hy => Nat.lt_of_lt_of_le (hF.out y (by rw [List.mem_singleton] at hy; subst hy; simp)) HL.out.fr.size) 98 #[.int .i64 (at1 : Int), .string ⟨#[]⟩])
        clear da fa KN c0 c1 c2
        go_upto_region 8 with fail
        generalize wa.alloc (.cells #[.int .i64 (at1 : Int), .string ⟨#[]⟩] 98) = wb at *
        generalize wa.heap.size = mb at *
        have KT2 := Lib.hid (KT.out wb Sa.out.pd)
        go_wp2_with fail
        refine KT2.out.mono ?_
        rintro e wc ⟨rfl, dc, fc⟩
        have Sc := Lib.hid (Sa.out.read dc fc)
        have c4 := Sc.out.bx.cell 1
        have g4 := Sc.out.bx.free 1
        clear dc fc KT2 Sa KT
        go_upto_region 9 with fail
        have Sd := Lib.hid (SW2.put HR.out (Nat.le_trans hlo6.out.1 HL.out.fr.size) Sc.out 1 (.string tg))
        have Frr : Hid (Fr [r] wr (wc.setCell ⟨mb, 1, none⟩ (.string tg))) := Lib.hid Sd.out.fr
        generalize wc.setCell ⟨mb, 1, none⟩ (.string tg) = wd at *
        clear c4 g4 Sc
        have L8 := Lib.hid (HL.out.read gMk Sd.out.pd (Fr.more Frr.out (show r ∈ [r, ob] by simp)))
        have Bo8 := Lib.hid (HBo.out.kept Frr.out (by have := hlo6.out.2.2.1; simpa using this.symm))
        have HBk : Hid (∀ o w9, Fr (blk A) (wd.alloc o) w9 → Box w9 ob 76 #[.string a, .string b, .slice A xs.length cap]) := Lib.hid (fun o w9 f => (Bo8.out.kept ((Fr.refl [] wd).alloc o) (by simp)).kept f (fun hx => by
          have a1 := L8.out.nw ob hx
          have a2 := hF.out ob (by simp)
          omega))
        have e0 : wd.cell? ⟨mb, 0, none⟩ = some (.int .i64 (at1 : Int)) := Sd.out.bx.cell 0
        have e1 : wd.cell? ⟨mb, 1, none⟩ = some (.string tg) := Sd.out.bx.cell 1
        have e2 : wd.cell? ⟨ob, 2, none⟩ = some (.slice A xs.length cap) := Bo8.out.cell 2
        clear HL HBo Frr Sd Bo8 hq hq6
        go_wp2_with (at_builtin; refine wpList_row (us := [.int .i64 (at1 : Int), .string tg]) rfl _ _ _ rfl (L8.out.sg.alloc _) Try.underlying74 Hi.out Hz0.out Hz1.out Hz2.out rfl rfl rfl rfl (row_cells _ _ [.int .i64 (at1 : Int), .string tg]) (gMk.one ⟨(at1 : Int), tg⟩) (by omega) (by omega) ?_; intro A3 cap3 w9 hs6 f6 hf6; have L9 := Lib.hid (L8.out.push HR.out gMk hlo6.out.1 (b := ⟨(at1 : Int), tg⟩) (hOk.out _) (fun y hy => by cases hy) hs6 f6 hf6); have B9 := Lib.hid (HBk.out _ _ f6); have c9 := B9.out.cell 2; have v9 := B9.out.free 2; clear hs6 f6 hf6)
        have hxl2 : (xs ++ [(⟨(at1 : Int), tg⟩ : Mk)]).length = xs.length + 1 := by simp
        have hRm : Hid (RR = ((xs ++ [(⟨(at1 : Int), tg⟩ : Mk)]).map (fun m : Mk => m) ++ (goL one (n - (k + 1)) q2 ee2).1, (goL one (n - (k + 1)) q2 ee2).2)) := Lib.hid (by rw [List.map_append, List.map_singleton]; exact hRn.out)
        have fs : Fr [ob] w9 (w9.setCell ⟨ob, 2, none⟩ (.slice A3 (xs.length + 1) cap3)) := (Fr.refl [ob] w9).setCell (p := ⟨ob, 2, none⟩) (Or.inl (by simp)) _
        have L10 : Hid (LS2 EMk 2 [r, ob] (QD w0 x r pA pc m s) q2 ee2 w6 98 A3 cap3 (xs ++ [(⟨(at1 : Int), tg⟩ : Mk)]) (w9.setCell ⟨ob, 2, none⟩ (.slice A3 (xs.length + 1) cap3))) := Lib.hid (L9.out.read gMk (HR.out.kept L9.out.pd fs (fun y hy => by rw [List.mem_singleton] at hy; have := hlo6.out.2.1; omega)) (Fr.more fs (show ob ∈ [r, ob] by simp)))
        have B10 : Hid (Box (w9.setCell ⟨ob, 2, none⟩ (.slice A3 (xs.length + 1) cap3)) ob 76 #[.string a, .string b, .slice A3 (xs ++ [(⟨(at1 : Int), tg⟩ : Mk)]).length cap3]) := Lib.hid (by rw [hxl2]; exact B9.out.put 2 (.slice A3 (xs.length + 1) cap3))
        clear fs c9 v9
        go_roundw
        case rel => exact ⟨k + 1, A3, cap3, xs ++ [(⟨(at1 : Int), tg⟩ : Mk)], q2, ee2, by omega, by go_num, by omega, L10, B10, hqn, hen, hRm⟩
        case measure => simp [intOf]; omega
      · have d2 : (eq == 0) = false := by simpa using h0
        have hRn := Lib.hid (go_stop one (fun m : Mk => m) hq6.out h0 hRk.out)
        have e0 : wr.cell? ⟨ob, 0, none⟩ = some (.string a) := HBo.out.cell 0
        have e1 : wr.cell? ⟨ob, 1, none⟩ = some (.string b) := HBo.out.cell 1
        have e2 : wr.cell? ⟨ob, 2, none⟩ = some (.slice A xs.length cap) := HBo.out.cell 2
        have FW : Hid (Fr [r] W wr) := Lib.hid (hfw.out.trans HL.out.fr (fun y hy => Or.inl hy) (fun y hy => by
          simp only [List.mem_cons, List.not_mem_nil, or_false] at hy
          rcases hy with rfl | rfl
          · exact Or.inl (by simp)
          · exact Or.inr hob.out))
        have B7 := Lib.hid (HB.out wr FW.out)
        have z0 : wr.cell? ⟨bx, 0, none⟩ = some (.string ⟨#[]⟩) := B7.out.cell 0
        have z1 : wr.cell? ⟨bx, 1, none⟩ = some (.string ⟨#[]⟩) := B7.out.cell 1
        have z2 : wr.cell? ⟨bx, 2, none⟩ = some (.slice none 0 0) := B7.out.cell 2
        have v0 := B7.out.free 0
        have v1 := B7.out.free 1
        have v2 := B7.out.free 2
        obtain ⟨hX, hBx⟩ := qobj_end (q := q) (eq := eq) (a := a) (b := b) HR.out hbx.out hf.out FW.out hWx.out hlo6.out sa.out sb.out HL.out B7.out hlb.out
        have HBx := Lib.hid hBx
        have HX := Lib.hid hX
        clear HL HBo hq hq6 FW B7 hX hBx hRk
        go_wp2_with fail
        refine bodyPost_ret (results_cell_row rfl _ _ _ _ _ _ _ rfl HBx.out uO rfl (by kernel_rfl)) rfl ?_
        rw [hRn.out]
        exact HX.out
    · obtain rfl : k = n := by omega
      have d1 : decide ((k : Int) < (k : Int)) = false := decide_eq_false (by omega)
      have hRn := Lib.hid (go_done one (fun m : Mk => m) hRk.out)
      have e0 : wr.cell? ⟨ob, 0, none⟩ = some (.string a) := HBo.out.cell 0
      have e1 : wr.cell? ⟨ob, 1, none⟩ = some (.string b) := HBo.out.cell 1
      have e2 : wr.cell? ⟨ob, 2, none⟩ = some (.slice A xs.length cap) := HBo.out.cell 2
      have FW : Hid (Fr [r] W wr) := Lib.hid (hfw.out.trans HL.out.fr (fun y hy => Or.inl hy) (fun y hy => by
        simp only [List.mem_cons, List.not_mem_nil, or_false] at hy
        rcases hy with rfl | rfl
        · exact Or.inl (by simp)
        · exact Or.inr hob.out))
      have B7 := Lib.hid (HB.out wr FW.out)
      have z0 : wr.cell? ⟨bx, 0, none⟩ = some (.string ⟨#[]⟩) := B7.out.cell 0
      have z1 : wr.cell? ⟨bx, 1, none⟩ = some (.string ⟨#[]⟩) := B7.out.cell 1
      have z2 : wr.cell? ⟨bx, 2, none⟩ = some (.slice none 0 0) := B7.out.cell 2
      have v0 := B7.out.free 0
      have v1 := B7.out.free 1
      have v2 := B7.out.free 2
      obtain ⟨hX, hBx⟩ := qobj_end (q := q) (eq := eq) (a := a) (b := b) HR.out hbx.out hf.out FW.out hWx.out hlo6.out sa.out sb.out HL.out B7.out hlb.out
      have HBx := Lib.hid hBx
      have HX := Lib.hid hX
      clear HL HBo hq hq6 FW B7 hX hBx hRk
      go_wp2_with fail
      refine bodyPost_ret (results_cell_row rfl _ _ _ _ _ _ _ rfl HBx.out uO rfl (by kernel_rfl)) rfl ?_
      rw [hRn.out]
      exact HX.out
end
end Go.Proofs.Ytdmmkjijgoiecaa.re
