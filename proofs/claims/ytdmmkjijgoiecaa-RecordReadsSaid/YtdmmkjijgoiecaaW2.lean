import Derived.Test.YtdmmkjijgoiecaaW1
set_option linter.all false
/-
  record: the program's reader: wrong, a text.
-/
namespace Go.Proofs.Ytdmmkjijgoiecaa.re
open Go.RowKit Go.Shelf Go.Proofs.Ytdmmkjijgoiecaa.mem Go.Proofs.Ytdmmkjijgoiecaa.vr Go.Proofs.Ytdmmkjijgoiecaa.po

/-- a reader that stands at p, with what is wrong so far -/
structure PD (w0 : World) (r : Nat) (s : ByteArray) (p : Nat) (er : Int) (w : World) : Prop where
  rd : RD w r s p er
  be : Below w0.heap.size w0 w
  ge : w0.heap.size ≤ r

def wrongB (er : Int) : Bool := er != 0 && er != 6
def rdV (r pb : Nat) : Value := .agg #[.pointer (some ⟨r, 0, none⟩), .pointer (some ⟨pb, 0, none⟩)]
def PP (w0 : World) (r : Nat) (s : ByteArray) (v : Value) (p : Nat) (er : Int) (w : World) (e : Ending) (w' : World) : Prop := e = .returned v ∧ PD w0 r s p er w' ∧ Fr [r] w w'

section
variable {w0 : World} {r pb : Nat} {s : ByteArray} {p : Nat} {er : Int}

theorem PD.lt {w : World} (h : PD w0 r s p er w) : r < w.heap.size := h.rd.box.lt
theorem PD.of {w w' : World} {q : Nat} {e2 : Int} (h : PD w0 r s p er w) (f : Fr [r] w w') (x : RD w' r s q e2) : PD w0 r s q e2 w' :=
  ⟨x, h.be.trans (f.below (fun g hg => by rw [List.mem_singleton] at hg; rw [hg]; exact h.ge) h.be.size), h.ge⟩
theorem PD.alloc {w : World} (h : PD w0 r s p er w) (o : Obj) : PD w0 r s p er (w.alloc o) := h.of ((Fr.refl [r] w).alloc o) ⟨h.rd.box.kept ((Fr.refl [] w).alloc o) (by simp)⟩

set_option maxRecDepth 100000 in
theorem wrong_any {w : World} (h : PD w0 r s p er w) :
    Calls Try.prog 60 #[rdV r pb] w (PP w0 r s (.bool (wrongB er)) p er w) := by
  have hW := h.alloc (.cells #[.pointer (some ⟨r, 0, none⟩), .pointer (some ⟨pb, 0, none⟩)] 70)
  have B := Box.new w 70 #[.pointer (some ⟨r, 0, none⟩), .pointer (some ⟨pb, 0, none⟩)]
  obtain ⟨W, hWe⟩ : ∃ W, Hid (W = w.alloc (.cells #[.pointer (some ⟨r, 0, none⟩), .pointer (some ⟨pb, 0, none⟩)] 70)) := ⟨_, Lib.hid rfl⟩
  have hf : Hid (Fr [r] w W) := Lib.hid (by rw [hWe.out]; exact (Fr.refl [r] w).alloc _)
  rw [← hWe.out] at hW B
  have K := Lib.hid (rd_done W r s p er hW.rd)
  have HW := Lib.hid hW
  have hfin : Hid (∀ w2, RD w2 r s p er → Fr [r] W w2 → PP w0 r s (.bool (wrongB er)) p er w (.returned (.bool (wrongB er))) w2) := Lib.hid (fun w2 x f => ⟨rfl, HW.out.of f x, hf.out.trans f (fun x hx => Or.inl hx) (fun x hx => Or.inl hx)⟩)
  have x0 : W.cell? ⟨w.heap.size, 0, none⟩ = some (.pointer (some ⟨r, 0, none⟩)) := B.cell 0
  have hv : Hid (wrongB er = (dE s p er != 0 && dE s p er != 6)) := Lib.hid (by
    unfold wrongB dE
    by_cases he : er = 0
    · subst he
      by_cases hp : p < s.size <;> simp [hp]
    · rw [if_neg (fun h => he h.1)])
  rw [hv.out] at hfin ⊢
  unfold DPost at K
  clear hW B h HW hf hv
  unfold rdV
  generalize dE s p er = d at *
  go_enter Try.func60, Try.ntmps60
  go_upto_region 1 with fail
  rw [← hWe.out]
  clear hWe
  generalize w.heap.size = bm at *
  go_wp2_with fail
  refine K.out.mono ?_
  rintro e w2 ⟨rfl, x2, f2⟩
  have H2 := Lib.hid (hfin.out w2 x2 f2)
  clear x2 f2 K x0 hfin
  by_cases h0 : d = 0
  · subst h0
    go_wp2_with fail
    go_ret
    exact H2.out
  · have d0 : (d != 0) = true := by simpa using h0
    by_cases h6 : d = 6
    · subst h6
      go_wp2_with fail
      go_ret
      exact H2.out
    · have d6 : (d != 6) = true := by simpa using h6
      have e3 : Hid ((d != 0 && d != 6) = true) := Lib.hid (by rw [d0, d6]; rfl)
      go_wp2_with fail
      go_ret
      have h := H2.out
      rw [e3.out] at h ⊢
      exact h

/-- a text read: what is said, where the reader stands then -/
def tN (m : List (List UInt8)) (s : ByteArray) (p : Nat) (er : Int) : Int := if nV s p er < m.length then nE s p er else fE (nE s p er) 2
def tT (m : List (List UInt8)) (s : ByteArray) (p : Nat) (er : Int) : ByteArray := if wrongB (tN m s p er) then ⟨#[]⟩ else (m[nV s p er]?.map fun x => ByteArray.mk x.toArray).getD ⟨#[]⟩

set_option maxRecDepth 100000 in
theorem text_any {pA : Option Addr} {pc : Nat} {m : List (List UInt8)} {w : World} (hp : Pl w0 pb pA pc m) (hm : m.length ≤ 1000000) (hs : s.size ≤ maxLen) (hps : p ≤ s.size) (h : PD w0 r s p er w) :
    Calls Try.prog 27 #[rdV r pb] w (PP w0 r s (.string (tT m s p er)) (nP s p er) (tN m s p er) w) := by
  have hW := h.alloc (.cells #[.pointer (some ⟨r, 0, none⟩), .pointer (some ⟨pb, 0, none⟩)] 70)
  have B := Box.new w 70 #[.pointer (some ⟨r, 0, none⟩), .pointer (some ⟨pb, 0, none⟩)]
  obtain ⟨W, hWe⟩ : ∃ W, Hid (W = w.alloc (.cells #[.pointer (some ⟨r, 0, none⟩), .pointer (some ⟨pb, 0, none⟩)] 70)) := ⟨_, Lib.hid rfl⟩
  have hf : Hid (Fr [r] w W) := Lib.hid (by rw [hWe.out]; exact (Fr.refl [r] w).alloc _)
  have hne : w.heap.size ≠ r := by have := h.lt; omega
  rw [← hWe.out] at hW B
  have K := Lib.hid (rd_number W r s p er hW.rd hs hps)
  have HW := Lib.hid hW
  have HB := Lib.hid B
  have x0 : W.cell? ⟨w.heap.size, 0, none⟩ = some (.pointer (some ⟨r, 0, none⟩)) := B.cell 0
  have HP : Hid (∀ w1, PD w0 r s (nP s p er) (nE s p er) w1 → Pl w1 pb pA pc m) := Lib.hid (fun w1 x => hp.below x.be)
  have HC : Hid (∀ w1, Fr [r] W w1 → w1.cell? ⟨w.heap.size, 0, none⟩ = some (.pointer (some ⟨r, 0, none⟩)) ∧ w1.cell? ⟨w.heap.size, 1, none⟩ = some (.pointer (some ⟨pb, 0, none⟩))) := Lib.hid (fun w1 f => ⟨(HB.out.kept f (by simpa using hne)).cell 0, (HB.out.kept f (by simpa using hne)).cell 1⟩)
  have HT := Lib.hid (fun a b c (f : Fr [r] a b) (k : Fr [r] b c) => f.trans (G := [r]) k (fun x hx => Or.inl hx) (fun x hx => Or.inl hx))
  have HN : Hid (nE s p er = nE s p er) := Lib.hid rfl
  unfold DPost at K
  have HO := Lib.hid (fun (a b : World) (q : Nat) (e1 e2 : Int) (x : PD w0 r s q e1 a) (f : Fr [r] a b) (y : RD b r s q e2) => x.of f y)
  have HO1 : Hid (∀ w2, RD w2 r s (nP s p er) (nE s p er) → Fr [r] W w2 → PD w0 r s (nP s p er) (nE s p er) w2) := Lib.hid (fun w2 x f => hW.of f x)
  obtain ⟨V, hV⟩ : ∃ V, Hid (V = tT m s p er) := ⟨_, Lib.hid rfl⟩
  obtain ⟨E, hE⟩ : ∃ E, Hid (E = tN m s p er) := ⟨_, Lib.hid rfl⟩
  have HVi : Hid (∀ h : nV s p er < m.length, E = nE s p er ∧ (wrongB (nE s p er) = false → V = ByteArray.mk (m[nV s p er]).toArray) ∧ (wrongB (nE s p er) = true → V = ⟨#[]⟩)) := Lib.hid (fun h => by
    have h1 : E = nE s p er := by rw [hE.out]; unfold tN; rw [if_pos h]
    refine ⟨h1, fun hb => ?_, fun hb => ?_⟩
    · rw [hV.out]; unfold tT; rw [← hE.out, h1, hb, List.getElem?_eq_getElem h]; rfl
    · rw [hV.out]; unfold tT; rw [← hE.out, h1, hb]; rfl)
  have HVo : Hid (¬ nV s p er < m.length → E = fE (nE s p er) 2 ∧ V = ⟨#[]⟩) := Lib.hid (fun h => by
    refine ⟨by rw [hE.out]; unfold tN; rw [if_neg h], ?_⟩
    rw [hV.out]; unfold tT; rw [List.getElem?_eq_none (by omega)]
    split <;> rfl)
  rw [← hV.out, ← hE.out]
  clear hW B h HW hp HN hV hE
  generalize nP s p er = p1 at *
  generalize nE s p er = e1 at *
  generalize nV s p er = n at *
  unfold rdV
  go_enter Try.func27, Try.ntmps27
  go_upto_region 1 with fail
  rw [← hWe.out]
  clear hWe HB hne
  generalize w.heap.size = bm at *
  go_wp2_with fail
  refine K.out.mono ?_
  rintro e w2 ⟨rfl, x2, f2⟩
  have D2 := Lib.hid (HO1.out w2 x2 f2)
  have F2 := Lib.hid f2
  obtain ⟨c0, c1⟩ := HC.out w2 f2
  have P2 := Lib.hid (HP.out w2 D2.out)
  clear x2 f2 K x0 HO1
  by_cases hn : n < m.length
  · have KA := Lib.hid (pat_in w2 pb pA pc m n P2.out hn (by omega))
    obtain ⟨hE1, hVf, hVt⟩ := HVi.out hn
    have hVf := Lib.hid hVf
    have hVt := Lib.hid hVt
    have hE1 := Lib.hid hE1
    have KW := Lib.hid (wrong_any (pb := pb) D2.out)
    unfold rdV PP at KW
    unfold encStr at KA
    clear P2 HP HVi HVo
    generalize ByteArray.mk m[n].toArray = y at *
    try clear hn
    go_wp2_with fail
    refine KA.out.mono ?_
    rintro e w3 ⟨rfl, rfl⟩
    go_wp2_with fail
    refine KW.out.mono ?_
    rintro e w4 ⟨rfl, x4, f4⟩
    have X4 := Lib.hid x4
    have F4 := Lib.hid (HT.out _ _ _ hf.out (HT.out _ _ _ F2.out f4))
    clear x4 f4 KW KA
    rcases hb : wrongB e1 with _ | _
    · have hVe := Lib.hid (hVf.out hb)
      clear hVf hVt
      go_wp2_with fail
      go_ret
      exact ⟨by rw [hVe.out]; rfl, by rw [hE1.out]; exact X4.out, F4.out⟩
    · have hVe := Lib.hid (hVt.out hb)
      clear hVf hVt
      go_wp2_with fail
      go_ret
      exact ⟨by rw [hVe.out]; rfl, by rw [hE1.out]; exact X4.out, F4.out⟩
  · have KA := Lib.hid (pat_out w2 pb pA pc m n P2.out (Or.inr (by omega)))
    obtain ⟨hE1, hVe⟩ := HVo.out hn
    have hVe := Lib.hid hVe
    have hE1 := Lib.hid hE1
    have KF := Lib.hid (rd_fail w2 r s p1 e1 2 D2.out.rd)
    unfold DPost at KF
    clear hn P2 HP HVi HVo
    generalize fE e1 2 = e2 at *
    go_wp2_with fail
    refine KA.out.mono ?_
    rintro e w3 ⟨rfl, rfl⟩
    go_wp2_with fail
    refine KF.out.mono ?_
    rintro e w3 ⟨rfl, x3, f3⟩
    have D3 := Lib.hid (HO.out _ _ _ _ _ D2.out f3 x3)
    have F3 := Lib.hid (HT.out _ _ _ F2.out f3)
    obtain ⟨c0', c1'⟩ := HC.out w3 F3.out
    have KW := Lib.hid (wrong_any (pb := pb) D3.out)
    unfold rdV PP at KW
    clear x3 f3 KF KA c0 c1
    go_wp2_with fail
    refine KW.out.mono ?_
    rintro e w4 ⟨rfl, x4, f4⟩
    have X4 := Lib.hid x4
    have F4 := Lib.hid (HT.out _ _ _ hf.out (HT.out _ _ _ F3.out f4))
    clear x4 f4 KW
    rcases hb : wrongB e2 with _ | _
    · go_wp2_with fail
      go_ret
      exact ⟨by rw [hVe.out]; rfl, by rw [hE1.out]; exact X4.out, F4.out⟩
    · go_wp2_with fail
      go_ret
      exact ⟨by rw [hVe.out]; rfl, by rw [hE1.out]; exact X4.out, F4.out⟩
end
end Go.Proofs.Ytdmmkjijgoiecaa.re

/-
  record: lists read, plain; the program's list of texts.
-/
namespace Go.Proofs.Ytdmmkjijgoiecaa.re
open Go.RowKit Go.Shelf Go.Proofs.Ytdmmkjijgoiecaa.mem Go.Proofs.Ytdmmkjijgoiecaa.vr Go.Proofs.Ytdmmkjijgoiecaa.po

/-- things read one behind another, as long as nothing is wrong -/
def goL {α : Type} (one : Nat → Int → α × Nat × Int) : Nat → Nat → Int → List α × Nat × Int
  | 0, p, er => ([], p, er)
  | k + 1, p, er => if wrongB er then ([], p, er) else ((one p er).1 :: (goL one k (one p er).2.1 (one p er).2.2).1, (goL one k (one p er).2.1 (one p er).2.2).2)
def eL (s : ByteArray) (p : Nat) (er : Int) : Int := if 6000 < nV s p er then fE (nE s p er) 4 else nE s p er
def listL {α : Type} (one : Nat → Int → α × Nat × Int) (s : ByteArray) (p : Nat) (er : Int) : List α × Nat × Int := goL one (nV s p er) (nP s p er) (eL s p er)
def oneT (m : List (List UInt8)) (s : ByteArray) (p : Nat) (er : Int) : ByteArray × Nat × Int := (tT m s p er, nP s p er, tN m s p er)

/-- a list grows behind a reader -/
structure LS (w0 : World) (r : Nat) (s : ByteArray) (p : Nat) (er : Int) (W : World) (e : TypeId) (A : Option Addr) (cap : Nat) (xs : List Value) (w : World) : Prop where
  pd : PD w0 r s p er w
  fr : Fr [r] W w
  seg : Seg w e A cap xs
  nw : ∀ x ∈ blk A, W.heap.size ≤ x

section
variable {w0 : World} {r pb : Nat} {s : ByteArray} {p : Nat} {er : Int}

theorem LS.read {W w w2 : World} {e : TypeId} {A : Option Addr} {cap : Nat} {xs : List Value} {q : Nat} {e2 : Int} (h : LS w0 r s p er W e A cap xs w) (hne : e ≠ 118) (x : PD w0 r s q e2 w2) (f : Fr [r] w w2) : LS w0 r s q e2 W e A cap xs w2 :=
  ⟨x, h.fr.trans f (fun x hx => Or.inl hx) (fun x hx => Or.inl hx), h.seg.kept f (fun x hx h1 => by
    rw [List.mem_singleton] at h1
    rw [h1] at hx
    exact h.seg.ne_box h.pd.rd.box hne hx), h.nw⟩

theorem LS.push {W w w3 : World} {o : Obj} {e : TypeId} {A A3 : Option Addr} {cap cap3 : Nat} {xs ys : List Value} (h : LS w0 r s p er W e A cap xs w) (hne : e ≠ 118) (h0 : w0.heap.size ≤ W.heap.size) (s3 : Seg w3 e A3 cap3 ys) (f3 : Fr (blk A) (w.alloc o) w3) (b3 : blk A3 = blk A ∨ blk A3 = [(w.alloc o).heap.size]) : LS w0 r s p er W e A3 cap3 ys w3 := by
  have hr : r ∉ blk A := h.seg.ne_box h.pd.rd.box hne
  have f4 : Fr (blk A) w w3 := ((Fr.refl [] w).alloc o).trans f3 (by simp) (fun x hx => Or.inl hx)
  have f5 : Fr [r] W w3 := h.fr.trans f4 (fun x hx => Or.inl hx) (fun x hx => Or.inr (h.nw x hx))
  refine ⟨⟨⟨h.pd.rd.box.kept f4 hr⟩, below_fr h.pd.be f4 (fun x hx => Nat.le_trans h0 (h.nw x hx)), h.pd.ge⟩, f5, s3, fun x hx => ?_⟩
  rcases b3 with e1 | e1
  · rw [e1] at hx; exact h.nw x hx
  · rw [e1, List.mem_singleton] at hx
    rw [hx]
    exact Nat.le_trans h.fr.size ((Fr.refl [] w).alloc o).size
end
end Go.Proofs.Ytdmmkjijgoiecaa.re

/-
  record: the program's list of texts, read.
-/
namespace Go.Proofs.Ytdmmkjijgoiecaa.re
open Go.RowKit Go.Shelf Go.Proofs.Ytdmmkjijgoiecaa.mem Go.Proofs.Ytdmmkjijgoiecaa.vr Go.Proofs.Ytdmmkjijgoiecaa.po

theorem nP_in (s : ByteArray) (p : Nat) (er : Int) (hp : p ≤ s.size) : nP s p er ≤ s.size := by
  unfold nP
  split
  · exact hp
  · exact ct_le s p hp

/-- a list read: what is said, where the reader stands, where the list lies -/
def LP (w0 : World) (r : Nat) (s : ByteArray) (e : TypeId) (n : Nat) (xs : List Value) (q : Nat) (eq : Int) (w : World) (en : Ending) (w' : World) : Prop := ∃ A cap, en = .returned (.slice A n cap) ∧ Seg w' e A cap xs ∧ PD w0 r s q eq w' ∧ Fr [r] w w' ∧ ∀ x ∈ blk A, w.heap.size ≤ x

theorem LS.end_ {w0 : World} {r : Nat} {s : ByteArray} {p : Nat} {er : Int} {w W w2 : World} {o : Obj} {e : TypeId} {A : Option Addr} {cap : Nat} {xs : List Value} {n : Nat} (h : LS w0 r s p er W e A cap xs w2) (hW : W = w.alloc o) : LP w0 r s e n xs p er w (.returned (.slice A n cap)) w2 := by
  subst hW
  exact ⟨A, cap, rfl, h.seg, h.pd, ((Fr.refl [] w).alloc o).trans h.fr (by simp) (fun x hx => Or.inl hx), fun x hx => Nat.le_trans ((Fr.refl [] w).alloc o).size (h.nw x hx)⟩

set_option maxRecDepth 100000 in
set_option maxHeartbeats 2000000 in
theorem list_str {w0 : World} {r pb : Nat} {s : ByteArray} {p : Nat} {er : Int} {pA : Option Addr} {pc : Nat} {m : List (List UInt8)} {w : World} (hp : Pl w0 pb pA pc m) (hm : m.length ≤ 1000000) (hs : s.size ≤ maxLen) (hps : p ≤ s.size) (h : PD w0 r s p er w) (h6 : nV s p er ≤ 6000 ∨ wrongB (eL s p er) = true) :
    Calls Try.prog 28 #[rdV r pb, .func (.func 27) #[rdV r pb] #[]] w (LP w0 r s 9 (listL (oneT m s) s p er).1.length ((listL (oneT m s) s p er).1.map Value.string) (listL (oneT m s) s p er).2.1 (listL (oneT m s) s p er).2.2 w) := by
  have hW := h.alloc (.cells #[.pointer (some ⟨r, 0, none⟩), .pointer (some ⟨pb, 0, none⟩)] 70)
  have B := Box.new w 70 #[.pointer (some ⟨r, 0, none⟩), .pointer (some ⟨pb, 0, none⟩)]
  obtain ⟨W, hWe⟩ : ∃ W, Hid (W = w.alloc (.cells #[.pointer (some ⟨r, 0, none⟩), .pointer (some ⟨pb, 0, none⟩)] 70)) := ⟨_, Lib.hid rfl⟩
  have hne : w.heap.size ≠ r := by have := h.lt; omega
  have hEnd : Hid (∀ (w2 : World) A cap (xs : List Value) n q e, LS w0 r s q e W 9 A cap xs w2 → LP w0 r s 9 n xs q e w (.returned (.slice A n cap)) w2) := Lib.hid (fun w2 A cap xs n q e x => x.end_ hWe.out)
  rw [← hWe.out] at hW B
  have hW0 : Hid (w0.heap.size ≤ W.heap.size) := Lib.hid hW.be.size
  have HB : Hid (∀ w2, Fr [r] W w2 → w2.cell? ⟨w.heap.size, 0, none⟩ = some (.pointer (some ⟨r, 0, none⟩)) ∧ w2.cell? ⟨w.heap.size, 1, none⟩ = some (.pointer (some ⟨pb, 0, none⟩))) := Lib.hid (fun w2 f => ⟨(B.kept f (by simpa using hne)).cell 0, (B.kept f (by simpa using hne)).cell 1⟩)
  have x0 : W.cell? ⟨w.heap.size, 0, none⟩ = some (.pointer (some ⟨r, 0, none⟩)) := B.cell 0
  have K := Lib.hid (rd_number W r s p er hW.rd hs hps)
  have HO1 : Hid (∀ w2, RD w2 r s (nP s p er) (nE s p er) → Fr [r] W w2 → LS w0 r s (nP s p er) (nE s p er) W 9 none 0 [] w2) := Lib.hid (fun w2 x f => ⟨hW.of f x, f, Seg.nil _ _, fun q hq => by cases hq⟩)
  have HT := Lib.hid (fun (w2 : World) (q : Nat) (e : Int) (hq : q ≤ s.size) (x : PD w0 r s q e w2) => text_any (pb := pb) hp hm hs hq x)
  have HWr := Lib.hid (fun (w2 : World) (q : Nat) (e : Int) (x : PD w0 r s q e w2) => wrong_any (pb := pb) x)
  have hq1 := Lib.hid (nP_in s p er hps)
  obtain ⟨R, hR⟩ : ∃ R, Hid (R = listL (oneT m s) s p er) := ⟨_, Lib.hid rfl⟩
  rw [← hR.out]
  have hR1 : Hid (R = goL (oneT m s) (nV s p er) (nP s p er) (eL s p er)) := Lib.hid hR.out
  have heL : Hid (eL s p er = if 6000 < nV s p er then fE (nE s p er) 4 else nE s p er) := Lib.hid rfl
  unfold DPost at K
  unfold PP at HT HWr
  have hh6 := Lib.hid h6
  clear hW B h hp hm hs hps hne hR h6
  generalize nP s p er = p1 at *
  generalize nE s p er = e1 at *
  generalize nV s p er = n at *
  generalize eL s p er = e2 at *
  obtain ⟨i0, hi0, hz0, hz1, hz2⟩ := info_sp
  have Hi := Lib.hid hi0
  have Hz0 := Lib.hid hz0
  have Hz1 := Lib.hid hz1
  have Hz2 := Lib.hid hz2
  clear hi0 hz0 hz1 hz2
  unfold rdV at HT HWr ⊢
  go_enter Try.func28, Try.ntmps28
  go_upto_region 1 with fail
  rw [← hWe.out]
  clear hWe
  generalize w.heap.size = bx at *
  go_wp2_with fail
  refine K.out.mono ?_
  rintro e w2 ⟨rfl, x2, f2⟩
  have L2 := Lib.hid (HO1.out w2 x2 f2)
  obtain ⟨c0, c1⟩ := HB.out w2 f2
  clear x2 f2 K x0 HO1
  have hr2 := Lib.hid L2.out.pd
  by_cases h6 : 6000 < n
  · have d6 : decide (6000 < (n : Int)) = true := decide_eq_true (by omega)
    have he2 : e2 = fE e1 4 := by rw [heL.out, if_pos h6]
    have KF := Lib.hid (rd_fail w2 r s p1 e1 4 L2.out.pd.rd)
    rw [← he2] at KF
    unfold DPost at KF
    clear heL he2
    go_wp2_with fail
    refine KF.out.mono ?_
    rintro e w3 ⟨rfl, x3, f3⟩
    have L3 := Lib.hid (L2.out.read (by decide) (L2.out.pd.of f3 x3) f3)
    clear x3 f3 KF c0 c1 L2 hr2
    have L3' : Hid (LS w0 r s p1 e2 W 9 none 0 (([] : List ByteArray).map Value.string) w3) := L3
    have hR0 : Hid (R = ([] ++ (goL (oneT m s) (n - 0) p1 e2).1, (goL (oneT m s) (n - 0) p1 e2).2)) := Lib.hid hR1.out
    clear L3 hR1
    obtain ⟨c0, c1⟩ := HB.out w3 L3'.out.fr
    go_wp2_with fail
    go_loopw [6, 7] (fun v i wr => ∃ (k : Nat) (A : Option Addr) (cap : Nat) (xs : List ByteArray) (q : Nat) (eq : Int), k ≤ n ∧ i = .int .i64 k ∧ v = .slice A xs.length cap ∧ xs.length ≤ k ∧ Hid (LS w0 r s q eq W 9 A cap (xs.map Value.string) wr) ∧ Hid (q ≤ s.size) ∧ Hid (n ≤ 6000 ∨ wrongB eq = true) ∧ Hid (R = (xs ++ (goL (oneT m s) (n - k) q eq).1, (goL (oneT m s) (n - k) q eq).2))) (fun _ i _ => n - (intOf i).toNat)
    case atStart => exact ⟨0, none, 0, [], p1, e2, by omega, rfl, rfl, by simp, L3', hq1, hh6, hR0⟩
    case round =>
      obtain ⟨k, A, cap, xs, q, eq, hk, rfl, rfl, hxl, HL, hq, hh, hRk⟩ := hrel
      clear L3' hR0 c0 c1 hh6 hq1
      obtain ⟨c0, c1⟩ := HB.out wr HL.out.fr
      by_cases hkn : k < n
      · have d1 : decide ((k : Int) < (n : Int)) = true := decide_eq_true (by omega)
        have KW := Lib.hid (HWr.out wr q eq HL.out.pd)
        obtain ⟨j, hj⟩ : ∃ j, n - k = j + 1 := ⟨n - k - 1, by omega⟩
        have hj2 : n - (k + 1) = j := by omega
        rcases hb : wrongB eq with _ | _
        · rw [hb] at KW
          have hn6 : n ≤ 6000 := by
            rcases hh.out with h1 | h1
            · exact h1
            · rw [hb] at h1; cases h1
          exact absurd h6 (by omega)
        · rw [hb] at KW
          have hRn : Hid (R = (xs, q, eq)) := Lib.hid (by
            rw [hRk.out, hj]
            show (xs ++ (if wrongB eq then _ else _ : List ByteArray × Nat × Int).1, (if wrongB eq then _ else _ : List ByteArray × Nat × Int).2) = _
            rw [hb]
            simp)
          clear hRk hh hj hj2
          have HLr := Lib.hid (fun (w4 : World) (x : PD w0 r s q eq w4) (f : Fr [r] wr w4) => HL.out.read (by decide) x f)
          go_wp2_with fail
          refine KW.out.mono ?_
          rintro e w4 ⟨rfl, x4, f4⟩
          have L4 := Lib.hid (HLr.out w4 x4 f4)
          clear x4 f4 KW HLr HL
          go_wp2_with fail
          go_ret
          rw [hRn.out]
          exact hEnd.out _ _ _ _ _ _ _ L4.out
      · obtain rfl : k = n := by omega
        have d1 : decide ((k : Int) < (k : Int)) = false := decide_eq_false (by omega)
        have hRn : Hid (R = (xs, q, eq)) := Lib.hid (by rw [hRk.out, Nat.sub_self]; simp [goL])
        go_wp2_with fail
        go_ret
        rw [hRn.out]
        exact hEnd.out _ _ _ _ _ _ _ HL.out
  · have d6 : decide (6000 < (n : Int)) = false := decide_eq_false (by omega)
    have he2 : e2 = e1 := by rw [heL.out, if_neg h6]
    subst he2
    have L3 := L2
    clear heL c0 c1 L2 hr2
    have L3' : Hid (LS w0 r s p1 e2 W 9 none 0 (([] : List ByteArray).map Value.string) w2) := L3
    have hR0 : Hid (R = ([] ++ (goL (oneT m s) (n - 0) p1 e2).1, (goL (oneT m s) (n - 0) p1 e2).2)) := Lib.hid hR1.out
    clear L3 hR1
    obtain ⟨c0, c1⟩ := HB.out w2 L3'.out.fr
    go_wp2_with fail
    go_loopw [6, 7] (fun v i wr => ∃ (k : Nat) (A : Option Addr) (cap : Nat) (xs : List ByteArray) (q : Nat) (eq : Int), k ≤ n ∧ i = .int .i64 k ∧ v = .slice A xs.length cap ∧ xs.length ≤ k ∧ Hid (LS w0 r s q eq W 9 A cap (xs.map Value.string) wr) ∧ Hid (q ≤ s.size) ∧ Hid (n ≤ 6000 ∨ wrongB eq = true) ∧ Hid (R = (xs ++ (goL (oneT m s) (n - k) q eq).1, (goL (oneT m s) (n - k) q eq).2))) (fun _ i _ => n - (intOf i).toNat)
    case atStart => exact ⟨0, none, 0, [], p1, e2, by omega, rfl, rfl, by simp, L3', hq1, hh6, hR0⟩
    case round =>
      obtain ⟨k, A, cap, xs, q, eq, hk, rfl, rfl, hxl, HL, hq, hh, hRk⟩ := hrel
      clear L3' hR0 c0 c1 hh6 hq1
      obtain ⟨c0, c1⟩ := HB.out wr HL.out.fr
      by_cases hkn : k < n
      · have d1 : decide ((k : Int) < (n : Int)) = true := decide_eq_true (by omega)
        have KW := Lib.hid (HWr.out wr q eq HL.out.pd)
        obtain ⟨j, hj⟩ : ∃ j, n - k = j + 1 := ⟨n - k - 1, by omega⟩
        have hj2 : n - (k + 1) = j := by omega
        rcases hb : wrongB eq with _ | _
        · rw [hb] at KW
          have hn6 : n ≤ 6000 := by
            rcases hh.out with h1 | h1
            · exact h1
            · rw [hb] at h1; cases h1
          have hRn : Hid (R = ((xs ++ [tT m s q eq]) ++ (goL (oneT m s) (n - (k + 1)) (nP s q eq) (tN m s q eq)).1, (goL (oneT m s) (n - (k + 1)) (nP s q eq) (tN m s q eq)).2)) := Lib.hid (by
            rw [hRk.out, hj, hj2]
            show (xs ++ (if wrongB eq then _ else _ : List ByteArray × Nat × Int).1, (if wrongB eq then _ else _ : List ByteArray × Nat × Int).2) = _
            rw [hb]
            simp [oneT])
          have hqn := Lib.hid (nP_in s q eq hq.out)
          clear hRk hh hj hj2
          have HLr := Lib.hid (fun (w4 : World) (x : PD w0 r s q eq w4) (f : Fr [r] wr w4) => HL.out.read (by decide) x f)
          go_wp2_with fail
          refine KW.out.mono ?_
          rintro e w4 ⟨rfl, x4, f4⟩
          have L4 := Lib.hid (HLr.out w4 x4 f4)
          have KT := Lib.hid (HT.out w4 q eq hq.out x4)
          clear x4 f4 KW HLr HL
          generalize tT m s q eq = y at *
          go_wp2_with fail
          refine KT.out.mono ?_
          rintro e w5 ⟨rfl, x5, f5⟩
          have L5 := Lib.hid (L4.out.read (by decide) x5 f5)
          clear x5 f5 KT L4 hq
          generalize nP s q eq = q2 at *
          generalize tN m s q eq = e3 at *
          go_wp2_with (at_builtin; refine wpList_push rfl _ _ _ rfl (L5.out.seg.alloc _) (by rw [List.length_map]) Try.underlying22 Hi.out Hz0.out Hz1.out Hz2.out rfl rfl rfl (new_cell _ _ _) rfl (by omega) (by omega) ?_; intro A3 cap3 w6 hs6 f6 hf6; have L6 := Lib.hid (L5.out.push (by decide) hW0.out hs6 f6 hf6); clear hs6 f6 hf6)
          have L6' : Hid (LS w0 r s q2 e3 W 9 A3 cap3 ((xs ++ [y]).map Value.string) w6) := Lib.hid (by rw [List.map_append]; exact L6.out)
          have hxl2 : (xs ++ [y]).length = xs.length + 1 := by simp
          go_roundw
          case rel => exact ⟨k + 1, A3, cap3, xs ++ [y], q2, e3, by omega, by go_num, by rw [hxl2], by omega, L6', hqn, Lib.hid (Or.inl hn6), hRn⟩
          case measure => simp [intOf]; omega
        · rw [hb] at KW
          have hRn : Hid (R = (xs, q, eq)) := Lib.hid (by
            rw [hRk.out, hj]
            show (xs ++ (if wrongB eq then _ else _ : List ByteArray × Nat × Int).1, (if wrongB eq then _ else _ : List ByteArray × Nat × Int).2) = _
            rw [hb]
            simp)
          clear hRk hh hj hj2
          have HLr := Lib.hid (fun (w4 : World) (x : PD w0 r s q eq w4) (f : Fr [r] wr w4) => HL.out.read (by decide) x f)
          go_wp2_with fail
          refine KW.out.mono ?_
          rintro e w4 ⟨rfl, x4, f4⟩
          have L4 := Lib.hid (HLr.out w4 x4 f4)
          clear x4 f4 KW HLr HL
          go_wp2_with fail
          go_ret
          rw [hRn.out]
          exact hEnd.out _ _ _ _ _ _ _ L4.out
      · obtain rfl : k = n := by omega
        have d1 : decide ((k : Int) < (k : Int)) = false := decide_eq_false (by omega)
        have hRn : Hid (R = (xs, q, eq)) := Lib.hid (by rw [hRk.out, Nat.sub_self]; simp [goL])
        go_wp2_with fail
        go_ret
        rw [hRn.out]
        exact hEnd.out _ _ _ _ _ _ _ HL.out
end Go.Proofs.Ytdmmkjijgoiecaa.re

/-
  record: what is wrong is never 'more'.
-/
namespace Go.Proofs.Ytdmmkjijgoiecaa.re
open Go.RowKit Go.Shelf Go.Proofs.Ytdmmkjijgoiecaa.mem Go.Proofs.Ytdmmkjijgoiecaa.vr Go.Proofs.Ytdmmkjijgoiecaa.po

theorem cnt_err : ∀ (l : List UInt8) (i n : Nat), (cntF i n l).2.2 ≤ 3
  | [], i, n => by unfold cntF; simp
  | b :: l, i, n => by
    unfold cntF
    split
    · simp
    · split
      · simp
      · split
        · simp
        · first
          | exact cnt_err l _ _
          | (split
             · simp
             · exact cnt_err l _ _)

theorem nE_ok (s : ByteArray) (p : Nat) (er : Int) (h : er ≠ 6) : nE s p er ≠ 6 := by
  unfold nE
  split
  · exact h
  · have : (ct s p).2.2 ≤ 3 := by unfold ct cnt; exact cnt_err _ _ _
    omega
theorem fE_ok (er d : Int) (h : er ≠ 6) (hd : d ≠ 6) : fE er d ≠ 6 := by
  unfold fE
  split
  · exact hd
  · exact h
theorem tN_ok (m : List (List UInt8)) (s : ByteArray) (p : Nat) (er : Int) (h : er ≠ 6) : tN m s p er ≠ 6 := by
  unfold tN
  split
  · exact nE_ok s p er h
  · exact fE_ok _ _ (nE_ok s p er h) (by decide)
theorem eL_ok (s : ByteArray) (p : Nat) (er : Int) (h : er ≠ 6) : eL s p er ≠ 6 := by
  unfold eL
  split
  · exact fE_ok _ _ (nE_ok s p er h) (by decide)
  · exact nE_ok s p er h
theorem wrong_iff (er : Int) (h : er ≠ 6) : wrongB er = decide (er ≠ 0) := by
  unfold wrongB
  by_cases h0 : er = 0
  · subst h0; rfl
  · simp [h0, h]
theorem many_ok (s : ByteArray) (p : Nat) (er : Int) (h : er ≠ 6) : nV s p er ≤ 6000 ∨ wrongB (eL s p er) = true := by
  by_cases hn : 6000 < nV s p er
  · right
    rw [wrong_iff _ (eL_ok s p er h)]
    unfold eL fE
    rw [if_pos hn]
    split
    · rfl
    · rename_i h1
      simpa using h1
  · left; omega
end Go.Proofs.Ytdmmkjijgoiecaa.re

/-
  record: a function read.
-/
namespace Go.Proofs.Ytdmmkjijgoiecaa.re
open Go.RowKit Go.Shelf Go.Proofs.Ytdmmkjijgoiecaa.mem Go.Proofs.Ytdmmkjijgoiecaa.sy Go.Proofs.Ytdmmkjijgoiecaa.vr Go.Proofs.Ytdmmkjijgoiecaa.po

theorem PD.set {w0 w : World} {r : Nat} {s : ByteArray} {p : Nat} {er : Int} (h : PD w0 r s p er w) {b : Nat} (hb : b ≠ r) (h0 : w0.heap.size ≤ b) (i : Nat) (v : Value) : PD w0 r s p er (w.setCell ⟨b, i, none⟩ v) := by
  have f : Fr [b] w (w.setCell ⟨b, i, none⟩ v) := (Fr.refl [b] w).setCell (p := ⟨b, i, none⟩) (Or.inl (by simp)) _
  exact ⟨⟨h.rd.box.kept f (by simpa using hb.symm)⟩, below_fr h.be f (fun x hx => by rw [List.mem_singleton] at hx; rw [hx]; exact h0), h.ge⟩

/-- a struct that is being made behind a reader -/
structure SW (w0 : World) (r : Nat) (s : ByteArray) (p : Nat) (er : Int) (W : World) (t : TypeId) (b : Nat) (cs : Array Value) (w : World) : Prop where
  pd : PD w0 r s p er w
  fr : Fr [r] W w
  bx : Box w b t cs
  nw : W.heap.size ≤ b
  h0 : w0.heap.size ≤ W.heap.size
  hr : r < W.heap.size

theorem SW.read {w0 W w w2 : World} {r : Nat} {s : ByteArray} {p q : Nat} {er e2 : Int} {t : TypeId} {b : Nat} {cs : Array Value} (h : SW w0 r s p er W t b cs w) (x : PD w0 r s q e2 w2) (f : Fr [r] w w2) : SW w0 r s q e2 W t b cs w2 :=
  ⟨x, h.fr.trans f (fun x hx => Or.inl hx) (fun x hx => Or.inl hx), h.bx.kept f (by rw [List.mem_singleton]; have := h.nw; have := h.hr; omega), h.nw, h.h0, h.hr⟩
theorem SW.put {w0 W w : World} {r : Nat} {s : ByteArray} {p : Nat} {er : Int} {t : TypeId} {b : Nat} {cs : Array Value} (h : SW w0 r s p er W t b cs w) (i : Nat) (v : Value) : SW w0 r s p er W t b (cs.setIfInBounds i v) (w.setCell ⟨b, i, none⟩ v) :=
  ⟨h.pd.set (by have := h.nw; have := h.hr; omega) (Nat.le_trans h.h0 h.nw) i v, h.fr.setCell (p := ⟨b, i, none⟩) (Or.inr h.nw) v, h.bx.put i v, h.nw, h.h0, h.hr⟩
theorem SW.new {w0 W w : World} {r : Nat} {s : ByteArray} {p : Nat} {er : Int} (x : PD w0 r s p er w) (f : Fr [r] W w) (h0 : w0.heap.size ≤ W.heap.size) (hr : r < W.heap.size) (t : TypeId) (cs : Array Value) : SW w0 r s p er W t w.heap.size cs (w.alloc (.cells cs t)) :=
  ⟨x.alloc _, f.alloc _, Box.new w t cs, f.size, h0, hr⟩

def oneF (m : List (List UInt8)) (s : ByteArray) (p : Nat) (er : Int) : SF × Nat × Int :=
  (⟨tT m s p er, tT m s (nP s p er) (tN m s p er), tT m s (nP s (nP s p er) (tN m s p er)) (tN m s (nP s p er) (tN m s p er))⟩,
   nP s (nP s (nP s p er) (tN m s p er)) (tN m s (nP s p er) (tN m s p er)), tN m s (nP s (nP s p er) (tN m s p er)) (tN m s (nP s p er) (tN m s p er)))

theorem uF : Try.prog.underlying 80 = some (.struct (Try.prog.fieldsOf 80)) := by kernel_rfl

set_option maxRecDepth 100000 in
set_option maxHeartbeats 2000000 in
theorem fn_any {w0 : World} {r pb : Nat} {s : ByteArray} {p : Nat} {er : Int} {pA : Option Addr} {pc : Nat} {m : List (List UInt8)} {w : World} (hp : Pl w0 pb pA pc m) (hm : m.length ≤ 1000000) (hs : s.size ≤ maxLen) (hps : p ≤ s.size) (h : PD w0 r s p er w) :
    Calls Try.prog 32 #[rdV r pb] w (PP w0 r s (.agg #[.string (oneF m s p er).1.name, .string (oneF m s p er).1.kinds, .string (oneF m s p er).1.ret]) (oneF m s p er).2.1 (oneF m s p er).2.2 w) := by
  obtain ⟨W, hWe⟩ : ∃ W, Hid (W = (w.alloc (.cells #[.pointer (some ⟨r, 0, none⟩), .pointer (some ⟨pb, 0, none⟩)] 70)).alloc (.cells #[.string ⟨#[]⟩, .string ⟨#[]⟩, .string ⟨#[]⟩] 80)) := ⟨_, Lib.hid rfl⟩
  have hz : (w.alloc (.cells #[.pointer (some ⟨r, 0, none⟩), .pointer (some ⟨pb, 0, none⟩)] 70)).heap.size = w.heap.size + 1 := Array.size_push _
  have hW : PD w0 r s p er W := by rw [hWe.out]; exact (h.alloc _).alloc _
  have hf : Hid (Fr [] w W) := Lib.hid (by rw [hWe.out]; exact ((Fr.refl [] w).alloc _).alloc _)
  have B0 : Box W w.heap.size 70 #[.pointer (some ⟨r, 0, none⟩), .pointer (some ⟨pb, 0, none⟩)] := by rw [hWe.out]; exact (Box.new w _ _).kept ((Fr.refl [] _).alloc _) (by simp)
  have B1 : Box W (w.heap.size + 1) 80 #[.string ⟨#[]⟩, .string ⟨#[]⟩, .string ⟨#[]⟩] := by rw [hWe.out, ← hz]; exact Box.new _ _ _
  have hrl := h.lt
  have n0 : w.heap.size ≠ r := by omega
  have n1 : w.heap.size + 1 ≠ r := by omega
  have HB : Hid (∀ w2, Fr [r] W w2 → Box w2 w.heap.size 70 #[.pointer (some ⟨r, 0, none⟩), .pointer (some ⟨pb, 0, none⟩)] ∧ Box w2 (w.heap.size + 1) 80 #[.string ⟨#[]⟩, .string ⟨#[]⟩, .string ⟨#[]⟩]) := Lib.hid (fun w2 f => ⟨B0.kept f (by simpa using n0), B1.kept f (by simpa using n1)⟩)
  have HT := Lib.hid (fun (w2 : World) (q : Nat) (e : Int) (hq : q ≤ s.size) (x : PD w0 r s q e w2) => text_any (pb := pb) hp hm hs hq x)
  have hW0 : Hid (w0.heap.size ≤ W.heap.size) := Lib.hid hW.be.size
  have hrW : Hid (r < W.heap.size) := Lib.hid hW.lt
  have q1 := Lib.hid (nP_in s p er hps)
  have q2 := Lib.hid (nP_in s (nP s p er) (tN m s p er) q1.out)
  have hend : Hid (∀ (w8 : World) (q : Nat) (e : Int) (b3 : Nat) (cs : Array Value) (x y z : Value), SW w0 r s q e W 80 b3 cs w8 → Box (((w8.setCell ⟨w.heap.size + 1, 0, none⟩ x).setCell ⟨w.heap.size + 1, 1, none⟩ y).setCell ⟨w.heap.size + 1, 2, none⟩ z) (w.heap.size + 1) 80 #[x, y, z] ∧ PD w0 r s q e (((w8.setCell ⟨w.heap.size + 1, 0, none⟩ x).setCell ⟨w.heap.size + 1, 1, none⟩ y).setCell ⟨w.heap.size + 1, 2, none⟩ z) ∧ Fr [r] w (((w8.setCell ⟨w.heap.size + 1, 0, none⟩ x).setCell ⟨w.heap.size + 1, 1, none⟩ y).setCell ⟨w.heap.size + 1, 2, none⟩ z)) := Lib.hid (fun w8 q e b3 cs x y z g => by
    have b := (HB.out w8 g.fr).2
    have l0 : w0.heap.size ≤ w.heap.size + 1 := Nat.le_trans h.be.size (Nat.le_succ _)
    have fa : Fr [r] w w8 := hf.out.trans g.fr (by simp) (fun x hx => Or.inl hx)
    exact ⟨((b.put 0 x).put 1 y).put 2 z, ((g.pd.set n1 l0 0 x).set n1 l0 1 y).set n1 l0 2 z, ((fa.setCell (p := ⟨w.heap.size + 1, 0, none⟩) (Or.inr (Nat.le_succ _)) x).setCell (p := ⟨w.heap.size + 1, 1, none⟩) (Or.inr (Nat.le_succ _)) y).setCell (p := ⟨w.heap.size + 1, 2, none⟩) (Or.inr (Nat.le_succ _)) z⟩)
  have K1 := Lib.hid (HT.out W p er hps hW)
  have x0 : W.cell? ⟨w.heap.size, 0, none⟩ = some (.pointer (some ⟨r, 0, none⟩)) := B0.cell 0
  have x1 : W.cell? ⟨w.heap.size, 1, none⟩ = some (.pointer (some ⟨pb, 0, none⟩)) := B0.cell 1
  have HF := Lib.hid (Fr.refl [r] W)
  unfold PP at HT K1 ⊢
  unfold oneF
  dsimp only
  clear hp hm hs hps h hW B0 B1 hrl n0 n1 hf
  unfold rdV at *
  generalize tT m s p er = a at *
  generalize nP s p er = p1 at *
  generalize tN m s p er = e1 at *
  have HK2 := Lib.hid (fun (w3 : World) (x : PD w0 r s p1 e1 w3) => HT.out w3 p1 e1 q1.out x)
  generalize tT m s p1 e1 = b at *
  generalize nP s p1 e1 = p2 at *
  generalize tN m s p1 e1 = e2 at *
  have HK3 := Lib.hid (fun (w3 : World) (x : PD w0 r s p2 e2 w3) => HT.out w3 p2 e2 q2.out x)
  generalize tT m s p2 e2 = c at *
  generalize nP s p2 e2 = p3 at *
  generalize tN m s p2 e2 = e3 at *
  clear HT
  go_enter Try.func32, Try.ntmps32
  go_upto_region 1 with fail
  rw [← hWe.out]
  try rw [hz]
  clear hz hWe
  generalize w.heap.size = bx at *
  go_wp2_with fail
  refine K1.out.mono ?_
  rintro e w2 ⟨rfl, y2, f2⟩
  have S3 := Lib.hid (SW.new y2 f2 hW0.out hrW.out 80 #[.string a, .string ⟨#[]⟩, .string ⟨#[]⟩])
  clear y2 f2 K1 x0 x1
  go_upto_region 2 with fail
  generalize w2.alloc (.cells #[.string a, .string ⟨#[]⟩, .string ⟨#[]⟩] 80) = w3 at *
  generalize w2.heap.size = b3 at *
  have x0 : w3.cell? ⟨bx, 0, none⟩ = some (.pointer (some ⟨r, 0, none⟩)) := (HB.out _ S3.out.fr).1.cell 0
  have x1 : w3.cell? ⟨bx, 1, none⟩ = some (.pointer (some ⟨pb, 0, none⟩)) := (HB.out _ S3.out.fr).1.cell 1
  have K2 := Lib.hid (HK2.out w3 S3.out.pd)
  go_wp2_with fail
  refine K2.out.mono ?_
  rintro e w4 ⟨rfl, y4, f4⟩
  have S4 := Lib.hid (S3.out.read y4 f4)
  have c4 := S4.out.bx.cell 1
  have g4 := S4.out.bx.free 1
  clear y4 f4 K2 x0 x1 S3
  go_upto_region 3 with fail
  have S5 := Lib.hid (S4.out.put 1 (.string b))
  generalize w4.setCell ⟨b3, 1, none⟩ (.string b) = w5 at *
  clear c4 g4 S4
  have x0 : w5.cell? ⟨bx, 0, none⟩ = some (.pointer (some ⟨r, 0, none⟩)) := (HB.out _ S5.out.fr).1.cell 0
  have x1 : w5.cell? ⟨bx, 1, none⟩ = some (.pointer (some ⟨pb, 0, none⟩)) := (HB.out _ S5.out.fr).1.cell 1
  have K3 := Lib.hid (HK3.out w5 S5.out.pd)
  go_wp2_with fail
  refine K3.out.mono ?_
  rintro e w6 ⟨rfl, y6, f6⟩
  have S6 := Lib.hid (S5.out.read y6 f6)
  have c6 := S6.out.bx.cell 2
  have g6 := S6.out.bx.free 2
  clear y6 f6 K3 x0 x1 S5
  go_upto_region 4 with fail
  have S7 := Lib.hid (S6.out.put 2 (.string c))
  generalize w6.setCell ⟨b3, 2, none⟩ (.string c) = w7 at *
  clear c6 g6 S6
  have x0 : w7.cell? ⟨b3, 0, none⟩ = some (.string a) := S7.out.bx.cell 0
  have x1 : w7.cell? ⟨b3, 1, none⟩ = some (.string b) := S7.out.bx.cell 1
  have x2 : w7.cell? ⟨b3, 2, none⟩ = some (.string c) := S7.out.bx.cell 2
  have B7 := Lib.hid (HB.out _ S7.out.fr).2
  have z0 : w7.cell? ⟨bx + 1, 0, none⟩ = some (.string ⟨#[]⟩) := B7.out.cell 0
  have z1 : w7.cell? ⟨bx + 1, 1, none⟩ = some (.string ⟨#[]⟩) := B7.out.cell 1
  have z2 : w7.cell? ⟨bx + 1, 2, none⟩ = some (.string ⟨#[]⟩) := B7.out.cell 2
  have v0 := B7.out.free 0
  have v1 := B7.out.free 1
  have v2 := B7.out.free 2
  obtain ⟨hB, hD, hF8⟩ := hend.out w7 p3 e3 b3 _ (.string a) (.string b) (.string c) S7.out
  have HB8 := Lib.hid hB
  have HD8 := Lib.hid hD
  have HF8 := Lib.hid hF8
  clear hB hD hF8 hend
  go_wp2_with fail
  refine bodyPost_ret (results_cell_row rfl _ _ _ _ _ _ _ rfl HB8.out uF rfl (by kernel_rfl)) rfl ?_
  exact ⟨rfl, HD8.out, HF8.out⟩
end Go.Proofs.Ytdmmkjijgoiecaa.re

/-
  record: a mark read.
-/
namespace Go.Proofs.Ytdmmkjijgoiecaa.re
open Go.RowKit Go.Shelf Go.Proofs.Ytdmmkjijgoiecaa.mem Go.Proofs.Ytdmmkjijgoiecaa.sy Go.Proofs.Ytdmmkjijgoiecaa.vr Go.Proofs.Ytdmmkjijgoiecaa.po

def oneM (m : List (List UInt8)) (s : ByteArray) (p : Nat) (er : Int) : Mk × Nat × Int :=
  (⟨(nV s p er : Nat), tT m s (nP s p er) (nE s p er)⟩, nP s (nP s p er) (nE s p er), tN m s (nP s p er) (nE s p er))

theorem uM : Try.prog.underlying 98 = some (.struct (Try.prog.fieldsOf 98)) := by kernel_rfl

set_option maxRecDepth 100000 in
set_option maxHeartbeats 2000000 in
theorem mark_any {w0 : World} {r pb rb : Nat} {s : ByteArray} {p : Nat} {er : Int} {pA : Option Addr} {pc : Nat} {m : List (List UInt8)} {w : World} (hp : Pl w0 pb pA pc m) (hm : m.length ≤ 1000000) (hs : s.size ≤ maxLen) (hps : p ≤ s.size) (h : PD w0 r s p er w) (hrb : Box w rb 70 #[.pointer (some ⟨r, 0, none⟩), .pointer (some ⟨pb, 0, none⟩)]) (hnr : rb ≠ r) :
    Calls Try.prog 62 #[.pointer (some ⟨rb, 0, none⟩)] w (PP w0 r s (.agg #[.int .i64 (oneM m s p er).1.at_, .string (oneM m s p er).1.tag]) (oneM m s p er).2.1 (oneM m s p er).2.2 w) := by
  obtain ⟨W, hWe⟩ : ∃ W, Hid (W = w.alloc (.cells #[.int .i64 0, .string ⟨#[]⟩] 98)) := ⟨_, Lib.hid rfl⟩
  have hW : PD w0 r s p er W := by rw [hWe.out]; exact h.alloc _
  have hf : Hid (Fr [] w W) := Lib.hid (by rw [hWe.out]; exact (Fr.refl [] w).alloc _)
  have B0 : Box W rb 70 #[.pointer (some ⟨r, 0, none⟩), .pointer (some ⟨pb, 0, none⟩)] := hrb.kept hf.out (by simp)
  have B1 : Box W w.heap.size 98 #[.int .i64 0, .string ⟨#[]⟩] := by rw [hWe.out]; exact Box.new _ _ _
  have hrl := h.lt
  have n1 : w.heap.size ≠ r := by omega
  have HB : Hid (∀ w2, Fr [r] W w2 → Box w2 rb 70 #[.pointer (some ⟨r, 0, none⟩), .pointer (some ⟨pb, 0, none⟩)] ∧ Box w2 w.heap.size 98 #[.int .i64 0, .string ⟨#[]⟩]) := Lib.hid (fun w2 f => ⟨B0.kept f (by simpa using hnr), B1.kept f (by simpa using n1)⟩)
  have hW0 : Hid (w0.heap.size ≤ W.heap.size) := Lib.hid hW.be.size
  have hrW : Hid (r < W.heap.size) := Lib.hid hW.lt
  have q1 := Lib.hid (nP_in s p er hps)
  have hend : Hid (∀ (w8 : World) (q : Nat) (e : Int) (b3 : Nat) (cs : Array Value) (x y : Value), SW w0 r s q e W 98 b3 cs w8 → Box ((w8.setCell ⟨w.heap.size, 0, none⟩ x).setCell ⟨w.heap.size, 1, none⟩ y) w.heap.size 98 #[x, y] ∧ PD w0 r s q e ((w8.setCell ⟨w.heap.size, 0, none⟩ x).setCell ⟨w.heap.size, 1, none⟩ y) ∧ Fr [r] w ((w8.setCell ⟨w.heap.size, 0, none⟩ x).setCell ⟨w.heap.size, 1, none⟩ y)) := Lib.hid (fun w8 q e b3 cs x y g => by
    have b := (HB.out w8 g.fr).2
    have l0 : w0.heap.size ≤ w.heap.size := h.be.size
    have fa : Fr [r] w w8 := hf.out.trans g.fr (by simp) (fun x hx => Or.inl hx)
    exact ⟨(b.put 0 x).put 1 y, (g.pd.set n1 l0 0 x).set n1 l0 1 y, (fa.setCell (p := ⟨w.heap.size, 0, none⟩) (Or.inr (Nat.le_refl _)) x).setCell (p := ⟨w.heap.size, 1, none⟩) (Or.inr (Nat.le_refl _)) y⟩)
  have K1 := Lib.hid (rd_number W r s p er hW.rd hs hps)
  have HO : Hid (∀ w2, RD w2 r s (nP s p er) (nE s p er) → Fr [r] W w2 → PD w0 r s (nP s p er) (nE s p er) w2) := Lib.hid (fun w2 x f => hW.of f x)
  have HK2 := Lib.hid (fun (w3 : World) (x : PD w0 r s (nP s p er) (nE s p er) w3) => text_any (pb := pb) hp hm hs q1.out x)
  have x0 : W.cell? ⟨rb, 0, none⟩ = some (.pointer (some ⟨r, 0, none⟩)) := B0.cell 0
  unfold PP at HK2 ⊢
  unfold DPost at K1
  unfold oneM
  dsimp only
  clear hp hm hs hps h hW B0 B1 hrl n1 hf hrb hnr
  unfold rdV at *
  generalize nV s p er = a at *
  generalize nP s p er = p1 at *
  generalize nE s p er = e1 at *
  generalize tT m s p1 e1 = c at *
  generalize nP s p1 e1 = p2 at *
  generalize tN m s p1 e1 = e2 at *
  go_enter Try.func62, Try.ntmps62
  go_upto_region 1 with fail
  rw [← hWe.out]
  clear hWe
  generalize w.heap.size = bx at *
  go_wp2_with fail
  refine K1.out.mono ?_
  rintro e w2 ⟨rfl, y2, f2⟩
  have S3 := Lib.hid (SW.new (HO.out w2 y2 f2) f2 hW0.out hrW.out 98 #[.int .i64 (a : Int), .string ⟨#[]⟩])
  clear y2 f2 K1 x0 HO
  go_upto_region 2 with fail
  generalize w2.alloc (.cells #[.int .i64 (a : Int), .string ⟨#[]⟩] 98) = w3 at *
  generalize w2.heap.size = b3 at *
  have x0 : w3.cell? ⟨rb, 0, none⟩ = some (.pointer (some ⟨r, 0, none⟩)) := (HB.out _ S3.out.fr).1.cell 0
  have x1 : w3.cell? ⟨rb, 1, none⟩ = some (.pointer (some ⟨pb, 0, none⟩)) := (HB.out _ S3.out.fr).1.cell 1
  have K2 := Lib.hid (HK2.out w3 S3.out.pd)
  go_wp2_with fail
  refine K2.out.mono ?_
  rintro e w6 ⟨rfl, y6, f6⟩
  have S6 := Lib.hid (S3.out.read y6 f6)
  have c6 := S6.out.bx.cell 1
  have g6 := S6.out.bx.free 1
  clear y6 f6 K2 x0 x1 S3 HK2
  go_upto_region 3 with fail
  have S7 := Lib.hid (S6.out.put 1 (.string c))
  generalize w6.setCell ⟨b3, 1, none⟩ (.string c) = w7 at *
  clear c6 g6 S6
  have x0 : w7.cell? ⟨b3, 0, none⟩ = some (.int .i64 (a : Int)) := S7.out.bx.cell 0
  have x1 : w7.cell? ⟨b3, 1, none⟩ = some (.string c) := S7.out.bx.cell 1
  have B7 := Lib.hid (HB.out _ S7.out.fr).2
  have z0 : w7.cell? ⟨bx, 0, none⟩ = some (.int .i64 0) := B7.out.cell 0
  have z1 : w7.cell? ⟨bx, 1, none⟩ = some (.string ⟨#[]⟩) := B7.out.cell 1
  have v0 := B7.out.free 0
  have v1 := B7.out.free 1
  obtain ⟨hB, hD, hF8⟩ := hend.out w7 p2 e2 b3 _ (.int .i64 (a : Int)) (.string c) S7.out
  have HB8 := Lib.hid hB
  have HD8 := Lib.hid hD
  have HF8 := Lib.hid hF8
  clear hB hD hF8 hend
  go_wp2_with fail
  refine bodyPost_ret (results_cell_row rfl _ _ _ _ _ _ _ rfl HB8.out uM rfl (by kernel_rfl)) rfl ?_
  exact ⟨rfl, HD8.out, HF8.out⟩
end Go.Proofs.Ytdmmkjijgoiecaa.re

/-
  record: lists of elements of several cells, read: what stands behind a reader; the elements' kinds.
-/
namespace Go.Proofs.Ytdmmkjijgoiecaa.re
open Go.RowKit Go.Shelf Go.Proofs.Ytdmmkjijgoiecaa.mem Go.Proofs.Ytdmmkjijgoiecaa.sy Go.Proofs.Ytdmmkjijgoiecaa.vr Go.Proofs.Ytdmmkjijgoiecaa.po

/-- a kind of elements: their cells, the blocks that they hold, what holds of them in memory -/
structure El (β : Type) where
  row : β → List Value
  bl : β → List Nat
  ok : World → β → Prop

structure El.Good {β : Type} (E : El β) (sz : Nat) : Prop where
  pos : 0 < sz
  len : ∀ b, (E.row b).length = sz
  one : ∀ b, ∀ u ∈ E.row b, u.oneCell' = true
  kept : ∀ {w w' : World} {F : List Nat} {b : β}, E.ok w b → Fr F w w' → (∀ x ∈ E.bl b, x ∉ F) → E.ok w' b
  lt : ∀ {w : World} {b : β}, E.ok w b → ∀ x ∈ E.bl b, x < w.heap.size

/-- a reader in memory: it stands as long as what lies below does -/
structure Rdr (lo : Nat) (D : Nat → Int → World → Prop) : Prop where
  kept : ∀ {q : Nat} {e : Int} {w w' : World} {G : List Nat}, D q e w → Fr G w w' → (∀ x ∈ G, lo ≤ x) → D q e w'

theorem rdr_pd (w0 : World) (r : Nat) (s : ByteArray) : Rdr (r + 1) (PD w0 r s) := ⟨by
  intro q e w w' G h f hg
  exact ⟨⟨h.rd.box.kept f (fun hr => by have := hg r hr; omega)⟩, below_fr h.be f (fun x hx => by have := hg x hx; have := h.ge; omega), h.ge⟩⟩

/-- a list grows behind a reader -/
structure LS2 {β : Type} (E : El β) (sz : Nat) (F : List Nat) (D : Nat → Int → World → Prop) (p : Nat) (er : Int) (W : World) (e : TypeId) (A : Option Addr) (cap : Nat) (xs : List β) (w : World) : Prop where
  pd : D p er w
  fr : Fr F W w
  sg : Sg sz w e A cap xs.length (xs.flatMap E.row)
  nw : ∀ x ∈ blk A, W.heap.size ≤ x
  ok : ∀ b ∈ xs, E.ok w b ∧ ∀ x ∈ E.bl b, W.heap.size ≤ x ∧ x ∉ blk A
  hr : ∀ x ∈ F, x < W.heap.size

/-- an element read -/
def OP {α β : Type} (E : El β) (pr : β → α) (r : Nat) (D : Nat → Int → World → Prop) (a : α) (q : Nat) (eq : Int) (w : World) (en : Ending) (w' : World) : Prop := ∃ b, en = .returned (.agg (E.row b).toArray) ∧ pr b = a ∧ D q eq w' ∧ Fr [r] w w' ∧ E.ok w' b ∧ ∀ x ∈ E.bl b, w.heap.size ≤ x

/-- a list read -/
def LP2 {α β : Type} (E : El β) (sz : Nat) (pr : β → α) (r : Nat) (D : Nat → Int → World → Prop) (e : TypeId) (L : List α) (q : Nat) (eq : Int) (w : World) (en : Ending) (w' : World) : Prop := ∃ (A : Option Addr) (cap : Nat) (bs : List β), bs.map pr = L ∧ en = .returned (.slice A bs.length cap) ∧ Sg sz w' e A cap bs.length (bs.flatMap E.row) ∧ D q eq w' ∧ Fr [r] w w' ∧ (∀ x ∈ blk A, w.heap.size ≤ x) ∧ ∀ b ∈ bs, E.ok w' b ∧ ∀ x ∈ E.bl b, w.heap.size ≤ x

section
variable {β : Type} {E : El β} {sz : Nat} {lo : Nat} {F : List Nat} {r : Nat} {D : Nat → Int → World → Prop} {p : Nat} {er : Int}

theorem LS2.start {W w : World} {e : TypeId} (x : D p er w) (f : Fr F W w) (hr : ∀ x ∈ F, x < W.heap.size) : LS2 E sz F D p er W e none 0 [] w :=
  ⟨x, f, Sg.new sz w e, fun x hx => (by cases hx), fun b hb => (by cases hb), hr⟩

theorem LS2.read {W w w2 : World} {e : TypeId} {A : Option Addr} {cap : Nat} {xs : List β} {q : Nat} {e2 : Int} (G : E.Good sz) (h : LS2 E sz F D p er W e A cap xs w) (x : D q e2 w2) (f : Fr F w w2) : LS2 E sz F D q e2 W e A cap xs w2 := by
  refine ⟨x, h.fr.trans f (fun x hx => Or.inl hx) (fun x hx => Or.inl hx), h.sg.kept f (fun x hx h1 => ?_), h.nw, fun b hb => ⟨G.kept (h.ok b hb).1 f (fun x hx h1 => ?_), (h.ok b hb).2⟩, h.hr⟩
  · have := h.nw x hx
    have := h.hr x h1
    omega
  · have := ((h.ok b hb).2 x hx).1
    have := h.hr x h1
    omega

theorem LS2.push {W w w3 : World} {o : Obj} {e : TypeId} {A A3 : Option Addr} {cap cap3 : Nat} {xs : List β} {b : β} (R : Rdr lo D) (G : E.Good sz) (h : LS2 E sz F D p er W e A cap xs w) (h0 : lo ≤ W.heap.size) (hb : E.ok w b) (hn : ∀ x ∈ E.bl b, W.heap.size ≤ x ∧ x ∉ blk A) (s3 : Sg sz w3 e A3 cap3 (xs.length + 1) (xs.flatMap E.row ++ E.row b)) (f3 : Fr (blk A) (w.alloc o) w3) (b3 : blk A3 = blk A ∨ blk A3 = [(w.alloc o).heap.size]) : LS2 E sz F D p er W e A3 cap3 (xs ++ [b]) w3 := by
  have f4 : Fr (blk A) w w3 := ((Fr.refl [] w).alloc o).trans f3 (by simp) (fun x hx => Or.inl hx)
  have f5 : Fr F W w3 := h.fr.trans f4 (fun x hx => Or.inl hx) (fun x hx => Or.inr (h.nw x hx))
  have hz : (w.alloc o).heap.size = w.heap.size + 1 := Array.size_push _
  refine ⟨R.kept h.pd f4 (fun x hx => Nat.le_trans h0 (h.nw x hx)), f5, ?_, fun x hx => ?_, fun c hc => ?_, h.hr⟩
  · rw [List.length_append, List.flatMap_append]
    simpa using s3
  · rcases b3 with e1 | e1
    · rw [e1] at hx; exact h.nw x hx
    · rw [e1, List.mem_singleton] at hx
      rw [hx]
      exact Nat.le_trans h.fr.size ((Fr.refl [] w).alloc o).size
  · have key : E.ok w c ∧ ∀ x ∈ E.bl c, W.heap.size ≤ x ∧ x ∉ blk A := by
      rcases List.mem_append.1 hc with hc | hc
      · exact h.ok c hc
      · rw [List.mem_singleton] at hc; subst hc; exact ⟨hb, hn⟩
    refine ⟨G.kept key.1 f4 (fun x hx => (key.2 x hx).2), fun x hx => ⟨(key.2 x hx).1, fun h1 => ?_⟩⟩
    rcases b3 with e1 | e1
    · rw [e1] at h1; exact (key.2 x hx).2 h1
    · rw [e1, List.mem_singleton] at h1
      have := G.lt key.1 x hx
      omega

theorem LS2.fin {α : Type} {pr : β → α} {W w2 : World} {e : TypeId} {A : Option Addr} {cap : Nat} {xs : List β} (h : LS2 E sz [r] D p er W e A cap xs w2) : LP2 E sz pr r D e (xs.map pr) p er W (.returned (.slice A xs.length cap)) w2 :=
  ⟨A, cap, xs, rfl, rfl, h.sg, h.pd, h.fr, h.nw, fun b hb => ⟨(h.ok b hb).1, fun x hx => ((h.ok b hb).2 x hx).1⟩⟩

theorem LS2.end_ {α : Type} {pr : β → α} {w W w2 : World} {o : Obj} {e : TypeId} {A : Option Addr} {cap : Nat} {xs : List β} (h : LS2 E sz [r] D p er W e A cap xs w2) (hW : W = w.alloc o) : LP2 E sz pr r D e (xs.map pr) p er w (.returned (.slice A xs.length cap)) w2 := by
  subst hW
  have hz := ((Fr.refl [] w).alloc o).size
  exact ⟨A, cap, xs, rfl, rfl, h.sg, h.pd, ((Fr.refl [] w).alloc o).trans h.fr (by simp) (fun x hx => Or.inl hx), fun x hx => Nat.le_trans hz (h.nw x hx), fun b hb => ⟨(h.ok b hb).1, fun x hx => Nat.le_trans hz ((h.ok b hb).2 x hx).1⟩⟩

theorem LS2.new {W w : World} {e : TypeId} {A : Option Addr} {cap : Nat} {xs : List β} {l : List Nat} (h : LS2 E sz F D p er W e A cap xs w) (hl : ∀ x ∈ l, w.heap.size ≤ x) : ∀ x ∈ l, W.heap.size ≤ x ∧ x ∉ blk A := fun x hx => ⟨Nat.le_trans h.fr.size (hl x hx), fun h1 => by
  have := h.sg.lt x h1
  have := hl x hx
  omega⟩
end

theorem row_cells (w : World) (t : TypeId) (l : List Value) : ∀ (j : Nat) (v : Value), l[j]? = some v → (w.alloc (.cells l.toArray t)).cell? ((⟨w.heap.size, 0, none⟩ : Addr).add j) = some v := by
  intro j v h
  have e1 : (⟨w.heap.size, 0, none⟩ : Addr).add j = ⟨w.heap.size, j, none⟩ := by unfold Addr.add; split <;> simp_all
  rw [e1, (Box.new w t l.toArray).cell j]
  simpa using h

theorem flat_idx {α β : Type} (f : α → List β) (sz : Nat) (h : ∀ x, (f x).length = sz) : ∀ (l : List α) (j : Nat) (hj : j < l.length) (i : Nat), i < sz → (l.flatMap f)[j * sz + i]? = (f l[j])[i]?
  | [], j, hj, i, hi => by simp at hj
  | x :: l, 0, hj, i, hi => by
    rw [List.flatMap_cons, Nat.zero_mul, Nat.zero_add, List.getElem?_append_left (by rw [h]; exact hi)]
    rfl
  | x :: l, j + 1, hj, i, hi => by
    have hm : (j + 1) * sz = j * sz + sz := by rw [Nat.add_mul, Nat.one_mul]
    rw [List.flatMap_cons, List.getElem?_append_right (by rw [h]; omega), h, show (j + 1) * sz + i - sz = j * sz + i by omega]
    exact flat_idx f sz h l j (by simpa using hj) i hi

theorem flat_len {α β : Type} (f : α → List β) (sz : Nat) (h : ∀ x, (f x).length = sz) : ∀ l : List α, (l.flatMap f).length = l.length * sz
  | [] => by simp
  | x :: l => by rw [List.flatMap_cons, List.length_append, h, flat_len f sz h l, List.length_cons, Nat.add_mul, Nat.one_mul, Nat.add_comm]

/-- a list that was read, as rows -/
theorem sg_tbl {β : Type} {sz : Nat} {w : World} {e : TypeId} {A : Option Addr} {cap : Nat} {xs : List β} {f : β → List Value} (hf : ∀ x, (f x).length = sz) (hp : 0 < sz) (h : Sg sz w e A cap xs.length (xs.flatMap f)) : Tbl w A sz (xs.map f) := fun hz => by
  rw [List.length_map] at hz
  have hfl := flat_len f sz hf xs
  have hpos : 0 < xs.length * sz := Nat.mul_pos hz hp
  obtain ⟨g, off, e, hl, hc⟩ := h.rd hp (by omega)
  refine ⟨g, off, e, hl, fun j hj i v hv => ?_⟩
  rw [List.length_map] at hj
  rw [List.getElem_map] at hv
  have hi : i < sz := by rw [← hf xs[j]]; exact (List.getElem?_eq_some_iff.1 hv).1
  have h1 := flat_idx f sz hf xs j hj i hi
  rw [hv] at h1
  obtain ⟨h2, h3⟩ := List.getElem?_eq_some_iff.1 h1
  have := hc (j * sz + i) h2
  rw [h3] at this
  rw [Nat.add_assoc]
  exact this

theorem Tbl.kept {F : List Nat} {w w' : World} {A : Option Addr} {sz : Nat} {rows : List (List Value)} (h : Tbl w A sz rows) (hf : Fr F w w') (hd : ∀ g ∈ blk A, g ∉ F) : Tbl w' A sz rows := fun hz => by
  obtain ⟨b, off, e, hl, hc⟩ := h hz
  subst e
  have hb : b ∉ F := hd b (by simp [blk])
  refine ⟨b, off, rfl, Nat.lt_of_lt_of_le hl hf.size, fun j hj i v hv => ?_⟩
  exact (World.cell?_of_block (w := w) (hf.block b hl hb)).trans (hc j hj i v hv)

def EMk : El Mk := ⟨mkRow, fun _ => [], fun _ m => m.tag.size ≤ maxLen ∧ (Lit.int .i64 m.at_).wf = true⟩
def EFn : El SF := ⟨fnRow, fun _ => [], fun _ f => FOk f⟩
def EOb : El MO := ⟨MO.row, fun x => blk x.mA, fun w x => MOk w x ∧ ∀ g ∈ blk x.mA, g < w.heap.size⟩
def ECo : El MC := ⟨MC.row, fun x => blk x.aA, fun w x => COk w x ∧ ∀ g ∈ blk x.aA, g < w.heap.size⟩

def ETx : El ByteArray := ⟨fun s => [.string s], fun _ => [], fun _ _ => True⟩
theorem gTx : ETx.Good 1 := ⟨by decide, fun _ => rfl, fun b u hu => by
  simp only [ETx, List.mem_cons, List.not_mem_nil, or_false] at hu
  rcases hu with rfl
  rfl, fun h _ _ => h, fun _ x hx => by cases hx⟩
theorem gMk : EMk.Good 2 := ⟨by decide, fun _ => rfl, fun b u hu => by
  simp only [EMk, mkRow, List.mem_cons, List.not_mem_nil, or_false] at hu
  rcases hu with rfl | rfl <;> rfl, fun h _ _ => h, fun _ x hx => by cases hx⟩
theorem gFn : EFn.Good 3 := ⟨by decide, fun _ => rfl, fun b u hu => by
  simp only [EFn, fnRow, List.mem_cons, List.not_mem_nil, or_false] at hu
  rcases hu with rfl | rfl | rfl <;> rfl, fun h _ _ => h, fun _ x hx => by cases hx⟩
theorem gOb : EOb.Good 3 := ⟨by decide, fun _ => rfl, fun b u hu => by
  simp only [EOb, MO.row, List.mem_cons, List.not_mem_nil, or_false] at hu
  rcases hu with rfl | rfl | rfl <;> rfl, fun {w w' F b} h f hd => ⟨⟨h.1.n, h.1.k, Tbl.kept h.1.m f hd, h.1.ml, h.1.mt, h.1.mw, h.1.mcp⟩, fun g hg => Nat.lt_of_lt_of_le (h.2 g hg) f.size⟩, fun h x hx => h.2 x hx⟩
theorem gCo : ECo.Good 6 := ⟨by decide, fun _ => rfl, fun b u hu => by
  simp only [ECo, MC.row, List.mem_cons, List.not_mem_nil, or_false] at hu
  rcases hu with rfl | rfl | rfl | rfl | rfl | rfl <;> rfl, fun {w w' F b} h f hd => ⟨⟨h.1.a, h.1.b, h.1.t, h.1.g.kept f hd, h.1.gl, h.1.gc, h.1.gs⟩, fun g hg => Nat.lt_of_lt_of_le (h.2 g hg) f.size⟩, fun h x hx => h.2 x hx⟩
end Go.Proofs.Ytdmmkjijgoiecaa.re
