import Derived.Test.YtdmmkjijgoiecaaV04
import Derived.Laws.DeepStrings4
import Derived.IntWalk
/-
  varint: the reference's Reader.
-/
set_option linter.all false
namespace Go.Proofs.Ytdmmkjijgoiecaa.vr
open Go.RowKit Go.Proofs.Ytdmmkjijgoiecaa.mem

theorem slice_lh (W : World) (s : ByteArray) (q a : Nat) (h : q + a ≤ s.size) : (Instr.slice 9 (.string s) (some (.int .i64 (q : Int))) (some (.int .i64 ((q : Int) + (a : Int)))) none).run Try.prog W = .ok (.string (s.extract q (q + a))) W := by
  rw [run_slice_string_if W 9 s .i64 .i64 _ _ Try.underlying9, if_pos (by omega), if_pos (by omega)]
  rw [show ((q : Int) + (a : Int)).toNat = q + a from by omega, Int.toNat_natCast]

/-- the reference's reader in memory -/
structure RR (w : World) (r : Nat) (s : ByteArray) (p : Nat) (e : Int) : Prop where
  box : Box w r 91 #[.string s, .int .i64 (p : Int), .int .i64 e]

theorem RR.setP {w : World} {r : Nat} {s : ByteArray} {p : Nat} {e : Int} (h : RR w r s p e) (q : Nat) : RR (w.setCell ⟨r, 1, none⟩ (.int .i64 (q : Int))) r s q e := ⟨h.box.put 1 _⟩
theorem RR.setE {w : World} {r : Nat} {s : ByteArray} {p : Nat} {e : Int} (h : RR w r s p e) (d : Int) : RR (w.setCell ⟨r, 2, none⟩ (.int .i64 d)) r s p d := ⟨h.box.put 2 _⟩
theorem RR.drew {w : World} {r : Nat} {s : ByteArray} {p : Nat} {e : Int} (h : RR w r s p e) : RR w.drew r s p e := ⟨h.box⟩

def QPost (w : World) (r : Nat) (s : ByteArray) (v : Value) (p : Nat) (er : Int) (e : Ending) (w' : World) : Prop := e = .returned v ∧ RR w' r s p er ∧ Fr [r] w w'

set_option maxRecDepth 100000 in
theorem rr_number (w : World) (r : Nat) (s : ByteArray) (p : Nat) (er : Int) (h : RR w r s p er) (hs : s.size ≤ maxLen) (hp : p ≤ s.size) :
    Calls Try.prog 40 #[.pointer (some ⟨r, 0, none⟩)] w (QPost w r s (.int .i64 (nV s p er)) (nP s p er) (nE s p er)) := by
  have c0 : w.cell? ⟨r, 0, none⟩ = some (.string s) := h.box.cell 0
  have c1 : w.cell? ⟨r, 1, none⟩ = some (.int .i64 (p : Int)) := h.box.cell 1
  have c2 : w.cell? ⟨r, 2, none⟩ = some (.int .i64 er) := h.box.cell 2
  have f1 := h.box.free 1
  have f2 := h.box.free 2
  have H := Lib.hid h
  clear h
  have K0 := fun w' => rcount_any s p w' hs hp
  unfold NPost at K0
  have K : Hid (∀ w', Calls Try.prog 64 #[.string s, .int .i64 (p : Int)] w' fun e w'' => e = .returned (.tuple #[.int .i64 (ct s p).1, .int .i64 (pl p (ct s p)), .int .i64 (ct s p).2.2]) ∧ w' = w'') := Lib.hid K0
  clear K0
  by_cases hE : er = 0
  · subst hE
    have e1 : nV s p 0 = (ct s p).1 := if_neg (by simp)
    have e2 : nP s p 0 = p + (ct s p).2.1 := if_neg (by simp)
    have e3 : nE s p 0 = ((ct s p).2.2 : Nat) := if_neg (by simp)
    rw [e1, e2, e3]
    clear e1 e2 e3
    by_cases hc : (ct s p).2.2 = 0
    · have e4 : pl p (ct s p) = p + (ct s p).2.1 := if_pos hc
      rw [hc, e4] at K
      rw [hc]
      clear e4 hc
      generalize (ct s p).1 = a at *
      generalize p + (ct s p).2.1 = q at *
      have hS := Lib.hid (H.out.drew.setP q)
      have hF := Lib.hid ((Fr.refl [r] w).drew.setCell (p := ⟨r, 1, none⟩) (Or.inl (by simp)) (.int .i64 (q : Int)))
      clear H hs hp
      go_enter Try.func40, Try.ntmps40
      go_wp2_with fail
      go_region_held3 (fun w' => w'.cell? ⟨r, 0, none⟩ = some (.string s) ∧ w'.cell? ⟨r, 1, none⟩ = some (.int .i64 (p : Int)))
        (first | exact ⟨c0, c1⟩ | go_keep)
        ((go_at_call 64; refine (K.out _).mono ?_; rintro e w2 ⟨rfl, rfl⟩))
      go_wp2_with fail
      go_ret
      exact ⟨rfl, hS.out, hF.out⟩
    · have e4 : pl p (ct s p) = 0 := if_neg hc
      have hbad := ct_bad s p hc
      rw [e4, hbad.1] at K
      rw [hbad.1, hbad.2, Nat.add_zero]
      clear e4 hbad
      generalize (ct s p).2.2 = c at *
      have d1 : ((c : Int) != 0) = true := by simp; omega
      have hS := Lib.hid (H.out.drew.setE (c : Int))
      have hF := Lib.hid ((Fr.refl [r] w).drew.setCell (p := ⟨r, 2, none⟩) (Or.inl (by simp)) (.int .i64 (c : Int)))
      clear H hs hp hc
      go_enter Try.func40, Try.ntmps40
      go_wp2_with fail
      go_region_held3 (fun w' => w'.cell? ⟨r, 0, none⟩ = some (.string s) ∧ w'.cell? ⟨r, 1, none⟩ = some (.int .i64 (p : Int)))
        (first | exact ⟨c0, c1⟩ | go_keep)
        ((go_at_call 64; refine (K.out _).mono ?_; rintro e w2 ⟨rfl, rfl⟩))
      go_wp2_with fail
      go_ret
      exact ⟨rfl, hS.out, hF.out⟩
  · have e1 : nV s p er = 0 := if_pos hE
    have e2 : nP s p er = p := if_pos hE
    have e3 : nE s p er = er := if_pos hE
    rw [e1, e2, e3]
    have d0 : (er != 0) = true := by simp; exact hE
    clear e1 e2 e3 hp hs
    generalize (ct s p).1 = a at *
    generalize pl p (ct s p) = b at *
    generalize (ct s p).2.2 = c at *
    go_enter Try.func40, Try.ntmps40
    go_wp2_with fail
    go_region_held3 (fun w' => w'.cell? ⟨r, 0, none⟩ = some (.string s) ∧ w'.cell? ⟨r, 1, none⟩ = some (.int .i64 (p : Int)))
      (first | exact ⟨c0, c1⟩ | go_keep)
      ((go_at_call 64; refine (K.out _).mono ?_; rintro e w2 ⟨rfl, rfl⟩))
    go_wp2_with fail
    go_ret
    exact ⟨rfl, H.out.drew, (Fr.refl _ _).drew⟩

set_option maxRecDepth 100000 in
theorem rr_fail (w : World) (r : Nat) (s : ByteArray) (p : Nat) (er d : Int) (h : RR w r s p er) :
    Calls Try.prog 63 #[.pointer (some ⟨r, 0, none⟩), .int .i64 d] w (QPost w r s (.tuple #[]) p (fE er d)) := by
  have c2 : w.cell? ⟨r, 2, none⟩ = some (.int .i64 er) := h.box.cell 2
  have f2 := h.box.free 2
  have H := Lib.hid h
  clear h
  by_cases hE : er = 0
  · subst hE
    have e1 : fE 0 d = d := if_pos rfl
    rw [e1]
    have hS := Lib.hid (H.out.setE d)
    have hF := Lib.hid ((Fr.refl [r] w).setCell (p := ⟨r, 2, none⟩) (Or.inl (by simp)) (.int .i64 d))
    clear e1
    go_enter Try.func63, Try.ntmps63
    go_wp2_with fail
    go_end0
    exact ⟨rfl, hS.out, hF.out⟩
  · have e1 : fE er d = er := if_neg hE
    rw [e1]
    have d0 : (er == 0) = false := by simp; exact hE
    clear e1 f2
    go_enter Try.func63, Try.ntmps63
    go_wp2_with fail
    go_end0
    exact ⟨rfl, H.out, Fr.refl _ _⟩

set_option maxRecDepth 100000 in
theorem rr_done (w : World) (r : Nat) (s : ByteArray) (p : Nat) (er : Int) (h : RR w r s p er) :
    Calls Try.prog 41 #[.pointer (some ⟨r, 0, none⟩)] w (QPost w r s (.tuple #[.int .i64 (p : Int), .int .i64 (dE s p er)]) p er) := by
  have c0 : w.cell? ⟨r, 0, none⟩ = some (.string s) := h.box.cell 0
  have c1 : w.cell? ⟨r, 1, none⟩ = some (.int .i64 (p : Int)) := h.box.cell 1
  have c2 : w.cell? ⟨r, 2, none⟩ = some (.int .i64 er) := h.box.cell 2
  have H := Lib.hid h
  clear h
  by_cases hE : er = 0
  · subst hE
    by_cases hp : p < s.size
    · have e1 : dE s p 0 = 6 := if_pos ⟨rfl, hp⟩
      rw [e1]
      have d1 : decide ((p : Int) < (s.size : Int)) = true := decide_eq_true (by omega)
      clear e1
      go_enter Try.func41, Try.ntmps41
      go_wp2_with fail
      go_region
      go_wp2_with fail
      go_ret2
      exact ⟨rfl, H.out.drew, (Fr.refl _ _).drew⟩
    · have e1 : dE s p 0 = 0 := if_neg (by omega)
      rw [e1]
      have d1 : decide ((p : Int) < (s.size : Int)) = false := decide_eq_false (by omega)
      clear e1
      go_enter Try.func41, Try.ntmps41
      go_wp2_with fail
      go_region
      go_wp2_with fail
      go_region
      go_wp2_with fail
      go_ret2
      exact ⟨rfl, H.out.drew.drew, (Fr.refl _ _).drew.drew⟩
  · have e1 : dE s p er = er := if_neg (fun h => hE h.1)
    rw [e1]
    have d0 : (er == 0) = false := by simp; exact hE
    clear e1
    go_enter Try.func41, Try.ntmps41
    go_wp2_with fail
    go_region
    go_wp2_with fail
    go_region
    go_wp2_with fail
    go_ret2
    exact ⟨rfl, H.out.drew.drew, (Fr.refl _ _).drew.drew⟩
end Go.Proofs.Ytdmmkjijgoiecaa.vr
