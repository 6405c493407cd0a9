/-
  varint: the reference's Writer.
-/
import Derived.Test.YtidmcifckbpgbaaVr2
import Derived.Deep.RegionHeld3
namespace Go.Proofs.Ytidmcifckbpgbaa.vr
open Go.RowKit Go.Proofs.Ytidmcifckbpgbaa.mem

def putN (st : List UInt8 × Int) (n : Int) : List UInt8 × Int := if st.2 ≠ 0 then st else if n < 0 ∨ 268435456 < n then (st.1, 2) else (st.1 ++ nb n.toNat, 0)
def putT (st : List UInt8 × Int) (s : ByteArray) : List UInt8 × Int := if st.2 ≠ 0 then st else if 200000 < (s.size : Int) then (st.1, 9) else (st.1 ++ (nb s.size ++ s.data.toList), 0)
def doneS (st : List UInt8 × Int) : List UInt8 := if st.2 ≠ 0 then [] else st.1

structure RW (w : World) (r : Nat) (st : List UInt8 × Int) : Prop where
  box : Box w r 32 #[.string (bs st.1), .int .i64 st.2]

theorem RW.setS {w : World} {r : Nat} {st : List UInt8 × Int} (h : RW w r st) (S : List UInt8) : RW (w.setCell ⟨r, 0, none⟩ (.string (bs S))) r (S, st.2) := ⟨h.box.put 0 _⟩
theorem RW.setE {w : World} {r : Nat} {st : List UInt8 × Int} (h : RW w r st) (e : Int) : RW (w.setCell ⟨r, 1, none⟩ (.int .i64 e)) r (st.1, e) := ⟨h.box.put 1 _⟩

def RPost (w : World) (r : Nat) (st : List UInt8 × Int) (e : Ending) (w' : World) : Prop := e = .returned (.tuple #[]) ∧ RW w' r st ∧ Fr [r] w w'

theorem app_str (S T : List UInt8) : bs S ++ bs T = bs (S ++ T) := bs_app S T

set_option maxRecDepth 100000 in
theorem rw_number (w : World) (r : Nat) (st : List UInt8 × Int) (n : Int) (h : RW w r st) (hl : st.1.length ≤ 100000000) :
    Calls Try.prog 21 #[.pointer (some ⟨r, 0, none⟩), .int .i64 n] w (RPost w r (putN st n)) := by
  have c0 : w.cell? ⟨r, 0, none⟩ = some (.string (bs st.1)) := h.box.cell 0
  have c1 : w.cell? ⟨r, 1, none⟩ = some (.int .i64 st.2) := h.box.cell 1
  have fr := h.box.free 1
  have H := Lib.hid h
  clear h
  obtain ⟨S, E⟩ := st
  unfold RPost putN
  simp only at c0 c1 hl ⊢
  by_cases hE : E = 0
  · subst hE
    by_cases h1 : n < 0
    · have d1 : decide (n < 0) = true := decide_eq_true h1
      have hv : Hid ((if (0 : Int) ≠ 0 then (S, (0 : Int)) else if n < 0 ∨ 268435456 < n then (S, 2) else (S ++ nb n.toNat, 0)) = (S, 2)) := Lib.hid (by rw [if_neg (by simp), if_pos (Or.inl h1)])
      rw [hv.out]
      clear hv
      have hs := Lib.hid (H.out.setE 2)
      have hf := Lib.hid ((Fr.refl [r] w).setCell (p := ⟨r, 1, none⟩) (Or.inl (by simp)) (.int .i64 2))
      clear c0
      go_enter Try.func21, Try.ntmps21
      go_wp2_with fail
      go_end0
      exact ⟨rfl, hs.out, hf.out⟩
    · have d1 : decide (n < 0) = false := decide_eq_false h1
      by_cases h2 : 268435456 < n
      · have d2 : decide (268435456 < n) = true := decide_eq_true h2
        have hv : Hid ((if (0 : Int) ≠ 0 then (S, (0 : Int)) else if n < 0 ∨ 268435456 < n then (S, 2) else (S ++ nb n.toNat, 0)) = (S, 2)) := Lib.hid (by rw [if_neg (by simp), if_pos (Or.inr h2)])
        rw [hv.out]
        clear hv
        have hs := Lib.hid (H.out.setE 2)
        have hf := Lib.hid ((Fr.refl [r] w).setCell (p := ⟨r, 1, none⟩) (Or.inl (by simp)) (.int .i64 2))
        clear c0
        go_enter Try.func21, Try.ntmps21
        go_wp2_with fail
        go_end0
        exact ⟨rfl, hs.out, hf.out⟩
      · have d2 : decide (268435456 < n) = false := decide_eq_false h2
        obtain ⟨k, rfl⟩ := Int.eq_ofNat_of_zero_le (by omega : 0 ≤ n)
        have hv : Hid ((if (0 : Int) ≠ 0 then (S, (0 : Int)) else if (k : Int) < 0 ∨ 268435456 < (k : Int) then (S, 2) else (S ++ nb (k : Int).toNat, 0)) = (S ++ nb k, 0)) := Lib.hid (by rw [if_neg (by simp), if_neg (by omega)]; rfl)
        rw [hv.out]
        have K := Lib.hid (fun w' => rnumber_any w' k (by omega))
        have hn5 := nb_len k (by omega)
        have hsz : ¬ 9223372036854775807 < (bs S).size + (bs (nb k)).size := by rw [bs_size, bs_size]; omega
        have HN : Hid (∀ w2, Below w.drew.heap.size w.drew w2 → w2.cell? ⟨r, 0, none⟩ = some (.string (bs S)) ∧ w2.frozen? ⟨r, 0, none⟩ = false ∧ RW (w2.setCell ⟨r, 0, none⟩ (.string (bs S ++ bs (nb k)))) r (S ++ nb k, 0) ∧ Fr [r] w (w2.setCell ⟨r, 0, none⟩ (.string (bs S ++ bs (nb k))))) := Lib.hid (fun w2 hb => by
          have h2 : RW w2 r (S, 0) := ⟨H.out.box.kept ((Fr.refl [] w).drew.trans (G := []) (Fr.of_below hb []) (by simp) (by simp)) (by simp)⟩
          refine ⟨h2.box.cell 0, h2.box.free 0, ?_, ((Fr.refl [r] w).drew.trans (G := [r]) (Fr.of_below hb [r]) (by simp) (by simp)).setCell (p := ⟨r, 0, none⟩) (Or.inl (by simp)) _⟩
          rw [bs_app]
          exact h2.setS (S ++ nb k))
        have f0 := H.out.box.free 0
        clear hv fr H hl
        go_enter Try.func21, Try.ntmps21
        go_wp2_with fail
        go_region_with ((go_at_call 49; refine (K.out _).mono ?_; rintro e w2 ⟨rfl, hb⟩; obtain ⟨k1, k2, k3, k4⟩ := HN.out _ hb; have k3 := Lib.hid k3; have k4 := Lib.hid k4; clear hb))
        all_goals (go_wp2_with fail; go_end0; exact ⟨rfl, k3.out, k4.out⟩)
  · have hv : Hid ((if E ≠ 0 then (S, E) else if n < 0 ∨ 268435456 < n then (S, 2) else (S ++ nb n.toNat, 0)) = (S, E)) := Lib.hid (by rw [if_pos hE])
    rw [hv.out]
    have d0 : (E != 0) = true := by simp; exact hE
    clear hv c0 fr
    go_enter Try.func21, Try.ntmps21
    go_wp2_with fail
    go_end0
    exact ⟨rfl, H.out, Fr.refl _ _⟩

set_option maxRecDepth 100000 in
theorem rw_text (w : World) (r : Nat) (st : List UInt8 × Int) (s : ByteArray) (h : RW w r st) (hl : st.1.length ≤ 100000000) :
    Calls Try.prog 20 #[.pointer (some ⟨r, 0, none⟩), .string s] w (RPost w r (putT st s)) := by
  have c0 : w.cell? ⟨r, 0, none⟩ = some (.string (bs st.1)) := h.box.cell 0
  have c1 : w.cell? ⟨r, 1, none⟩ = some (.int .i64 st.2) := h.box.cell 1
  have fr := h.box.free 1
  have H := Lib.hid h
  clear h
  obtain ⟨S, E⟩ := st
  unfold RPost putT
  simp only at c0 c1 hl ⊢
  by_cases hE : E = 0
  · subst hE
    by_cases h1 : 200000 < (s.size : Int)
    · have d1 : decide (200000 < (s.size : Int)) = true := decide_eq_true h1
      have hv : Hid ((if (0 : Int) ≠ 0 then (S, (0 : Int)) else if 200000 < (s.size : Int) then (S, 9) else (S ++ (nb s.size ++ s.data.toList), 0)) = (S, 9)) := Lib.hid (by rw [if_neg (by simp), if_pos h1])
      rw [hv.out]
      clear hv
      have hs := Lib.hid (H.out.setE 9)
      have hf := Lib.hid ((Fr.refl [r] w).setCell (p := ⟨r, 1, none⟩) (Or.inl (by simp)) (.int .i64 9))
      clear c0
      go_enter Try.func20, Try.ntmps20
      go_wp2_with fail
      go_end0
      exact ⟨rfl, hs.out, hf.out⟩
    · have d2 : decide (200000 < (s.size : Int)) = false := decide_eq_false h1
      have hv : Hid ((if (0 : Int) ≠ 0 then (S, (0 : Int)) else if 200000 < (s.size : Int) then (S, 9) else (S ++ (nb s.size ++ s.data.toList), 0)) = (S ++ (nb s.size ++ s.data.toList), 0)) := Lib.hid (by rw [if_neg (by simp), if_neg h1])
      rw [hv.out]
      have K := Lib.hid (fun w' => rnumber_any w' s.size (by omega))
      have hn5 := nb_len s.size (by omega)
      have hsz : ¬ 9223372036854775807 < (bs S).size + (bs (nb s.size)).size := by rw [bs_size, bs_size]; omega
      have hsz2 : ¬ 9223372036854775807 < (bs S).size + (bs (nb s.size)).size + s.size := by rw [bs_size, bs_size]; omega
      have hsz3 : ¬ 9223372036854775807 < (bs S ++ bs (nb s.size)).size + s.size := by rw [ByteArray.size_append, bs_size, bs_size]; omega
      have hsb : Hid (bs S ++ bs (nb s.size) ++ s = bs (S ++ (nb s.size ++ s.data.toList))) := Lib.hid (by
        rw [← List.append_assoc, ← bs_app, ← bs_app, bs_of])
      have HN : Hid (∀ w2, Below w.drew.heap.size w.drew w2 → w2.cell? ⟨r, 0, none⟩ = some (.string (bs S)) ∧ w2.frozen? ⟨r, 0, none⟩ = false ∧ RW (w2.setCell ⟨r, 0, none⟩ (.string (bs S ++ bs (nb s.size) ++ s))) r (S ++ (nb s.size ++ s.data.toList), 0) ∧ Fr [r] w (w2.setCell ⟨r, 0, none⟩ (.string (bs S ++ bs (nb s.size) ++ s)))) := Lib.hid (fun w2 hb => by
        have h2 : RW w2 r (S, 0) := ⟨H.out.box.kept ((Fr.refl [] w).drew.trans (G := []) (Fr.of_below hb []) (by simp) (by simp)) (by simp)⟩
        refine ⟨h2.box.cell 0, h2.box.free 0, ?_, ((Fr.refl [r] w).drew.trans (G := [r]) (Fr.of_below hb [r]) (by simp) (by simp)).setCell (p := ⟨r, 0, none⟩) (Or.inl (by simp)) _⟩
        rw [hsb.out]
        exact h2.setS _)
      have f0 := H.out.box.free 0
      clear hv fr H hl hsb
      go_enter Try.func20, Try.ntmps20
      go_wp2_with fail
      go_region_with ((go_at_call 49; refine (K.out _).mono ?_; rintro e w2 ⟨rfl, hb⟩; obtain ⟨k1, k2, k3, k4⟩ := HN.out _ hb; have k3 := Lib.hid k3; have k4 := Lib.hid k4; clear hb))
      all_goals (go_wp2_with fail; go_end0; exact ⟨rfl, k3.out, k4.out⟩)
  · have hv : Hid ((if E ≠ 0 then (S, E) else if 200000 < (s.size : Int) then (S, 9) else (S ++ (nb s.size ++ s.data.toList), 0)) = (S, E)) := Lib.hid (by rw [if_pos hE])
    rw [hv.out]
    have d0 : (E != 0) = true := by simp; exact hE
    clear hv c0 fr
    go_enter Try.func20, Try.ntmps20
    go_wp2_with fail
    go_end0
    exact ⟨rfl, H.out, Fr.refl _ _⟩

set_option maxRecDepth 100000 in
theorem rw_done (w : World) (r : Nat) (st : List UInt8 × Int) (h : RW w r st) :
    Calls Try.prog 23 #[.pointer (some ⟨r, 0, none⟩)] w fun e w' => e = .returned (.tuple #[.string (bs (doneS st)), .int .i64 st.2]) ∧ Below w.heap.size w w' := by
  have c0 : w.cell? ⟨r, 0, none⟩ = some (.string (bs st.1)) := h.box.cell 0
  have c1 : w.cell? ⟨r, 1, none⟩ = some (.int .i64 st.2) := h.box.cell 1
  clear h
  obtain ⟨S, E⟩ := st
  unfold doneS
  simp only at c0 c1 ⊢
  by_cases hE : E = 0
  · subst hE
    have hv : Hid ((if (0 : Int) ≠ 0 then ([] : List UInt8) else S) = S) := Lib.hid (if_neg (by simp))
    rw [hv.out]
    clear hv
    go_enter Try.func23, Try.ntmps23
    go_wp2_with fail
    go_ret2
    exact ⟨rfl, Below.refl _ _⟩
  · have hv : Hid ((if E ≠ 0 then ([] : List UInt8) else S) = []) := Lib.hid (if_pos hE)
    rw [hv.out]
    have d0 : (E != 0) = true := by simp; exact hE
    clear hv
    go_enter Try.func23, Try.ntmps23
    go_wp2_with fail
    go_region
    go_wp2_with fail
    go_ret2
    exact ⟨rfl, (Below.refl _ _).drew⟩
end Go.Proofs.Ytidmcifckbpgbaa.vr
