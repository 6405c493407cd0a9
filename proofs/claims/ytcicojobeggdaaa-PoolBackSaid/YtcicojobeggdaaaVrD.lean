/-
  varint: the Reader's Text.
-/
import Derived.Test.YtcicojobeggdaaaVrC
namespace Go.Proofs.Ytcicojobeggdaaa.vr
open Go.RowKit Go.Proofs.Ytcicojobeggdaaa.mem

/-- what taking a text makes -/
def tx (s : ByteArray) (p : Nat) (e : Int) : ByteArray × Nat × Int :=
  if e ≠ 0 then (⟨#[]⟩, p, e)
  else if (ct s p).2.2 ≠ 0 then (⟨#[]⟩, p, ((ct s p).2.2 : Nat))
  else if s.size - (p + (ct s p).2.1) < (ct s p).1 then (⟨#[]⟩, p, 1)
  else (s.extract (p + (ct s p).2.1) (p + (ct s p).2.1 + (ct s p).1), p + (ct s p).2.1 + (ct s p).1, 0)

theorem extract_two (s : ByteArray) (q n : Nat) (h : q + n ≤ s.size) : (s.extract q s.size).extract 0 n = s.extract q (q + n) := by
  rw [ByteArray.extract_extract]
  congr 1
  omega

theorem extract_size (s : ByteArray) (q : Nat) (_h : q ≤ s.size) : (s.extract q s.size).size = s.size - q := by
  rw [ByteArray.size_extract]; omega

set_option maxRecDepth 100000 in
theorem rd_text (w : World) (r : Nat) (s : ByteArray) (p : Nat) (er : Int) (h : RD w r s p er) (hs : s.size ≤ maxLen) (hp : p ≤ s.size) :
    Calls Try.prog 39 #[.pointer (some ⟨r, 0, none⟩)] w (DPost w r s (.string (tx s p er).1) (tx s p er).2.1 (tx s p er).2.2) := by
  have c0 : w.cell? ⟨r, 0, none⟩ = some (.string s) := h.box.cell 0
  have c1 : w.cell? ⟨r, 1, none⟩ = some (.int .i64 (p : Int)) := h.box.cell 1
  have c2 : w.cell? ⟨r, 2, none⟩ = some (.int .i64 er) := h.box.cell 2
  have f1 := h.box.free 1
  have f2 := h.box.free 2
  have H := Lib.hid h
  clear h
  by_cases hE : er = 0
  · subst hE
    have hle := ct_le s p hp
    have K := Lib.hid (fun w' => count_any (s.extract p s.size) w' (by simp; omega))
    rw [extract_drop] at K
    have K : Hid (∀ w', Calls Try.prog 37 #[.string (s.extract p s.size)] w' fun e w'' => e = .returned (.tuple #[.int .i64 (ct s p).1, .int .i64 (ct s p).2.1, .int .i64 (ct s p).2.2]) ∧ w' = w'') := K
    by_cases hc : (ct s p).2.2 = 0
    · by_cases hn : s.size - (p + (ct s p).2.1) < (ct s p).1
      · have hv : tx s p 0 = (⟨#[]⟩, p, 1) := by unfold tx; rw [if_neg (by simp), if_neg (by simp [hc]), if_pos hn]
        rw [hv]
        rw [hc] at K
        clear hv hc
        generalize (ct s p).1 = a at *
        generalize (ct s p).2.1 = b at *
        have hS := Lib.hid (H.out.drew.drew.setE 1)
        have hF := Lib.hid ((Fr.refl [r] w).drew.drew.setCell (p := ⟨r, 2, none⟩) (Or.inl (by simp)) (.int .i64 1))
        have d1 : decide (((s.extract (p + b) s.size).size : Int) < (a : Int)) = true := decide_eq_true (by rw [extract_size s _ hle]; omega)
        have hsz := extract_size s (p + b) hle
        have hsz := Lib.hid hsz
        unfold maxLen at hs
        clear H
        go_enter Try.func39, Try.ntmps39
        go_wp2_with fail
        go_region_held3 (fun w' => w'.cell? ⟨r, 0, none⟩ = some (.string s) ∧ w'.cell? ⟨r, 1, none⟩ = some (.int .i64 (p : Int)))
          (first | exact ⟨c0, c1⟩ | go_keep)
          ((go_at_call 37; refine (K.out _).mono ?_; rintro e w2 ⟨rfl, rfl⟩))
        go_wp2_with fail
        go_region
        go_wp2_with fail
        go_ret
        exact ⟨rfl, hS.out, hF.out⟩
      · have hok := ct_ok s p hp hc
        have hv : tx s p 0 = (s.extract (p + (ct s p).2.1) (p + (ct s p).2.1 + (ct s p).1), p + (ct s p).2.1 + (ct s p).1, 0) := by unfold tx; rw [if_neg (by simp), if_neg (by simp [hc]), if_neg hn]
        rw [hv]
        rw [hc] at K
        clear hv hc
        generalize (ct s p).1 = a at *
        generalize (ct s p).2.1 = b at *
        have hS := Lib.hid (H.out.drew.drew.setP (p + b + a))
        have hF := Lib.hid ((Fr.refl [r] w).drew.drew.setCell (p := ⟨r, 1, none⟩) (Or.inl (by simp)) (.int .i64 ((p + b + a : Nat) : Int)))
        have hsz := extract_size s (p + b) hle
        have d1 : decide (((s.extract (p + b) s.size).size : Int) < (a : Int)) = false := decide_eq_false (by omega)
        have hle2 : (a : Int) ≤ ((s.extract (p + b) s.size).size : Int) := by omega
        have hsz := Lib.hid hsz
        have hex := Lib.hid (extract_two s (p + b) a (by omega))
        have hsum : Hid (((p : Int) + ((b : Int) + (a : Int))) = ((p + b + a : Nat) : Int)) := Lib.hid (by omega)
        unfold maxLen at hs
        clear H
        go_enter Try.func39, Try.ntmps39
        go_wp2_with fail
        go_region_held3 (fun w' => w'.cell? ⟨r, 0, none⟩ = some (.string s) ∧ w'.cell? ⟨r, 1, none⟩ = some (.int .i64 (p : Int)))
          (first | exact ⟨c0, c1⟩ | go_keep)
          ((go_at_call 37; refine (K.out _).mono ?_; rintro e w2 ⟨rfl, rfl⟩))
        go_wp2_with fail
        go_region
        go_wp2_with fail
        go_ret
        refine ⟨?_, ?_, ?_⟩
        · rw [← hex.out]; rfl
        · have := hS.out
          rw [← hsum.out] at this
          exact this
        · have := hF.out
          rw [← hsum.out] at this
          exact this
    · have hbad := ct_bad s p hc
      have hv : tx s p 0 = ((⟨#[]⟩ : ByteArray), p, (((ct s p).2.2 : Nat) : Int)) := by unfold tx; rw [if_neg (by simp), if_pos hc]
      rw [hv]
      rw [hbad.1, hbad.2] at K
      clear hv hbad hle
      generalize (ct s p).2.2 = c at *
      have hS := Lib.hid (H.out.drew.drew.setE (c : Int))
      have hF := Lib.hid ((Fr.refl [r] w).drew.drew.setCell (p := ⟨r, 2, none⟩) (Or.inl (by simp)) (.int .i64 (c : Int)))
      have d1 : ((c : Int) == 0) = false := by simp; omega
      have d2 : ((c : Int) != 0) = true := by simp; omega
      unfold maxLen at hs
      clear H
      go_enter Try.func39, Try.ntmps39
      go_wp2_with fail
      go_region_held3 (fun w' => w'.cell? ⟨r, 0, none⟩ = some (.string s) ∧ w'.cell? ⟨r, 1, none⟩ = some (.int .i64 (p : Int)))
        (first | exact ⟨c0, c1⟩ | go_keep)
        ((go_at_call 37; refine (K.out _).mono ?_; rintro e w2 ⟨rfl, rfl⟩))
      go_wp2_with fail
      go_region
      go_wp2_with fail
      go_ret
      exact ⟨rfl, hS.out, hF.out⟩
  · have hv : tx s p er = (⟨#[]⟩, p, er) := by unfold tx; rw [if_pos hE]
    rw [hv]
    have d0 : (er != 0) = true := by simp; exact hE
    clear hv hp hs
    go_enter Try.func39, Try.ntmps39
    go_wp2_with fail
    go_ret
    exact ⟨rfl, H.out, Fr.refl _ _⟩
end Go.Proofs.Ytcicojobeggdaaa.vr
