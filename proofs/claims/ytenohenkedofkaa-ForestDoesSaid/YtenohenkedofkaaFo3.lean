/-
  forest: Join.
-/
import Derived.Test.YtenohenkedofkaaFo2
namespace Go.Proofs.Ytenohenkedofkaa.fo
open Go.RowKit Go.Proofs.Ytenohenkedofkaa.mem

/-- a forest in memory, as it should be -/
def FF (w : World) (f ga gn : Nat) (F : List Nat) (p : Int) : Prop := ∃ A N, FS w f ga gn A N p ∧ Inv A F ∧ Rg N F

theorem FF.below {w w' : World} {f ga gn : Nat} {F : List Nat} {p : Int} (h : FF w f ga gn F p) (hb : Below w.heap.size w w') : FF w' f ga gn F p := by
  obtain ⟨A, N, h1, h2, h3⟩ := h
  exact ⟨A, N, h1.below hb, h2, h3⟩

/-- the part of a number -/
def fd (F : List Nat) (n : Int) : Int := if inB n F.length = true then (F.getD n.toNat 0 : Nat) else -1

theorem find_ff (w : World) (f ga gn : Nat) (F : List Nat) (p n : Int) (h : FF w f ga gn F p) (hl : F.length ≤ 100000) :
    Calls Try.prog 18 #[.pointer (some ⟨f, 0, none⟩), .int .i64 n] w fun e w' => e = .returned (.int .i64 (fd F n)) ∧ Fr [ga] w w' ∧ FF w' f ga gn F p := by
  obtain ⟨A, N, h1, h2, h3⟩ := h
  have hlen := h2.len
  unfold fd
  rcases hb : inB n F.length with _ | _
  · refine (find_out w f ga gn A N p n h1 (by rw [hlen]; exact hb)).mono ?_
    rintro e w' ⟨rfl, rfl⟩
    exact ⟨rfl, Fr.refl _ _, A, N, h1, h2, h3⟩
  · unfold inB at hb
    simp only [Bool.and_eq_true, decide_eq_true_eq] at hb
    obtain ⟨k, rfl⟩ := Int.eq_ofNat_of_zero_le hb.1
    refine (find_in w f ga gn A N F p k h1 h2 (by omega) (by omega)).mono ?_
    rintro e w' ⟨rfl, hf, A', hl', hi', hs'⟩
    exact ⟨rfl, hf, A', N, hs', hi', h3⟩

theorem fd_neg (F : List Nat) (n : Int) (h : fd F n < 0) : fd F n = -1 := by
  unfold fd at h ⊢
  split at h
  · omega
  · rename_i g; rw [if_neg g]
theorem fd_root {A F : List Nat} (h : Inv A F) (n : Int) (h0 : 0 ≤ fd F n) : ∃ k : Nat, fd F n = k ∧ k < F.length ∧ F.getD k 0 = k := by
  unfold fd at h0 ⊢
  split at h0
  · rename_i g
    rw [if_pos g]
    unfold inB at g
    simp only [Bool.and_eq_true, decide_eq_true_eq] at g
    have hk : n.toNat < F.length := by omega
    exact ⟨_, rfl, Nat.lt_of_le_of_lt (h.f_le _ hk) hk, h.f_idem _ hk⟩
  · omega

def JNo (w : World) (f ga gn : Nat) (F : List Nat) (p : Int) (e : Ending) (w' : World) : Prop := e = .returned (.bool false) ∧ Fr [f, ga, gn] w w' ∧ FF w' f ga gn F p

set_option maxRecDepth 100000 in
set_option maxHeartbeats 1000000 in
theorem join_no (w : World) (f ga gn : Nat) (F : List Nat) (p a b : Int) (h : FF w f ga gn F p) (hl : F.length ≤ 100000) (hno : fd F a < 0 ∨ fd F b < 0 ∨ fd F a = fd F b) :
    Calls Try.prog 14 #[.pointer (some ⟨f, 0, none⟩), .int .i64 a, .int .i64 b] w (JNo w f ga gn F p) := by
  have K := Lib.hid (fun w n h => find_ff w f ga gn F p n h hl)
  have H := Lib.hid h
  clear h hl
  generalize hx : fd F a = x at *
  generalize hy : fd F b = y at *
  have Ka := Lib.hid (fun w h => K.out w a h)
  have Kb := Lib.hid (fun w h => K.out w b h)
  rw [hx] at Ka
  rw [hy] at Kb
  clear K hx hy
  by_cases hx0 : x < 0
  · have d1 : decide (x < 0) = true := decide_eq_true hx0
    clear hno
    go_enter Try.func14, Try.ntmps14
    go_wp2_with fail
    refine (Ka.out _ H.out).mono ?_
    rintro e w1 ⟨rfl, f1, H1⟩
    have H1 := Lib.hid H1
    go_wp2_with fail
    refine (Kb.out _ H1.out).mono ?_
    rintro e w2 ⟨rfl, f2, H2⟩
    have hf := f1.trans f2 (G := [f, ga, gn]) (by simp) (by simp)
    have H2 := Lib.hid H2
    clear f1 f2 H1 Ka Kb
    go_wp2_with fail
    go_ret
    exact ⟨rfl, hf, H2.out⟩
  · have d1 : decide (x < 0) = false := decide_eq_false hx0
    by_cases hy0 : y < 0
    · have d2 : decide (y < 0) = true := decide_eq_true hy0
      clear hno
      go_enter Try.func14, Try.ntmps14
      go_wp2_with fail
      refine (Ka.out _ H.out).mono ?_
      rintro e w1 ⟨rfl, f1, H1⟩
      have H1 := Lib.hid H1
      go_wp2_with fail
      refine (Kb.out _ H1.out).mono ?_
      rintro e w2 ⟨rfl, f2, H2⟩
      have hf := f1.trans f2 (G := [f, ga, gn]) (by simp) (by simp)
      have H2 := Lib.hid H2
      clear f1 f2 H1 Ka Kb
      go_wp2_with fail
      go_ret
      exact ⟨rfl, hf, H2.out⟩
    · have d2 : decide (y < 0) = false := decide_eq_false hy0
      obtain rfl : x = y := by omega
      have d3 : (x == x) = true := by simp
      clear hno
      go_enter Try.func14, Try.ntmps14
      go_wp2_with fail
      refine (Ka.out _ H.out).mono ?_
      rintro e w1 ⟨rfl, f1, H1⟩
      have H1 := Lib.hid H1
      go_wp2_with fail
      refine (Kb.out _ H1.out).mono ?_
      rintro e w2 ⟨rfl, f2, H2⟩
      have hf := f1.trans f2 (G := [f, ga, gn]) (by simp) (by simp)
      have H2 := Lib.hid H2
      clear f1 f2 H1 Ka Kb
      go_wp2_with fail
      go_ret
      exact ⟨rfl, hf, H2.out⟩

theorem FS.setN {w : World} {f ga gn : Nat} {A N : List Nat} {p : Int} (h : FS w f ga gn A N p) (i k : Nat) : FS (w.setCell ⟨gn, i, none⟩ (.int .i64 (k : Int))) f ga gn A (N.set i k) p := by
  have hn := h.nf
  have hf : Fr [gn] w (w.setCell ⟨gn, i, none⟩ (.int .i64 (k : Int))) := (Fr.refl [gn] w).setCell (Or.inl (by simp)) _
  refine ⟨h.box.kept hf (by simp; exact hn.2), h.ab.kept hf (by simp; exact h.ne), ?_, by rw [List.length_set]; exact h.len, h.ne⟩
  rw [← natv_set]; exact h.nx.put i _
theorem FS.setP {w : World} {f ga gn : Nat} {A N : List Nat} {p : Int} (h : FS w f ga gn A N p) (q : Int) : FS (w.setCell ⟨f, 2, none⟩ (.int .i64 q)) f ga gn A N q := by
  have hn := h.nf
  have hf : Fr [f] w (w.setCell ⟨f, 2, none⟩ (.int .i64 q)) := (Fr.refl [f] w).setCell (Or.inl (by simp)) _
  exact ⟨h.box.put 2 _, h.ab.kept hf (by simp; exact fun e => hn.1 e.symm), h.nx.kept hf (by simp; exact fun e => hn.2 e.symm), h.len, h.ne⟩

def JYes (w : World) (f ga gn : Nat) (F : List Nat) (p : Int) (x y : Nat) (e : Ending) (w' : World) : Prop := e = .returned (.bool true) ∧ Fr [f, ga, gn] w w' ∧ FF w' f ga gn (joinF F x y) (p - 1)

set_option maxRecDepth 100000 in
set_option maxHeartbeats 1000000 in
theorem join_yes (w : World) (f ga gn : Nat) (F : List Nat) (p a b : Int) (x y : Nat) (h : FF w f ga gn F p) (hl : F.length ≤ 100000) (hx : fd F a = x) (hy : fd F b = y) (hxy : x ≠ y) (hxl : x < F.length) (hyl : y < F.length) (hxr : F.getD x 0 = x) (hyr : F.getD y 0 = y) (hp : 0 ≤ p ∧ p ≤ 100000) :
    Calls Try.prog 14 #[.pointer (some ⟨f, 0, none⟩), .int .i64 a, .int .i64 b] w (JYes w f ga gn F p x y) := by
  have K := Lib.hid (fun w n h => find_ff w f ga gn F p n h hl)
  have H := Lib.hid h
  clear h hl
  have Ka := Lib.hid (fun w h => K.out w a h)
  have Kb := Lib.hid (fun w h => K.out w b h)
  rw [hx] at Ka
  rw [hy] at Kb
  clear K hx hy
  have hxr := Lib.hid hxr
  have hyr := Lib.hid hyr
  have d3 : (((x : Nat) : Int) == (y : Int)) = false := by simp; omega
  have d1 : decide (((x : Nat) : Int) < 0) = false := decide_eq_false (by omega)
  have d2 : decide (((y : Nat) : Int) < 0) = false := decide_eq_false (by omega)
  have hsum : IntKind.i64.wrap (p - 1) = p - 1 := IntWalk.i64_in _ (by omega)
  go_enter Try.func14, Try.ntmps14
  go_wp2_with fail
  refine (Ka.out _ H.out).mono ?_
  rintro e w1 ⟨rfl, f1, H1⟩
  have H1 := Lib.hid H1
  go_wp2_with fail
  refine (Kb.out _ H1.out).mono ?_
  rintro e w2 ⟨rfl, f2, H2⟩
  have hf := Lib.hid (f1.trans f2 (G := [f, ga, gn]) (by simp) (by simp))
  obtain ⟨A, N, h1, h2, h3⟩ := H2
  have S2 := Lib.hid h1
  have I2 := Lib.hid h2
  have R2 := Lib.hid h3
  have hla := h2.len
  clear f1 f2 H1 Ka Kb h1 h2 h3
  rcases Nat.lt_or_gt_of_ne hxy with hlt | hgt
  · have hi1 : ((x : Nat) : Int) < (y : Int) := by omega
    have hi2 : ((x : Nat) : Int) ≤ (y : Int) := by omega
    have hi3 : ¬ ((y : Nat) : Int) < (x : Int) := by omega
    have hi4 : ¬ ((y : Nat) : Int) ≤ (x : Int) := by omega
    have c0 := S2.out.c0
    have fr1 := S2.out.ab.free y
    have hm1 : y < A.length := by omega
    have hxa : x < A.length := by omega
    have hya : y < A.length := by omega
    have S3 := Lib.hid (S2.out.setA y x)
    have f3 := Lib.hid (hf.out.trans ((Fr.refl [f, ga, gn] w2).setCell (p := ⟨ga, y, none⟩) (Or.inl (by simp)) (.int .i64 (x : Int))) (G := [f, ga, gn]) (by simp) (by simp))
    have I3 := I2.out.join x y hxl hyl hxr.out hyr.out hxy
    rw [Nat.max_eq_right (Nat.le_of_lt hlt), Nat.min_eq_left (Nat.le_of_lt hlt)] at I3
    have I3 := Lib.hid I3
    have R3 := Lib.hid (R2.out.join x y hxl hyl hxr.out hyr.out hxy)
    have hA3 : Hid ((A.set y x).length = A.length) := Lib.hid (by simp)
    have cm := S2.out.atA y hya
    clear S2 hf I2 R2
    go_wp2_with fail
    clear c0 fr1 hm1 cm
    generalize w2.setCell ⟨ga, y, none⟩ (.int .i64 (x : Int)) = w3 at *
    have c1 := S3.out.c1
    rw [hA3.out] at c1
    have n1 := S3.out.atN x (by rw [hA3.out]; exact hxa)
    have n2 := S3.out.atN y (by rw [hA3.out]; exact hya)
    have fr2 := S3.out.nx.free x
    have fr3 := S3.out.nx.free y
    have S4 := Lib.hid (((S3.out.setN x (N.getD y 0)).setN y (N.getD x 0)).drew)
    have f4 := Lib.hid ((f3.out.trans (((Fr.refl [f, ga, gn] w3).setCell (p := ⟨gn, x, none⟩) (Or.inl (by simp)) (.int .i64 ((N.getD y 0 : Nat) : Int))).setCell (p := ⟨gn, y, none⟩) (Or.inl (by simp)) (.int .i64 ((N.getD x 0 : Nat) : Int))) (G := [f, ga, gn]) (by simp) (by simp)).drew)
    have R4 : Hid (Rg ((N.set x (N.getD y 0)).set y (N.getD x 0)) (joinF F x y)) := R3
    clear S3 f3 R3
    generalize N.getD y 0 = ny at *
    generalize N.getD x 0 = nx at *
    go_wp2_with fail
    go_region
    clear c1 n1 n2 fr2 fr3
    generalize ((w3.setCell ⟨gn, x, none⟩ (.int .i64 (ny : Int))).setCell ⟨gn, y, none⟩ (.int .i64 (nx : Int))).drew = w4 at *
    have c2 : w4.cell? ⟨f, 2, none⟩ = some (.int .i64 p) := S4.out.box.cell 2
    have fr4 := S4.out.box.free 2
    have S5 := Lib.hid (S4.out.setP (p - 1))
    have f5 := Lib.hid (f4.out.trans ((Fr.refl [f, ga, gn] w4).setCell (p := ⟨f, 2, none⟩) (Or.inl (by simp)) (.int .i64 (p - 1))) (G := [f, ga, gn]) (by simp) (by simp))
    clear S4 f4
    go_wp2_with fail
    go_ret
    exact ⟨rfl, f5.out, _, _, S5.out, I3.out, R4.out⟩
  · have hi1 : ((y : Nat) : Int) < (x : Int) := by omega
    have hi2 : ((y : Nat) : Int) ≤ (x : Int) := by omega
    have hi3 : ¬ ((x : Nat) : Int) < (y : Int) := by omega
    have hi4 : ¬ ((x : Nat) : Int) ≤ (y : Int) := by omega
    have c0 := S2.out.c0
    have fr1 := S2.out.ab.free x
    have hm1 : x < A.length := by omega
    have hxa : x < A.length := by omega
    have hya : y < A.length := by omega
    have S3 := Lib.hid (S2.out.setA x y)
    have f3 := Lib.hid (hf.out.trans ((Fr.refl [f, ga, gn] w2).setCell (p := ⟨ga, x, none⟩) (Or.inl (by simp)) (.int .i64 (y : Int))) (G := [f, ga, gn]) (by simp) (by simp))
    have I3 := I2.out.join x y hxl hyl hxr.out hyr.out hxy
    rw [Nat.max_eq_left (Nat.le_of_lt hgt), Nat.min_eq_right (Nat.le_of_lt hgt)] at I3
    have I3 := Lib.hid I3
    have R3 := Lib.hid (R2.out.join x y hxl hyl hxr.out hyr.out hxy)
    have hA3 : Hid ((A.set x y).length = A.length) := Lib.hid (by simp)
    have cm := S2.out.atA x hxa
    clear S2 hf I2 R2
    go_wp2_with fail
    clear c0 fr1 hm1 cm
    generalize w2.setCell ⟨ga, x, none⟩ (.int .i64 (y : Int)) = w3 at *
    have c1 := S3.out.c1
    rw [hA3.out] at c1
    have n1 := S3.out.atN x (by rw [hA3.out]; exact hxa)
    have n2 := S3.out.atN y (by rw [hA3.out]; exact hya)
    have fr2 := S3.out.nx.free x
    have fr3 := S3.out.nx.free y
    have S4 := Lib.hid (((S3.out.setN x (N.getD y 0)).setN y (N.getD x 0)).drew)
    have f4 := Lib.hid ((f3.out.trans (((Fr.refl [f, ga, gn] w3).setCell (p := ⟨gn, x, none⟩) (Or.inl (by simp)) (.int .i64 ((N.getD y 0 : Nat) : Int))).setCell (p := ⟨gn, y, none⟩) (Or.inl (by simp)) (.int .i64 ((N.getD x 0 : Nat) : Int))) (G := [f, ga, gn]) (by simp) (by simp)).drew)
    have R4 : Hid (Rg ((N.set x (N.getD y 0)).set y (N.getD x 0)) (joinF F x y)) := R3
    clear S3 f3 R3
    generalize N.getD y 0 = ny at *
    generalize N.getD x 0 = nx at *
    go_wp2_with fail
    go_region
    clear c1 n1 n2 fr2 fr3
    generalize ((w3.setCell ⟨gn, x, none⟩ (.int .i64 (ny : Int))).setCell ⟨gn, y, none⟩ (.int .i64 (nx : Int))).drew = w4 at *
    have c2 : w4.cell? ⟨f, 2, none⟩ = some (.int .i64 p) := S4.out.box.cell 2
    have fr4 := S4.out.box.free 2
    have S5 := Lib.hid (S4.out.setP (p - 1))
    have f5 := Lib.hid (f4.out.trans ((Fr.refl [f, ga, gn] w4).setCell (p := ⟨f, 2, none⟩) (Or.inl (by simp)) (.int .i64 (p - 1))) (G := [f, ga, gn]) (by simp) (by simp))
    clear S4 f4
    go_wp2_with fail
    go_ret
    exact ⟨rfl, f5.out, _, _, S5.out, I3.out, R4.out⟩
end Go.Proofs.Ytenohenkedofkaa.fo
