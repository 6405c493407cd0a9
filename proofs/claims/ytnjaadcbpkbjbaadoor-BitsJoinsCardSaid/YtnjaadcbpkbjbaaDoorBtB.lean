/-
  Bits: the reference's Blocks and Join.
-/
import Derived.Test.YtnjaadcbpkbjbaaDoorBtA
import Derived.BigQuiet
namespace Go.Proofs.YtnjaadcbpkbjbaaDoor.bt
open Go.RowKit Go.Sort Go.Proofs.YtnjaadcbpkbjbaaDoor.mem

theorem w64 {n : Int} (h0 : 0 ≤ n) (h1 : n < 9223372036854775808) : wrap64 n = n := by unfold wrap64; omega

/-- how many blocks the first j numbers have -/
def nbL (L : List Nat) : Nat → Nat
  | 0 => 0
  | j + 1 => nbL L j + (if j = 0 ∨ L[j]?.getD 0 / 64 ≠ L[j - 1]?.getD 0 / 64 then 1 else 0)

theorem nbL_le (L : List Nat) : ∀ j, nbL L j ≤ j
  | 0 => Nat.le_refl _
  | j + 1 => by
    unfold nbL
    have := nbL_le L j
    split <;> omega

set_option maxRecDepth 100000 in
theorem rblocks_any (w : World) (A : Option Addr) (cap : Nat) (L : List Nat) (h : RS w A cap L) :
    Calls Tryd.prog 13 #[.slice A L.length cap] w fun e w' => e = .returned (.int .i64 (nbL L L.length : Nat)) ∧ Fr [] w w' := by
  obtain ⟨R, hR⟩ : ∃ R, nbL L L.length = R := ⟨_, rfl⟩
  rw [hR]
  have HR := Lib.hid hR
  have H := Lib.hid h
  have hfew := h.few
  clear h hR
  go_enter Tryd.func13, Tryd.ntmps13
  go_wp2_with fail
  go_loopw [3, 4] (fun n i wr => ∃ j q : Nat, j ≤ L.length ∧ q ≤ j ∧ n = .int .i64 q ∧ i = .int .i64 j ∧ Hid (nbL L j = q) ∧ Hid (Fr [] w wr)) (fun _ i _ => L.length - (intOf i).toNat)
  case atStart => exact ⟨0, 0, by omega, by omega, rfl, rfl, Lib.hid rfl, Lib.hid (Fr.refl _ _)⟩
  case round =>
    obtain ⟨j, q, hj, hq, rfl, rfl, hI, hF⟩ := hrel
    have H := Lib.hid (H.out.kept hF.out)
    by_cases hjl : j < L.length
    · have e1 : decide ((j : Int) < (L.length : Int)) = true := decide_eq_true (by omega)
      obtain ⟨b, off, rfl, _, k0⟩ := rd_nat H.out.rd hjl
      by_cases hz : j = 0
      · subst hz
        have hN : Hid (nbL L 1 = q + 1) := Lib.hid (by unfold nbL; rw [hI.out]; simp)
        clear k0
        go_wp2_with fail
        go_quiet (fail)
        go_wp2_with fail
        go_roundw
        case rel => exact ⟨1, q + 1, by omega, by omega, by go_num, by go_num, hN, Lib.hid (hF.out.drewN _)⟩
        case measure => simp [intOf]; omega
      · have e2 : ((j : Int) == 0) = false := by simpa using hz
        obtain ⟨b', off', hA, _, k1⟩ := rd_nat H.out.rd (i := j - 1) (by omega)
        cases hA
        have e3 : (j : Int) - 1 = ((j - 1 : Nat) : Int) := by omega
        have hN : Hid (nbL L (j + 1) = q + (if L[j] / 64 ≠ L[j-1] / 64 then 1 else 0)) := Lib.hid (by
          conv => lhs; unfold nbL
          rw [hI.out, List.getElem?_eq_getElem hjl, List.getElem?_eq_getElem (show j - 1 < L.length by omega)]
          simp [hz])
        have x1 := H.out.small L[j] (List.getElem_mem _)
        have x2 := H.out.small (L[j - 1]'(by omega)) (List.getElem_mem _)
        generalize L[j] = x at *
        generalize L[j - 1] = y at *
        generalize j - 1 = p at *
        by_cases hxy : x / 64 = y / 64
        · rw [if_neg (by simpa using hxy), Nat.add_zero] at hN
          have e4 : (wrap64 ((x : Int) / 64) != wrap64 ((y : Int) / 64)) = false := by
            rw [show (x : Int) / 64 = (y : Int) / 64 by omega]; simp
          go_wp2_with fail
          go_quiet (fail)
          go_wp2_with fail
          go_roundw
          case rel => exact ⟨j + 1, q, by omega, by omega, by go_num, by go_num, hN, Lib.hid (hF.out.drewN _)⟩
          case measure => simp [intOf]; omega
        · rw [if_pos hxy] at hN
          have e4 : (wrap64 ((x : Int) / 64) != wrap64 ((y : Int) / 64)) = true := by
            rw [w64 (by omega) (by omega), w64 (by omega) (by omega)]
            simp only [bne_iff_ne, ne_eq]
            omega
          go_wp2_with fail
          go_quiet (fail)
          go_wp2_with fail
          go_roundw
          case rel => exact ⟨j + 1, q + 1, by omega, by omega, by go_num, by go_num, hN, Lib.hid (hF.out.drewN _)⟩
          case measure => simp [intOf]; omega
    · obtain rfl : j = L.length := by omega
      have e1 : decide ((L.length : Int) < (L.length : Int)) = false := decide_eq_false (by omega)
      obtain rfl : q = R := by rw [← hI.out, HR.out]
      go_wp2_with fail
      go_ret
      exact ⟨rfl, hF.out⟩

/-- the reference's Join: what comes of it, and how many were not there -/
def joinS (L : List Nat) : List Nat → List Nat
  | [] => L
  | x :: r => joinS (addL (x : Nat) L) r
def joinN (L : List Nat) : List Nat → Nat
  | [] => 0
  | x :: r => (if addR (x : Nat) L = true then 1 else 0) + joinN (addL (x : Nat) L) r

theorem joinS_snoc (x : Nat) : ∀ (M L : List Nat), joinS L (M ++ [x]) = addL (x : Nat) (joinS L M)
  | [], _ => rfl
  | _ :: r, L => joinS_snoc x r _
theorem joinN_snoc (x : Nat) : ∀ (M L : List Nat), joinN L (M ++ [x]) = joinN L M + (if addR (x : Nat) (joinS L M) = true then 1 else 0)
  | [], L => by
    show _ + 0 = 0 + _
    rw [Nat.add_zero, Nat.zero_add]
    rfl
  | y :: r, L => by
    show _ + joinN _ (r ++ [x]) = _ + joinN _ r + _
    rw [joinN_snoc x r, Nat.add_assoc]
    rfl
theorem addL_len (n : Int) (L : List Nat) : (addL n L).length ≤ L.length + 1 := by
  unfold addL
  split
  · rw [ins_at]
    have := lbn_le n.toNat L
    simp
    omega
  · omega
theorem joinS_len : ∀ (M L : List Nat), (joinS L M).length ≤ L.length + M.length
  | [], L => Nat.le_refl _
  | x :: r, L => by
    have h1 := joinS_len r (addL (x : Nat) L)
    have h2 := addL_len (x : Nat) L
    show (joinS _ r).length ≤ _
    simp only [List.length_cons]
    omega
theorem joinN_le : ∀ (M L : List Nat), joinN L M ≤ M.length
  | [], L => Nat.le_refl _
  | x :: r, L => by
    have h1 := joinN_le r (addL (x : Nat) L)
    show _ + joinN _ r ≤ _
    simp only [List.length_cons]
    split <;> omega

theorem frT {w w1 w2 : World} (a : Fr [] w w1) (b : Fr [] w1 w2) : Fr [] w w2 := a.trans b (fun g hg => (by cases hg)) (fun g hg => (by cases hg))

def RJ (L M : List Nat) (w : World) (e : Ending) (w' : World) : Prop := ∃ A' cap', e = .returned (.tuple #[.slice A' (joinS L M).length cap', .int .i64 (joinN L M : Nat)]) ∧ Fr [] w w' ∧ RS w' A' cap' (joinS L M)

set_option maxRecDepth 100000 in
theorem rjoin_any (w : World) (A B : Option Addr) (cap c2 : Nat) (L M : List Nat) (h : RS w A cap L) (hm : RS w B c2 M) (hl : L.length + M.length ≤ 100000000) :
    Calls Tryd.prog 8 #[.slice A L.length cap, .slice B M.length c2] w (RJ L M w) := by
  have fin := Lib.hid (fun w' A' cap' n q (hn : n = (joinS L M).length) (hq : q = joinN L M) (hb : Fr [] w w') (hs : RS w' A' cap' (joinS L M)) => show RJ L M w (.returned (.tuple #[.slice A' n cap', .int .i64 (q : Nat)])) w' from by
    unfold RJ
    rw [hn, hq]
    exact ⟨A', cap', rfl, hb, hs⟩)
  have HM := Lib.hid hm
  have H0 := Lib.hid h
  clear h hm
  go_enter Tryd.func8, Tryd.ntmps8
  go_wp2_with fail
  go_loopw [0, 6, 7] (fun s n i wr => ∃ j q A' cap', ∃ S : List Nat, j ≤ M.length ∧ q ≤ j ∧ S.length ≤ L.length + j ∧ s = .slice A' S.length cap' ∧ n = .int .i64 (q : Nat) ∧ i = .int .i64 (j : Nat) ∧ Hid (joinS L (M.take j) = S) ∧ Hid (joinN L (M.take j) = q) ∧ Hid (Fr [] w wr) ∧ Hid (RS wr A' cap' S)) (fun _ _ i _ => M.length - (intOf i).toNat)
  case atStart => exact ⟨0, 0, A, cap, L, by omega, by omega, by omega, rfl, rfl, rfl, Lib.hid rfl, Lib.hid rfl, Lib.hid (Fr.refl _ _), H0⟩
  case round =>
    obtain ⟨j, q, A', cap', S, hj, hq, hS, rfl, rfl, rfl, hI, hN, hF, HS⟩ := hrel
    by_cases hjl : j < M.length
    · have e1 : decide ((j : Int) < (M.length : Int)) = true := decide_eq_true (by omega)
      have HM := Lib.hid (HM.out.kept hF.out)
      obtain ⟨b, off, rfl, _, k0⟩ := rd_nat HM.out.rd hjl
      have KA := Lib.hid (radd_any _ A' cap' S HS.out (by omega) (M[j] : Nat))
      have hI2 : Hid (joinS L (M.take (j + 1)) = addL (M[j] : Nat) S) := Lib.hid (by rw [List.take_succ_eq_append_getElem hjl, joinS_snoc, hI.out])
      have hN2 : Hid (joinN L (M.take (j + 1)) = q + (if addR (M[j] : Nat) S = true then 1 else 0)) := Lib.hid (by rw [List.take_succ_eq_append_getElem hjl, joinN_snoc, hI.out, hN.out])
      have hS2 := addL_len (M[j] : Nat) S
      unfold RAd at KA
      generalize M[j] = x at *
      generalize addL (x : Nat) S = S2 at *
      generalize addR (x : Nat) S = Y at *
      clear hI hN
      go_wp2_with fail
      refine KA.out.mono ?_
      rintro e w2 ⟨A2, cap3, rfl, f2, hs2⟩
      have hs3 := Lib.hid hs2
      have f3 := Lib.hid (frT hF.out f2)
      clear hs2 f2 KA k0
      cases Y with
      | true =>
        rw [if_pos rfl] at hN2
        go_wp2_with fail
        go_roundw
        case rel => exact ⟨j + 1, q + 1, A2, cap3, S2, by omega, by omega, by omega, rfl, by go_num, by go_num, hI2, hN2, f3, hs3⟩
        case measure => simp [intOf]; omega
      | false =>
        rw [if_neg (by simp)] at hN2
        go_wp2_with fail
        go_roundw
        case rel => exact ⟨j + 1, q, A2, cap3, S2, by omega, by omega, by omega, rfl, by go_num, by go_num, hI2, hN2, f3, hs3⟩
        case measure => simp [intOf]; omega
    · obtain rfl : j = M.length := by omega
      have e1 : decide ((M.length : Int) < (M.length : Int)) = false := decide_eq_false (by omega)
      rw [List.take_length] at hI hN
      go_wp2_with fail
      go_ret2
      exact fin.out _ _ _ _ _ (by rw [hI.out]) hN.out.symm hF.out (by rw [hI.out]; exact HS.out)
end Go.Proofs.YtnjaadcbpkbjbaaDoor.bt
