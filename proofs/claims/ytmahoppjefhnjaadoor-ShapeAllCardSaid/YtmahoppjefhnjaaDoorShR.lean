/-
  Shape: the closure of Cells at a record.
-/
import Derived.Test.YtmahoppjefhnjaaDoorShQ
import Derived.Laws.EntriesVeiled
import Derived.Deep.Cut
namespace Go.Proofs.YtmahoppjefhnjaaDoor.sh
open Go.RowKit Go.Sort Go.Proofs.YtmahoppjefhnjaaDoor.mem

set_option maxRecDepth 100000 in
set_option maxHeartbeats 1000000 in
theorem put_rec (w0 w : World) (n q : Nat) (A : Option Addr) (cap : Nat) (ss : List St) (nm : List UInt8) (num : Int) (of : List Ty) (v0 v1 v2 v3 : Value) (h : Arg w n q A ss (.mk 3 ⟨nm.toArray⟩ num of) v0 v1 v2 v3) (f : Nat)
    (g1 g2 g0 gp : Nat) (KI0 : ∀ (T : Ty) (v0 v1 v2 v3 : Value) (w : World) (x : Pk) (M : Option Addr) (mc : Nat), Arg w n n A ss T v0 v1 v2 v3 → faultC ss f T = 0 → LC w A cap ss g1 g2 g0 gp x M mc → x.1.length + 9 ^ f ≤ 1000000 → x.2.length + 9 ^ f ≤ 1000000 → (∃ m, f + 3 < m ∧ deepB m T = false) → TBs w0 w (g1 :: g2 :: blk M) →
      Calls Tryd.prog 57 #[.agg #[v0, v1, v2, v3], .pointer (some ⟨g1, 0, none⟩), .pointer (some ⟨g2, 0, none⟩), .pointer (some ⟨g0, 0, none⟩), .pointer (some ⟨gp, 0, none⟩)] w (CxPost w A cap ss g1 g2 g0 gp M (putC ss f T x)))
    (hl8 : (withinL ss (.mk 3 ⟨nm.toArray⟩ num of)).length ≤ 8) (hex : ∀ E ∈ withinL ss (.mk 3 ⟨nm.toArray⟩ num of), faultC ss f E = 0 ∧ ∃ m, f + 3 < m ∧ deepB m E = false)
    (x : Pk) (M : Option Addr) (mc : Nat) (hle : LC w A cap ss g1 g2 g0 gp x M mc) (hn1 : x.1.length + 9 ^ (f + 1) ≤ 1000000) (hn2 : x.2.length + 9 ^ (f + 1) ≤ 1000000) (htb : TBs w0 w (g1 :: g2 :: blk M)) :
    Calls Tryd.prog 57 #[.agg #[v0, v1, v2, v3], .pointer (some ⟨g1, 0, none⟩), .pointer (some ⟨g2, 0, none⟩), .pointer (some ⟨g0, 0, none⟩), .pointer (some ⟨gp, 0, none⟩)] w (CxPost w A cap ss g1 g2 g0 gp M (putC ss (f + 1) (.mk 3 ⟨nm.toArray⟩ num of) x)) := by
  obtain ⟨P, ms⟩ := x
  have hst : putStep (.mk 3 ⟨nm.toArray⟩ num of) (P, ms) = (P, ms ++ [((P.length : Int), nm)]) := by
    unfold putStep
    rw [if_neg (show ¬ (Ty.mk 3 ⟨nm.toArray⟩ num of).kind = 1 by simp [Ty.kind]), if_neg (show ¬ (Ty.mk 3 ⟨nm.toArray⟩ num of).kind = 2 by simp [Ty.kind]), if_pos (show (Ty.mk 3 ⟨nm.toArray⟩ num of).kind = 3 from rfl)]
    rfl
  obtain ⟨R, hR⟩ : ∃ R, putC ss (f + 1) (.mk 3 ⟨nm.toArray⟩ num of) (P, ms) = R := ⟨_, rfl⟩
  rw [hR]
  unfold putC at hR
  rw [hst] at hR
  have HR := Lib.hid hR
  have h9 : 9 ^ f * (withinL ss (.mk 3 ⟨nm.toArray⟩ num of)).length ≤ 9 ^ f * 8 := Nat.mul_le_mul (Nat.le_refl _) hl8
  have h1 : 1 ≤ 9 ^ f := Nat.pow_pos (by omega)
  have h2 : 9 ^ (f + 1) = 9 ^ f * 9 := rfl
  simp only at hn1 hn2
  have N1 : Hid (P.length + 9 ^ f * (withinL ss (.mk 3 ⟨nm.toArray⟩ num of)).length ≤ 1000000) := Lib.hid (by omega)
  have N2 : Hid ((ms ++ [((P.length : Int), nm)]).length + 9 ^ f * (withinL ss (.mk 3 ⟨nm.toArray⟩ num of)).length ≤ 1000000) := Lib.hid (by rw [List.length_append, List.length_singleton]; omega)
  have hP : P.length ≤ 1000000 := by omega
  have hms : ms.length + 1 ≤ 1000000 := by omega
  have hm := h.hm
  have few := Lib.hid h.few
  have HEX := Lib.hid hex
  have KI := Lib.hid KI0
  clear KI0
  have KW' := Lib.hid (fun w' (ha : Arg w' n q A ss (.mk 3 ⟨nm.toArray⟩ num of) v0 v1 v2 v3) => ha.within (cap := cap))
  unfold WiPost at KW'
  unfold CxPost at KI
  clear hst hR h9 h1 h2 hn1 hn2 hl8 hex
  have HA := Lib.hid h
  have HW := Lib.hid hle
  have HT := Lib.hid htb
  obtain ⟨A2, cap2, rfl, rfl, rfl, rfl⟩ := h.cells
  simp only [Ty.kind, Ty.name, Ty.num, Ty.of] at *
  have BA : Below w.heap.size w (w.alloc (.cells #[.int .i64 3, .string ⟨nm.toArray⟩, .int .i64 num, .slice A2 of.length cap2] 51)) := (Below.refl _ _).alloc (Nat.le_refl _) _
  have BAH := Lib.hid BA
  have L1 := Lib.hid (hle.kept BA)
  have BX : Hid (Box (w.alloc (.cells #[.int .i64 3, .string ⟨nm.toArray⟩, .int .i64 num, .slice A2 of.length cap2] 51)) w.heap.size 51 #[.int .i64 3, .string ⟨nm.toArray⟩, .int .i64 num, .slice A2 of.length cap2]) := Lib.hid (Box.new w _ _)
  obtain ⟨i0, hi0, hz0, hz1, hz2⟩ := info_parts info_mark
  have Hi := Lib.hid hi0
  have Hz0 := Lib.hid hz0
  have Hz1 := Lib.hid hz1
  have Hz2 := Lib.hid hz2
  clear hi0 hz0 hz1 hz2 h hle htb BA
  go_enter Tryd.func57, Tryd.ntmps57
  go_upto_region 7 with fail
  generalize (w.alloc (.cells #[.int .i64 3, .string ⟨nm.toArray⟩, .int .i64 num, .slice A2 of.length cap2] 51)) = w1 at *
  have c2 : w1.cell? ⟨g2, 0, none⟩ = some (.slice M ms.length mc) := L1.out.b2.cell 0
  have c1 : w1.cell? ⟨g1, 0, none⟩ = some (.string ⟨P.toArray⟩) := L1.out.b1.cell 0
  have t1 : w1.cell? ⟨w.heap.size, 1, none⟩ = some (.string ⟨nm.toArray⟩) := BX.out.cell 1
  have B2 := Lib.hid (fun o => BAH.out.alloc BAH.out.size o)
  have X2 := Lib.hid (fun o => BX.out.kept ((Fr.refl [] w1).alloc o) (by simp))
  have L2 := Lib.hid (fun o => HW.out.kept (B2.out o))
  have S2 := Lib.hid (fun o a ha i u hu => (L2.out o).ns a ha i u hu)
  have SG2 : Hid (∀ o, Sg 2 (w1.alloc o) 64 M mc ms.length (marksV ms)) := Lib.hid (fun o => (L2.out o).sg)
  go_wp2_with (at_builtin
               refine wpList_rowAll NotSl (us := [.int .i64 P.length, .string ⟨nm.toArray⟩]) rfl _ _ _ rfl (SG2.out _) Tryd.underlying56 Hi.out Hz0.out Hz1.out Hz2.out rfl rfl rfl rfl (two_cells0 w1 _ _ _) (two_one _ _) (by omega) (by omega) (S2.out _) (notSl_marks _) (two_not _ _) mark_zero ?_
               intro M3 mc3 w3 hs3 f3 b3 ha3
               have PA3 : Hid (PA w (w3.setCell ⟨g2, 0, none⟩ (.slice M3 (ms.length + 1) mc3)) w0 n q A cap ss g1 g2 g0 gp M (.mk 3 ⟨nm.toArray⟩ num of) (.int .i64 3) (.string ⟨nm.toArray⟩) (.int .i64 num) (.slice A2 of.length cap2) (P, ms ++ [((P.length : Int), nm)]) M3 mc3) := Lib.hid (pa_mark HW.out HT.out (B2.out _) HA.out (X2.out _) _ _ hs3 f3 b3 ha3)
               have K2 := ((L2.out _).b2.kept f3 (fun hg => ((L2.out (.cells #[] 0)).ap _ hg).2.1 rfl))
               have k3 : w3.cell? ⟨g2, 0, none⟩ = some (.slice M ms.length mc) := K2.cell 0
               have y3 : w3.frozen? ⟨g2, 0, none⟩ = false := K2.free 0
               have i0 : (w3.setCell ⟨g2, 0, none⟩ (.slice M3 (ms.length + 1) mc3)).cell? ⟨g0, 0, none⟩ = some (.slice A ss.length cap) := PA3.out.lc.b0.cell 0
               have u0 : (w3.setCell ⟨g2, 0, none⟩ (.slice M3 (ms.length + 1) mc3)).cell? ⟨w.heap.size, 0, none⟩ = some (.int .i64 3) := PA3.out.box.cell 0
               have u1 : (w3.setCell ⟨g2, 0, none⟩ (.slice M3 (ms.length + 1) mc3)).cell? ⟨w.heap.size, 1, none⟩ = some (.string ⟨nm.toArray⟩) := PA3.out.box.cell 1
               have u2 : (w3.setCell ⟨g2, 0, none⟩ (.slice M3 (ms.length + 1) mc3)).cell? ⟨w.heap.size, 2, none⟩ = some (.int .i64 num) := PA3.out.box.cell 2
               have u3 : (w3.setCell ⟨g2, 0, none⟩ (.slice M3 (ms.length + 1) mc3)).cell? ⟨w.heap.size, 3, none⟩ = some (.slice A2 of.length cap2) := PA3.out.box.cell 3
               clear hs3 f3 b3 ha3 K2)
  refine (KW'.out _ PA3.out.arg).mono ?_
  rintro e w5 ⟨B, cb, rfl, b5, hty, hLm⟩
  have D0 := Lib.hid (PL.of PA3.out b5 hty HR.out N1.out N2.out)
  clear PA3 KW' b5 hty HR N1 N2 HA HT HW
  generalize withinL ss (.mk 3 ⟨nm.toArray⟩ num of) = L at *
  go_wp2_with fail
  go_loopw [45] (fun i wr => ∃ j : Nat, j ≤ L.length ∧ i = .int .i64 j ∧ ∃ y M' mc', Hid (PL w wr w0 n A cap ss g1 g2 g0 gp M f B L j y M' mc' R)) (fun i _ => L.length - (intOf i).toNat)
  case atStart => exact ⟨0, by omega, rfl, _, _, _, D0⟩
  case round =>
    obtain ⟨j, hj, rfl, y, M', mc', hpl⟩ := hrel
    rename_i wr
    by_cases hjl : j < L.length
    · have e1 : decide ((j : Int) < (L.length : Int)) = true := decide_eq_true (by omega)
      obtain ⟨bb, off, rfl, hbl⟩ := hpl.out.ty.1 (by omega)
      obtain ⟨d0, d1, d2, d3, k0, k1, k2, k3', hTy⟩ := hpl.out.ty.2 j hjl bb off rfl
      have hTy2 := hTy
      obtain ⟨hz, hdm⟩ := HEX.out _ (List.getElem_mem hjl)
      have BAr := Lib.hid (fun o => (Below.refl wr.heap.size wr).alloc (Nat.le_refl _) o)
      have HP := Lib.hid (fun o => hpl.out.kept (BAr.out o))
      obtain ⟨tp, hgp⟩ := hpl.out.lc.bp
      have HGP := Lib.hid (fun o => (hgp.kept (Fr.of_below (BAr.out o) []) (by simp)).cell 0)
      have hK1 : y.1.length + 9 ^ f ≤ 1000000 ∧ y.2.length + 9 ^ f ≤ 1000000 := by
        have n1 := hpl.out.n1
        have n2 := hpl.out.n2
        have hK : 9 ^ f * (L.length - j) = 9 ^ f * (L.length - (j + 1)) + 9 ^ f := by
          rw [show L.length - j = (L.length - (j + 1)) + 1 by omega, Nat.mul_add, Nat.mul_one]
        omega
      have KD := Lib.hid (fun o => KI.out L[j] d0 d1 d2 d3 _ y M' mc' (⟨(HP.out o).at_, hm, few.out, hTy.kept (BAr.out o), Nat.le_refl _⟩ : Arg (wr.alloc o) n n A ss L[j] d0 d1 d2 d3) hz (HP.out o).lc hK1.1 hK1.2 hdm (HP.out o).tb)
      have NX := Lib.hid (fun o w2 M2 mc2 hl hf hb => (HP.out o).next (w2 := w2) (M2 := M2) (mc2 := mc2) hjl hz hl hf hb)
      clear hTy hz hdm hK1 hpl hgp HP
      generalize putC ss f L[j] y = y2 at *
      generalize L[j] = E at *
      cases n with
      | zero => exact hTy2.elim
      | succ n =>
      obtain ⟨rfl, _, rfl, _, rfl, _, A3, cap3, rfl, _, _, _⟩ := hTy2
      have gf : (wr.alloc (.cells #[.int .i64 E.kind, .string E.name, .int .i64 E.num, .slice A3 E.of.length cap3] 51)).cell? ⟨gp, 0, none⟩ = some (.func (.func 57) #[] #[.pointer (some ⟨g1, 0, none⟩), .pointer (some ⟨g2, 0, none⟩), .pointer (some ⟨g0, 0, none⟩), .pointer (some ⟨gp, 0, none⟩)]) := HGP.out _
      have KDE := Lib.hid (KD.out (.cells #[.int .i64 E.kind, .string E.name, .int .i64 E.num, .slice A3 E.of.length cap3] 51))
      have NXE := Lib.hid (NX.out (.cells #[.int .i64 E.kind, .string E.name, .int .i64 E.num, .slice A3 E.of.length cap3] 51))
      clear KD NX HGP
      go_wp2_with fail
      refine KDE.out.mono ?_
      rintro e w6 ⟨rfl, M6, mc6, hl6, hf6, hb6⟩
      have N6 := Lib.hid (NXE.out _ _ _ hl6 hf6 hb6)
      clear hl6 hf6 hb6 KDE NXE gf k0 k1 k2 k3'
      go_wp2_with fail
      go_roundw
      case rel => exact ⟨j + 1, by omega, by go_num, _, _, _, N6⟩
      case measure => simp [intOf]; omega
    · obtain rfl : j = L.length := by omega
      have e1 : decide ((L.length : Int) < (L.length : Int)) = false := decide_eq_false (by omega)
      have fin := Lib.hid (cxpost_loop hpl.out)
      clear hpl
      go_wp2_with fail
      go_end0
      exact fin.out
end Go.Proofs.YtmahoppjefhnjaaDoor.sh
