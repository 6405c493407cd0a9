/-
  tarjan: does each of some lead to each other one: the walk.
-/
import Derived.Test.YtpdidgacmikllaaTjL1
namespace Go.Proofs.Ytpdidgacmikllaa.tj
open Go.RowKit Go.Proofs.Ytpdidgacmikllaa.mem

theorem leads_one (g : G) {n : Int} (hn : g.n = n.toNat) {x : Nat} (hx : x < g.n) : g.leads n [(x : Int)] = (List.range g.n).filter fun j => g.R x j := by
  unfold G.leads
  refine List.filter_congr fun j _ => ?_
  have : inG n (x : Int) = true := by simp [inG]; omega
  simp [this]

theorem one_rd (w : World) (x : Nat) : Rd (w.alloc (.cells #[.int .i64 (x : Int)] 3)) (some ⟨w.heap.size, 0, none⟩) ([(x : Int)].map (Value.int .i64)) := fun _ => ⟨w.heap.size, 0, rfl, by simp, fun j hj => by
  have : j = 0 := by simp at hj; omega
  subst this
  exact (Box.new w _ _).cell 0⟩

set_option maxRecDepth 100000 in
set_option maxHeartbeats 2000000 in
theorem roundl_any (n : Int) (hn : n ≤ 100) (A : Option Addr) (cap : Nat) (l : List (Int × Int)) (hl : l.length ≤ 1000) (P : Option Addr) (pc : Nat) (p : List Nat) (hpl : p.length ≤ 1000) (hp : ∀ x ∈ p, x < (gof n l).n ∧ ∀ y ∈ p, (gof n l).R x y = true) (w : World) (h : Eds w A l) (hP : Rd w P (natI p)) :
    Calls Try.prog 19 #[.int .i64 n, .slice A l.length cap, .slice P p.length pc] w (SaPost true w) := by
  have KL := Lib.hid (fun w1 (x : Nat) (hb : Below w.heap.size w w1) => rleads_any n hn A cap l hl (some ⟨w1.heap.size, 0, none⟩) 1 [(x : Int)] (by simp) (w1.alloc (.cells #[.int .i64 (x : Int)] 3)) (h.on (hb.alloc hb.size _)) (one_rd w1 x))
  have hgnn : Hid ((gof n l).n = n.toNat) := Lib.hid rfl
  have hgn : Hid ((gof n l).n ≤ 100) := Lib.hid (by show n.toNat ≤ 100; omega)
  have HP := Lib.hid hP
  have HR := Lib.hid hp
  obtain ⟨q, hq⟩ : ∃ q, Hid (p.length = q) := ⟨_, Lib.hid rfl⟩
  have hqb : q ≤ 1000 := by rw [← hq.out]; exact hpl
  rw [hq.out]
  clear h hl hpl hp hP
  generalize gof n l = g at *
  generalize l.length = m at *
  have KL : Hid (∀ (w1 : World) (x : Nat), Below w.heap.size w w1 → Calls Try.prog 18 #[.int .i64 n, .slice A m cap, .slice (some ⟨w1.heap.size, 0, none⟩) 1 1] (w1.alloc (.cells #[.int .i64 (x : Int)] 3)) (LdPost (w1.alloc (.cells #[.int .i64 (x : Int)] 3)) (g.leads n [(x : Int)]))) := KL
  go_enter Try.func19, Try.ntmps19
  go_wp2_with fail
  go_loopw [7] (fun i wr => ∃ k : Nat, k ≤ q ∧ i = .int .i64 k ∧ Hid (Below w.heap.size w wr)) (fun i _ => q - (intOf i).toNat)
  case atStart => exact ⟨0, by omega, rfl, Lib.hid (Below.refl _ _)⟩
  case round =>
    obtain ⟨k, hk, rfl, hB⟩ := hrel
    rename World => wr
    by_cases hkq : k < q
    · have d1 : decide ((k : Int) < (q : Int)) = true := decide_eq_true (by omega)
      have hkI : (k : Int) < (q : Int) := by omega
      have hkl : k < p.length := by rw [hq.out]; exact hkq
      obtain ⟨bp, op, rfl, hbl, hc⟩ := rd_cells HP.out (by omega)
      have ck := (hB.out.cell (p := ⟨bp, op + k, none⟩) hbl).trans (hc k hkl)
      have hxr := Lib.hid (HR.out _ (List.getElem_mem hkl))
      have HBL := Lib.hid hbl
      have HC := Lib.hid hc
      clear hc hbl
      generalize p[k] = x at *
      clear hkl
      have KX := Lib.hid (KL.out wr x hB.out)
      have hlo := Lib.hid (leads_one g hgnn.out hxr.out.1)
      go_wp2_with fail
      refine KX.out.mono ?_
      rintro e w2 ⟨A2, c2, he, r2, b2⟩
      rw [hlo.out] at he r2
      have hB2 := Lib.hid (hB.out.trans (((Fr.refl [] wr).alloc _).all.mono hB.out.size |>.trans (b2.mono (Nat.le_trans hB.out.size (by simp)))))
      have R2 := Lib.hid r2
      obtain ⟨T, hT⟩ : ∃ T, Hid ((List.range g.n).filter (fun j => g.R x j) = T) := ⟨_, Lib.hid rfl⟩
      rw [hT.out] at he R2
      obtain ⟨z, hz⟩ : ∃ z, Hid (T.length = z) := ⟨_, Lib.hid rfl⟩
      rw [hz.out] at he
      subst he
      have hzb : z ≤ 100 := by
        rw [← hz.out, ← hT.out]
        have h1 := List.length_filter_le (fun j => g.R x j) (List.range g.n)
        rw [List.length_range] at h1
        exact Nat.le_trans h1 hgn.out
      clear r2 b2 KX hlo hB ck
      go_wp2_with fail
      go_loopw [9, 10, 11] (fun i _ _ wx => ∃ k2 : Nat, k2 ≤ q ∧ i = .int .i64 k2 ∧ Hid (Below w2.heap.size w2 wx)) (fun i _ _ _ => q - (intOf i).toNat)
      case atStart => exact ⟨0, by omega, rfl, Lib.hid (Below.refl _ _)⟩
      case round =>
        obtain ⟨k2, hk2, rfl, hB3⟩ := hrel
        rename World => wx
        by_cases hkq2 : k2 < q
        · have d2 : decide ((k2 : Int) < (q : Int)) = true := decide_eq_true (by omega)
          have hkI2 : (k2 : Int) < (q : Int) := by omega
          have hkl2 : k2 < p.length := by rw [hq.out]; exact hkq2
          have hy0 := HC.out k2 hkl2
          have hym := Lib.hid (List.getElem_mem hkl2)
          have HY : Hid (∀ W, Below w.heap.size w W → W.cell? ⟨bp, op + k2, none⟩ = some (.int .i64 ((p[k2] : Nat) : Int))) := Lib.hid (fun W hW => (hW.cell (p := ⟨bp, op + k2, none⟩) HBL.out).trans hy0)
          clear hy0
          generalize p[k2] = y at *
          clear hkl2
          have hyT : Hid (y ∈ T) := Lib.hid (by
            rw [← hT.out, List.mem_filter, List.mem_range]
            exact ⟨(HR.out y hym.out).1, hxr.out.2 y hym.out⟩)
          go_wp2_with fail
          go_loopw [10, 11] (fun s i wy => ∃ j : Nat, j ≤ z ∧ i = .int .i64 j ∧ s = .bool ((T.take j).any (· == y)) ∧ Hid (Below w2.heap.size w2 wy)) (fun _ i _ => z - (intOf i).toNat)
          case atStart => exact ⟨0, by omega, rfl, by simp, hB3⟩
          case round =>
            obtain ⟨j, hj, rfl, rfl, hB4⟩ := hrel
            clear hB3
            rename World => wy
            by_cases hjz : j < z
            · have d3 : decide ((j : Int) < (z : Int)) = true := decide_eq_true (by omega)
              have hjI : (j : Int) < (z : Int) := by omega
              have hjl : j < T.length := by rw [hz.out]; exact hjz
              obtain ⟨bt, ot, rfl, hbt, hct⟩ := rd_cells R2.out (by omega)
              have ct := (hB4.out.cell (p := ⟨bt, ot + j, none⟩) hbt).trans (hct j hjl)
              have cy := HY.out wy (hB2.out.trans (hB4.out.mono hB2.out.size))
              have hts : Hid ((T.take (j + 1)).any (· == y) = ((T.take j).any (· == y) || (T[j] == y))) := Lib.hid (by rw [List.take_succ_eq_append_getElem hjl, List.any_append]; simp)
              clear hct hbt
              generalize T[j] = t at *
              clear hjl
              have hB5 : Hid (∀ i, Below w2.heap.size w2 (wy.drewN i)) := Lib.hid (fun i => hB4.out.trans ((((Fr.refl [] wy).drewN i).all).mono hB4.out.size))
              generalize (T.take j).any (· == y) = u at *
              clear hB4
              cases u with
              | true =>
                go_wp2_with fail
                go_quiet (fail)
                go_wp2_with fail
                go_roundw
                case rel => exact ⟨j + 1, by omega, by go_num, by rw [hts.out]; rfl, Lib.hid (hB5.out _)⟩
                case measure => simp [intOf]; omega
              | false =>
                by_cases hty : t = y
                · subst hty
                  have d4 : ((t : Int) == (t : Int)) = true := by simp
                  have hts2 : Hid ((T.take (j + 1)).any (· == t) = true) := Lib.hid (by rw [hts.out]; simp)
                  clear hts
                  go_wp2_with fail
                  go_quiet (fail)
                  go_wp2_with fail
                  go_roundw
                  case rel => exact ⟨j + 1, by omega, by go_num, by rw [hts2.out], Lib.hid (hB5.out _)⟩
                  case measure => simp [intOf]; omega
                · have d4 : ((t : Int) == (y : Int)) = false := by simp; omega
                  have hts2 : Hid ((T.take (j + 1)).any (· == y) = false) := Lib.hid (by rw [hts.out]; simpa using hty)
                  clear hts hty
                  go_wp2_with fail
                  go_quiet (fail)
                  go_wp2_with fail
                  go_roundw
                  case rel => exact ⟨j + 1, by omega, by go_num, by rw [hts2.out], Lib.hid (hB5.out _)⟩
                  case measure => simp [intOf]; omega
            · obtain rfl : j = z := by omega
              have d3 : decide ((j : Int) < (j : Int)) = false := decide_eq_false (by omega)
              have hany : Hid ((T.take j).any (· == y) = true) := Lib.hid (by
                rw [← hz.out, List.take_length, List.any_eq_true]
                exact ⟨y, hyT.out, by simp⟩)
              rw [hany.out]
              go_wp2_with fail
              go_roundw
              case rel => exact ⟨k2 + 1, by omega, by go_num, hB4⟩
              case measure => simp [intOf]; omega
        · obtain rfl : k2 = q := by omega
          have d2 : decide ((k2 : Int) < (k2 : Int)) = false := decide_eq_false (by omega)
          have hB5 := Lib.hid (hB2.out.trans (hB3.out.mono hB2.out.size))
          go_wp2_with fail
          go_roundw
          case rel => exact ⟨k + 1, by omega, by go_num, hB5⟩
          case measure => simp [intOf]; omega
    · obtain rfl : k = q := by omega
      have d1 : decide ((k : Int) < (k : Int)) = false := decide_eq_false (by omega)
      go_wp2_with fail
      go_ret
      exact ⟨rfl, hB.out⟩
end Go.Proofs.Ytpdidgacmikllaa.tj
