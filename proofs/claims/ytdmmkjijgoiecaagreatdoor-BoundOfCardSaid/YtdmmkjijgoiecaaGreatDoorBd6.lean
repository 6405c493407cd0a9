/-
  bound: a system's size: the reference's.
-/
import Derived.Test.YtdmmkjijgoiecaaGreatDoorBd5
set_option linter.all false
namespace Go.Proofs.YtdmmkjijgoiecaaGreatDoor.bd
open Go.RowKit Go.Sort Go.Proofs.YtdmmkjijgoiecaaGreatDoor.mem Go.Proofs.YtdmmkjijgoiecaaGreatDoor.sy
open Go.Proofs.YtdmmkjijgoiecaaGreatDoor.nm (Tab tab_below)
open Go.Proofs.YtdmmkjijgoiecaaGreatDoor.tx (rsS)

def TPost (n k : Nat) (w : World) (e : Ending) (w' : World) : Prop := e = .returned (.tuple #[.int .i64 (n : Int), .int .i64 (k : Int)]) ∧ Below w.heap.size w w'

set_option maxHeartbeats 8000000 in
set_option maxRecDepth 100000 in
theorem rof_any (hm : HeldM) (s : MS) (w : World) (hs : SysM w s) (hcl : ∀ x ∈ s.cs, x.c.args.length ≤ 8796093022208) : Calls Tryz.prog 20 #[s.val] w (TPost (nodesZ s.sys) (consZ s.sys) w) := by
  have HCK := Lib.hid (fun W (hb : Below w.heap.size w W) => rcheck_any s W (hs.below hb) hm hcl)
  have HN := Lib.hid (fun W (hb : Below w.heap.size w W) => rnodes_seg hm s W (hs.below hb) hcl)
  have HP := Lib.hid (fun W (hb : Below w.heap.size w W) => rplaces_any hm s W (hs.below hb) hcl)
  have HF := Lib.hid (fun W (hb : Below w.heap.size w W) => hs.f.below hb)
  have HC := Lib.hid (fun W (hb : Below w.heap.size w W) => hs.c.below hb)
  have Hok := Lib.hid (fun h => check_ok (s := s.sys) h)
  have Hof := Lib.hid (fun h => of_ok (s := s.sys) h)
  have hNl := Lib.hid (nodes_len4 s.sys)
  have hPl := Lib.hid (places_len4 s.sys)
  have HI := Lib.hid (fun W A cap m x h hm => tx.into_any W A cap m x h hm)
  unfold IPost at HCK
  unfold NRPost at HN
  unfold NPost at HP
  unfold tx.IPost at HI
  clear hs hm hcl
  unfold TPost
  obtain ⟨V1, hV1⟩ : ∃ V, Hid (V = nodesZ s.sys) := ⟨_, Lib.hid rfl⟩
  obtain ⟨V2, hV2⟩ : ∃ V, Hid (V = consZ s.sys) := ⟨_, Lib.hid rfl⟩
  rw [← hV1.out, ← hV2.out]
  obtain ⟨oA, oc, os, fA, fc, fs, cA, cc, cs⟩ := s
  unfold MS.val MS.sys at *
  dsimp only at *
  obtain ⟨E, hE⟩ : ∃ E, Hid (E = checkE ⟨os.map (·.o), fs, cs.map (·.c)⟩) := ⟨_, Lib.hid rfl⟩
  rw [← hE.out] at HCK Hok Hof HN HP hNl hPl
  obtain ⟨no, hNo⟩ : ∃ n, Hid (n = os.length) := ⟨_, Lib.hid rfl⟩
  obtain ⟨nf, hNf⟩ : ∃ n, Hid (n = fs.length) := ⟨_, Lib.hid rfl⟩
  obtain ⟨nc, hNc⟩ : ∃ n, Hid (n = cs.length) := ⟨_, Lib.hid rfl⟩
  rw [← hNo.out, ← hNf.out, ← hNc.out] at HCK HN HP ⊢
  go_enter Tryz.func20, Tryz.ntmps20
  have X0 := Lib.hid (SR.new w #[.slice oA no oc, .slice fA nf fc, .slice cA nc cc])
  go_wp2_with fail
  refine (HCK.out _ X0.out.1).mono ?_
  rintro e w2 ⟨rfl, hb2⟩
  have X2 := Lib.hid (X0.out.on hb2)
  clear hb2 X0 HCK
  by_cases hEz : E = 0
  rotate_left
  · have d0 : (E != 0) = true := by simpa using hEz
    have hv1 : Hid (V1 = 0) := Lib.hid (by rw [hV1.out]; unfold nodesZ; rw [if_neg (by rw [← hE.out]; exact hEz)])
    have hv2 : Hid (V2 = 0) := Lib.hid (by rw [hV2.out]; unfold consZ; rw [if_neg (by rw [← hE.out]; exact hEz)])
    clear hEz
    go_wp2_with fail
    go_ret2
    exact ⟨by rw [hv1.out, hv2.out]; rfl, X2.out.1⟩
  have d0 : (E != 0) = false := by simpa using hEz
  have hok := Lib.hid (Hok.out hEz)
  have hof := Lib.hid (Hof.out hEz)
  rw [hEz] at HN HP hNl hPl
  have hrise := Lib.hid (orNil_rise (nodesL ⟨os.map (·.o), fs, cs.map (·.c)⟩))
  have hW1 : Hid (V1 = (allN (orNil 0 (nodesL ⟨os.map (·.o), fs, cs.map (·.c)⟩)) (orNil 0 (placesL ⟨os.map (·.o), fs, cs.map (·.c)⟩))).length + fnN fs) := Lib.hid (by rw [hV1.out]; unfold nodesZ; rw [if_pos (by rw [← hE.out]; exact hEz)])
  have hW2 : Hid (V2 = coN (cs.map (·.c))) := Lib.hid (by rw [hV2.out]; unfold consZ; rw [if_pos (by rw [← hE.out]; exact hEz)])
  clear hEz Hok Hof hV1 hV2 hE
  generalize orNil 0 (nodesL ⟨os.map (·.o), fs, cs.map (·.c)⟩) = Ns at *
  generalize orNil 0 (placesL ⟨os.map (·.o), fs, cs.map (·.c)⟩) = Ps at *
  have hnf : nf ≤ 600 := by have := hok.out.f; dsimp only at this; have := hNf.out; omega
  have hnc : nc ≤ 6000 := by have := hok.out.c; rw [List.length_map] at this; have := hNc.out; omega
  have hf6 : Hid (∀ x ∈ fs, x.kinds.size ≤ 6) := Lib.hid hof.out.f
  obtain ⟨L, hL⟩ : ∃ L, Hid (L = cs.map (·.c)) := ⟨_, Lib.hid rfl⟩
  have hLn : Hid (L.length = nc) := Lib.hid (by rw [hL.out, List.length_map]; exact hNc.out.symm)
  rw [← hL.out] at hW2
  have hco := Lib.hid (fun k => coN_le L k)
  have hfn := Lib.hid (fun k => fnN_take_le (l := fs) hf6.out k)
  have hal := Lib.hid (fun k => allN_take_len Ns Ps k)
  rw [hLn.out] at hco
  rw [← hNf.out] at hfn
  clear hok hof
  obtain ⟨t0, t1, t2⟩ := SR.three X2.out
  go_wp2_with fail
  refine (HN.out _ X2.out.1).mono ?_
  rintro e w4 ⟨A4, c4, rfl, s4, b4⟩
  have X4 := Lib.hid (X2.out.on b4)
  have S4 := Lib.hid s4
  clear b4 s4 X2 HN d0 t0 t1 t2
  obtain ⟨t0, t1, t2⟩ := SR.three X4.out
  go_wp2_with fail
  refine (HP.out _ X4.out.1).mono ?_
  rintro e w5 ⟨A5, c5, rfl, r5, b5⟩
  have X5 := Lib.hid (X4.out.on b5)
  have R5 := Lib.hid r5
  have S5 : Hid (Seg w5 9 A4 c4 ((allN Ns (Ps.take 0)).map encStr)) := Lib.hid (by rw [List.take_zero, allN_nil hrise.out]; exact S4.out.kept (Fr.of_below b5 []) (by simp))
  have hl5 : Hid (Ns.length = (allN Ns (Ps.take 0)).length) := Lib.hid (by rw [List.take_zero, allN_nil hrise.out])
  have B5 := Lib.hid (Below.refl w5.heap.size w5)
  clear b5 r5 S4 X4 HP hrise t0 t1 t2
  obtain ⟨np, hNP⟩ : ∃ z, Hid (z = Ps.length) := ⟨_, Lib.hid rfl⟩
  obtain ⟨nn, hNN⟩ : ∃ z, Hid (z = Ns.length) := ⟨_, Lib.hid rfl⟩
  have hnp : np ≤ 400000 := by rw [hNP.out]; exact hPl.out
  have hnn : nn ≤ 400000 := by rw [hNN.out]; exact hNl.out
  rw [← hNP.out, ← hNN.out] at hal
  rw [← hNP.out]
  rw [hl5.out]
  clear hPl hNl hl5
  go_wp2_with fail
  go_loopw [4, 6] (fun v i wr => ∃ (k : Nat) (A : Option Addr) (cap : Nat), k ≤ np ∧ i = .int .i64 k ∧ v = .slice A (allN Ns (Ps.take k)).length cap ∧ Hid (Seg wr 9 A cap ((allN Ns (Ps.take k)).map encStr)) ∧ Hid (Below w5.heap.size w5 wr)) (fun _ i _ => np - (intOf i).toNat)
  case atStart => exact ⟨0, A4, c4, by omega, rfl, rfl, S5, B5⟩
  case round =>
    obtain ⟨k, A, cap, hk, rfl, rfl, HS, HB⟩ := hrel
    clear S5 B5
    rename World => wr
    by_cases hkl : k < np
    · have e1 : decide ((k : Int) < (np : Int)) = true := decide_eq_true (by omega)
      have hkI : (k : Int) < (np : Int) := by omega
      have hkx : k < Ps.length := by rw [← hNP.out]; exact hkl
      obtain ⟨g, o, rfl, hg, hc⟩ := (R5.out.below HB.out) (by rw [List.length_map]; exact Nat.lt_of_le_of_lt (Nat.zero_le _) hkx)
      have cx := hc k (by rw [List.length_map]; exact hkx)
      rw [List.getElem_map] at cx
      have hlm := hal.out k
      have KI := HI.out wr A cap (allN Ns (Ps.take k)) Ps[k] HS.out (by omega)
      rw [← allN_take hkx] at KI
      have KI := Lib.hid KI
      clear hc hg
      generalize Ps[k] = x at *
      generalize (allN Ns (Ps.take k)).length = m at *
      unfold encStr at cx KI
      go_wp2_with fail
      refine KI.out.mono ?_
      rintro e wx ⟨A6, c6, rfl, s6, b6⟩
      have S6 : Hid (Seg wx 9 A6 c6 ((allN Ns (Ps.take (k + 1))).map encStr)) := Lib.hid s6
      have B6 := Lib.hid (HB.out.trans (b6.mono HB.out.size))
      clear s6 b6 KI HS HB cx
      go_wp2_with fail
      go_roundw
      case rel => exact ⟨k + 1, A6, c6, by omega, by go_num, rfl, S6, B6⟩
      case measure => simp [intOf]; omega
    · obtain rfl : k = np := by omega
      have e1 : decide ((k : Int) < (k : Int)) = false := decide_eq_false (by omega)
      have hlm := hal.out k
      have hbase : Hid (V1 = (allN Ns (Ps.take k)).length + fnN fs) := Lib.hid (by rw [hW1.out, List.take_of_length_le (by rw [hNP.out]; exact Nat.le_refl _)])
      have X6 := Lib.hid (X5.out.on HB.out)
      clear HS HB hW1 X5 R5 HI hal
      generalize (allN Ns (Ps.take k)).length = m at *
      have hf0 : Hid (m = m + fnN (fs.take 0)) := Lib.hid (by simp [fnN])
      go_wp2_with fail
      go_loopw [7, 8] (fun v i wr => ∃ (j z : Nat), j ≤ nf ∧ i = .int .i64 j ∧ v = .int .i64 z ∧ Hid (z = m + fnN (fs.take j)) ∧ z ≤ 2010000 ∧ Hid (SR w wr #[.slice oA no oc, .slice fA nf fc, .slice cA nc cc])) (fun _ i _ => nf - (intOf i).toNat)
      case atStart => exact ⟨0, m, by omega, rfl, rfl, hf0, by omega, X6⟩
      case round =>
        obtain ⟨j, z, hj, rfl, rfl, hz, hzl, HX⟩ := hrel
        clear X6 hf0
        rename World => wu
        have c1 := HX.out.2.cell 1
        simp only [List.getElem?_toArray, List.getElem?_cons_zero, List.getElem?_cons_succ] at c1
        by_cases hjl : j < nf
        · have e2 : decide ((j : Int) < (nf : Int)) = true := decide_eq_true (by omega)
          have hjI : (j : Int) < (nf : Int) := by omega
          have hjx : j < fs.length := by rw [← hNf.out]; exact hjl
          obtain ⟨g, o, rfl, hg, f0, f1, f2⟩ := tbl_fn (HF.out wu HX.out.1) hjx
          have hks := hf6.out fs[j] (List.getElem_mem hjx)
          have hnx : Hid (z + fs[j].kinds.size + 1 = m + fnN (fs.take (j + 1))) := Lib.hid (by rw [fnN_take hjx, hz.out]; omega)
          have hzb : z + fs[j].kinds.size + 1 ≤ 2010000 := by
            have h1 := hfn.out (j + 1)
            have h2 := hnx.out
            omega
          clear hz f0 f2
          generalize fs[j] = f at *
          obtain ⟨fn, fk, fr⟩ := f
          dsimp only at *
          generalize hkz : fk.size = kz at *
          go_wp2_with fail
          go_roundw
          case rel => exact ⟨j + 1, z + kz + 1, by omega, by go_num, by go_num, hnx, hzb, HX⟩
          case measure => simp [intOf]; omega
        · obtain rfl : j = nf := by omega
          have e2 : decide ((j : Int) < (j : Int)) = false := decide_eq_false (by omega)
          have hV : Hid (V1 = z) := Lib.hid (by rw [hbase.out, hz.out, List.take_of_length_le (by rw [hNf.out]; exact Nat.le_refl _)])
          have hc0 : Hid (0 = coN (L.take 0)) := Lib.hid (by simp [coN])
          clear hz hbase
          go_wp2_with fail
          clear c1
          go_loopw [9, 10] (fun v i wr => ∃ (q y : Nat), q ≤ nc ∧ i = .int .i64 q ∧ v = .int .i64 y ∧ Hid (y = coN (L.take q)) ∧ Hid (SR w wr #[.slice oA no oc, .slice fA j fc, .slice cA nc cc])) (fun _ i _ => nc - (intOf i).toNat)
          case atStart => exact ⟨0, 0, by omega, rfl, rfl, hc0, HX⟩
          case round =>
            obtain ⟨q, y, hq, rfl, rfl, hy, HY⟩ := hrel
            clear hc0 HX
            rename World => wt
            have c2 := HY.out.2.cell 2
            simp only [List.getElem?_toArray, List.getElem?_cons_zero, List.getElem?_cons_succ] at c2
            have hyl : y ≤ 6000 := by have h1 := hco.out q; have h2 := hy.out; omega
            by_cases hql : q < nc
            · have e3 : decide ((q : Int) < (nc : Int)) = true := decide_eq_true (by omega)
              have hqI : (q : Int) < (nc : Int) := by omega
              have hqx : q < cs.length := by rw [← hNc.out]; exact hql
              have hqL : q < L.length := by rw [hLn.out]; exact hql
              have hLe : Hid (L[q] = cs[q].c) := Lib.hid (by
                have e : L[q]? = some cs[q].c := by rw [hL.out, List.getElem?_map, List.getElem?_eq_getElem hqx]; rfl
                rw [List.getElem?_eq_getElem hqL] at e
                exact Option.some.inj e)
              obtain ⟨g, o, rfl, hg, a0, a1, a2, a3, a4, a5⟩ := tbl_con (HC.out wt HY.out.1) hqx
              have hnx := Lib.hid (coN_take hqL)
              rw [hLe.out] at hnx
              clear a1 a2 a3 a4 a5 hLe
              generalize cs[q] = x at *
              obtain ⟨⟨xo, xa, xb, xk, xt, xg⟩, xA, xc⟩ := x
              dsimp only at *
              by_cases hop : 2 < xo
              · have dop : decide (2 < xo) = true := decide_eq_true hop
                have hn2 : Hid (y + 1 = coN (L.take (q + 1))) := Lib.hid (by rw [hnx.out, if_pos hop, hy.out])
                clear hnx hy
                go_wp2_with fail
                go_roundw
                case rel => exact ⟨q + 1, y + 1, by omega, by go_num, by go_num, hn2, HY⟩
                case measure => simp [intOf]; omega
              · have dop : decide (2 < xo) = false := decide_eq_false hop
                have hn2 : Hid (y = coN (L.take (q + 1))) := Lib.hid (by rw [hnx.out, if_neg hop, hy.out]; rfl)
                clear hnx hy
                go_wp2_with fail
                go_roundw
                case rel => exact ⟨q + 1, y, by omega, by go_num, by go_num, hn2, HY⟩
                case measure => simp [intOf]; omega
            · obtain rfl : q = nc := by omega
              have e3 : decide ((q : Int) < (q : Int)) = false := decide_eq_false (by omega)
              have hv2 : Hid (V2 = y) := Lib.hid (by rw [hW2.out, hy.out, List.take_of_length_le (by rw [hLn.out]; exact Nat.le_refl _)])
              go_wp2_with fail
              go_ret2
              exact ⟨by rw [hV.out, hv2.out]; rfl, HY.out.1⟩
end Go.Proofs.YtdmmkjijgoiecaaGreatDoor.bd
