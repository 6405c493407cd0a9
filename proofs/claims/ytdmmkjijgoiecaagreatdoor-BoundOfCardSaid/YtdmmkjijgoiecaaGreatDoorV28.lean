import Derived.Test.YtdmmkjijgoiecaaGreatDoorV22
import Derived.Test.YtdmmkjijgoiecaaGreatDoorV25
import Derived.Test.YtdmmkjijgoiecaaGreatDoorUSy9
import Derived.Test.YtdmmkjijgoiecaaGreatDoorV24
/-
  system: what is wrong with a system first: the reference's.
-/
set_option linter.all false
namespace Go.Proofs.YtdmmkjijgoiecaaGreatDoor.sy
open Go.RowKit Go.Proofs.YtdmmkjijgoiecaaGreatDoor.mem
open Go.Proofs.YtdmmkjijgoiecaaGreatDoor.nm (Tab tab_below)

set_option maxHeartbeats 16000000 in
set_option maxRecDepth 100000 in
theorem rcheck_any (s : MS) (w : World) (hs : SysM w s) (hm : HeldM) (hcl : ∀ x ∈ s.cs, x.c.args.length ≤ 8796093022208) : Calls Tryz.prog 57 #[s.val] w (IPost (checkE s.sys) w) := by
  have HO := Lib.hid (fun W (hb : Below w.heap.size w W) => hs.o.below hb)
  have HF := Lib.hid (fun W (hb : Below w.heap.size w W) => hs.f.below hb)
  have HC := Lib.hid (fun W (hb : Below w.heap.size w W) => hs.c.below hb)
  have CO : Hid (∀ W, Below w.heap.size w W → ∀ x ∈ s.os, Calls Tryz.prog 114 #[.agg x.row.toArray] W (IPost (objE x.o) W)) := Lib.hid (fun W hb x hx => robject_any hm x W ((hs.ok x hx).below hb))
  have CF : Hid (∀ W, Below w.heap.size w W → ∀ x ∈ s.fs, Calls Tryz.prog 115 #[.agg (fnRow x).toArray] W (IPost (fnE x) W)) := Lib.hid (fun W hb x hx => rfunction_any x W (hs.fk x hx))
  have CC : Hid (∀ W, Below w.heap.size w W → ∀ x ∈ s.cs, Calls Tryz.prog 116 #[.agg x.row.toArray] W (IPost (conE x.c) W)) := Lib.hid (fun W hb x hx => rcon_any x W ((hs.ck x hx).below hb))
  have CK : Hid (∀ W, Below w.heap.size w W → ∀ x ∈ s.cs, ∀ y ∈ s.cs, Calls Tryz.prog 111 #[.agg x.row.toArray, .agg y.row.toArray] W (IPost (conC x.c y.c) W)) := Lib.hid (fun W hb x hx y hy => rcompare_any x y W ((hs.ck x hx).below hb) ((hs.ck y hy).below hb) (hcl x hx) (hcl y hy))
  have hol := hs.ol
  have hfl := hs.fl
  have hcl9 := hs.cl
  unfold maxLen at hol hfl hcl9
  unfold IPost at CO CF CC CK
  clear hs hcl hm
  obtain ⟨oA, oc, os, fA, fc, fs, cA, cc, cs⟩ := s
  unfold MS.sys IPost
  unfold MS.val
  dsimp only at *
  obtain ⟨no, hNo⟩ : ∃ n, Hid (n = os.length) := ⟨_, Lib.hid rfl⟩
  obtain ⟨nf, hNf⟩ : ∃ n, Hid (n = fs.length) := ⟨_, Lib.hid rfl⟩
  obtain ⟨nc, hNc⟩ : ∃ n, Hid (n = cs.length) := ⟨_, Lib.hid rfl⟩
  obtain ⟨V, hV⟩ : ∃ V, Hid (V = checkE ⟨os.map (·.o), fs, cs.map (·.c)⟩) := ⟨_, Lib.hid rfl⟩
  rw [← hV.out, ← hNo.out, ← hNf.out, ← hNc.out]
  rw [← hNo.out] at hol
  rw [← hNf.out] at hfl
  rw [← hNc.out] at hcl9
  obtain ⟨E1, hE1⟩ : ∃ E, Hid (E = goE (fun x : MO => objE x.o) (fun x y => badO x.o y.o) (prevAt os 0) (os.drop 0)) := ⟨_, Lib.hid rfl⟩
  obtain ⟨E2, hE2⟩ : ∃ E, Hid (E = goE fnE badF (prevAt fs 0) (fs.drop 0)) := ⟨_, Lib.hid rfl⟩
  obtain ⟨E3, hE3⟩ : ∃ E, Hid (E = goE (fun x : MC => conE x.c) (fun x y => badC x.c y.c) (prevAt cs 0) (cs.drop 0)) := ⟨_, Lib.hid rfl⟩
  have hV0 : Hid (V = if 600 < no ∨ 600 < nf ∨ 6000 < nc then 4 else thenE E1 (thenE E2 E3)) := Lib.hid (by
    rw [hV.out, hE1.out, hE2.out, hE3.out, hNo.out, hNf.out, hNc.out]
    unfold checkE
    dsimp only
    rw [List.length_map, List.length_map]
    have g1 := goE_map (chk := objE) (bad := badO) (f := fun x : MO => x.o) none os
    have g3 := goE_map (chk := conE) (bad := badC) (f := fun x : MC => x.c) none cs
    simp only [Option.map_none] at g1 g3
    rw [g1, g3]
    rfl)
  clear hV
  go_enter Tryz.func57, Tryz.ntmps57
  have X2 := Lib.hid (SR.new w #[.slice oA no oc, .slice fA nf fc, .slice cA nc cc])
  by_cases h0 : 600 < no
  · have d0 : decide ((600 : Int) < (no : Int)) = true := decide_eq_true (by omega)
    have hv : Hid ((4 : Int) = V) := Lib.hid (by rw [hV0.out, if_pos (by omega)])
    go_wp2_with fail
    go_ret
    exact ⟨congrArg (fun z => Ending.returned (.int .i64 z)) hv.out, X2.out.1⟩
  have d0 : decide ((600 : Int) < (no : Int)) = false := decide_eq_false (by omega)
  by_cases h1 : 600 < nf
  · have d1 : decide ((600 : Int) < (nf : Int)) = true := decide_eq_true (by omega)
    have hv : Hid ((4 : Int) = V) := Lib.hid (by rw [hV0.out, if_pos (by omega)])
    go_wp2_with fail
    go_ret
    exact ⟨congrArg (fun z => Ending.returned (.int .i64 z)) hv.out, X2.out.1⟩
  have d1 : decide ((600 : Int) < (nf : Int)) = false := decide_eq_false (by omega)
  by_cases h2 : 6000 < nc
  · have d2 : decide ((6000 : Int) < (nc : Int)) = true := decide_eq_true (by omega)
    have hv : Hid ((4 : Int) = V) := Lib.hid (by rw [hV0.out, if_pos (by omega)])
    go_wp2_with fail
    go_ret
    exact ⟨congrArg (fun z => Ending.returned (.int .i64 z)) hv.out, X2.out.1⟩
  have d2 : decide ((6000 : Int) < (nc : Int)) = false := decide_eq_false (by omega)
  have hV1 : Hid (V = thenE E1 (thenE E2 E3)) := Lib.hid (by rw [hV0.out, if_neg (by omega)])
  clear hV0
  have s0 := X2.out.2.cell 0
  simp only [List.getElem?_toArray, List.getElem?_cons_zero, List.getElem?_cons_succ] at s0
  go_wp2_with fail
  clear s0
  go_loopw [3] (fun i wr => ∃ k : Nat, k ≤ no ∧ i = .int .i64 k ∧ Hid (E1 = goE (fun x : MO => objE x.o) (fun x y => badO x.o y.o) (prevAt os k) (os.drop k)) ∧ Hid (SR w wr #[.slice oA no oc, .slice fA nf fc, .slice cA nc cc])) (fun i _ => no - (intOf i).toNat)
  case atStart => exact ⟨0, by omega, rfl, hE1, X2⟩
  case round =>
    obtain ⟨k, hk, rfl, hE, HL0⟩ := hrel
    clear X2
    rename World => wr0
    have s0 := HL0.out.2.cell 0
    simp only [List.getElem?_toArray, List.getElem?_cons_zero, List.getElem?_cons_succ] at s0
    by_cases hkl : k < no
    · have e1 : decide ((k : Int) < (no : Int)) = true := decide_eq_true (by omega)
      have hkx : k < os.length := by rw [← hNo.out]; exact hkl
      have HT0 := HO.out wr0 HL0.out.1
      obtain ⟨g, off, rfl, hg, c0, c1, c2⟩ := tbl_obj HT0 hkx
      have hgb := Lib.hid (fun h => goE_bad (chk := (fun x : MO => objE x.o)) (bad := (fun x y => badO x.o y.o)) hkx h)
      have hg0 : Hid (k = 0 → (fun x : MO => objE x.o) os[k] = 0 → goE (fun x : MO => objE x.o) (fun x y => badO x.o y.o) (prevAt os k) (os.drop k) = goE (fun x : MO => objE x.o) (fun x y => badO x.o y.o) (prevAt os (k + 1)) (os.drop (k + 1))) := Lib.hid (fun h hz => by subst h; exact goE_zero hkx hz)
      have hg1 : Hid (∀ m (h : m + 1 = k), (fun x : MO => objE x.o) os[k] = 0 → goE (fun x : MO => objE x.o) (fun x y => badO x.o y.o) (prevAt os k) (os.drop k) = bif (fun x y => badO x.o y.o) (os[m]'(by omega)) os[k] then 13 else goE (fun x : MO => objE x.o) (fun x y => badO x.o y.o) (prevAt os (k + 1)) (os.drop (k + 1))) := Lib.hid (fun m h hz => by subst h; exact goE_order hkx hz)
      have hmem := Lib.hid (List.getElem_mem hkx)
      have C1 := Lib.hid (CO.out _ HL0.out.1 _ hmem.out)
      obtain ⟨x, hx⟩ : ∃ x, Hid (os[k] = x) := ⟨_, Lib.hid rfl⟩
      rw [hx.out] at c0 c1 c2 C1 hgb hg0 hg1 hmem
      unfold MO.row at C1
      obtain ⟨z, hz⟩ : ∃ z, Hid (objE x.o = z) := ⟨_, Lib.hid rfl⟩
      try dsimp only at hgb hg0 hg1
      rw [hz.out] at C1 hgb hg0 hg1
      clear hz
      obtain ⟨⟨xn, xk, xm⟩, xA, xc⟩ := x
      dsimp only at *
      go_wp2_with fail
      refine C1.out.mono ?_
      rintro e w5 ⟨rfl, hb5⟩
      have HR5 := Lib.hid (HL0.out.on hb5)
      have HT5 := HO.out w5 HR5.out.1
      clear hb5 C1 c0 c1 c2 HT0 s0
      by_cases hzz : z = 0
      rotate_left
      · have dz : (z != 0) = true := by simpa using hzz
        have hzn := Lib.hid hzz
        have hv : Hid (z = V) := Lib.hid (Eq.symm (by rw [hV1.out, hE.out, hgb.out hzn.out, thenE_n hzn.out]))
        clear hzz HT5 hg0 hg1 hgb
        go_wp2_with fail
        go_ret
        exact ⟨congrArg (fun z => Ending.returned (.int .i64 z)) hv.out, HR5.out.1⟩
      have dz : (z != 0) = false := by simpa using hzz
      have hzn := Lib.hid hzz
      have s0 := HR5.out.2.cell 0
      simp only [List.getElem?_toArray, List.getElem?_cons_zero, List.getElem?_cons_succ] at s0
      clear hzz hgb
      rcases Nat.eq_zero_or_pos k with hk0 | hk0
      · have d5 : decide (0 < k) = false := decide_eq_false (by omega)
        have hE2 := Lib.hid (hE.out.trans (hg0.out hk0 hzn.out))
        clear hE hg0 hg1 hzn HT5
        go_wp2_with fail
        go_quiet (fail)
        go_wp2_with fail
        go_roundw
        case rel => exact ⟨k + 1, by omega, by go_num, hE2, Lib.hid (HR5.out.drewN _)⟩
        case measure => simp [intOf]; omega
      · have d5 : decide (0 < k) = true := decide_eq_true hk0
        obtain ⟨m2, hm2⟩ : ∃ m2, m2 + 1 = k := ⟨k - 1, by omega⟩
        have hjm : (k : Int) - 1 = (m2 : Int) := by omega
        have hwm : IntKind.i64.wrap (m2 : Int) = (m2 : Int) := IntWalk.i64_in _ (by omega)
        have hm2m : m2 < os.length := by omega
        have hm2n : m2 < no := by omega
        obtain ⟨g3, off3, e3, _, p0, p1, p2⟩ := tbl_obj HT5 hm2m
        obtain ⟨g4, off4, e4, _, c0, c1, c2⟩ := tbl_obj HT5 hkx
        injection e3 with e3
        injection e3 with e3 e3b
        subst e3
        subst e3b
        injection e4 with e4
        injection e4 with e4 e4b
        subst e4
        subst e4b
        rw [hx.out] at c0 c1 c2
        have hgm := Lib.hid (hg1.out m2 hm2 hzn.out)
        generalize os[m2] = y at *
        obtain ⟨⟨yn, yk, ym⟩, yA, yc⟩ := y
        dsimp only at *
        clear hg0 hg1 hm2 hm2m HT5
        rcases hlb : Op.bytesLess yn.toList xn.toList with _ | _
        · have hlt := Lib.hid (show badO ⟨yn, yk, ym⟩ ⟨xn, xk, xm⟩ = true by unfold badO lessB; dsimp only; rw [hlb]; rfl)
          have hv : Hid ((13 : Int) = V) := Lib.hid (Eq.symm (by rw [hV1.out, hE.out, hgm.out, hlt.out]; rfl))
          clear hgm hE
          go_wp2_with fail
          go_quiet (fail)
          go_wp2_with fail
          go_ret
          exact ⟨congrArg (fun z => Ending.returned (.int .i64 z)) hv.out, (HR5.out.drewN _).1⟩
        · have hlt := Lib.hid (show badO ⟨yn, yk, ym⟩ ⟨xn, xk, xm⟩ = false by unfold badO lessB; dsimp only; rw [hlb]; rfl)
          have hE2 := Lib.hid (hE.out.trans (by rw [hgm.out, hlt.out, cond_false]))
          clear hgm hE
          go_wp2_with fail
          go_quiet (fail)
          go_wp2_with fail
          go_roundw
          case rel => exact ⟨k + 1, by omega, by go_num, hE2, Lib.hid (HR5.out.drewN _)⟩
          case measure => simp [intOf]; omega
    · obtain rfl : no = k := by omega
      have e1 : decide ((no : Int) < (no : Int)) = false := decide_eq_false (by omega)
      have hEz : Hid (E1 = 0) := Lib.hid (by rw [hE.out, hNo.out]; exact goE_end _ _)
      have hV2 : Hid (V = thenE E2 E3) := Lib.hid (by rw [hV1.out, hEz.out, thenE_0])
      clear hE hEz hV1
      have s1 := HL0.out.2.cell 1
      simp only [List.getElem?_toArray, List.getElem?_cons_zero, List.getElem?_cons_succ] at s1
      go_wp2_with fail
      clear s0
      clear s1
      go_loopw [5] (fun i wr => ∃ k : Nat, k ≤ nf ∧ i = .int .i64 k ∧ Hid (E2 = goE fnE badF (prevAt fs k) (fs.drop k)) ∧ Hid (SR w wr #[.slice oA no oc, .slice fA nf fc, .slice cA nc cc])) (fun i _ => nf - (intOf i).toNat)
      case atStart => exact ⟨0, by omega, rfl, hE2, HL0⟩
      case round =>
        obtain ⟨k, hk, rfl, hE, HL1⟩ := hrel
        clear HL0
        rename World => wr1
        have s1 := HL1.out.2.cell 1
        simp only [List.getElem?_toArray, List.getElem?_cons_zero, List.getElem?_cons_succ] at s1
        by_cases hkl : k < nf
        · have e1 : decide ((k : Int) < (nf : Int)) = true := decide_eq_true (by omega)
          have hkx : k < fs.length := by rw [← hNf.out]; exact hkl
          have HT0 := HF.out wr1 HL1.out.1
          obtain ⟨g, off, rfl, hg, c0, c1, c2⟩ := tbl_fn HT0 hkx
          have hgb := Lib.hid (fun h => goE_bad (chk := fnE) (bad := badF) hkx h)
          have hg0 : Hid (k = 0 → fnE fs[k] = 0 → goE fnE badF (prevAt fs k) (fs.drop k) = goE fnE badF (prevAt fs (k + 1)) (fs.drop (k + 1))) := Lib.hid (fun h hz => by subst h; exact goE_zero hkx hz)
          have hg1 : Hid (∀ m (h : m + 1 = k), fnE fs[k] = 0 → goE fnE badF (prevAt fs k) (fs.drop k) = bif badF (fs[m]'(by omega)) fs[k] then 13 else goE fnE badF (prevAt fs (k + 1)) (fs.drop (k + 1))) := Lib.hid (fun m h hz => by subst h; exact goE_order hkx hz)
          have hmem := Lib.hid (List.getElem_mem hkx)
          have C1 := Lib.hid (CF.out _ HL1.out.1 _ hmem.out)
          obtain ⟨x, hx⟩ : ∃ x, Hid (fs[k] = x) := ⟨_, Lib.hid rfl⟩
          rw [hx.out] at c0 c1 c2 C1 hgb hg0 hg1 hmem
          unfold fnRow at C1
          obtain ⟨z, hz⟩ : ∃ z, Hid (fnE x = z) := ⟨_, Lib.hid rfl⟩
          try dsimp only at hgb hg0 hg1
          rw [hz.out] at C1 hgb hg0 hg1
          clear hz
          obtain ⟨xn, xk, xr⟩ := x
          dsimp only at *
          go_wp2_with fail
          refine C1.out.mono ?_
          rintro e w5 ⟨rfl, hb5⟩
          have HR5 := Lib.hid (HL1.out.on hb5)
          have HT5 := HF.out w5 HR5.out.1
          clear hb5 C1 c0 c1 c2 HT0 s1
          by_cases hzz : z = 0
          rotate_left
          · have dz : (z != 0) = true := by simpa using hzz
            have hzn := Lib.hid hzz
            have hv : Hid (z = V) := Lib.hid (Eq.symm (by rw [hV2.out, hE.out, hgb.out hzn.out, thenE_n hzn.out]))
            clear hzz HT5 hg0 hg1 hgb
            go_wp2_with fail
            go_ret
            exact ⟨congrArg (fun z => Ending.returned (.int .i64 z)) hv.out, HR5.out.1⟩
          have dz : (z != 0) = false := by simpa using hzz
          have hzn := Lib.hid hzz
          have s1 := HR5.out.2.cell 1
          simp only [List.getElem?_toArray, List.getElem?_cons_zero, List.getElem?_cons_succ] at s1
          clear hzz hgb
          rcases Nat.eq_zero_or_pos k with hk0 | hk0
          · have d5 : decide (0 < k) = false := decide_eq_false (by omega)
            have hE2 := Lib.hid (hE.out.trans (hg0.out hk0 hzn.out))
            clear hE hg0 hg1 hzn HT5
            go_wp2_with fail
            go_quiet (fail)
            go_wp2_with fail
            go_roundw
            case rel => exact ⟨k + 1, by omega, by go_num, hE2, Lib.hid (HR5.out.drewN _)⟩
            case measure => simp [intOf]; omega
          · have d5 : decide (0 < k) = true := decide_eq_true hk0
            obtain ⟨m2, hm2⟩ : ∃ m2, m2 + 1 = k := ⟨k - 1, by omega⟩
            have hjm : (k : Int) - 1 = (m2 : Int) := by omega
            have hwm : IntKind.i64.wrap (m2 : Int) = (m2 : Int) := IntWalk.i64_in _ (by omega)
            have hm2m : m2 < fs.length := by omega
            have hm2n : m2 < nf := by omega
            obtain ⟨g3, off3, e3, _, p0, p1, p2⟩ := tbl_fn HT5 hm2m
            obtain ⟨g4, off4, e4, _, c0, c1, c2⟩ := tbl_fn HT5 hkx
            injection e3 with e3
            injection e3 with e3 e3b
            subst e3
            subst e3b
            injection e4 with e4
            injection e4 with e4 e4b
            subst e4
            subst e4b
            rw [hx.out] at c0 c1 c2
            have hgm := Lib.hid (hg1.out m2 hm2 hzn.out)
            generalize fs[m2] = y at *
            obtain ⟨yn, yk, yr⟩ := y
            dsimp only at *
            clear hg0 hg1 hm2 hm2m HT5
            rcases hlb : Op.bytesLess yn.toList xn.toList with _ | _
            · have hlt := Lib.hid (show badF ⟨yn, yk, yr⟩ ⟨xn, xk, xr⟩ = true by unfold badF lessB; dsimp only; rw [hlb]; rfl)
              have hv : Hid ((13 : Int) = V) := Lib.hid (Eq.symm (by rw [hV2.out, hE.out, hgm.out, hlt.out]; rfl))
              clear hgm hE
              go_wp2_with fail
              go_quiet (fail)
              go_wp2_with fail
              go_ret
              exact ⟨congrArg (fun z => Ending.returned (.int .i64 z)) hv.out, (HR5.out.drewN _).1⟩
            · have hlt := Lib.hid (show badF ⟨yn, yk, yr⟩ ⟨xn, xk, xr⟩ = false by unfold badF lessB; dsimp only; rw [hlb]; rfl)
              have hE2 := Lib.hid (hE.out.trans (by rw [hgm.out, hlt.out, cond_false]))
              clear hgm hE
              go_wp2_with fail
              go_quiet (fail)
              go_wp2_with fail
              go_roundw
              case rel => exact ⟨k + 1, by omega, by go_num, hE2, Lib.hid (HR5.out.drewN _)⟩
              case measure => simp [intOf]; omega
        · obtain rfl : nf = k := by omega
          have e1 : decide ((nf : Int) < (nf : Int)) = false := decide_eq_false (by omega)
          have hEz : Hid (E2 = 0) := Lib.hid (by rw [hE.out, hNf.out]; exact goE_end _ _)
          have hV3 : Hid (V = E3) := Lib.hid (by rw [hV2.out, hEz.out, thenE_0])
          clear hE hEz hV2
          have s2 := HL1.out.2.cell 2
          simp only [List.getElem?_toArray, List.getElem?_cons_zero, List.getElem?_cons_succ] at s2
          go_wp2_with fail
          clear s1
          clear s2
          go_loopw [7] (fun i wr => ∃ k : Nat, k ≤ nc ∧ i = .int .i64 k ∧ Hid (E3 = goE (fun x : MC => conE x.c) (fun x y => badC x.c y.c) (prevAt cs k) (cs.drop k)) ∧ Hid (SR w wr #[.slice oA no oc, .slice fA nf fc, .slice cA nc cc])) (fun i _ => nc - (intOf i).toNat)
          case atStart => exact ⟨0, by omega, rfl, hE3, HL1⟩
          case round =>
            obtain ⟨k, hk, rfl, hE, HL2⟩ := hrel
            clear HL1
            rename World => wr2
            have s2 := HL2.out.2.cell 2
            simp only [List.getElem?_toArray, List.getElem?_cons_zero, List.getElem?_cons_succ] at s2
            by_cases hkl : k < nc
            · have e1 : decide ((k : Int) < (nc : Int)) = true := decide_eq_true (by omega)
              have hkx : k < cs.length := by rw [← hNc.out]; exact hkl
              have HT0 := HC.out wr2 HL2.out.1
              obtain ⟨g, off, rfl, hg, c0, c1, c2, c3, c4, c5⟩ := tbl_con HT0 hkx
              have hgb := Lib.hid (fun h => goE_bad (chk := (fun x : MC => conE x.c)) (bad := (fun x y => badC x.c y.c)) hkx h)
              have hg0 : Hid (k = 0 → (fun x : MC => conE x.c) cs[k] = 0 → goE (fun x : MC => conE x.c) (fun x y => badC x.c y.c) (prevAt cs k) (cs.drop k) = goE (fun x : MC => conE x.c) (fun x y => badC x.c y.c) (prevAt cs (k + 1)) (cs.drop (k + 1))) := Lib.hid (fun h hz => by subst h; exact goE_zero hkx hz)
              have hg1 : Hid (∀ m (h : m + 1 = k), (fun x : MC => conE x.c) cs[k] = 0 → goE (fun x : MC => conE x.c) (fun x y => badC x.c y.c) (prevAt cs k) (cs.drop k) = bif (fun x y => badC x.c y.c) (cs[m]'(by omega)) cs[k] then 13 else goE (fun x : MC => conE x.c) (fun x y => badC x.c y.c) (prevAt cs (k + 1)) (cs.drop (k + 1))) := Lib.hid (fun m h hz => by subst h; exact goE_order hkx hz)
              have hmem := Lib.hid (List.getElem_mem hkx)
              have C1 := Lib.hid (CC.out _ HL2.out.1 _ hmem.out)
              obtain ⟨x, hx⟩ : ∃ x, Hid (cs[k] = x) := ⟨_, Lib.hid rfl⟩
              rw [hx.out] at c0 c1 c2 c3 c4 c5 C1 hgb hg0 hg1 hmem
              unfold MC.row at C1
              obtain ⟨z, hz⟩ : ∃ z, Hid (conE x.c = z) := ⟨_, Lib.hid rfl⟩
              try dsimp only at hgb hg0 hg1
              rw [hz.out] at C1 hgb hg0 hg1
              clear hz
              obtain ⟨⟨xo, xa, xb, xk, xt, xg⟩, xA, xc⟩ := x
              dsimp only at *
              go_wp2_with fail
              refine C1.out.mono ?_
              rintro e w5 ⟨rfl, hb5⟩
              have HR5 := Lib.hid (HL2.out.on hb5)
              have HT5 := HC.out w5 HR5.out.1
              clear hb5 C1 c0 c1 c2 c3 c4 c5 HT0 s2
              by_cases hzz : z = 0
              rotate_left
              · have dz : (z != 0) = true := by simpa using hzz
                have hzn := Lib.hid hzz
                have hv : Hid (z = V) := Lib.hid (Eq.symm (by rw [hV3.out, hE.out, hgb.out hzn.out]))
                clear hzz HT5 hg0 hg1 hgb
                go_wp2_with fail
                go_ret
                exact ⟨congrArg (fun z => Ending.returned (.int .i64 z)) hv.out, HR5.out.1⟩
              have dz : (z != 0) = false := by simpa using hzz
              have hzn := Lib.hid hzz
              have s2 := HR5.out.2.cell 2
              simp only [List.getElem?_toArray, List.getElem?_cons_zero, List.getElem?_cons_succ] at s2
              clear hzz hgb
              rcases Nat.eq_zero_or_pos k with hk0 | hk0
              · have d5 : decide (0 < k) = false := decide_eq_false (by omega)
                have hE2 := Lib.hid (hE.out.trans (hg0.out hk0 hzn.out))
                clear hE hg0 hg1 hzn HT5
                go_wp2_with fail
                go_quiet (fail)
                go_wp2_with fail
                go_roundw
                case rel => exact ⟨k + 1, by omega, by go_num, hE2, Lib.hid (HR5.out.drewN _)⟩
                case measure => simp [intOf]; omega
              · have d5 : decide (0 < k) = true := decide_eq_true hk0
                obtain ⟨m2, hm2⟩ : ∃ m2, m2 + 1 = k := ⟨k - 1, by omega⟩
                have hjm : (k : Int) - 1 = (m2 : Int) := by omega
                have hwm : IntKind.i64.wrap (m2 : Int) = (m2 : Int) := IntWalk.i64_in _ (by omega)
                have hm2m : m2 < cs.length := by omega
                have hm2n : m2 < nc := by omega
                obtain ⟨g3, off3, e3, _, p0, p1, p2, p3, p4, p5⟩ := tbl_con HT5 hm2m
                obtain ⟨g4, off4, e4, _, c0, c1, c2, c3, c4, c5⟩ := tbl_con HT5 hkx
                injection e3 with e3
                injection e3 with e3 e3b
                subst e3
                subst e3b
                injection e4 with e4
                injection e4 with e4 e4b
                subst e4
                subst e4b
                rw [hx.out] at c0 c1 c2 c3 c4 c5
                have hgm := Lib.hid (hg1.out m2 hm2 hzn.out)
                have CKm := Lib.hid (fun W hb => CK.out W hb _ (List.getElem_mem hm2m) _ hmem.out)
                generalize cs[m2] = y at *
                obtain ⟨⟨yo, ya, yb, yk, yt, yg⟩, yA, yc⟩ := y
                dsimp only at *
                clear hg0 hg1 hm2 hm2m HT5
                have hcv : Hid (badC ⟨yo, ya, yb, yk, yt, yg⟩ ⟨xo, xa, xb, xk, xt, xg⟩ = decide (0 ≤ conC ⟨yo, ya, yb, yk, yt, yg⟩ ⟨xo, xa, xb, xk, xt, xg⟩)) := Lib.hid rfl
                unfold MC.row at CKm
                dsimp only at CKm
                generalize conC ⟨yo, ya, yb, yk, yt, yg⟩ ⟨xo, xa, xb, xk, xt, xg⟩ = v at *
                rw [hcv.out] at hgm
                clear hcv
                go_wp2_with fail
                refine region_tail_w 14 (by kernel_rfl) (by kernel_rfl) fun W hW => ?_
                have HRW0 := HR5.out.drew
                rw [← hW] at HRW0
                have HRW := Lib.hid HRW0
                clear HRW0
                have s2w : W.cell? _ = _ := (congrArg (fun w9 : World => w9.cell? _) hW).trans s2
                have p0w : W.cell? _ = _ := (congrArg (fun w9 : World => w9.cell? _) hW).trans p0
                have p1w : W.cell? _ = _ := (congrArg (fun w9 : World => w9.cell? _) hW).trans p1
                have p2w : W.cell? _ = _ := (congrArg (fun w9 : World => w9.cell? _) hW).trans p2
                have p3w : W.cell? _ = _ := (congrArg (fun w9 : World => w9.cell? _) hW).trans p3
                have p4w : W.cell? _ = _ := (congrArg (fun w9 : World => w9.cell? _) hW).trans p4
                have p5w : W.cell? _ = _ := (congrArg (fun w9 : World => w9.cell? _) hW).trans p5
                have c0w : W.cell? _ = _ := (congrArg (fun w9 : World => w9.cell? _) hW).trans c0
                have c1w : W.cell? _ = _ := (congrArg (fun w9 : World => w9.cell? _) hW).trans c1
                have c2w : W.cell? _ = _ := (congrArg (fun w9 : World => w9.cell? _) hW).trans c2
                have c3w : W.cell? _ = _ := (congrArg (fun w9 : World => w9.cell? _) hW).trans c3
                have c4w : W.cell? _ = _ := (congrArg (fun w9 : World => w9.cell? _) hW).trans c4
                have c5w : W.cell? _ = _ := (congrArg (fun w9 : World => w9.cell? _) hW).trans c5
                clear hW s2 p0 p1 p2 p3 p4 p5 c0 c1 c2 c3 c4 c5 HR5
                simp only [List.take_succ_cons, List.take_zero, List.drop_succ_cons, List.drop_zero]
                iterate 14 still_step
                refine wpStill_nil ?_
                clear s2w p0w p1w p2w p3w p4w p5w c0w c1w c2w c3w c4w c5w
                by_cases hv0 : 0 ≤ v
                · have d7 : decide (0 ≤ v) = true := decide_eq_true hv0
                  have hv : Hid ((13 : Int) = V) := Lib.hid (Eq.symm (by rw [hV3.out, hE.out, hgm.out, d7]; rfl))
                  clear hgm hE hv0
                  go_wp2_with (refine (CKm.out _ HRW.out.1).mono ?_; rintro e w6 ⟨rfl, hb6⟩)
                  go_ret
                  exact ⟨congrArg (fun z => Ending.returned (.int .i64 z)) hv.out, (HRW.out.on hb6).1⟩
                · have d7 : decide (0 ≤ v) = false := decide_eq_false hv0
                  have hE2 := Lib.hid (hE.out.trans (by rw [hgm.out, d7, cond_false]))
                  clear hgm hE hv0
                  go_wp2_with (refine (CKm.out _ HRW.out.1).mono ?_; rintro e w6 ⟨rfl, hb6⟩)
                  go_roundw
                  case rel => exact ⟨k + 1, by omega, by go_num, hE2, Lib.hid (HRW.out.on hb6)⟩
                  case measure => simp [intOf]; omega
            · obtain rfl : nc = k := by omega
              have e1 : decide ((nc : Int) < (nc : Int)) = false := decide_eq_false (by omega)
              have hEz : Hid (E3 = 0) := Lib.hid (by rw [hE.out, hNc.out]; exact goE_end _ _)
              have hV4 : Hid ((0 : Int) = V) := Lib.hid (by rw [hV3.out, hEz.out])
              clear hE hEz hV3
              go_wp2_with fail
              go_ret
              exact ⟨congrArg (fun z => Ending.returned (.int .i64 z)) hV4.out, HL2.out.1⟩
end Go.Proofs.YtdmmkjijgoiecaaGreatDoor.sy

/-
  system: an object's cells, and nodes: the reference's.
-/
set_option linter.all false
namespace Go.Proofs.YtdmmkjijgoiecaaGreatDoor.sy
open Go.RowKit Go.Proofs.YtdmmkjijgoiecaaGreatDoor.mem
open Go.Proofs.YtdmmkjijgoiecaaGreatDoor.nm (cellTS StrPost)
open Go.Proofs.YtdmmkjijgoiecaaGreatDoor.tx (rsS intoS)

/-- an object's kinds, asked for by a letter, or all -/
def ofB (kd b : UInt8) : Bool := kd == 0 || b == kd

theorem cellsB_congr {name : ByteArray} {p q : UInt8 → Bool} : ∀ {l : List UInt8} (j : Nat), (∀ b ∈ l, p b = q b) → cellsB name p j l = cellsB name q j l
  | [], _, _ => rfl
  | b :: r, j, h => by
    rw [cellsB, cellsB, h b List.mem_cons_self, cellsB_congr (j + 1) (fun x hx => h x (List.mem_cons_of_mem _ hx))]
theorem in_p (b : UInt8) : inB ⟨#[112]⟩ b = ofB 112 b := by
  unfold inB ofB Lib.indexByte Lib.indexByte
  by_cases h : (112 : UInt8) = b
  · subst h
    rfl
  · have h2 : ¬ b = 112 := fun e => h e.symm
    simp [h, h2]
theorem in_ip {b : UInt8} (hb : ipU b = true) : inB ⟨#[105, 112]⟩ b = ofB 0 b := by
  unfold ipU at hb
  simp only [Bool.or_eq_true, beq_iff_eq] at hb
  rcases hb with rfl | rfl <;> rfl

theorem u8_eq (a b : UInt8) : ((a.toNat : Int) == (b.toNat : Int)) = (a == b) := by
  rw [Bool.eq_iff_iff, beq_iff_eq, beq_iff_eq]
  constructor
  · intro h
    exact UInt8.toNat_inj.1 (by omega)
  · rintro rfl
    rfl
theorem u8_zero (a : UInt8) : ((a.toNat : Int) == 0) = (a == 0) := u8_eq a 0

set_option maxHeartbeats 4000000 in
set_option maxRecDepth 100000 in
theorem rcells_any (x : MO) (kd : UInt8) (w : World) (hn : x.o.name.size ≤ maxLen) (hk : x.o.kinds.size ≤ 64) : Calls Tryz.prog 126 #[.agg x.row.toArray, .int .u8 (kd.toNat : Int)] w (LPost w (cellsB x.o.name (ofB kd) 0 x.o.kinds.data.toList)) := by
  have HN := Lib.hid (fun W (i : Int) => nm.rcell_any x.o.name i W hn)
  unfold StrPost at HN
  obtain ⟨i0, hi0, hz0, hz1, hz2⟩ := info_parts tx.info_str
  have Hi := Lib.hid hi0
  have Hz0 := Lib.hid hz0
  have Hz1 := Lib.hid hz1
  have Hz2 := Lib.hid hz2
  clear hi0 hz0 hz1 hz2 hn
  obtain ⟨⟨xn, xk, xm⟩, xA, xc⟩ := x
  unfold MO.row
  dsimp only at *
  unfold LPost
  generalize xm.length = xl at *
  have HX0 := Lib.hid (RO.new w #[.string xn, .string xk, .slice xA xl xc])
  have HT0 : Hid (TL w (w.alloc (.cells #[.string xn, .string xk, .slice xA xl xc] 99)) none 0 (cellsB xn (ofB kd) 0 (xk.data.toList.take 0))) := Lib.hid (TL.nil ((Fr.refl [] w).alloc _).all)
  go_enter Tryz.func126, Tryz.ntmps126
  go_wp2_with fail
  go_loopw [5, 6] (fun v i wx => ∃ (j : Nat) (A : Option Addr) (cap : Nat), j ≤ xk.size ∧ i = .int .i64 j ∧ v = .slice A (cellsB xn (ofB kd) 0 (xk.data.toList.take j)).length cap ∧ Hid (TL w wx A cap (cellsB xn (ofB kd) 0 (xk.data.toList.take j))) ∧ Hid (RO w wx #[.string xn, .string xk, .slice xA xl xc])) (fun _ i _ => xk.size - (intOf i).toNat)
  case atStart => exact ⟨0, none, 0, by omega, rfl, rfl, HT0, HX0⟩
  case round =>
    obtain ⟨j, A, cap, hj, rfl, rfl, HT3, HX3⟩ := hrel
    clear HT0 HX0
    rename World => wx
    have b0 := HX3.out.2.cell 0
    have b1 := HX3.out.2.cell 1
    simp only [List.getElem?_toArray, List.getElem?_cons_zero, List.getElem?_cons_succ] at b0 b1
    by_cases hjl : j < xk.size
    · have e2 : decide ((j : Int) < (xk.size : Int)) = true := decide_eq_true (by omega)
      have hl3 : (cellsB xn (ofB kd) 0 (xk.data.toList.take j)).length ≤ 64 := by
        have h1 := cellsB_len xn (ofB kd) (xk.data.toList.take j) 0
        rw [List.length_take] at h1
        omega
      have hnx : Hid (cellsB xn (ofB kd) 0 (xk.data.toList.take (j + 1)) = cellsB xn (ofB kd) 0 (xk.data.toList.take j) ++ (if ofB kd xk[j] = true then [cellTS xn (j : Int)] else [])) := Lib.hid (cellsB_take hjl)
      obtain ⟨l4, hl4e⟩ : ∃ l, Hid (l = cellsB xn (ofB kd) 0 (xk.data.toList.take (j + 1))) := ⟨_, Lib.hid rfl⟩
      rw [← hl4e.out] at hnx
      generalize (cellsB xn (ofB kd) 0 (xk.data.toList.take j)) = l3 at *
      have HNj := Lib.hid (fun W => HN.out W (j : Int))
      have q1 := u8_zero kd
      have q2 := u8_eq xk[j] kd
      have hof : Hid (ofB kd xk[j] = (kd == 0 || xk[j] == kd)) := Lib.hid rfl
      rcases z1 : (kd == 0) with _ | _ <;> rcases z2 : (xk[j] == kd) with _ | _ <;> rw [z1] at q1 <;> rw [z2] at q2
      · have hnx2 : Hid (l4 = l3) := Lib.hid (by rw [hnx.out, hof.out, z1, z2]; simp)
        clear z1 z2 hnx hof
        rw [← hnx2.out] at HT3
        have hlz : Hid (l3.length = l4.length) := Lib.hid (by rw [hnx2.out])
        go_wp2_with fail
        go_roundw
        case rel => exact ⟨j + 1, A, cap, by omega, by go_num, by rw [hlz.out, hl4e.out], by rw [hl4e.out] at HT3; exact HT3, HX3⟩
        case measure => simp [intOf]; omega
      all_goals
        have hnx2 : Hid (l4 = l3 ++ [cellTS xn (j : Int)]) := Lib.hid (by rw [hnx.out, hof.out, z1, z2]; simp)
        clear z1 z2 hnx hof
        generalize cellTS xn (j : Int) = ct at *
        go_wp2_with fail
        refine (HNj.out _).mono ?_
        rintro e w5 ⟨rfl, hb5⟩
        have HT5 := Lib.hid (HT3.out.on hb5)
        have HX5 := Lib.hid (HX3.out.on hb5)
        clear hb5 HT3 HX3 b0 b1 q1 q2
        go_wp2_with (at_builtin; refine wpList_push rfl _ _ _ rfl (HT5.out.seg.alloc _) (by rw [List.length_map]) Tryz.underlying22 Hi.out Hz0.out Hz1.out Hz2.out rfl rfl rfl (new_cell _ _ _) rfl (by omega) (by omega) ?_; intro A7 cap7 w7 hs7 f7 hf7)
        have HT7 := Lib.hid (HT5.out.push hs7 f7 hf7)
        have HX7 : Hid (RO w w7 #[.string xn, .string xk, .slice xA xl xc]) := Lib.hid ⟨HT7.out.fr, (HX5.out.2.kept ((Fr.refl [] _).alloc _) (by simp)).kept f7 (HT5.out.seg.ne_box HX5.out.2 (by decide))⟩
        rw [← hnx2.out] at HT7
        have hlz : Hid (l3.length + 1 = l4.length) := Lib.hid (by rw [hnx2.out, List.length_append]; rfl)
        go_roundw
        case rel => exact ⟨j + 1, A7, cap7, by omega, by go_num, by rw [hlz.out, hl4e.out], by rw [hl4e.out] at HT7; exact HT7, HX7⟩
        case measure => simp [intOf]; omega
    · obtain rfl : xk.size = j := by omega
      have e2 : decide ((xk.size : Int) < (xk.size : Int)) = false := decide_eq_false (by omega)
      have hall : Hid (xk.data.toList.take xk.size = xk.data.toList) := Lib.hid (List.take_of_length_le (by rw [Lib.size_eq]; exact Nat.le_refl _))
      rw [hall.out] at HT3
      go_wp2_with fail
      go_ret
      exact ⟨A, cap, congrArg (fun z => Ending.returned (.slice A (cellsB xn (ofB kd) 0 z).length cap)) hall.out, HT3.out⟩

/-- rising texts of what has come so far -/
structure RL (w wr : World) (A : Option Addr) (cap : Nat) (l : List ByteArray) : Prop where
  seg : Seg wr 9 A cap ((rsS (l.map tb)).map encStr)
  fr : Below w.heap.size w wr
theorem RL.nil {w wr : World} (h : Below w.heap.size w wr) : RL w wr none 0 [] := ⟨Seg.nil _ _, h⟩
theorem RL.on {w wr w2 : World} {A : Option Addr} {cap : Nat} {l : List ByteArray} (h : RL w wr A cap l) (hb : Below wr.heap.size wr w2) : RL w w2 A cap l := ⟨h.seg.kept (Fr.of_below hb []) (by simp), h.fr.trans (hb.mono h.fr.size)⟩
def rsN (l : List ByteArray) : Nat := (rsS (l.map tb)).length
theorem rsN_le (l : List ByteArray) : rsN l ≤ l.length := by
  unfold rsN
  have := tx.rs_len (l.map tb)
  rwa [List.length_map] at this
theorem rs_snoc (l : List ByteArray) (s : ByteArray) : rsS ((l ++ [s]).map tb) = intoS (rsS (l.map tb)) (tb s) := by
  unfold tx.rsS
  rw [List.map_append, List.map_cons, List.map_nil, inn.intoAll_snoc]
def JPost (w wr : World) (l : List ByteArray) (e : Ending) (w' : World) : Prop := ∃ A cap, e = .returned (.slice A (rsN l) cap) ∧ RL w w' A cap l ∧ Below wr.heap.size wr w'
theorem into_rl {w wr : World} {A : Option Addr} {cap : Nat} {l : List ByteArray} (s : ByteArray) (h : RL w wr A cap l) (hl : l.length ≤ 1000000) : Calls Tryz.prog 68 #[.slice A (rsN l) cap, .string s] wr (JPost w wr (l ++ [s])) := by
  refine (tx.into_any wr A cap (rsS (l.map tb)) (tb s) h.seg (Nat.le_trans (rsN_le l) hl)).mono ?_
  rintro e w' ⟨A', cap', rfl, hs, hb⟩
  rw [← rs_snoc] at hs ⊢
  exact ⟨A', cap', rfl, ⟨hs, h.fr.trans (hb.mono h.fr.size)⟩, hb⟩
end Go.Proofs.YtdmmkjijgoiecaaGreatDoor.sy

/-
  system: nodes: the reference's.
-/
set_option linter.all false
namespace Go.Proofs.YtdmmkjijgoiecaaGreatDoor.sy
open Go.RowKit Go.Proofs.YtdmmkjijgoiecaaGreatDoor.mem
open Go.Proofs.YtdmmkjijgoiecaaGreatDoor.tx (rsS)

theorem check_objs {s : SS} (h : checkE s = 0) : ∀ x ∈ s.objs, kindsB x.kinds 1 64 = true := by
  unfold checkE at h
  split at h
  · cases h
  · intro x hx
    have h3 := goE_ok (thenE_ok h).1 x hx
    rw [objE_eq] at h3
    unfold objI at h3
    split at h3
    · cases h3
    · split at h3
      · cases h3
      · rename_i h2
        simpa using h2
theorem cellsL_p (l : List SO) : cellsL (inB ⟨#[112]⟩) l = cellsL (ofB 112) l := by
  unfold cellsL
  congr 1
  funext o
  exact cellsB_congr 0 (fun b _ => in_p b)
theorem cellsL_ip {l : List SO} (h : ∀ o ∈ l, kindsB o.kinds 1 64 = true) : cellsL (inB ⟨#[105, 112]⟩) l = cellsL (ofB 0) l := by
  induction l with
  | nil => rfl
  | cons o r ih =>
    have h1 := ih (fun x hx => h x (List.mem_cons_of_mem _ hx))
    have h2 := h o List.mem_cons_self
    unfold cellsL at h1 ⊢
    rw [List.flatMap_cons, List.flatMap_cons, h1]
    congr 1
    unfold kindsB at h2
    simp only [Bool.and_eq_true] at h2
    have h3 := h2.1
    rw [ipB_eq, List.all_eq_true] at h3
    exact cellsB_congr 0 (fun b hb => in_ip (h3 b hb))

/-- texts in a block -/
def NRPost (w : World) (R : List (List UInt8)) (e : Ending) (w' : World) : Prop := ∃ A cap, e = .returned (.slice A R.length cap) ∧ Seg w' 9 A cap (R.map encStr) ∧ Below w.heap.size w w'
set_option maxHeartbeats 8000000 in
set_option maxRecDepth 100000 in
theorem rnodes_seg (hm : HeldM) (s : MS) (w : World) (hs : SysM w s) (hcl : ∀ x ∈ s.cs, x.c.args.length ≤ 8796093022208) : Calls Tryz.prog 66 #[s.val] w (NRPost w (orNil (checkE s.sys) (nodesL s.sys))) := by
  have HCK := Lib.hid (fun W (hb : Below w.heap.size w W) => rcheck_any s W (hs.below hb) hm hcl)
  have HCE : Hid (∀ W, Below w.heap.size w W → ∀ x ∈ s.os, ∀ kd : UInt8, x.o.kinds.size ≤ 64 → Calls Tryz.prog 126 #[.agg x.row.toArray, .int .u8 (kd.toNat : Int)] W (LPost W (cellsB x.o.name (ofB kd) 0 x.o.kinds.data.toList))) := Lib.hid (fun W hb x hx kd hk => rcells_any x kd W (hs.ok x hx).n hk)
  have HO := Lib.hid (fun W (hb : Below w.heap.size w W) => hs.o.below hb)
  have HF := Lib.hid (fun W (hb : Below w.heap.size w W) => hs.f.below hb)
  have HC := Lib.hid (fun W (hb : Below w.heap.size w W) => hs.c.below hb)
  have HG : Hid (∀ W, Below w.heap.size w W → ∀ x ∈ s.cs, Rd W x.aA (x.c.args.map Value.string)) := Lib.hid (fun W hb x hx => ((hs.ck x hx).below hb).g)
  have Hok := Lib.hid (fun h => check_ok (s := s.sys) h)
  have HOE := Lib.hid (fun h => check_objs (s := s.sys) h)
  have HJ : Hid (∀ wr A cap l x, RL w wr A cap l → l.length ≤ 1000000 → Calls Tryz.prog 68 #[.slice A (rsN l) cap, .string x] wr (JPost w wr (l ++ [x]))) := Lib.hid (fun wr A cap l x h hl => into_rl x h hl)
  unfold IPost at HCK
  unfold LPost at HCE
  unfold JPost at HJ
  clear hs hm hcl
  unfold NRPost
  obtain ⟨V, hV⟩ : ∃ V, Hid (V = orNil (checkE s.sys) (nodesL s.sys)) := ⟨_, Lib.hid rfl⟩
  rw [← hV.out]
  obtain ⟨oA, oc, os, fA, fc, fs, cA, cc, cs⟩ := s
  unfold MS.val MS.sys at *
  dsimp only at *
  obtain ⟨E, hE⟩ : ∃ E, Hid (E = checkE ⟨os.map (·.o), fs, cs.map (·.c)⟩) := ⟨_, Lib.hid rfl⟩
  rw [← hE.out] at hV HCK Hok HOE
  obtain ⟨no, hNo⟩ : ∃ n, Hid (n = os.length) := ⟨_, Lib.hid rfl⟩
  obtain ⟨nf, hNf⟩ : ∃ n, Hid (n = fs.length) := ⟨_, Lib.hid rfl⟩
  obtain ⟨nc, hNc⟩ : ∃ n, Hid (n = cs.length) := ⟨_, Lib.hid rfl⟩
  rw [← hNo.out, ← hNf.out, ← hNc.out] at HCK ⊢
  go_enter Tryz.func66, Tryz.ntmps66
  have X0 := Lib.hid (SR.new w #[.slice oA no oc, .slice fA nf fc, .slice cA nc cc])
  go_wp2_with fail
  refine (HCK.out _ X0.out.1).mono ?_
  rintro e w2 ⟨rfl, hb2⟩
  have X2 := Lib.hid (X0.out.on hb2)
  clear hb2 X0 HCK
  by_cases hEz : E = 0
  rotate_left
  · have d0 : (E != 0) = true := by simpa using hEz
    have hv : Hid (V = []) := Lib.hid (by rw [hV.out]; unfold orNil; rw [if_neg hEz])
    clear hEz
    go_wp2_with fail
    go_ret
    exact ⟨none, 0, by rw [hv.out]; rfl, by rw [hv.out]; exact Seg.nil _ _, X2.out.1⟩
  have d0 : (E != 0) = false := by simpa using hEz
  have hok := Lib.hid (Hok.out hEz)
  have hoe := Lib.hid (HOE.out hEz)
  have hV1 : Hid (V = rsS ((nodesL ⟨os.map (·.o), fs, cs.map (·.c)⟩).map tb)) := Lib.hid (by rw [hV.out]; unfold orNil; rw [if_pos hEz])
  clear hEz Hok HOE hV
  have hno : no ≤ 600 := by have := hok.out.o; rw [List.length_map] at this; have := hNo.out; omega
  have hnf : nf ≤ 600 := by have := hok.out.f; dsimp only at this; have := hNf.out; omega
  have hnc : nc ≤ 6000 := by have := hok.out.c; rw [List.length_map] at this; have := hNc.out; omega
  have hkk : Hid (∀ x ∈ os, x.o.kinds.size ≤ 64) := Lib.hid (fun x hx => hok.out.k x.o (List.mem_map_of_mem hx))
  have hgg : Hid (∀ x ∈ cs, x.c.args.length ≤ 7) := Lib.hid (fun x hx => hok.out.g x.c (List.mem_map_of_mem hx))
  obtain ⟨L, hL⟩ : ∃ L, Hid (L = cs.map (·.c)) := ⟨_, Lib.hid rfl⟩
  have hLn : Hid (L.length = nc) := Lib.hid (by rw [hL.out, List.length_map]; exact hNc.out.symm)
  have hLg : Hid (∀ c ∈ L, c.args.length ≤ 7) := Lib.hid (fun c hc => by
    rw [hL.out] at hc
    obtain ⟨x, hx, rfl⟩ := List.mem_map.1 hc
    exact hgg.out x hx)
  obtain ⟨M, hM⟩ : ∃ M, Hid (M = os.map (·.o)) := ⟨_, Lib.hid rfl⟩
  have hMn : Hid (M.length = no) := Lib.hid (by rw [hM.out, List.length_map]; exact hNo.out.symm)
  have hMk : Hid (∀ o ∈ M, o.kinds.size ≤ 64) := Lib.hid (fun o ho => by
    rw [hM.out] at ho
    obtain ⟨x, hx, rfl⟩ := List.mem_map.1 ho
    exact hkk.out x hx)
  have hV2 : Hid (V = rsS ((L.flatMap conN ++ cellsL (ofB 112) M).map tb)) := Lib.hid (by rw [hV1.out, hL.out, hM.out]; unfold nodesL; dsimp only; rw [cellsL_p])
  clear hV1 hok hoe
  have s2 := X2.out.2.cell 2
  simp only [List.getElem?_toArray, List.getElem?_cons_zero, List.getElem?_cons_succ] at s2
  have hnil : Hid (RL w w2 none 0 ((L.take 0).flatMap conN)) := Lib.hid (RL.nil X2.out.1)
  go_wp2_with fail
  clear s2 d0
  go_loopw [3, 4] (fun v i wr => ∃ (k : Nat) (A : Option Addr) (cap : Nat), k ≤ nc ∧ i = .int .i64 k ∧ v = .slice A (rsN ((L.take k).flatMap conN)) cap ∧ Hid (RL w wr A cap ((L.take k).flatMap conN)) ∧ Hid (SR w wr #[.slice oA no oc, .slice fA nf fc, .slice cA nc cc])) (fun _ i _ => nc - (intOf i).toNat)
  case atStart => exact ⟨0, none, 0, by omega, rfl, rfl, hnil, X2⟩
  case round =>
    obtain ⟨k, A, cap, hk, rfl, rfl, HT, HX⟩ := hrel
    clear hnil X2
    rename World => wr
    have s2 := HX.out.2.cell 2
    simp only [List.getElem?_toArray, List.getElem?_cons_zero, List.getElem?_cons_succ] at s2
    have hlen := flat_len (l := L.take k) (fun c hc => hLg.out c (List.mem_of_mem_take hc))
    rw [List.length_take, hLn.out] at hlen
    have hlen2 : ((L.take k).flatMap conN).length ≤ 60000 := by omega
    clear hlen
    by_cases hkl : k < nc
    · have e1 : decide ((k : Int) < (nc : Int)) = true := decide_eq_true (by omega)
      have hkx : k < cs.length := by rw [← hNc.out]; exact hkl
      have hkL : k < L.length := by rw [hLn.out]; exact hkl
      obtain ⟨g, off, rfl, hg, c0, c1, c2, c3, c4, c5⟩ := tbl_con (HC.out wr HT.out.fr) hkx
      have hLe : Hid (L[k] = cs[k].c) := Lib.hid (by
        have e : L[k]? = some cs[k].c := by rw [hL.out, List.getElem?_map, List.getElem?_eq_getElem hkx]; rfl
        rw [List.getElem?_eq_getElem hkL] at e
        exact Option.some.inj e)
      have hnext := Lib.hid (flat_take hkL)
      rw [hLe.out] at hnext
      have hag := hgg.out cs[k] (List.getElem_mem hkx)
      have HGk := Lib.hid (fun W hb => HG.out W hb cs[k] (List.getElem_mem hkx))
      clear hLe
      obtain ⟨l2, hl2⟩ : ∃ l, Hid (l = (L.take (k + 1)).flatMap conN) := ⟨_, Lib.hid rfl⟩
      rw [← hl2.out] at hnext
      generalize (L.take k).flatMap conN = l1 at *
      generalize cs[k] = x at *
      obtain ⟨⟨xo, xa, xb, xk, xt, xg⟩, xA, xc⟩ := x
      dsimp only at *
      have HT1 := Lib.hid (HT.out.on ((Fr.refl [] wr).alloc (.cells #[.int .i64 xo, .string xa, .string xb, .int .i64 xk, .string xt, .slice xA xg.length xc] 105)).all)
      have HX1 := Lib.hid (HX.out.alloc (.cells #[.int .i64 xo, .string xa, .string xb, .int .i64 xk, .string xt, .slice xA xg.length xc] 105))
      have HB1 := Lib.hid (Box.new wr 105 #[.int .i64 xo, .string xa, .string xb, .int .i64 xk, .string xt, .slice xA xg.length xc])
      have b1 := HB1.out.cell 1
      simp only [List.getElem?_toArray, List.getElem?_cons_zero, List.getElem?_cons_succ] at b1
      go_upto_region 8 with fail
      generalize hW : wr.alloc (.cells #[.int .i64 xo, .string xa, .string xb, .int .i64 xk, .string xt, .slice xA xg.length xc] 105) = W at *
      clear hW c0 c1 c2 c3 c4 c5 HT HX s2
      generalize wr.heap.size = bm at *
      go_wp2_with fail
      refine (HJ.out W A cap l1 xa HT1.out (by omega)).mono ?_
      rintro e w3 ⟨A3, cap3, rfl, hT3, hb3⟩
      have HT3 := Lib.hid hT3
      have HX3 := Lib.hid (HX1.out.on hb3)
      have HB3 := Lib.hid (HB1.out.kept (Fr.of_below hb3 []) (by simp))
      clear hT3 hb3 HT1 HX1 HB1 b1
      have b0 := HB3.out.cell 0
      simp only [List.getElem?_toArray, List.getElem?_cons_zero, List.getElem?_cons_succ] at b0
      obtain ⟨l4, hl4e⟩ : ∃ l, Hid (l = l1 ++ [xa]) := ⟨_, Lib.hid rfl⟩
      rw [← hl4e.out] at HT3
      have hl4b : l4.length ≤ 60002 := by rw [hl4e.out, List.length_append]; simp; omega
      rw [← hl4e.out]
      by_cases hop : xo = 1
      · have dop : (xo != 1) = false := by simpa using hop
        have hl5 : Hid (l4 ++ xg.filter (fun a => !(a.size == 0)) = l2) := Lib.hid (by rw [hnext.out, hl4e.out]; unfold conN; rw [if_pos hop]; simp)
        clear hnext hop hl4e
        have b5 := HB3.out.cell 5
        simp only [List.getElem?_toArray, List.getElem?_cons_zero, List.getElem?_cons_succ] at b5
        obtain ⟨l5, h5⟩ : ∃ l5, Hid (l5 = l4) := ⟨_, Lib.hid rfl⟩
        rw [← h5.out] at HT3 hl5 hl4b ⊢
        clear h5
        have hb50 : Hid (l5 = l5 ++ (xg.take 0).filter (fun a => !(a.size == 0))) := Lib.hid (by simp)
        have hbn : Hid (rsN l5 = rsN (l5 ++ (xg.take 0).filter (fun a => !(a.size == 0)))) := Lib.hid (congrArg rsN hb50.out)
        have Tj : Hid (RL w w3 A3 cap3 (l5 ++ (xg.take 0).filter (fun a => !(a.size == 0)))) := Lib.hid (by rw [← hb50.out]; exact HT3.out)
        clear HT3
        go_wp2_with fail
        go_loopw [3, 6] (fun v i wx => ∃ (j : Nat) (A : Option Addr) (cap : Nat), j ≤ xg.length ∧ i = .int .i64 j ∧ v = .slice A (rsN (l5 ++ (xg.take j).filter (fun a => !(a.size == 0)))) cap ∧ Hid (RL w wx A cap (l5 ++ (xg.take j).filter (fun a => !(a.size == 0)))) ∧ Hid (Box wx bm 105 #[.int .i64 xo, .string xa, .string xb, .int .i64 xk, .string xt, .slice xA xg.length xc]) ∧ Hid (SR w wx #[.slice oA no oc, .slice fA nf fc, .slice (some ⟨g, off, none⟩) nc cc])) (fun _ i _ => xg.length - (intOf i).toNat)
        case atStart => exact ⟨0, A3, cap3, by omega, rfl, by rw [← hbn.out], Tj, HB3, HX3⟩
        case round =>
          obtain ⟨j, A, cap, hj, rfl, rfl, HT6, HB6, HX6⟩ := hrel
          clear Tj hbn hb50 HB3 HX3
          rename World => wx
          have b5 := HB6.out.cell 5
          simp only [List.getElem?_toArray, List.getElem?_cons_zero, List.getElem?_cons_succ] at b5
          have hl6 : (l5 ++ (xg.take j).filter (fun a => !(a.size == 0))).length ≤ 70000 := by
            have h1 := List.length_filter_le (fun a : ByteArray => !(a.size == 0)) (xg.take j)
            rw [List.length_take] at h1
            rw [List.length_append]
            omega
          by_cases hjl : j < xg.length
          · have e2 : decide ((j : Int) < (xg.length : Int)) = true := decide_eq_true (by omega)
            obtain ⟨g6, o6, rfl, _, hc6⟩ := (HGk.out wx HT6.out.fr) (by rw [List.length_map]; omega)
            have c6 := hc6 j (by rw [List.length_map]; exact hjl)
            rw [List.getElem_map] at c6
            clear hc6
            have hnx : Hid (l5 ++ (xg.take (j + 1)).filter (fun a => !(a.size == 0)) = (l5 ++ (xg.take j).filter (fun a => !(a.size == 0))) ++ (if (xg[j].size == 0) = true then [] else [xg[j]])) := Lib.hid (by rw [filt_take hjl, List.append_assoc])
            obtain ⟨l7, hl7⟩ : ∃ l, Hid (l = l5 ++ (xg.take (j + 1)).filter (fun a => !(a.size == 0))) := ⟨_, Lib.hid rfl⟩
            rw [← hl7.out] at hnx
            generalize (l5 ++ (xg.take j).filter (fun a => !(a.size == 0))) = l6 at *
            have hz := size_nil xg[j]
            generalize xg[j] = aj at *
            rcases hzz : (aj.size == 0) with _ | _ <;> rw [hzz] at hz
            · have hnx2 : Hid (l7 = l6 ++ [aj]) := Lib.hid (by rw [hnx.out, hzz]; rfl)
              clear hzz hnx
              go_wp2_with fail
              refine (HJ.out wx A cap l6 aj HT6.out (by omega)).mono ?_
              rintro e w9 ⟨A9, cap9, rfl, hT9, hb9⟩
              have HT9 := Lib.hid hT9
              have HX9 := Lib.hid (HX6.out.on hb9)
              have HB9 := Lib.hid (HB6.out.kept (Fr.of_below hb9 []) (by simp))
              rw [← hnx2.out] at HT9
              have hlz : Hid (rsN (l6 ++ [aj]) = rsN l7) := Lib.hid (by rw [hnx2.out])
              clear hT9 hb9 HT6 HX6 HB6 c6 b5
              go_wp2_with fail
              go_roundw
              case rel => exact ⟨j + 1, A9, cap9, by omega, by go_num, by rw [hlz.out, hl7.out], by rw [hl7.out] at HT9; exact HT9, HB9, HX9⟩
              case measure => simp [intOf]; omega
            · have hnx2 : Hid (l7 = l6) := Lib.hid (by rw [hnx.out, hzz]; simp)
              clear hzz hnx
              rw [← hnx2.out] at HT6
              have hlz : Hid (rsN l6 = rsN l7) := Lib.hid (by rw [hnx2.out])
              go_wp2_with fail
              go_roundw
              case rel => exact ⟨j + 1, A, cap, by omega, by go_num, by rw [hlz.out, hl7.out], by rw [hl7.out] at HT6; exact HT6, HB6, HX6⟩
              case measure => simp [intOf]; omega
          · obtain rfl : xg.length = j := by omega
            have e2 : decide ((xg.length : Int) < (xg.length : Int)) = false := decide_eq_false (by omega)
            have hfull : Hid (l5 ++ (xg.take xg.length).filter (fun a => !(a.size == 0)) = l2) := Lib.hid (by rw [List.take_length, hl5.out])
            rw [hfull.out] at HT6
            have hlz : Hid (rsN (l5 ++ (xg.take xg.length).filter (fun a => !(a.size == 0))) = rsN l2) := Lib.hid (by rw [hfull.out])
            go_wp2_with fail
            go_roundw
            case rel => exact ⟨k + 1, A, cap, by omega, by go_num, by rw [hlz.out, hl2.out], by rw [hl2.out] at HT6; exact HT6, HX6⟩
            case measure => simp [intOf]; omega
      · have dop : (xo != 1) = true := by simpa using hop
        have hl5 : Hid ((l4 ++ [xb]) ++ xg.filter (fun a => !(a.size == 0)) = l2) := Lib.hid (by rw [hnext.out, hl4e.out]; unfold conN; rw [if_neg hop]; simp)
        clear hnext hop hl4e
        have b2 := HB3.out.cell 2
        simp only [List.getElem?_toArray, List.getElem?_cons_zero, List.getElem?_cons_succ] at b2
        go_wp2_with fail
        refine (HJ.out w3 A3 cap3 l4 xb HT3.out (by omega)).mono ?_
        rintro e w4 ⟨A4, cap4, rfl, hT4, hb4⟩
        have HT4 := Lib.hid hT4
        have HX4 := Lib.hid (HX3.out.on hb4)
        have HB4 := Lib.hid (HB3.out.kept (Fr.of_below hb4 []) (by simp))
        clear hT4 hb4 HT3 HX3 HB3 b0 b2 dop
        have b5 := HB4.out.cell 5
        simp only [List.getElem?_toArray, List.getElem?_cons_zero, List.getElem?_cons_succ] at b5
        obtain ⟨l5, h5⟩ : ∃ l5, Hid (l5 = l4 ++ [xb]) := ⟨_, Lib.hid rfl⟩
        rw [← h5.out] at HT4 hl5
        have hl5b : l5.length ≤ 60004 := by rw [h5.out, List.length_append]; simp; omega
        rw [← h5.out]
        clear h5
        have hb50 : Hid (l5 = l5 ++ (xg.take 0).filter (fun a => !(a.size == 0))) := Lib.hid (by simp)
        have hbn : Hid (rsN l5 = rsN (l5 ++ (xg.take 0).filter (fun a => !(a.size == 0)))) := Lib.hid (congrArg rsN hb50.out)
        have Tj : Hid (RL w w4 A4 cap4 (l5 ++ (xg.take 0).filter (fun a => !(a.size == 0)))) := Lib.hid (by rw [← hb50.out]; exact HT4.out)
        clear HT4
        go_wp2_with fail
        go_loopw [3, 6] (fun v i wx => ∃ (j : Nat) (A : Option Addr) (cap : Nat), j ≤ xg.length ∧ i = .int .i64 j ∧ v = .slice A (rsN (l5 ++ (xg.take j).filter (fun a => !(a.size == 0)))) cap ∧ Hid (RL w wx A cap (l5 ++ (xg.take j).filter (fun a => !(a.size == 0)))) ∧ Hid (Box wx bm 105 #[.int .i64 xo, .string xa, .string xb, .int .i64 xk, .string xt, .slice xA xg.length xc]) ∧ Hid (SR w wx #[.slice oA no oc, .slice fA nf fc, .slice (some ⟨g, off, none⟩) nc cc])) (fun _ i _ => xg.length - (intOf i).toNat)
        case atStart => exact ⟨0, A4, cap4, by omega, rfl, by rw [← hbn.out], Tj, HB4, HX4⟩
        case round =>
          obtain ⟨j, A, cap, hj, rfl, rfl, HT6, HB6, HX6⟩ := hrel
          clear Tj hbn hb50 HB4 HX4
          rename World => wx
          have b5 := HB6.out.cell 5
          simp only [List.getElem?_toArray, List.getElem?_cons_zero, List.getElem?_cons_succ] at b5
          have hl6 : (l5 ++ (xg.take j).filter (fun a => !(a.size == 0))).length ≤ 70000 := by
            have h1 := List.length_filter_le (fun a : ByteArray => !(a.size == 0)) (xg.take j)
            rw [List.length_take] at h1
            rw [List.length_append]
            omega
          by_cases hjl : j < xg.length
          · have e2 : decide ((j : Int) < (xg.length : Int)) = true := decide_eq_true (by omega)
            obtain ⟨g6, o6, rfl, _, hc6⟩ := (HGk.out wx HT6.out.fr) (by rw [List.length_map]; omega)
            have c6 := hc6 j (by rw [List.length_map]; exact hjl)
            rw [List.getElem_map] at c6
            clear hc6
            have hnx : Hid (l5 ++ (xg.take (j + 1)).filter (fun a => !(a.size == 0)) = (l5 ++ (xg.take j).filter (fun a => !(a.size == 0))) ++ (if (xg[j].size == 0) = true then [] else [xg[j]])) := Lib.hid (by rw [filt_take hjl, List.append_assoc])
            obtain ⟨l7, hl7⟩ : ∃ l, Hid (l = l5 ++ (xg.take (j + 1)).filter (fun a => !(a.size == 0))) := ⟨_, Lib.hid rfl⟩
            rw [← hl7.out] at hnx
            generalize (l5 ++ (xg.take j).filter (fun a => !(a.size == 0))) = l6 at *
            have hz := size_nil xg[j]
            generalize xg[j] = aj at *
            rcases hzz : (aj.size == 0) with _ | _ <;> rw [hzz] at hz
            · have hnx2 : Hid (l7 = l6 ++ [aj]) := Lib.hid (by rw [hnx.out, hzz]; rfl)
              clear hzz hnx
              go_wp2_with fail
              refine (HJ.out wx A cap l6 aj HT6.out (by omega)).mono ?_
              rintro e w9 ⟨A9, cap9, rfl, hT9, hb9⟩
              have HT9 := Lib.hid hT9
              have HX9 := Lib.hid (HX6.out.on hb9)
              have HB9 := Lib.hid (HB6.out.kept (Fr.of_below hb9 []) (by simp))
              rw [← hnx2.out] at HT9
              have hlz : Hid (rsN (l6 ++ [aj]) = rsN l7) := Lib.hid (by rw [hnx2.out])
              clear hT9 hb9 HT6 HX6 HB6 c6 b5
              go_wp2_with fail
              go_roundw
              case rel => exact ⟨j + 1, A9, cap9, by omega, by go_num, by rw [hlz.out, hl7.out], by rw [hl7.out] at HT9; exact HT9, HB9, HX9⟩
              case measure => simp [intOf]; omega
            · have hnx2 : Hid (l7 = l6) := Lib.hid (by rw [hnx.out, hzz]; simp)
              clear hzz hnx
              rw [← hnx2.out] at HT6
              have hlz : Hid (rsN l6 = rsN l7) := Lib.hid (by rw [hnx2.out])
              go_wp2_with fail
              go_roundw
              case rel => exact ⟨j + 1, A, cap, by omega, by go_num, by rw [hlz.out, hl7.out], by rw [hl7.out] at HT6; exact HT6, HB6, HX6⟩
              case measure => simp [intOf]; omega
          · obtain rfl : xg.length = j := by omega
            have e2 : decide ((xg.length : Int) < (xg.length : Int)) = false := decide_eq_false (by omega)
            have hfull : Hid (l5 ++ (xg.take xg.length).filter (fun a => !(a.size == 0)) = l2) := Lib.hid (by rw [List.take_length, hl5.out])
            rw [hfull.out] at HT6
            have hlz : Hid (rsN (l5 ++ (xg.take xg.length).filter (fun a => !(a.size == 0))) = rsN l2) := Lib.hid (by rw [hfull.out])
            go_wp2_with fail
            go_roundw
            case rel => exact ⟨k + 1, A, cap, by omega, by go_num, by rw [hlz.out, hl2.out], by rw [hl2.out] at HT6; exact HT6, HX6⟩
            case measure => simp [intOf]; omega
    · obtain rfl : nc = k := by omega
      have e1 : decide ((nc : Int) < (nc : Int)) = false := decide_eq_false (by omega)
      have hall : Hid (L.take nc = L) := Lib.hid (List.take_of_length_le (by rw [hLn.out]; exact Nat.le_refl _))
      have hlq : Hid (rsN ((L.take nc).flatMap conN) = rsN (L.flatMap conN)) := Lib.hid (by rw [hall.out])
      rw [hall.out] at HT hlen2
      rw [hlq.out]
      clear hall hlq
      obtain ⟨ld, hld⟩ : ∃ ld, Hid (ld = L.flatMap conN) := ⟨_, Lib.hid rfl⟩
      rw [← hld.out] at hV2 HT hlen2 ⊢
      clear hld
      have s0 := HX.out.2.cell 0
      simp only [List.getElem?_toArray, List.getElem?_cons_zero, List.getElem?_cons_succ] at s0
      have hl0 : Hid (ld = ld ++ cellsL (ofB 112) (M.take 0)) := Lib.hid (by simp [cellsL])
      have hln : Hid (rsN ld = rsN (ld ++ cellsL (ofB 112) (M.take 0))) := Lib.hid (congrArg rsN hl0.out)
      have Ti : Hid (RL w wr A cap (ld ++ cellsL (ofB 112) (M.take 0))) := Lib.hid (by rw [← hl0.out]; exact HT.out)
      clear HT
      go_wp2_with fail
      clear s0 s2
      go_loopw [3, 7] (fun v i wx => ∃ (k : Nat) (A : Option Addr) (cap : Nat), k ≤ no ∧ i = .int .i64 k ∧ v = .slice A (rsN (ld ++ cellsL (ofB 112) (M.take k))) cap ∧ Hid (RL w wx A cap (ld ++ cellsL (ofB 112) (M.take k))) ∧ Hid (SR w wx #[.slice oA no oc, .slice fA nf fc, .slice cA nc cc])) (fun _ i _ => no - (intOf i).toNat)
      case atStart => exact ⟨0, A, cap, by omega, rfl, by rw [← hln.out], Ti, HX⟩
      case round =>
        obtain ⟨k, A, cap, hk, rfl, rfl, HT, HX2⟩ := hrel
        clear Ti HX hln hl0
        rename World => wx
        have s0 := HX2.out.2.cell 0
        simp only [List.getElem?_toArray, List.getElem?_cons_zero, List.getElem?_cons_succ] at s0
        have hl6 : (ld ++ cellsL (ofB 112) (M.take k)).length ≤ 200000 := by
          have h1 := cellsL_len (p := ofB 112) (l := M.take k) (fun o ho => hMk.out o (List.mem_of_mem_take ho))
          rw [List.length_take, hMn.out] at h1
          rw [List.length_append]
          omega
        by_cases hkl : k < no
        · have e1 : decide ((k : Int) < (no : Int)) = true := decide_eq_true (by omega)
          have hkx : k < os.length := by rw [← hNo.out]; exact hkl
          have hkM : k < M.length := by rw [hMn.out]; exact hkl
          obtain ⟨g, off, rfl, hg, c0, c1, c2⟩ := tbl_obj (HO.out wx HT.out.fr) hkx
          have hLe : Hid (M[k] = os[k].o) := Lib.hid (by
            have e : M[k]? = some os[k].o := by rw [hM.out, List.getElem?_map, List.getElem?_eq_getElem hkx]; rfl
            rw [List.getElem?_eq_getElem hkM] at e
            exact Option.some.inj e)
          have hnext : Hid (ld ++ cellsL (ofB 112) (M.take (k + 1)) = (ld ++ cellsL (ofB 112) (M.take k)) ++ cellsB os[k].o.name (ofB 112) 0 os[k].o.kinds.data.toList) := Lib.hid (by rw [cellsL_take hkM, hLe.out, List.append_assoc])
          have hks := hkk.out os[k] (List.getElem_mem hkx)
          have CE := Lib.hid (HCE.out wx HT.out.fr os[k] (List.getElem_mem hkx) 112 hks)
          have hcb := cellsB_len os[k].o.name (ofB 112) os[k].o.kinds.data.toList 0
          rw [← Lib.size_eq] at hcb
          clear hLe
          obtain ⟨l2, hl2⟩ : ∃ l, Hid (l = ld ++ cellsL (ofB 112) (M.take (k + 1))) := ⟨_, Lib.hid rfl⟩
          rw [← hl2.out] at hnext
          generalize (ld ++ cellsL (ofB 112) (M.take k)) = l1 at *
          generalize cellsB os[k].o.name (ofB 112) 0 os[k].o.kinds.data.toList = lb at *
          unfold MO.row at CE
          generalize os[k] = x at *
          obtain ⟨⟨xn, xk, xm⟩, xA, xc⟩ := x
          dsimp only at *
          have hlb : lb.length ≤ 64 := by omega
          clear hcb hks
          go_wp2_with fail
          refine CE.out.mono ?_
          rintro e w5 ⟨A5, cap5, rfl, hT5⟩
          have HC5 := Lib.hid (hT5)
          have HT5 := Lib.hid (HT.out.on hT5.fr)
          have HX5 := Lib.hid (HX2.out.on hT5.fr)
          clear hT5 HT HX2 c0 c1 c2 s0 CE
          have hb50 : Hid (l1 = l1 ++ lb.take 0) := Lib.hid (by simp)
          have hbn : Hid (rsN l1 = rsN (l1 ++ lb.take 0)) := Lib.hid (congrArg rsN hb50.out)
          have Tj : Hid (RL w w5 A cap (l1 ++ lb.take 0)) := Lib.hid (by rw [← hb50.out]; exact HT5.out)
          have hB5 : Hid (Below w5.heap.size w5 w5) := Lib.hid (Below.refl _ _)
          go_wp2_with fail
          clear HT5
          go_loopw [3, 9] (fun v i wy => ∃ (j : Nat) (A : Option Addr) (cap : Nat), j ≤ lb.length ∧ i = .int .i64 j ∧ v = .slice A (rsN (l1 ++ lb.take j)) cap ∧ Hid (RL w wy A cap (l1 ++ lb.take j)) ∧ Hid (SR w wy #[.slice (some ⟨g, off, none⟩) no oc, .slice fA nf fc, .slice cA nc cc]) ∧ Hid (Below w5.heap.size w5 wy)) (fun _ i _ => lb.length - (intOf i).toNat)
          case atStart => exact ⟨0, A, cap, by omega, rfl, by rw [← hbn.out], Tj, HX5, hB5⟩
          case round =>
            obtain ⟨j, A, cap, hj, rfl, rfl, HT6, HX6, hB6⟩ := hrel
            clear Tj hbn hb50 HX5 hB5
            rename World => wy
            by_cases hjl : j < lb.length
            · have e2 : decide ((j : Int) < (lb.length : Int)) = true := decide_eq_true (by omega)
              obtain ⟨g6, o6, rfl, hg6, hc6⟩ := HC5.out.seg.rd (by rw [List.length_map]; omega)
              have c6 := (hB6.out.cell (p := ⟨g6, o6 + j, none⟩) hg6).trans (hc6 j (by rw [List.length_map]; exact hjl))
              rw [List.getElem_map] at c6
              clear hc6 hg6
              have hl7b : (l1 ++ lb.take j).length ≤ 300000 := by
                rw [List.length_append, List.length_take]
                omega
              have hnx : Hid (l1 ++ lb.take (j + 1) = (l1 ++ lb.take j) ++ [lb[j]]) := Lib.hid (by rw [List.take_succ_eq_append_getElem hjl, List.append_assoc])
              obtain ⟨l7, hl7⟩ : ∃ l, Hid (l = l1 ++ lb.take (j + 1)) := ⟨_, Lib.hid rfl⟩
              rw [← hl7.out] at hnx
              generalize (l1 ++ lb.take j) = l6 at *
              generalize lb[j] = aj at *
              go_wp2_with fail
              refine (HJ.out wy A cap l6 aj HT6.out (by omega)).mono ?_
              rintro e w9 ⟨A9, cap9, rfl, hT9, hb9⟩
              have HT9 := Lib.hid hT9
              have HX9 := Lib.hid (HX6.out.on hb9)
              have hB9 := Lib.hid (hB6.out.trans (hb9.mono hB6.out.size))
              rw [← hnx.out] at HT9
              have hlz : Hid (rsN (l6 ++ [aj]) = rsN l7) := Lib.hid (by rw [hnx.out])
              clear hT9 hb9 HT6 HX6 hB6 c6
              go_wp2_with fail
              go_roundw
              case rel => exact ⟨j + 1, A9, cap9, by omega, by go_num, by rw [hlz.out, hl7.out], by rw [hl7.out] at HT9; exact HT9, HX9, hB9⟩
              case measure => simp [intOf]; omega
            · obtain rfl : lb.length = j := by omega
              have e2 : decide ((lb.length : Int) < (lb.length : Int)) = false := decide_eq_false (by omega)
              have hfull : Hid (l1 ++ lb.take lb.length = l2) := Lib.hid (by rw [List.take_length, hnext.out])
              rw [hfull.out] at HT6
              have hlz : Hid (rsN (l1 ++ lb.take lb.length) = rsN l2) := Lib.hid (by rw [hfull.out])
              go_wp2_with fail
              go_roundw
              case rel => exact ⟨k + 1, A, cap, by omega, by go_num, by rw [hlz.out, hl2.out], by rw [hl2.out] at HT6; exact HT6, HX6⟩
              case measure => simp [intOf]; omega
        · obtain rfl : no = k := by omega
          have e1 : decide ((no : Int) < (no : Int)) = false := decide_eq_false (by omega)
          have hall : Hid (M.take no = M) := Lib.hid (List.take_of_length_le (by rw [hMn.out]; exact Nat.le_refl _))
          have hlq : Hid (rsN (ld ++ cellsL (ofB 112) (M.take no)) = V.length) := Lib.hid (by rw [hall.out, hV2.out]; rfl)
          rw [hall.out] at HT
          rw [hlq.out]
          have HS := Lib.hid HT.out.seg
          rw [← hV2.out] at HS
          go_wp2_with fail
          go_ret
          exact ⟨A, cap, rfl, HS.out, HT.out.fr⟩
theorem rnodes_any (hm : HeldM) (s : MS) (w : World) (hs : SysM w s) (hcl : ∀ x ∈ s.cs, x.c.args.length ≤ 8796093022208) : Calls Tryz.prog 66 #[s.val] w (NPost w (orNil (checkE s.sys) (nodesL s.sys))) :=
  (rnodes_seg hm s w hs hcl).mono fun _ _ ⟨A, cap, h1, h2, h3⟩ => ⟨A, cap, h1, h2.rd, h3⟩
end Go.Proofs.YtdmmkjijgoiecaaGreatDoor.sy
