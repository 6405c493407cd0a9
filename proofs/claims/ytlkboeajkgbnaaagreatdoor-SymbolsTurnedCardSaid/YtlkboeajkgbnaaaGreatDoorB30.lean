import Derived.Test.YtlkboeajkgbnaaaGreatDoorB24
set_option linter.all false
set_option maxHeartbeats 4000000
namespace Go.Proofs.YtlkboeajkgbnaaaGreatDoor.sy
open Go.RowKit Go.Proofs.YtlkboeajkgbnaaaGreatDoor.mem
def ad (a b : Int) : Int := wrap64 (a + b)
def ten (a : Int) : Int := wrap64 (10 * a)
def gTxt : List ByteArray → Nat → Int → Int
  | [], _, n => n
  | m :: r, k, n => if k < 100 then gTxt r (k + 1) (ad n m.size) else n
def o1 (o : SO) (n : Int) : Int := ad (ad (ad n o.name.size) o.kinds.size) (ten o.marks.length)
def f1 (f : SF) (n : Int) : Int := ad (ad (ad n f.name.size) f.kinds.size) f.ret.size
def c1 (c : SC) (n : Int) : Int := ad (ad (ad (ad n c.a.size) c.b.size) c.tag.size) (ten c.args.length)
def oN (o : SO) (n : Int) : Int := gTxt (o.marks.map (·.tag)) 0 (o1 o n)
def cN (c : SC) (n : Int) : Int := gTxt c.args 0 (c1 c n)
def gAll {α : Type} (f : α → Int → Int) (B : Int) : List α → Int → Option Int
  | [], n => some n
  | x :: r, n => if B < f x n then none else gAll f B r (f x n)
def greatB (s : SS) (most : Int) : Bool := decide (most < s.objs.length) || (decide (most < s.fns.length) || (decide (most < s.cons.length) || (((gAll oN 30000 s.objs 0).bind fun n => (gAll f1 30000 s.fns n).bind fun n => gAll cN 60000 s.cons n).isNone)))
theorem gTxt_step {l : List ByteArray} {j : Nat} (hj : j < l.length) (h : j < 100) (n : Int) : gTxt (l.drop j) j n = gTxt (l.drop (j + 1)) (j + 1) (ad n l[j].size) := by
  rw [List.drop_eq_getElem_cons hj, gTxt, if_pos h]
theorem gTxt_end {l : List ByteArray} (n : Int) : gTxt (l.drop l.length) l.length n = n := by
  rw [List.drop_length]
  rfl
theorem gTxt_hundred {l : List ByteArray} {j : Nat} (h : ¬ j < 100) (n : Int) : gTxt (l.drop j) j n = n := by
  cases l.drop j with
  | nil => rfl
  | cons a r => rw [gTxt, if_neg h]
theorem gAll_step {α : Type} {f : α → Int → Int} {B : Int} {l : List α} {k : Nat} (hk : k < l.length) (n : Int) : gAll f B (l.drop k) n = if B < f l[k] n then none else gAll f B (l.drop (k + 1)) (f l[k] n) := by
  rw [List.drop_eq_getElem_cons hk]
  rfl
theorem gAll_end {α : Type} {f : α → Int → Int} {B : Int} {l : List α} (n : Int) : gAll f B (l.drop l.length) n = some n := by
  rw [List.drop_length]
  rfl
set_option maxHeartbeats 16000000 in
set_option maxRecDepth 100000 in
theorem great_any (s : MS) (most : Int) (w : World) (hs : SysM w s) : Calls Tryz.prog 22 #[s.val, .int .i64 most] w (BPost (greatB s.sys most) w) := by
  have HO := Lib.hid (fun W (hb : Below w.heap.size w W) => hs.o.below hb)
  have HF := Lib.hid (fun W (hb : Below w.heap.size w W) => hs.f.below hb)
  have HC := Lib.hid (fun W (hb : Below w.heap.size w W) => hs.c.below hb)
  have HM : Hid (∀ W, Below w.heap.size w W → ∀ x ∈ s.os, Tbl W x.mA 2 (x.o.marks.map mkRow)) := Lib.hid (fun W hb x hx => ((hs.ok x hx).below hb).m)
  have HG : Hid (∀ W, Below w.heap.size w W → ∀ x ∈ s.cs, Rd W x.aA (x.c.args.map Value.string)) := Lib.hid (fun W hb x hx => ((hs.ck x hx).below hb).g)
  have HML : Hid (∀ x ∈ s.os, x.o.marks.length ≤ maxLen) := Lib.hid (fun x hx => (hs.ok x hx).ml)
  have HGL : Hid (∀ x ∈ s.cs, x.c.args.length ≤ maxLen) := Lib.hid (fun x hx => (hs.ck x hx).gl)
  have hol := hs.ol
  have hfl := hs.fl
  have hcl := hs.cl
  unfold maxLen at hol hfl hcl HML HGL
  clear hs
  unfold BPost
  obtain ⟨oA, oc, os, fA, fc, fs, cA, cc, cs⟩ := s
  unfold MS.val MS.sys
  dsimp only at *
  obtain ⟨no, hNo⟩ : ∃ n, Hid (n = os.length) := ⟨_, Lib.hid rfl⟩
  obtain ⟨nf, hNf⟩ : ∃ n, Hid (n = fs.length) := ⟨_, Lib.hid rfl⟩
  obtain ⟨nc, hNc⟩ : ∃ n, Hid (n = cs.length) := ⟨_, Lib.hid rfl⟩
  obtain ⟨V, hV⟩ : ∃ V, Hid (V = greatB ⟨os.map (·.o), fs, cs.map (·.c)⟩ most) := ⟨_, Lib.hid rfl⟩
  rw [← hV.out, ← hNo.out, ← hNf.out, ← hNc.out]
  rw [← hNo.out] at hol
  rw [← hNf.out] at hfl
  rw [← hNc.out] at hcl
  obtain ⟨L, hL⟩ : ∃ L, Hid (L = cs.map (·.c)) := ⟨_, Lib.hid rfl⟩
  have hLn : Hid (L.length = nc) := Lib.hid (by rw [hL.out, List.length_map]; exact hNc.out.symm)
  obtain ⟨M, hM⟩ : ∃ M, Hid (M = os.map (·.o)) := ⟨_, Lib.hid rfl⟩
  have hMn : Hid (M.length = no) := Lib.hid (by rw [hM.out, List.length_map]; exact hNo.out.symm)
  have hV1 : Hid (V = (decide (most < (no : Int)) || (decide (most < (nf : Int)) || (decide (most < (nc : Int)) || (((gAll oN 30000 (M.drop 0) 0).bind fun n => (gAll f1 30000 (fs.drop 0) n).bind fun n => gAll cN 60000 (L.drop 0) n).isNone))))) := Lib.hid (by
    rw [hV.out, hL.out, hM.out]
    unfold greatB
    dsimp only
    rw [List.length_map, List.length_map, ← hNo.out, ← hNf.out, ← hNc.out]
    rfl)
  clear hV
  go_enter Tryz.func22, Tryz.ntmps22
  have X2 := Lib.hid (SR.new w #[.slice oA no oc, .slice fA nf fc, .slice cA nc cc])
  by_cases h0 : most < (no : Int)
  · have d0 : decide (most < (no : Int)) = true := decide_eq_true h0
    have q := Lib.hid d0
    have hv : Hid (true = V) := Lib.hid (by rw [hV1.out, q.out]; simp)
    clear h0
    go_wp2_with fail
    go_ret
    exact ⟨congrArg (fun z => Ending.returned (.bool z)) hv.out, X2.out.1⟩
  have d0 : decide (most < (no : Int)) = false := decide_eq_false h0
  have q0 := Lib.hid d0
  clear h0
  by_cases h1 : most < (nf : Int)
  · have d1 : decide (most < (nf : Int)) = true := decide_eq_true h1
    have q := Lib.hid d1
    have hv : Hid (true = V) := Lib.hid (by rw [hV1.out, q0.out, q.out]; simp)
    clear h1
    go_wp2_with fail
    go_ret
    exact ⟨congrArg (fun z => Ending.returned (.bool z)) hv.out, X2.out.1⟩
  have d1 : decide (most < (nf : Int)) = false := decide_eq_false h1
  have q1 := Lib.hid d1
  clear h1
  by_cases h2 : most < (nc : Int)
  · have d2 : decide (most < (nc : Int)) = true := decide_eq_true h2
    have q := Lib.hid d2
    have hv : Hid (true = V) := Lib.hid (by rw [hV1.out, q0.out, q1.out, q.out]; simp)
    clear h2
    go_wp2_with fail
    go_ret
    exact ⟨congrArg (fun z => Ending.returned (.bool z)) hv.out, X2.out.1⟩
  have d2 : decide (most < (nc : Int)) = false := decide_eq_false h2
  have q2 := Lib.hid d2
  clear h2
  have hV2 : Hid (V = ((gAll oN 30000 (M.drop 0) 0).bind fun n => (gAll f1 30000 (fs.drop 0) n).bind fun n => gAll cN 60000 (L.drop 0) n).isNone) := Lib.hid (by rw [hV1.out, q0.out, q1.out, q2.out]; rfl)
  clear hV1 q0 q1 q2
  have s0 := X2.out.2.cell 0
  simp only [List.getElem?_toArray, List.getElem?_cons_zero, List.getElem?_cons_succ] at s0
  go_wp2_with fail
  clear s0 d0 d1 d2
  go_loopw [5, 6] (fun v i wr => ∃ (k : Nat) (z : Int), k ≤ no ∧ i = .int .i64 k ∧ v = .int .i64 z ∧ Hid (V = ((gAll oN 30000 (M.drop k) z).bind fun n => (gAll f1 30000 (fs.drop 0) n).bind fun n => gAll cN 60000 (L.drop 0) n).isNone) ∧ Hid (SR w wr #[.slice oA no oc, .slice fA nf fc, .slice cA nc cc])) (fun _ i _ => no - (intOf i).toNat)
  case atStart => exact ⟨0, 0, by omega, rfl, rfl, hV2, X2⟩
  case round =>
    obtain ⟨k, z, hk, rfl, rfl, hG, HX⟩ := hrel
    clear hV2 X2
    rename World => wr
    have s0 := HX.out.2.cell 0
    simp only [List.getElem?_toArray, List.getElem?_cons_zero, List.getElem?_cons_succ] at s0
    by_cases hkl : k < no
    · have e1 : decide ((k : Int) < (no : Int)) = true := decide_eq_true (by omega)
      have hkx : k < os.length := by rw [← hNo.out]; exact hkl
      have hkM : k < M.length := by rw [hMn.out]; exact hkl
      obtain ⟨g, off, rfl, hg, c0, c1, c2⟩ := tbl_obj (HO.out wr HX.out.1) hkx
      have hLe : Hid (M[k] = os[k].o) := Lib.hid (by
        have e : M[k]? = some os[k].o := by rw [hM.out, List.getElem?_map, List.getElem?_eq_getElem hkx]; rfl
        rw [List.getElem?_eq_getElem hkM] at e
        exact Option.some.inj e)
      have hst := Lib.hid (gAll_step (f := oN) (B := 30000) hkM z)
      rw [hLe.out] at hst
      have HMk := Lib.hid (fun W hb => HM.out W hb os[k] (List.getElem_mem hkx))
      have HK : Hid (∀ W, Below w.heap.size w W → W.cell? ⟨g, off + k * 3 + 2, none⟩ = some (.slice os[k].mA os[k].o.marks.length os[k].mc)) := Lib.hid (fun W hb => by
        obtain ⟨g', o', e', _, _, _, c⟩ := tbl_obj (HO.out W hb) hkx
        injection e' with e'
        injection e' with e1' e2'
        subst e1'
        subst e2'
        exact c)
      have hmk := HML.out os[k] (List.getElem_mem hkx)
      clear hLe hkM
      generalize os[k] = x at *
      obtain ⟨⟨xn, xk, xm⟩, xA, xc⟩ := x
      dsimp only at *
      obtain ⟨ml, hml⟩ : ∃ n, Hid (n = xm.length) := ⟨_, Lib.hid rfl⟩
      have HK2 : Hid (∀ W, Below w.heap.size w W → W.cell? ⟨g, off + k * 3 + 2, none⟩ = some (.slice xA ml xc)) := Lib.hid (fun W hb => by rw [hml.out]; exact HK.out W hb)
      clear HK
      rw [← hml.out] at hmk c2
      obtain ⟨zn, hzn⟩ : ∃ z2, Hid (z2 = oN ⟨xn, xk, xm⟩ z) := ⟨_, Lib.hid rfl⟩
      rw [← hzn.out] at hst
      have hzi : Hid (zn = gTxt ((xm.map (·.tag)).drop 0) 0 (ad (ad (ad z xn.size) xk.size) (ten ml))) := Lib.hid (by rw [hzn.out, hml.out]; rfl)
      clear hzn
      go_wp2_with fail
      go_quiet (fail)
      have HX1 := Lib.hid (HX.out.drewN nq)
      clear s0 c0 c1 c2 HX
      go_wp2_with fail
      go_loopw [5, 7] (fun v i wx => ∃ (j : Nat) (y : Int), j ≤ ml ∧ i = .int .i64 j ∧ v = .int .i64 y ∧ Hid (zn = gTxt ((xm.map (·.tag)).drop j) j y) ∧ Hid (SR w wx #[.slice (some ⟨g, off, none⟩) no oc, .slice fA nf fc, .slice cA nc cc])) (fun _ i _ => ml - (intOf i).toNat)
      case atStart => exact ⟨0, _, by omega, rfl, rfl, hzi, HX1⟩
      case round =>
        obtain ⟨j, y, hj, rfl, rfl, hT, HX5⟩ := hrel
        clear hzi HX1
        rename World => wx
        have s0 := HX5.out.2.cell 0
        simp only [List.getElem?_toArray, List.getElem?_cons_zero, List.getElem?_cons_succ] at s0
        have k2 := HK2.out wx HX5.out.1
        by_cases hjl : j < ml
        · have e2 : decide ((j : Int) < (ml : Int)) = true := decide_eq_true (by omega)
          have hjx : j < xm.length := by rw [← hml.out]; exact hjl
          have hjT : j < (xm.map (·.tag)).length := by rw [List.length_map]; exact hjx
          by_cases hj1 : j < 100
          · have e3 : decide ((j : Int) < 100) = true := decide_eq_true (by omega)
            obtain ⟨g6, o6, rfl, hg6, m0, m1⟩ := tbl_mk (HMk.out wx HX5.out.1) hjx
            have hT2 : Hid (zn = gTxt ((xm.map (·.tag)).drop (j + 1)) (j + 1) (ad y xm[j].tag.size)) := Lib.hid (by rw [hT.out, gTxt_step hjT hj1, List.getElem_map])
            clear hT hjT
            generalize xm[j] = mj at *
            obtain ⟨ma, mt⟩ := mj
            dsimp only at *
            go_wp2_with fail
            try go_quiet (fail)
            go_wp2_with fail
            go_roundw
            case rel => exact ⟨j + 1, _, by omega, by go_num, rfl, hT2, HX5⟩
            case measure => simp [intOf]; omega
          · have e3 : decide ((j : Int) < 100) = false := decide_eq_false (by omega)
            have hy : Hid (zn = y) := Lib.hid (by rw [hT.out, gTxt_hundred hj1])
            clear hT hjT
            by_cases hb : 30000 < y
            · have db : decide ((30000 : Int) < y) = true := decide_eq_true hb
              have hv : Hid (true = V) := Lib.hid (by rw [hG.out, hst.out, hy.out, if_pos hb]; rfl)
              go_wp2_with fail
              go_ret
              exact ⟨congrArg (fun z => Ending.returned (.bool z)) hv.out, HX5.out.1⟩
            · have db : decide ((30000 : Int) < y) = false := decide_eq_false hb
              have hG2 : Hid (V = ((gAll oN 30000 (M.drop (k + 1)) y).bind fun n => (gAll f1 30000 (fs.drop 0) n).bind fun n => gAll cN 60000 (L.drop 0) n).isNone) := Lib.hid (by rw [hG.out, hst.out, hy.out, if_neg hb])
              have hbn := Int.not_lt.mp hb
              go_wp2_with fail
              go_roundw
              case rel => exact ⟨k + 1, y, by omega, by go_num, rfl, hG2, HX5⟩
              case measure => simp [intOf]; omega
        · have e2 : decide ((j : Int) < (ml : Int)) = false := decide_eq_false (by omega)
          have hy : Hid (zn = y) := Lib.hid (by
            obtain rfl : j = ml := by omega
            rw [hT.out]
            have e : (xm.map (·.tag)).length = j := by rw [List.length_map, hml.out]
            have := gTxt_end (l := xm.map (·.tag)) y
            rw [e] at this
            exact this)
          clear hT
          by_cases hb : 30000 < y
          · have db : decide ((30000 : Int) < y) = true := decide_eq_true hb
            have hv : Hid (true = V) := Lib.hid (by rw [hG.out, hst.out, hy.out, if_pos hb]; rfl)
            go_wp2_with fail
            go_ret
            exact ⟨congrArg (fun z => Ending.returned (.bool z)) hv.out, HX5.out.1⟩
          · have db : decide ((30000 : Int) < y) = false := decide_eq_false hb
            have hG2 : Hid (V = ((gAll oN 30000 (M.drop (k + 1)) y).bind fun n => (gAll f1 30000 (fs.drop 0) n).bind fun n => gAll cN 60000 (L.drop 0) n).isNone) := Lib.hid (by rw [hG.out, hst.out, hy.out, if_neg hb])
            have hbn := Int.not_lt.mp hb
            go_wp2_with fail
            go_roundw
            case rel => exact ⟨k + 1, y, by omega, by go_num, rfl, hG2, HX5⟩
            case measure => simp [intOf]; omega
    · obtain rfl : no = k := by omega
      have e1 : decide ((no : Int) < (no : Int)) = false := decide_eq_false (by omega)
      have hV2 : Hid (V = ((gAll f1 30000 (fs.drop 0) z).bind fun n => gAll cN 60000 (L.drop 0) n).isNone) := Lib.hid (by
        rw [hG.out]
        have := gAll_end (f := oN) (B := 30000) (l := M) z
        rw [hMn.out] at this
        rw [this]
        rfl)
      clear hG
      have s1 := HX.out.2.cell 1
      simp only [List.getElem?_toArray, List.getElem?_cons_zero, List.getElem?_cons_succ] at s1
      go_wp2_with fail
      clear s0 s1
      go_loopw [5, 8] (fun v i wx => ∃ (k : Nat) (z : Int), k ≤ nf ∧ i = .int .i64 k ∧ v = .int .i64 z ∧ Hid (V = ((gAll f1 30000 (fs.drop k) z).bind fun n => gAll cN 60000 (L.drop 0) n).isNone) ∧ Hid (SR w wx #[.slice oA no oc, .slice fA nf fc, .slice cA nc cc])) (fun _ i _ => nf - (intOf i).toNat)
      case atStart => exact ⟨0, z, by omega, rfl, rfl, hV2, HX⟩
      case round =>
        obtain ⟨k, z2, hk2, rfl, rfl, hG, HX2⟩ := hrel
        clear hV2 HX
        rename World => wr2
        have s1 := HX2.out.2.cell 1
        simp only [List.getElem?_toArray, List.getElem?_cons_zero, List.getElem?_cons_succ] at s1
        by_cases hkl : k < nf
        · have e1 : decide ((k : Int) < (nf : Int)) = true := decide_eq_true (by omega)
          have hkx : k < fs.length := by rw [← hNf.out]; exact hkl
          obtain ⟨g, off, rfl, hg, c0, c1, c2⟩ := tbl_fn (HF.out wr2 HX2.out.1) hkx
          have hst := Lib.hid (gAll_step (f := f1) (B := 30000) hkx z2)
          generalize fs[k] = x at *
          obtain ⟨xn, xk, xr⟩ := x
          dsimp only at *
          obtain ⟨zn, hzn⟩ : ∃ z9, Hid (z9 = f1 ⟨xn, xk, xr⟩ z2) := ⟨_, Lib.hid rfl⟩
          rw [← hzn.out] at hst
          have hzi : Hid (wrap64 (wrap64 (wrap64 (z2 + xn.size) + xk.size) + xr.size) = zn) := Lib.hid (by rw [hzn.out]; rfl)
          clear hzn
          go_wp2_with fail
          go_quiet (fail)
          simp only [IntWalk.i64_left, hzi.out]
          have HX5 := Lib.hid (HX2.out.drewN nq)
          clear s1 c0 c1 c2 HX2
          by_cases hb : 30000 < zn
          · have db : decide ((30000 : Int) < zn) = true := decide_eq_true hb
            have hv : Hid (true = V) := Lib.hid (by rw [hG.out, hst.out, if_pos hb]; rfl)
            go_wp2_with fail
            go_ret
            exact ⟨congrArg (fun z => Ending.returned (.bool z)) hv.out, HX5.out.1⟩
          · have db : decide ((30000 : Int) < zn) = false := decide_eq_false hb
            have hG2 : Hid (V = ((gAll f1 30000 (fs.drop (k + 1)) zn).bind fun n => gAll cN 60000 (L.drop 0) n).isNone) := Lib.hid (by rw [hG.out, hst.out, if_neg hb])
            have hbn := Int.not_lt.mp hb
            go_wp2_with fail
            go_roundw
            case rel => exact ⟨k + 1, zn, by omega, by go_num, rfl, hG2, HX5⟩
            case measure => simp [intOf]; omega
        · obtain rfl : nf = k := by omega
          have e1 : decide ((nf : Int) < (nf : Int)) = false := decide_eq_false (by omega)
          have hV3 : Hid (V = (gAll cN 60000 (L.drop 0) z2).isNone) := Lib.hid (by
            rw [hG.out]
            have := gAll_end (f := f1) (B := 30000) (l := fs) z2
            rw [← hNf.out] at this
            rw [this]
            rfl)
          clear hG
          have s2 := HX2.out.2.cell 2
          simp only [List.getElem?_toArray, List.getElem?_cons_zero, List.getElem?_cons_succ] at s2
          go_wp2_with fail
          clear s1 s2
          go_loopw [5, 9] (fun v i wx => ∃ (k : Nat) (z : Int), k ≤ nc ∧ i = .int .i64 k ∧ v = .int .i64 z ∧ Hid (V = (gAll cN 60000 (L.drop k) z).isNone) ∧ Hid (SR w wx #[.slice oA no oc, .slice fA nf fc, .slice cA nc cc])) (fun _ i _ => nc - (intOf i).toNat)
          case atStart => exact ⟨0, z2, by omega, rfl, rfl, hV3, HX2⟩
          case round =>
            obtain ⟨k, z3, hk3, rfl, rfl, hG, HX3⟩ := hrel
            clear hV3 HX2
            rename World => wr3
            have s2 := HX3.out.2.cell 2
            simp only [List.getElem?_toArray, List.getElem?_cons_zero, List.getElem?_cons_succ] at s2
            by_cases hkl : k < nc
            · have e1 : decide ((k : Int) < (nc : Int)) = true := decide_eq_true (by omega)
              have hkx : k < cs.length := by rw [← hNc.out]; exact hkl
              have hkL : k < L.length := by rw [hLn.out]; exact hkl
              obtain ⟨g, off, rfl, hg, c0, c1, c2, c3, c4, c5⟩ := tbl_con (HC.out wr3 HX3.out.1) hkx
              have hLe : Hid (L[k] = cs[k].c) := Lib.hid (by
                have e : L[k]? = some cs[k].c := by rw [hL.out, List.getElem?_map, List.getElem?_eq_getElem hkx]; rfl
                rw [List.getElem?_eq_getElem hkL] at e
                exact Option.some.inj e)
              have hst := Lib.hid (gAll_step (f := cN) (B := 60000) hkL z3)
              rw [hLe.out] at hst
              have HGk := Lib.hid (fun W hb => HG.out W hb cs[k] (List.getElem_mem hkx))
              have hgk := HGL.out cs[k] (List.getElem_mem hkx)
              clear hLe hkL
              generalize cs[k] = x at *
              obtain ⟨⟨xo, xa, xb, xk, xt, xg⟩, xA, xc⟩ := x
              dsimp only at *
              obtain ⟨gl, hgl⟩ : ∃ n, Hid (n = xg.length) := ⟨_, Lib.hid rfl⟩
              rw [← hgl.out] at hgk c5
              obtain ⟨zn, hzn⟩ : ∃ z9, Hid (z9 = cN ⟨xo, xa, xb, xk, xt, xg⟩ z3) := ⟨_, Lib.hid rfl⟩
              rw [← hzn.out] at hst
              have hzi : Hid (zn = gTxt (xg.drop 0) 0 (ad (ad (ad (ad z3 xa.size) xb.size) xt.size) (ten gl))) := Lib.hid (by rw [hzn.out, hgl.out]; rfl)
              clear hzn
              have HX4 := Lib.hid (HX3.out.alloc (.cells #[.int .i64 xo, .string xa, .string xb, .int .i64 xk, .string xt, .slice xA gl xc] 103))
              have HB4 := Lib.hid (Box.new wr3 103 #[.int .i64 xo, .string xa, .string xb, .int .i64 xk, .string xt, .slice xA gl xc])
              go_upto_region 24 with fail
              generalize hW : wr3.alloc (.cells #[.int .i64 xo, .string xa, .string xb, .int .i64 xk, .string xt, .slice xA gl xc] 103) = W at *
              clear hW c0 c1 c2 c3 c4 c5 s2 HX3
              generalize wr3.heap.size = bm at *
              have b1 := HB4.out.cell 1
              have b2 := HB4.out.cell 2
              have b4 := HB4.out.cell 4
              have b5 := HB4.out.cell 5
              simp only [List.getElem?_toArray, List.getElem?_cons_zero, List.getElem?_cons_succ] at b1 b2 b4 b5
              go_wp2_with fail
              clear b1 b2 b4 b5
              go_loopw [5, 11] (fun v i wx => ∃ (j : Nat) (y : Int), j ≤ gl ∧ i = .int .i64 j ∧ v = .int .i64 y ∧ Hid (zn = gTxt (xg.drop j) j y) ∧ Hid (Box wx bm 103 #[.int .i64 xo, .string xa, .string xb, .int .i64 xk, .string xt, .slice xA gl xc]) ∧ Hid (SR w wx #[.slice oA no oc, .slice fA nf fc, .slice (some ⟨g, off, none⟩) nc cc])) (fun _ i _ => gl - (intOf i).toNat)
              case atStart => exact ⟨0, _, by omega, rfl, rfl, hzi, HB4, HX4⟩
              case round =>
                obtain ⟨j, y, hj, rfl, rfl, hT, HB5, HX5⟩ := hrel
                clear hzi HX4 HB4
                rename World => wx
                have b5 := HB5.out.cell 5
                simp only [List.getElem?_toArray, List.getElem?_cons_zero, List.getElem?_cons_succ] at b5
                by_cases hjl : j < gl
                · have e2 : decide ((j : Int) < (gl : Int)) = true := decide_eq_true (by omega)
                  have hjx : j < xg.length := by rw [← hgl.out]; exact hjl
                  by_cases hj1 : j < 100
                  · have e3 : decide ((j : Int) < 100) = true := decide_eq_true (by omega)
                    obtain ⟨g6, o6, rfl, _, hc6⟩ := (HGk.out wx HX5.out.1) (by rw [List.length_map]; omega)
                    have c6 := hc6 j (by rw [List.length_map]; exact hjx)
                    rw [List.getElem_map] at c6
                    clear hc6
                    have hT2 : Hid (zn = gTxt (xg.drop (j + 1)) (j + 1) (ad y xg[j].size)) := Lib.hid (by rw [hT.out, gTxt_step hjx hj1])
                    clear hT
                    generalize xg[j] = mt at *
                    go_wp2_with fail
                    go_roundw
                    case rel => exact ⟨j + 1, _, by omega, by go_num, rfl, hT2, HB5, HX5⟩
                    case measure => simp [intOf]; omega
                  · have e3 : decide ((j : Int) < 100) = false := decide_eq_false (by omega)
                    have hy : Hid (zn = y) := Lib.hid (by rw [hT.out, gTxt_hundred hj1])
                    clear hT
                    by_cases hb : 60000 < y
                    · have db : decide ((60000 : Int) < y) = true := decide_eq_true hb
                      have hv : Hid (true = V) := Lib.hid (by rw [hG.out, hst.out, hy.out, if_pos hb]; rfl)
                      go_wp2_with fail
                      go_ret
                      exact ⟨congrArg (fun z => Ending.returned (.bool z)) hv.out, HX5.out.1⟩
                    · have db : decide ((60000 : Int) < y) = false := decide_eq_false hb
                      have hG2 : Hid (V = (gAll cN 60000 (L.drop (k + 1)) y).isNone) := Lib.hid (by rw [hG.out, hst.out, hy.out, if_neg hb])
                      have hbn := Int.not_lt.mp hb
                      go_wp2_with fail
                      go_roundw
                      case rel => exact ⟨k + 1, y, by omega, by go_num, rfl, hG2, HX5⟩
                      case measure => simp [intOf]; omega
                · have e2 : decide ((j : Int) < (gl : Int)) = false := decide_eq_false (by omega)
                  have hy : Hid (zn = y) := Lib.hid (by
                    obtain rfl : j = gl := by omega
                    rw [hT.out]
                    have := gTxt_end (l := xg) y
                    rw [← hgl.out] at this
                    exact this)
                  clear hT
                  by_cases hb : 60000 < y
                  · have db : decide ((60000 : Int) < y) = true := decide_eq_true hb
                    have hv : Hid (true = V) := Lib.hid (by rw [hG.out, hst.out, hy.out, if_pos hb]; rfl)
                    go_wp2_with fail
                    go_ret
                    exact ⟨congrArg (fun z => Ending.returned (.bool z)) hv.out, HX5.out.1⟩
                  · have db : decide ((60000 : Int) < y) = false := decide_eq_false hb
                    have hG2 : Hid (V = (gAll cN 60000 (L.drop (k + 1)) y).isNone) := Lib.hid (by rw [hG.out, hst.out, hy.out, if_neg hb])
                    have hbn := Int.not_lt.mp hb
                    go_wp2_with fail
                    go_roundw
                    case rel => exact ⟨k + 1, y, by omega, by go_num, rfl, hG2, HX5⟩
                    case measure => simp [intOf]; omega
            · obtain rfl : nc = k := by omega
              have e1 : decide ((nc : Int) < (nc : Int)) = false := decide_eq_false (by omega)
              have hv : Hid (false = V) := Lib.hid (by
                rw [hG.out]
                have := gAll_end (f := cN) (B := 60000) (l := L) z3
                rw [hLn.out] at this
                rw [this]
                rfl)
              clear hG
              go_wp2_with fail
              go_ret
              exact ⟨congrArg (fun z => Ending.returned (.bool z)) hv.out, HX3.out.1⟩
end Go.Proofs.YtlkboeajkgbnaaaGreatDoor.sy
