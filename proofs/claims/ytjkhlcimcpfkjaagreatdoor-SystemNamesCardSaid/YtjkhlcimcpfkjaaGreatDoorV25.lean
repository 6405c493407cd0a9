import Derived.Test.YtjkhlcimcpfkjaaGreatDoorV24
import Derived.IntWalk
import Derived.Test.YtjkhlcimcpfkjaaGreatDoorV28
/-
  system: is a system too much to be asked?
-/
set_option linter.all false
namespace Go.Proofs.YtjkhlcimcpfkjaaGreatDoor.sy
open Go.RowKit Go.Proofs.YtjkhlcimcpfkjaaGreatDoor.mem

def ad (a b : Int) : Int := wrap64 (a + b)
def ten (a : Int) : Int := wrap64 (10 * a)
/-- the sizes of some texts, from the k-th on, up to a hundred -/
def gTxt : List ByteArray → Nat → Int → Int
  | [], _, n => n
  | m :: r, k, n => if k < 100 then gTxt r (k + 1) (ad n m.size) else n
def o1 (o : SO) (n : Int) : Int := ad (ad (ad n o.name.size) o.kinds.size) (ten o.marks.length)
def f1 (f : SF) (n : Int) : Int := ad (ad (ad n f.name.size) f.kinds.size) f.ret.size
def c1 (c : SC) (n : Int) : Int := ad (ad (ad (ad n c.a.size) c.b.size) c.tag.size) (ten c.args.length)
def oN (o : SO) (n : Int) : Int := gTxt (o.marks.map (·.tag)) 0 (o1 o n)
def cN (c : SC) (n : Int) : Int := gTxt c.args 0 (c1 c n)
def gAll {α : Type} (f : α → Int → Int) (B : Int) : List α → Int → Option Int
  | [], n => some n
  | x :: r, n => if B < f x n then none else gAll f B r (f x n)
def greatB (s : SS) (most : Int) : Bool := decide (most < s.objs.length) || (decide (most < s.fns.length) || (decide (most < s.cons.length) || (((gAll oN 30000 s.objs 0).bind fun n => (gAll f1 30000 s.fns n).bind fun n => gAll cN 60000 s.cons n).isNone)))

theorem gTxt_step {l : List ByteArray} {j : Nat} (hj : j < l.length) (h : j < 100) (n : Int) : gTxt (l.drop j) j n = gTxt (l.drop (j + 1)) (j + 1) (ad n l[j].size) := by
  rw [List.drop_eq_getElem_cons hj, gTxt, if_pos h]
theorem gTxt_end {l : List ByteArray} (n : Int) : gTxt (l.drop l.length) l.length n = n := by
  rw [List.drop_length]
  rfl
theorem gTxt_hundred {l : List ByteArray} {j : Nat} (h : ¬ j < 100) (n : Int) : gTxt (l.drop j) j n = n := by
  cases l.drop j with
  | nil => rfl
  | cons a r => rw [gTxt, if_neg h]
theorem gAll_step {α : Type} {f : α → Int → Int} {B : Int} {l : List α} {k : Nat} (hk : k < l.length) (n : Int) : gAll f B (l.drop k) n = if B < f l[k] n then none else gAll f B (l.drop (k + 1)) (f l[k] n) := by
  rw [List.drop_eq_getElem_cons hk]
  rfl
theorem gAll_end {α : Type} {f : α → Int → Int} {B : Int} {l : List α} (n : Int) : gAll f B (l.drop l.length) n = some n := by
  rw [List.drop_length]
  rfl

set_option maxHeartbeats 16000000 in
set_option maxRecDepth 100000 in
theorem great_any (s : MS) (most : Int) (w : World) (hs : SysM w s) : Calls Tryz.prog 8 #[s.val, .int .i64 most] w (BPost (greatB s.sys most) w) := by
  have HO := Lib.hid (fun W (hb : Below w.heap.size w W) => hs.o.below hb)
  have HF := Lib.hid (fun W (hb : Below w.heap.size w W) => hs.f.below hb)
  have HC := Lib.hid (fun W (hb : Below w.heap.size w W) => hs.c.below hb)
  have HM : Hid (∀ W, Below w.heap.size w W → ∀ x ∈ s.os, Tbl W x.mA 2 (x.o.marks.map mkRow)) := Lib.hid (fun W hb x hx => ((hs.ok x hx).below hb).m)
  have HG : Hid (∀ W, Below w.heap.size w W → ∀ x ∈ s.cs, Rd W x.aA (x.c.args.map Value.string)) := Lib.hid (fun W hb x hx => ((hs.ck x hx).below hb).g)
  have HML : Hid (∀ x ∈ s.os, x.o.marks.length ≤ maxLen) := Lib.hid (fun x hx => (hs.ok x hx).ml)
  have HGL : Hid (∀ x ∈ s.cs, x.c.args.length ≤ maxLen) := Lib.hid (fun x hx => (hs.ck x hx).gl)
  have hol := hs.ol
  have hfl := hs.fl
  have hcl := hs.cl
  unfold maxLen at hol hfl hcl HML HGL
  clear hs
  unfold BPost
  obtain ⟨oA, oc, os, fA, fc, fs, cA, cc, cs⟩ := s
  unfold MS.val MS.sys
  dsimp only at *
  obtain ⟨no, hNo⟩ : ∃ n, Hid (n = os.length) := ⟨_, Lib.hid rfl⟩
  obtain ⟨nf, hNf⟩ : ∃ n, Hid (n = fs.length) := ⟨_, Lib.hid rfl⟩
  obtain ⟨nc, hNc⟩ : ∃ n, Hid (n = cs.length) := ⟨_, Lib.hid rfl⟩
  obtain ⟨V, hV⟩ : ∃ V, Hid (V = greatB ⟨os.map (·.o), fs, cs.map (·.c)⟩ most) := ⟨_, Lib.hid rfl⟩
  rw [← hV.out, ← hNo.out, ← hNf.out, ← hNc.out]
  rw [← hNo.out] at hol
  rw [← hNf.out] at hfl
  rw [← hNc.out] at hcl
  obtain ⟨L, hL⟩ : ∃ L, Hid (L = cs.map (·.c)) := ⟨_, Lib.hid rfl⟩
  have hLn : Hid (L.length = nc) := Lib.hid (by rw [hL.out, List.length_map]; exact hNc.out.symm)
  obtain ⟨M, hM⟩ : ∃ M, Hid (M = os.map (·.o)) := ⟨_, Lib.hid rfl⟩
  have hMn : Hid (M.length = no) := Lib.hid (by rw [hM.out, List.length_map]; exact hNo.out.symm)
  have hV1 : Hid (V = (decide (most < (no : Int)) || (decide (most < (nf : Int)) || (decide (most < (nc : Int)) || (((gAll oN 30000 (M.drop 0) 0).bind fun n => (gAll f1 30000 (fs.drop 0) n).bind fun n => gAll cN 60000 (L.drop 0) n).isNone))))) := Lib.hid (by
    rw [hV.out, hL.out, hM.out]
    unfold greatB
    dsimp only
    rw [List.length_map, List.length_map, ← hNo.out, ← hNf.out, ← hNc.out]
    rfl)
  clear hV
  go_enter Tryz.func8, Tryz.ntmps8
  have X2 := Lib.hid (SR.new w #[.slice oA no oc, .slice fA nf fc, .slice cA nc cc])
  by_cases h0 : most < (no : Int)
  · have d0 : decide (most < (no : Int)) = true := decide_eq_true h0
    have q := Lib.hid d0
    have hv : Hid (true = V) := Lib.hid (by rw [hV1.out, q.out]; simp)
    clear h0
    go_wp2_with fail
    go_ret
    exact ⟨congrArg (fun z => Ending.returned (.bool z)) hv.out, X2.out.1⟩
  have d0 : decide (most < (no : Int)) = false := decide_eq_false h0
  have q0 := Lib.hid d0
  clear h0
  by_cases h1 : most < (nf : Int)
  · have d1 : decide (most < (nf : Int)) = true := decide_eq_true h1
    have q := Lib.hid d1
    have hv : Hid (true = V) := Lib.hid (by rw [hV1.out, q0.out, q.out]; simp)
    clear h1
    go_wp2_with fail
    go_ret
    exact ⟨congrArg (fun z => Ending.returned (.bool z)) hv.out, X2.out.1⟩
  have d1 : decide (most < (nf : Int)) = false := decide_eq_false h1
  have q1 := Lib.hid d1
  clear h1
  by_cases h2 : most < (nc : Int)
  · have d2 : decide (most < (nc : Int)) = true := decide_eq_true h2
    have q := Lib.hid d2
    have hv : Hid (true = V) := Lib.hid (by rw [hV1.out, q0.out, q1.out, q.out]; simp)
    clear h2
    go_wp2_with fail
    go_ret
    exact ⟨congrArg (fun z => Ending.returned (.bool z)) hv.out, X2.out.1⟩
  have d2 : decide (most < (nc : Int)) = false := decide_eq_false h2
  have q2 := Lib.hid d2
  clear h2
  have hV2 : Hid (V = ((gAll oN 30000 (M.drop 0) 0).bind fun n => (gAll f1 30000 (fs.drop 0) n).bind fun n => gAll cN 60000 (L.drop 0) n).isNone) := Lib.hid (by rw [hV1.out, q0.out, q1.out, q2.out]; rfl)
  clear hV1 q0 q1 q2
  have s0 := X2.out.2.cell 0
  simp only [List.getElem?_toArray, List.getElem?_cons_zero, List.getElem?_cons_succ] at s0
  go_wp2_with fail
  clear s0 d0 d1 d2
  go_loopw [5, 6] (fun v i wr => ∃ (k : Nat) (z : Int), k ≤ no ∧ i = .int .i64 k ∧ v = .int .i64 z ∧ Hid (V = ((gAll oN 30000 (M.drop k) z).bind fun n => (gAll f1 30000 (fs.drop 0) n).bind fun n => gAll cN 60000 (L.drop 0) n).isNone) ∧ Hid (SR w wr #[.slice oA no oc, .slice fA nf fc, .slice cA nc cc])) (fun _ i _ => no - (intOf i).toNat)
  case atStart => exact ⟨0, 0, by omega, rfl, rfl, hV2, X2⟩
  case round =>
    obtain ⟨k, z, hk, rfl, rfl, hG, HX⟩ := hrel
    clear hV2 X2
    rename World => wr
    have s0 := HX.out.2.cell 0
    simp only [List.getElem?_toArray, List.getElem?_cons_zero, List.getElem?_cons_succ] at s0
    by_cases hkl : k < no
    · have e1 : decide ((k : Int) < (no : Int)) = true := decide_eq_true (by omega)
      have hkx : k < os.length := by rw [← hNo.out]; exact hkl
      have hkM : k < M.length := by rw [hMn.out]; exact hkl
      obtain ⟨g, off, rfl, hg, c0, c1, c2⟩ := tbl_obj (HO.out wr HX.out.1) hkx
      have hLe : Hid (M[k] = os[k].o) := Lib.hid (by
        have e : M[k]? = some os[k].o := by rw [hM.out, List.getElem?_map, List.getElem?_eq_getElem hkx]; rfl
        rw [List.getElem?_eq_getElem hkM] at e
        exact Option.some.inj e)
      have hst := Lib.hid (gAll_step (f := oN) (B := 30000) hkM z)
      rw [hLe.out] at hst
      have HMk := Lib.hid (fun W hb => HM.out W hb os[k] (List.getElem_mem hkx))
      have HK : Hid (∀ W, Below w.heap.size w W → W.cell? ⟨g, off + k * 3 + 2, none⟩ = some (.slice os[k].mA os[k].o.marks.length os[k].mc)) := Lib.hid (fun W hb => by
        obtain ⟨g', o', e', _, _, _, c⟩ := tbl_obj (HO.out W hb) hkx
        injection e' with e'
        injection e' with e1' e2'
        subst e1'
        subst e2'
        exact c)
      have hmk := HML.out os[k] (List.getElem_mem hkx)
      clear hLe hkM
      generalize os[k] = x at *
      obtain ⟨⟨xn, xk, xm⟩, xA, xc⟩ := x
      dsimp only at *
      obtain ⟨ml, hml⟩ : ∃ n, Hid (n = xm.length) := ⟨_, Lib.hid rfl⟩
      have HK2 : Hid (∀ W, Below w.heap.size w W → W.cell? ⟨g, off + k * 3 + 2, none⟩ = some (.slice xA ml xc)) := Lib.hid (fun W hb => by rw [hml.out]; exact HK.out W hb)
      clear HK
      rw [← hml.out] at hmk c2
      obtain ⟨zn, hzn⟩ : ∃ z2, Hid (z2 = oN ⟨xn, xk, xm⟩ z) := ⟨_, Lib.hid rfl⟩
      rw [← hzn.out] at hst
      have hzi : Hid (zn = gTxt ((xm.map (·.tag)).drop 0) 0 (ad (ad (ad z xn.size) xk.size) (ten ml))) := Lib.hid (by rw [hzn.out, hml.out]; rfl)
      clear hzn
      go_wp2_with fail
      go_quiet (fail)
      have HX1 := Lib.hid (HX.out.drewN nq)
      clear s0 c0 c1 c2 HX
      go_wp2_with fail
      go_loopw [5, 7] (fun v i wx => ∃ (j : Nat) (y : Int), j ≤ ml ∧ i = .int .i64 j ∧ v = .int .i64 y ∧ Hid (zn = gTxt ((xm.map (·.tag)).drop j) j y) ∧ Hid (SR w wx #[.slice (some ⟨g, off, none⟩) no oc, .slice fA nf fc, .slice cA nc cc])) (fun _ i _ => ml - (intOf i).toNat)
      case atStart => exact ⟨0, _, by omega, rfl, rfl, hzi, HX1⟩
      case round =>
        obtain ⟨j, y, hj, rfl, rfl, hT, HX5⟩ := hrel
        clear hzi HX1
        rename World => wx
        have s0 := HX5.out.2.cell 0
        simp only [List.getElem?_toArray, List.getElem?_cons_zero, List.getElem?_cons_succ] at s0
        have k2 := HK2.out wx HX5.out.1
        by_cases hjl : j < ml
        · have e2 : decide ((j : Int) < (ml : Int)) = true := decide_eq_true (by omega)
          have hjx : j < xm.length := by rw [← hml.out]; exact hjl
          have hjT : j < (xm.map (·.tag)).length := by rw [List.length_map]; exact hjx
          by_cases hj1 : j < 100
          · have e3 : decide ((j : Int) < 100) = true := decide_eq_true (by omega)
            obtain ⟨g6, o6, rfl, hg6, m0, m1⟩ := tbl_mk (HMk.out wx HX5.out.1) hjx
            have hT2 : Hid (zn = gTxt ((xm.map (·.tag)).drop (j + 1)) (j + 1) (ad y xm[j].tag.size)) := Lib.hid (by rw [hT.out, gTxt_step hjT hj1, List.getElem_map])
            clear hT hjT
            generalize xm[j] = mj at *
            obtain ⟨ma, mt⟩ := mj
            dsimp only at *
            go_wp2_with fail
            try go_quiet (fail)
            go_wp2_with fail
            go_roundw
            case rel => exact ⟨j + 1, _, by omega, by go_num, rfl, hT2, HX5⟩
            case measure => simp [intOf]; omega
          · have e3 : decide ((j : Int) < 100) = false := decide_eq_false (by omega)
            have hy : Hid (zn = y) := Lib.hid (by rw [hT.out, gTxt_hundred hj1])
            clear hT hjT
            by_cases hb : 30000 < y
            · have db : decide ((30000 : Int) < y) = true := decide_eq_true hb
              have hv : Hid (true = V) := Lib.hid (by rw [hG.out, hst.out, hy.out, if_pos hb]; rfl)
              go_wp2_with fail
              go_ret
              exact ⟨congrArg (fun z => Ending.returned (.bool z)) hv.out, HX5.out.1⟩
            · have db : decide ((30000 : Int) < y) = false := decide_eq_false hb
              have hG2 : Hid (V = ((gAll oN 30000 (M.drop (k + 1)) y).bind fun n => (gAll f1 30000 (fs.drop 0) n).bind fun n => gAll cN 60000 (L.drop 0) n).isNone) := Lib.hid (by rw [hG.out, hst.out, hy.out, if_neg hb])
              have hbn := Int.not_lt.mp hb
              go_wp2_with fail
              go_roundw
              case rel => exact ⟨k + 1, y, by omega, by go_num, rfl, hG2, HX5⟩
              case measure => simp [intOf]; omega
        · have e2 : decide ((j : Int) < (ml : Int)) = false := decide_eq_false (by omega)
          have hy : Hid (zn = y) := Lib.hid (by
            obtain rfl : j = ml := by omega
            rw [hT.out]
            have e : (xm.map (·.tag)).length = j := by rw [List.length_map, hml.out]
            have := gTxt_end (l := xm.map (·.tag)) y
            rw [e] at this
            exact this)
          clear hT
          by_cases hb : 30000 < y
          · have db : decide ((30000 : Int) < y) = true := decide_eq_true hb
            have hv : Hid (true = V) := Lib.hid (by rw [hG.out, hst.out, hy.out, if_pos hb]; rfl)
            go_wp2_with fail
            go_ret
            exact ⟨congrArg (fun z => Ending.returned (.bool z)) hv.out, HX5.out.1⟩
          · have db : decide ((30000 : Int) < y) = false := decide_eq_false hb
            have hG2 : Hid (V = ((gAll oN 30000 (M.drop (k + 1)) y).bind fun n => (gAll f1 30000 (fs.drop 0) n).bind fun n => gAll cN 60000 (L.drop 0) n).isNone) := Lib.hid (by rw [hG.out, hst.out, hy.out, if_neg hb])
            have hbn := Int.not_lt.mp hb
            go_wp2_with fail
            go_roundw
            case rel => exact ⟨k + 1, y, by omega, by go_num, rfl, hG2, HX5⟩
            case measure => simp [intOf]; omega
    · obtain rfl : no = k := by omega
      have e1 : decide ((no : Int) < (no : Int)) = false := decide_eq_false (by omega)
      have hV2 : Hid (V = ((gAll f1 30000 (fs.drop 0) z).bind fun n => gAll cN 60000 (L.drop 0) n).isNone) := Lib.hid (by
        rw [hG.out]
        have := gAll_end (f := oN) (B := 30000) (l := M) z
        rw [hMn.out] at this
        rw [this]
        rfl)
      clear hG
      have s1 := HX.out.2.cell 1
      simp only [List.getElem?_toArray, List.getElem?_cons_zero, List.getElem?_cons_succ] at s1
      go_wp2_with fail
      clear s0 s1
      go_loopw [5, 8] (fun v i wx => ∃ (k : Nat) (z : Int), k ≤ nf ∧ i = .int .i64 k ∧ v = .int .i64 z ∧ Hid (V = ((gAll f1 30000 (fs.drop k) z).bind fun n => gAll cN 60000 (L.drop 0) n).isNone) ∧ Hid (SR w wx #[.slice oA no oc, .slice fA nf fc, .slice cA nc cc])) (fun _ i _ => nf - (intOf i).toNat)
      case atStart => exact ⟨0, z, by omega, rfl, rfl, hV2, HX⟩
      case round =>
        obtain ⟨k, z2, hk2, rfl, rfl, hG, HX2⟩ := hrel
        clear hV2 HX
        rename World => wr2
        have s1 := HX2.out.2.cell 1
        simp only [List.getElem?_toArray, List.getElem?_cons_zero, List.getElem?_cons_succ] at s1
        by_cases hkl : k < nf
        · have e1 : decide ((k : Int) < (nf : Int)) = true := decide_eq_true (by omega)
          have hkx : k < fs.length := by rw [← hNf.out]; exact hkl
          obtain ⟨g, off, rfl, hg, c0, c1, c2⟩ := tbl_fn (HF.out wr2 HX2.out.1) hkx
          have hst := Lib.hid (gAll_step (f := f1) (B := 30000) hkx z2)
          generalize fs[k] = x at *
          obtain ⟨xn, xk, xr⟩ := x
          dsimp only at *
          obtain ⟨zn, hzn⟩ : ∃ z9, Hid (z9 = f1 ⟨xn, xk, xr⟩ z2) := ⟨_, Lib.hid rfl⟩
          rw [← hzn.out] at hst
          have hzi : Hid (wrap64 (wrap64 (wrap64 (z2 + xn.size) + xk.size) + xr.size) = zn) := Lib.hid (by rw [hzn.out]; rfl)
          clear hzn
          go_wp2_with fail
          go_quiet (fail)
          simp only [IntWalk.i64_left, hzi.out]
          have HX5 := Lib.hid (HX2.out.drewN nq)
          clear s1 c0 c1 c2 HX2
          by_cases hb : 30000 < zn
          · have db : decide ((30000 : Int) < zn) = true := decide_eq_true hb
            have hv : Hid (true = V) := Lib.hid (by rw [hG.out, hst.out, if_pos hb]; rfl)
            go_wp2_with fail
            go_ret
            exact ⟨congrArg (fun z => Ending.returned (.bool z)) hv.out, HX5.out.1⟩
          · have db : decide ((30000 : Int) < zn) = false := decide_eq_false hb
            have hG2 : Hid (V = ((gAll f1 30000 (fs.drop (k + 1)) zn).bind fun n => gAll cN 60000 (L.drop 0) n).isNone) := Lib.hid (by rw [hG.out, hst.out, if_neg hb])
            have hbn := Int.not_lt.mp hb
            go_wp2_with fail
            go_roundw
            case rel => exact ⟨k + 1, zn, by omega, by go_num, rfl, hG2, HX5⟩
            case measure => simp [intOf]; omega
        · obtain rfl : nf = k := by omega
          have e1 : decide ((nf : Int) < (nf : Int)) = false := decide_eq_false (by omega)
          have hV3 : Hid (V = (gAll cN 60000 (L.drop 0) z2).isNone) := Lib.hid (by
            rw [hG.out]
            have := gAll_end (f := f1) (B := 30000) (l := fs) z2
            rw [← hNf.out] at this
            rw [this]
            rfl)
          clear hG
          have s2 := HX2.out.2.cell 2
          simp only [List.getElem?_toArray, List.getElem?_cons_zero, List.getElem?_cons_succ] at s2
          go_wp2_with fail
          clear s1 s2
          go_loopw [5, 9] (fun v i wx => ∃ (k : Nat) (z : Int), k ≤ nc ∧ i = .int .i64 k ∧ v = .int .i64 z ∧ Hid (V = (gAll cN 60000 (L.drop k) z).isNone) ∧ Hid (SR w wx #[.slice oA no oc, .slice fA nf fc, .slice cA nc cc])) (fun _ i _ => nc - (intOf i).toNat)
          case atStart => exact ⟨0, z2, by omega, rfl, rfl, hV3, HX2⟩
          case round =>
            obtain ⟨k, z3, hk3, rfl, rfl, hG, HX3⟩ := hrel
            clear hV3 HX2
            rename World => wr3
            have s2 := HX3.out.2.cell 2
            simp only [List.getElem?_toArray, List.getElem?_cons_zero, List.getElem?_cons_succ] at s2
            by_cases hkl : k < nc
            · have e1 : decide ((k : Int) < (nc : Int)) = true := decide_eq_true (by omega)
              have hkx : k < cs.length := by rw [← hNc.out]; exact hkl
              have hkL : k < L.length := by rw [hLn.out]; exact hkl
              obtain ⟨g, off, rfl, hg, c0, c1, c2, c3, c4, c5⟩ := tbl_con (HC.out wr3 HX3.out.1) hkx
              have hLe : Hid (L[k] = cs[k].c) := Lib.hid (by
                have e : L[k]? = some cs[k].c := by rw [hL.out, List.getElem?_map, List.getElem?_eq_getElem hkx]; rfl
                rw [List.getElem?_eq_getElem hkL] at e
                exact Option.some.inj e)
              have hst := Lib.hid (gAll_step (f := cN) (B := 60000) hkL z3)
              rw [hLe.out] at hst
              have HGk := Lib.hid (fun W hb => HG.out W hb cs[k] (List.getElem_mem hkx))
              have hgk := HGL.out cs[k] (List.getElem_mem hkx)
              clear hLe hkL
              generalize cs[k] = x at *
              obtain ⟨⟨xo, xa, xb, xk, xt, xg⟩, xA, xc⟩ := x
              dsimp only at *
              obtain ⟨gl, hgl⟩ : ∃ n, Hid (n = xg.length) := ⟨_, Lib.hid rfl⟩
              rw [← hgl.out] at hgk c5
              obtain ⟨zn, hzn⟩ : ∃ z9, Hid (z9 = cN ⟨xo, xa, xb, xk, xt, xg⟩ z3) := ⟨_, Lib.hid rfl⟩
              rw [← hzn.out] at hst
              have hzi : Hid (zn = gTxt (xg.drop 0) 0 (ad (ad (ad (ad z3 xa.size) xb.size) xt.size) (ten gl))) := Lib.hid (by rw [hzn.out, hgl.out]; rfl)
              clear hzn
              have HX4 := Lib.hid (HX3.out.alloc (.cells #[.int .i64 xo, .string xa, .string xb, .int .i64 xk, .string xt, .slice xA gl xc] 36))
              have HB4 := Lib.hid (Box.new wr3 36 #[.int .i64 xo, .string xa, .string xb, .int .i64 xk, .string xt, .slice xA gl xc])
              go_upto_region 24 with fail
              generalize hW : wr3.alloc (.cells #[.int .i64 xo, .string xa, .string xb, .int .i64 xk, .string xt, .slice xA gl xc] 36) = W at *
              clear hW c0 c1 c2 c3 c4 c5 s2 HX3
              generalize wr3.heap.size = bm at *
              have b1 := HB4.out.cell 1
              have b2 := HB4.out.cell 2
              have b4 := HB4.out.cell 4
              have b5 := HB4.out.cell 5
              simp only [List.getElem?_toArray, List.getElem?_cons_zero, List.getElem?_cons_succ] at b1 b2 b4 b5
              go_wp2_with fail
              clear b1 b2 b4 b5
              go_loopw [5, 11] (fun v i wx => ∃ (j : Nat) (y : Int), j ≤ gl ∧ i = .int .i64 j ∧ v = .int .i64 y ∧ Hid (zn = gTxt (xg.drop j) j y) ∧ Hid (Box wx bm 36 #[.int .i64 xo, .string xa, .string xb, .int .i64 xk, .string xt, .slice xA gl xc]) ∧ Hid (SR w wx #[.slice oA no oc, .slice fA nf fc, .slice (some ⟨g, off, none⟩) nc cc])) (fun _ i _ => gl - (intOf i).toNat)
              case atStart => exact ⟨0, _, by omega, rfl, rfl, hzi, HB4, HX4⟩
              case round =>
                obtain ⟨j, y, hj, rfl, rfl, hT, HB5, HX5⟩ := hrel
                clear hzi HX4 HB4
                rename World => wx
                have b5 := HB5.out.cell 5
                simp only [List.getElem?_toArray, List.getElem?_cons_zero, List.getElem?_cons_succ] at b5
                by_cases hjl : j < gl
                · have e2 : decide ((j : Int) < (gl : Int)) = true := decide_eq_true (by omega)
                  have hjx : j < xg.length := by rw [← hgl.out]; exact hjl
                  by_cases hj1 : j < 100
                  · have e3 : decide ((j : Int) < 100) = true := decide_eq_true (by omega)
                    obtain ⟨g6, o6, rfl, _, hc6⟩ := (HGk.out wx HX5.out.1) (by rw [List.length_map]; omega)
                    have c6 := hc6 j (by rw [List.length_map]; exact hjx)
                    rw [List.getElem_map] at c6
                    clear hc6
                    have hT2 : Hid (zn = gTxt (xg.drop (j + 1)) (j + 1) (ad y xg[j].size)) := Lib.hid (by rw [hT.out, gTxt_step hjx hj1])
                    clear hT
                    generalize xg[j] = mt at *
                    go_wp2_with fail
                    go_roundw
                    case rel => exact ⟨j + 1, _, by omega, by go_num, rfl, hT2, HB5, HX5⟩
                    case measure => simp [intOf]; omega
                  · have e3 : decide ((j : Int) < 100) = false := decide_eq_false (by omega)
                    have hy : Hid (zn = y) := Lib.hid (by rw [hT.out, gTxt_hundred hj1])
                    clear hT
                    by_cases hb : 60000 < y
                    · have db : decide ((60000 : Int) < y) = true := decide_eq_true hb
                      have hv : Hid (true = V) := Lib.hid (by rw [hG.out, hst.out, hy.out, if_pos hb]; rfl)
                      go_wp2_with fail
                      go_ret
                      exact ⟨congrArg (fun z => Ending.returned (.bool z)) hv.out, HX5.out.1⟩
                    · have db : decide ((60000 : Int) < y) = false := decide_eq_false hb
                      have hG2 : Hid (V = (gAll cN 60000 (L.drop (k + 1)) y).isNone) := Lib.hid (by rw [hG.out, hst.out, hy.out, if_neg hb])
                      have hbn := Int.not_lt.mp hb
                      go_wp2_with fail
                      go_roundw
                      case rel => exact ⟨k + 1, y, by omega, by go_num, rfl, hG2, HX5⟩
                      case measure => simp [intOf]; omega
                · have e2 : decide ((j : Int) < (gl : Int)) = false := decide_eq_false (by omega)
                  have hy : Hid (zn = y) := Lib.hid (by
                    obtain rfl : j = gl := by omega
                    rw [hT.out]
                    have := gTxt_end (l := xg) y
                    rw [← hgl.out] at this
                    exact this)
                  clear hT
                  by_cases hb : 60000 < y
                  · have db : decide ((60000 : Int) < y) = true := decide_eq_true hb
                    have hv : Hid (true = V) := Lib.hid (by rw [hG.out, hst.out, hy.out, if_pos hb]; rfl)
                    go_wp2_with fail
                    go_ret
                    exact ⟨congrArg (fun z => Ending.returned (.bool z)) hv.out, HX5.out.1⟩
                  · have db : decide ((60000 : Int) < y) = false := decide_eq_false hb
                    have hG2 : Hid (V = (gAll cN 60000 (L.drop (k + 1)) y).isNone) := Lib.hid (by rw [hG.out, hst.out, hy.out, if_neg hb])
                    have hbn := Int.not_lt.mp hb
                    go_wp2_with fail
                    go_roundw
                    case rel => exact ⟨k + 1, y, by omega, by go_num, rfl, hG2, HX5⟩
                    case measure => simp [intOf]; omega
            · obtain rfl : nc = k := by omega
              have e1 : decide ((nc : Int) < (nc : Int)) = false := decide_eq_false (by omega)
              have hv : Hid (false = V) := Lib.hid (by
                rw [hG.out]
                have := gAll_end (f := cN) (B := 60000) (l := L) z3
                rw [hLn.out] at this
                rw [this]
                rfl)
              clear hG
              go_wp2_with fail
              go_ret
              exact ⟨congrArg (fun z => Ending.returned (.bool z)) hv.out, HX3.out.1⟩
  end Go.Proofs.YtjkhlcimcpfkjaaGreatDoor.sy

/-
  system: all cells of some kinds, of all objects: the program's.
-/
set_option linter.all false
namespace Go.Proofs.YtjkhlcimcpfkjaaGreatDoor.sy
open Go.RowKit Go.Proofs.YtjkhlcimcpfkjaaGreatDoor.mem
open Go.Proofs.YtjkhlcimcpfkjaaGreatDoor.nm (Tab tab_below cellTS StrPost held)

/-- a list of texts of the call's own -/
structure TL (w wr : World) (A : Option Addr) (cap : Nat) (l : List ByteArray) : Prop where
  seg : Seg wr 9 A cap (l.map Value.string)
  fr : Below w.heap.size w wr
  own : ∀ q ∈ blk A, w.heap.size ≤ q

theorem TL.nil {w wr : World} (h : Below w.heap.size w wr) : TL w wr none 0 [] := ⟨Seg.nil _ _, h, fun q hq => by cases hq⟩
theorem TL.on {w wr w2 : World} {A : Option Addr} {cap : Nat} {l : List ByteArray} (h : TL w wr A cap l) (hb : Below wr.heap.size wr w2) : TL w w2 A cap l := ⟨h.seg.kept (Fr.of_below hb []) (by simp), h.fr.trans (hb.mono h.fr.size), h.own⟩
theorem TL.push {w wr w2 : World} {A A2 : Option Addr} {cap cap2 : Nat} {l : List ByteArray} {s : ByteArray} {o : Obj} (h : TL w wr A cap l) (hs : Seg w2 9 A2 cap2 (l.map Value.string ++ [.string s])) (f : Fr (blk A) (wr.alloc o) w2) (hb : blk A2 = blk A ∨ blk A2 = [(wr.alloc o).heap.size]) : TL w w2 A2 cap2 (l ++ [s]) := by
  have f2 : Fr (blk A) wr w2 := ((Fr.refl [] wr).alloc o).trans f (fun g hg => (by cases hg)) (fun g hg => Or.inl hg)
  refine ⟨by simpa using hs, h.fr.trans (f2.below (fun g hg => h.own g hg) h.fr.size), fun q hq => ?_⟩
  rcases hb with e | e
  · exact h.own q (e ▸ hq)
  · rw [e, List.mem_singleton] at hq
    have := h.fr.size
    subst hq
    simp
    omega

def LPost (w : World) (l : List ByteArray) (e : Ending) (w' : World) : Prop := ∃ A cap, e = .returned (.slice A l.length cap) ∧ TL w w' A cap l

/-- an object's cells of some kinds -/
def cellsB (name : ByteArray) (p : UInt8 → Bool) : Nat → List UInt8 → List ByteArray
  | _, [] => []
  | j, b :: r => (if p b = true then [cellTS name (j : Int)] else []) ++ cellsB name p (j + 1) r
theorem cellsB_snoc (name : ByteArray) (p : UInt8 → Bool) : ∀ (l : List UInt8) (j : Nat) (b : UInt8), cellsB name p j (l ++ [b]) = cellsB name p j l ++ (if p b = true then [cellTS name ((j + l.length : Nat) : Int)] else [])
  | [], j, b => by simp [cellsB]
  | a :: r, j, b => by
    rw [List.cons_append, cellsB, cellsB, cellsB_snoc name p r (j + 1) b, List.append_assoc, List.length_cons, show j + 1 + r.length = j + (r.length + 1) by omega]
theorem cellsB_take {name : ByteArray} {p : UInt8 → Bool} {s : ByteArray} {i : Nat} (hi : i < s.size) : cellsB name p 0 (s.data.toList.take (i + 1)) = cellsB name p 0 (s.data.toList.take i) ++ (if p s[i] = true then [cellTS name (i : Int)] else []) := by
  rw [List.take_succ_eq_append_getElem (by rw [← Lib.size_eq]; exact hi), cellsB_snoc, List.length_take, Nat.min_eq_left (by rw [← Lib.size_eq]; omega), Nat.zero_add]
  simp
  rfl
theorem cellsB_len (name : ByteArray) (p : UInt8 → Bool) : ∀ (l : List UInt8) (j : Nat), (cellsB name p j l).length ≤ l.length
  | [], _ => by simp [cellsB]
  | b :: r, j => by
    have := cellsB_len name p r (j + 1)
    unfold cellsB
    rw [List.length_append, List.length_cons]
    split <;> simp <;> omega

def cellsL (p : UInt8 → Bool) (l : List SO) : List ByteArray := l.flatMap fun o => cellsB o.name p 0 o.kinds.data.toList
theorem cellsL_take {p : UInt8 → Bool} {l : List SO} {k : Nat} (hk : k < l.length) : cellsL p (l.take (k + 1)) = cellsL p (l.take k) ++ cellsB l[k].name p 0 l[k].kinds.data.toList := by
  unfold cellsL
  rw [List.take_succ_eq_append_getElem hk, List.flatMap_append]
  simp
theorem cellsL_len {p : UInt8 → Bool} : ∀ {l : List SO}, (∀ o ∈ l, o.kinds.size ≤ 64) → (cellsL p l).length ≤ l.length * 64
  | [], _ => by simp [cellsL]
  | o :: r, h => by
    have h1 := cellsL_len (p := p) (l := r) (fun x hx => h x (List.mem_cons_of_mem _ hx))
    have h2 := cellsB_len o.name p o.kinds.data.toList 0
    have h3 := h o List.mem_cons_self
    rw [Lib.size_eq] at h3
    unfold cellsL at h1 ⊢
    rw [List.flatMap_cons, List.length_append, List.length_cons]
    omega

def inB (q : ByteArray) (b : UInt8) : Bool := decide (0 ≤ Lib.indexByte q.data.toList b)

theorem byte_back (b : UInt8) : (b.toNat : Int).toNat.toUInt8 = b := by
  rw [Int.toNat_natCast]
  exact UInt8.ofNat_toNat

set_option maxHeartbeats 4000000 in
set_option maxRecDepth 100000 in
theorem cells_any (s : MS) (q : ByteArray) (w : World) (hs : SysM w s) (htab : Tab w) (ho : s.os.length ≤ 600) (hk : ∀ x ∈ s.os, x.o.kinds.size ≤ 64) : Calls Tryz.prog 39 #[s.val, .string q] w (LPost w (cellsL (inB q) (s.os.map (·.o)))) := by
  have HO := Lib.hid (fun W (hb : Below w.heap.size w W) => hs.o.below hb)
  have HN : Hid (∀ W, Below w.heap.size w W → ∀ x ∈ s.os, ∀ i : Int, Calls Tryz.prog 81 #[.string x.o.name, .int .i64 i] W (StrPost (cellTS x.o.name i) W)) := Lib.hid (fun W hb x hx i => nm.cell_any held x.o.name i W (hs.ok x hx).n (tab_below htab hb))
  have HI : Hid (∀ (b : UInt8) W, Calls Tryz.prog 80 #[.string q, .int .u8 (b.toNat : Int)] W fun e w' => e = .returned (.int .i64 (Lib.indexByte q.data.toList b)) ∧ w' = W) := Lib.hid (fun b W => by
    have h := Tryz.strings_IndexByte q (b.toNat : Int) W
    rw [byte_back] at h
    exact h)
  have HKs := Lib.hid hk
  unfold StrPost at HN
  obtain ⟨i0, hi0, hz0, hz1, hz2⟩ := info_parts tx.info_str
  have Hi := Lib.hid hi0
  have Hz0 := Lib.hid hz0
  have Hz1 := Lib.hid hz1
  have Hz2 := Lib.hid hz2
  clear hs htab hi0 hz0 hz1 hz2 hk
  obtain ⟨oA, oc, os, fA, fc, fs, cA, cc, cs⟩ := s
  unfold MS.val
  dsimp only at *
  obtain ⟨no, hNo⟩ : ∃ n, Hid (n = os.length) := ⟨_, Lib.hid rfl⟩
  rw [← hNo.out] at ho ⊢
  obtain ⟨L, hL⟩ : ∃ L, Hid (L = os.map (·.o)) := ⟨_, Lib.hid rfl⟩
  have hLn : Hid (L.length = no) := Lib.hid (by rw [hL.out, List.length_map]; exact hNo.out.symm)
  have hLk : Hid (∀ o ∈ L, o.kinds.size ≤ 64) := Lib.hid (fun o ho => by
    rw [hL.out] at ho
    obtain ⟨x, hx, rfl⟩ := List.mem_map.1 ho
    exact HKs.out x hx)
  rw [← hL.out]
  unfold LPost
  go_enter Tryz.func39, Tryz.ntmps39
  have hnil : Hid (TL w (w.alloc (.cells #[.slice oA no oc, .slice fA fs.length fc, .slice cA cs.length cc] 26)) none 0 (cellsL (inB q) (L.take 0))) := Lib.hid (TL.nil ((Fr.refl [] w).alloc _).all)
  go_wp2_with fail
  go_loopw [5, 12] (fun v i wr => ∃ (k : Nat) (A : Option Addr) (cap : Nat), k ≤ no ∧ i = .int .i64 k ∧ v = .slice A (cellsL (inB q) (L.take k)).length cap ∧ Hid (TL w wr A cap (cellsL (inB q) (L.take k)))) (fun _ i _ => no - (intOf i).toNat)
  case atStart => exact ⟨0, none, 0, by omega, rfl, rfl, hnil⟩
  case round =>
    obtain ⟨k, A, cap, hk, rfl, rfl, HT⟩ := hrel
    clear hnil
    rename World => wr
    by_cases hkl : k < no
    · have e1 : decide ((k : Int) < (no : Int)) = true := decide_eq_true (by omega)
      have hkx : k < os.length := by rw [← hNo.out]; exact hkl
      have hkL : k < L.length := by rw [hLn.out]; exact hkl
      obtain ⟨g, off, rfl, hg, c0, c1, c2⟩ := tbl_obj (HO.out wr HT.out.fr) hkx
      have hlen := cellsL_len (p := inB q) (l := L.take k) (fun o ho => hLk.out o (List.mem_of_mem_take ho))
      rw [List.length_take, Nat.min_eq_left (by omega)] at hlen
      have hlen2 : (cellsL (inB q) (L.take k)).length ≤ 40000 := by omega
      have hLe : Hid (L[k] = os[k].o) := Lib.hid (by
        have e : L[k]? = some os[k].o := by rw [hL.out, List.getElem?_map, List.getElem?_eq_getElem hkx]; rfl
        rw [List.getElem?_eq_getElem hkL] at e
        exact Option.some.inj e)
      have hnext := Lib.hid (cellsL_take (p := inB q) hkL)
      rw [hLe.out] at hnext
      have hks := HKs.out os[k] (List.getElem_mem hkx)
      have HNk := Lib.hid (fun W hb i => HN.out W hb os[k] (List.getElem_mem hkx) i)
      clear hlen hLe
      obtain ⟨l2, hl2⟩ : ∃ l, Hid (l = cellsL (inB q) (L.take (k + 1))) := ⟨_, Lib.hid rfl⟩
      rw [← hl2.out] at hnext
      generalize cellsL (inB q) (L.take k) = l1 at *
      generalize os[k] = x at *
      obtain ⟨⟨xn, xk, xm⟩, xA, xc⟩ := x
      dsimp only at *
      have HT1 := Lib.hid (HT.out.on ((Fr.refl [] wr).alloc (.cells #[.string xn, .string xk, .slice xA xm.length xc] 50)).all)
      have HB1 := Lib.hid (Box.new wr 50 #[.string xn, .string xk, .slice xA xm.length xc])
      have hlt := Lib.hid HT.out.fr.size
      go_wp2_with fail
      generalize hW : wr.alloc (.cells #[.string xn, .string xk, .slice xA xm.length xc] 50) = W at *
      have hbm := hlt
      clear hW c0 c1 c2 hlt HT
      generalize wr.heap.size = bm at *
      have hl0 : Hid (l1 = l1 ++ cellsB xn (inB q) 0 (xk.data.toList.take 0)) := Lib.hid (by simp [cellsB])
      have HT2 : Hid (TL w W A cap (l1 ++ cellsB xn (inB q) 0 (xk.data.toList.take 0))) := Lib.hid (by rw [← hl0.out]; exact HT1.out)
      have b1 := HB1.out.cell 1
      simp only [List.getElem?_toArray, List.getElem?_cons_zero, List.getElem?_cons_succ] at b1
      have hln : Hid (l1.length = (l1 ++ cellsB xn (inB q) 0 (xk.data.toList.take 0)).length) := Lib.hid (congrArg List.length hl0.out)
      go_wp2_with fail
      clear b1 HT1
      go_loopw [5, 19] (fun v i wx => ∃ (j : Nat) (A : Option Addr) (cap : Nat), j ≤ xk.size ∧ i = .int .i64 j ∧ v = .slice A (l1 ++ cellsB xn (inB q) 0 (xk.data.toList.take j)).length cap ∧ Hid (TL w wx A cap (l1 ++ cellsB xn (inB q) 0 (xk.data.toList.take j))) ∧ Hid (Box wx bm 50 #[.string xn, .string xk, .slice xA xm.length xc])) (fun _ i _ => xk.size - (intOf i).toNat)
      case atStart => exact ⟨0, A, cap, by omega, rfl, by rw [← hln.out], HT2, HB1⟩
      case round =>
        obtain ⟨j, A, cap, hj, rfl, rfl, HT3, HB3⟩ := hrel
        clear HT2 HB1 hln hl0
        rename World => wx
        by_cases hjl : j < xk.size
        · have e2 : decide ((j : Int) < (xk.size : Int)) = true := decide_eq_true (by omega)
          have b0 := HB3.out.cell 0
          have b1 := HB3.out.cell 1
          simp only [List.getElem?_toArray, List.getElem?_cons_zero, List.getElem?_cons_succ] at b0 b1
          have hl3 : (l1 ++ cellsB xn (inB q) 0 (xk.data.toList.take j)).length ≤ 50000 := by
            have h1 := cellsB_len xn (inB q) (xk.data.toList.take j) 0
            rw [List.length_take] at h1
            rw [List.length_append]
            omega
          have hnx : Hid (l1 ++ cellsB xn (inB q) 0 (xk.data.toList.take (j + 1)) = (l1 ++ cellsB xn (inB q) 0 (xk.data.toList.take j)) ++ (if inB q xk[j] = true then [cellTS xn (j : Int)] else [])) := Lib.hid (by rw [cellsB_take hjl, List.append_assoc])
          have HIj := Lib.hid (fun W => HI.out xk[j] W)
          have HNj := Lib.hid (fun W hb => HNk.out W hb (j : Int))
          have hin : Hid (inB q xk[j] = decide (0 ≤ Lib.indexByte q.data.toList xk[j])) := Lib.hid rfl
          obtain ⟨l4, hl4e⟩ : ∃ l, Hid (l = l1 ++ cellsB xn (inB q) 0 (xk.data.toList.take (j + 1))) := ⟨_, Lib.hid rfl⟩
          rw [← hl4e.out] at hnx
          generalize (l1 ++ cellsB xn (inB q) 0 (xk.data.toList.take j)) = l3 at *
          generalize Lib.indexByte q.data.toList xk[j] = z at *
          by_cases hz : 0 ≤ z
          · have d1 : decide (0 ≤ z) = true := decide_eq_true hz
            have hnx2 : Hid (l4 = l3 ++ [cellTS xn (j : Int)]) := Lib.hid (by rw [hnx.out, hin.out, d1, if_pos rfl])
            generalize cellTS xn (j : Int) = ct at *
            clear hz hnx hin
            go_wp2_with fail
            refine (HIj.out _).mono ?_
            rintro e w4 ⟨rfl, h4⟩
            subst h4
            go_wp2_with fail
            refine (HNj.out _ HT3.out.fr).mono ?_
            rintro e w5 ⟨rfl, hb5⟩
            have HT5 := Lib.hid (HT3.out.on hb5)
            have HB5 := Lib.hid (HB3.out.kept (Fr.of_below hb5 []) (by simp))
            clear hb5 HT3 HB3 b0 b1
            go_wp2_with (at_builtin; refine wpList_push rfl _ _ _ rfl (HT5.out.seg.alloc _) (by rw [List.length_map]) Tryz.underlying31 Hi.out Hz0.out Hz1.out Hz2.out rfl rfl rfl (new_cell _ _ _) rfl (by omega) (by omega) ?_; intro A7 cap7 w7 hs7 f7 hf7)
            have HT7 := Lib.hid (HT5.out.push hs7 f7 hf7)
            have HB7 : Hid (Box w7 bm 50 #[.string xn, .string xk, .slice xA xm.length xc]) := Lib.hid ((HB5.out.kept ((Fr.refl [] _).alloc _) (by simp)).kept f7 (HT5.out.seg.ne_box HB5.out (by decide)))
            rw [← hnx2.out] at HT7
            have hl4 : Hid (l3.length + 1 = l4.length) := Lib.hid (by rw [hnx2.out, List.length_append]; rfl)
            go_roundw
            case rel => exact ⟨j + 1, A7, cap7, by omega, by go_num, by rw [hl4.out, hl4e.out], by rw [hl4e.out] at HT7; exact HT7, HB7⟩
            case measure => simp [intOf]; omega
          · have d1 : decide (0 ≤ z) = false := decide_eq_false hz
            have hnx2 : Hid (l4 = l3) := Lib.hid (by rw [hnx.out, hin.out, d1, if_neg (by simp), List.append_nil])
            clear hz hnx hin
            go_wp2_with fail
            refine (HIj.out _).mono ?_
            rintro e w4 ⟨rfl, h4⟩
            subst h4
            rw [← hnx2.out] at HT3
            have hl4 : Hid (l3.length = l4.length) := Lib.hid (by rw [hnx2.out])
            go_wp2_with fail
            go_roundw
            case rel => exact ⟨j + 1, A, cap, by omega, by go_num, by rw [hl4.out, hl4e.out], by rw [hl4e.out] at HT3; exact HT3, HB3⟩
            case measure => simp [intOf]; omega
        · obtain rfl : j = xk.size := by omega
          have e2 : decide ((xk.size : Int) < (xk.size : Int)) = false := decide_eq_false (by omega)
          have hfull : Hid (l1 ++ cellsB xn (inB q) 0 (xk.data.toList.take xk.size) = l2) := Lib.hid (by rw [hnext.out, List.take_of_length_le (by rw [Lib.size_eq]; exact Nat.le_refl _)])
          rw [hfull.out] at HT3
          have hl4 : Hid ((l1 ++ cellsB xn (inB q) 0 (xk.data.toList.take xk.size)).length = l2.length) := Lib.hid (congrArg List.length hfull.out)
          go_wp2_with fail
          go_roundw
          case rel => exact ⟨k + 1, A, cap, by omega, by go_num, by rw [hl4.out, hl2.out], by rw [hl2.out] at HT3; exact HT3⟩
          case measure => simp [intOf]; omega
    · obtain rfl : k = no := by omega
      have e1 : decide ((k : Int) < (k : Int)) = false := decide_eq_false (by omega)
      have hall : Hid (L.take k = L) := Lib.hid (List.take_of_length_le (by rw [hLn.out]; exact Nat.le_refl _))
      rw [hall.out] at HT
      go_wp2_with fail
      go_ret
      exact ⟨A, cap, congrArg (fun z => Ending.returned (.slice A (cellsL (inB q) z).length cap)) hall.out, HT.out⟩
end Go.Proofs.YtjkhlcimcpfkjaaGreatDoor.sy

/-
  system: nodes and places: the program's.
-/
set_option linter.all false
namespace Go.Proofs.YtjkhlcimcpfkjaaGreatDoor.sy
open Go.RowKit Go.Proofs.YtjkhlcimcpfkjaaGreatDoor.mem
open Go.Proofs.YtjkhlcimcpfkjaaGreatDoor.nm (Tab tab_below)
open Go.Proofs.YtjkhlcimcpfkjaaGreatDoor.tx (rsS)

theorem goE_ok {α : Type} {chk : α → Int} {bad : α → α → Bool} : ∀ {p : Option α} {xs : List α}, goE chk bad p xs = 0 → ∀ x ∈ xs, chk x = 0
  | _, [], _, x, hx => by cases hx
  | p, y :: r, h, x, hx => by
    rw [goE] at h
    by_cases hy : chk y = 0
    · rw [if_pos hy] at h
      rcases List.mem_cons.1 hx with rfl | hx
      · exact hy
      · cases hb : badP bad p y with
        | true => rw [hb, cond_true] at h; cases h
        | false => rw [hb, cond_false] at h; exact goE_ok h x hx
    · rw [if_neg hy] at h
      exact absurd h hy
theorem thenE_ok {a b : Int} (h : thenE a b = 0) : a = 0 ∧ b = 0 := by
  unfold thenE at h
  split at h
  · exact ⟨‹_›, h⟩
  · exact absurd h ‹_›
theorem kinds_le {s : ByteArray} {a b : Nat} (h : kindsB s a b = true) : s.size ≤ b := by
  unfold kindsB at h
  simp at h
  exact h.2.2
theorem obj_ok {x : SO} (h : objE x = 0) : x.kinds.size ≤ 64 := by
  rw [objE_eq] at h
  unfold objI at h
  split at h
  · cases h
  · split at h
    · cases h
    · rename_i h2
      exact kinds_le (by simpa using h2)
theorem con_ok {c : SC} (h : conE c = 0) : c.args.length ≤ 7 := by
  unfold conE at h
  split at h
  · cases h
  · split at h
    · cases h
    · split at h
      · rename_i h3
        unfold rightB at h3
        split at h3
        · simp only [Bool.and_eq_true] at h3
          rcases hc : cutAt c.tag.toList with _ | ⟨l, r⟩
          · rw [callB_no hc] at h3
            exact absurd h3.2 (by simp)
          · have h4 := callB_yes (P := ⟨l.toArray⟩) (R := ⟨r.toArray⟩) (args := c.args) hc
            rw [h4] at h3
            simp only [Bool.and_eq_true, decide_eq_true_eq] at h3
            have := kinds_le h3.2.1
            omega
        · split at h3
          · simp only [Bool.and_eq_true, decide_eq_true_eq] at h3
            omega
          · simp only [Bool.and_eq_true, decide_eq_true_eq] at h3
            omega
      · cases h
structure ChkOk (s : SS) : Prop where
  o : s.objs.length ≤ 600
  f : s.fns.length ≤ 600
  c : s.cons.length ≤ 6000
  k : ∀ x ∈ s.objs, x.kinds.size ≤ 64
  g : ∀ c ∈ s.cons, c.args.length ≤ 7
theorem check_ok {s : SS} (h : checkE s = 0) : ChkOk s := by
  unfold checkE at h
  split at h
  · cases h
  · rename_i hn
    obtain ⟨h1, h2⟩ := thenE_ok h
    obtain ⟨_, h3⟩ := thenE_ok h2
    exact ⟨by omega, by omega, by omega, fun x hx => obj_ok (goE_ok h1 x hx), fun c hc => con_ok (goE_ok h3 c hc)⟩

/-- a constraint's nodes -/
def conN (c : SC) : List ByteArray := (c.a :: (if c.op = 1 then [] else [c.b])) ++ c.args.filter (fun a => !(a.size == 0))
def nodesL (s : SS) : List ByteArray := s.cons.flatMap conN ++ cellsL (inB ⟨#[112]⟩) s.objs
def placesL (s : SS) : List ByteArray := (cellsL (inB ⟨#[105, 112]⟩) s.objs ++ s.fns.map (·.name)) ++ (s.cons.filter fun c => c.op == 1).map (·.b)

theorem conN_len (c : SC) (h : c.args.length ≤ 7) : (conN c).length ≤ 9 := by
  unfold conN
  have := List.length_filter_le (fun a : ByteArray => !(a.size == 0)) c.args
  rw [List.length_append, List.length_cons]
  split <;> simp <;> omega
theorem flat_len {l : List SC} (h : ∀ c ∈ l, c.args.length ≤ 7) : (l.flatMap conN).length ≤ l.length * 9 := by
  induction l with
  | nil => simp
  | cons c r ih =>
    have h1 := ih (fun x hx => h x (List.mem_cons_of_mem _ hx))
    have h2 := conN_len c (h c List.mem_cons_self)
    rw [List.flatMap_cons, List.length_append, List.length_cons]
    omega
theorem flat_take {l : List SC} {k : Nat} (hk : k < l.length) : (l.take (k + 1)).flatMap conN = (l.take k).flatMap conN ++ conN l[k] := by
  rw [List.take_succ_eq_append_getElem hk, List.flatMap_append]
  simp
theorem filt_take {l : List ByteArray} {k : Nat} (hk : k < l.length) : (l.take (k + 1)).filter (fun a => !(a.size == 0)) = (l.take k).filter (fun a => !(a.size == 0)) ++ (if (l[k].size == 0) = true then [] else [l[k]]) := by
  rw [List.take_succ_eq_append_getElem hk, List.filter_append]
  congr 1
  cases h : (l[k].size == 0) <;> simp [List.filter_cons, h]

noncomputable def orNil (e : Int) (l : List ByteArray) : List (List UInt8) := if e = 0 then rsS (l.map tb) else []
def NPost (w : World) (R : List (List UInt8)) (e : Ending) (w' : World) : Prop := ∃ A cap, e = .returned (.slice A R.length cap) ∧ Rd w' A (R.map encStr) ∧ Below w.heap.size w w'
theorem TL.app {w wr w2 : World} {A A2 : Option Addr} {cap cap2 : Nat} {l m : List ByteArray} (h : TL w wr A cap l) (hs : Seg w2 9 A2 cap2 (l.map Value.string ++ m.map Value.string)) (f : Fr (blk A) wr w2) (hb : blk A2 = blk A ∨ blk A2 = [wr.heap.size]) : TL w w2 A2 cap2 (l ++ m) := by
  refine ⟨by rw [List.map_append]; exact hs, h.fr.trans (f.below (fun g hg => h.own g hg) h.fr.size), fun q hq => ?_⟩
  rcases hb with e | e
  · exact h.own q (e ▸ hq)
  · rw [e, List.mem_singleton] at hq
    have := h.fr.size
    omega
theorem TL.fresh {w w0 wr : World} {A : Option Addr} {cap : Nat} {l : List ByteArray} (h : TL w0 wr A cap l) (hb : Below w.heap.size w w0) : TL w wr A cap l := ⟨h.seg, hb.trans (h.fr.mono hb.size), fun q hq => Nat.le_trans hb.size (h.own q hq)⟩
theorem SR.push3 {w wr w2 : World} {xs : Array Value} {A : Option Addr} {cap : Nat} {l : List ByteArray} {o : Obj} (h : SR w wr xs) (ht : TL w wr A cap l) (f : Fr (blk A) (wr.alloc o) w2) : SR w w2 xs := by
  have f2 : Fr (blk A) wr w2 := ((Fr.refl [] wr).alloc o).trans f (fun g hg => (by cases hg)) (fun g hg => Or.inl hg)
  exact ⟨h.1.trans (f2.below (fun g hg => ht.own g hg) h.1.size), h.2.kept f2 (ht.seg.ne_box h.2 (by decide))⟩
theorem one_str (m : List ByteArray) : ∀ u ∈ m.map Value.string, u.oneCell' = true := by
  intro u hu
  obtain ⟨s, _, rfl⟩ := List.mem_map.1 hu
  rfl

set_option maxHeartbeats 8000000 in
set_option maxRecDepth 100000 in
theorem nodes_any (s : MS) (w : World) (hs : SysM w s) (htab : Tab w) : Calls Tryz.prog 12 #[s.val] w (NPost w (orNil (checkE s.sys) (nodesL s.sys))) := by
  have HCK := Lib.hid (fun W (hb : Below w.heap.size w W) => check_any s W (hs.below hb) (tab_below htab hb))
  have HCE := Lib.hid (fun W (hb : Below w.heap.size w W) h1 h2 => cells_any s ⟨#[112]⟩ W (hs.below hb) (tab_below htab hb) h1 h2)
  have HC := Lib.hid (fun W (hb : Below w.heap.size w W) => hs.c.below hb)
  have HG : Hid (∀ W, Below w.heap.size w W → ∀ x ∈ s.cs, Rd W x.aA (x.c.args.map Value.string)) := Lib.hid (fun W hb x hx => ((hs.ck x hx).below hb).g)
  have Hok := Lib.hid (fun h => check_ok (s := s.sys) h)
  have HR := Lib.hid (fun W A cap l => rising_any W A cap l)
  unfold IPost at HCK
  unfold LPost at HCE
  unfold RPost at HR
  obtain ⟨i0, hi0, hz0, hz1, hz2⟩ := info_parts tx.info_str
  have Hi := Lib.hid hi0
  have Hz0 := Lib.hid hz0
  have Hz1 := Lib.hid hz1
  have Hz2 := Lib.hid hz2
  clear hs htab hi0 hz0 hz1 hz2
  unfold NPost
  obtain ⟨V, hV⟩ : ∃ V, Hid (V = orNil (checkE s.sys) (nodesL s.sys)) := ⟨_, Lib.hid rfl⟩
  rw [← hV.out]
  obtain ⟨oA, oc, os, fA, fc, fs, cA, cc, cs⟩ := s
  unfold MS.val MS.sys at *
  dsimp only at *
  obtain ⟨E, hE⟩ : ∃ E, Hid (E = checkE ⟨os.map (·.o), fs, cs.map (·.c)⟩) := ⟨_, Lib.hid rfl⟩
  rw [← hE.out] at hV HCK Hok
  obtain ⟨no, hNo⟩ : ∃ n, Hid (n = os.length) := ⟨_, Lib.hid rfl⟩
  obtain ⟨nf, hNf⟩ : ∃ n, Hid (n = fs.length) := ⟨_, Lib.hid rfl⟩
  obtain ⟨nc, hNc⟩ : ∃ n, Hid (n = cs.length) := ⟨_, Lib.hid rfl⟩
  rw [← hNo.out, ← hNf.out, ← hNc.out] at HCK HCE ⊢
  go_enter Tryz.func12, Tryz.ntmps12
  have X0 := Lib.hid (SR.new w #[.slice oA no oc, .slice fA nf fc, .slice cA nc cc])
  go_wp2_with fail
  refine (HCK.out _ X0.out.1).mono ?_
  rintro e w2 ⟨rfl, hb2⟩
  have X2 := Lib.hid (X0.out.on hb2)
  clear hb2 X0 HCK
  by_cases hEz : E = 0
  rotate_left
  · have d0 : (E != 0) = true := by simpa using hEz
    have hv : Hid (V = []) := Lib.hid (by rw [hV.out]; unfold orNil; rw [if_neg hEz])
    clear hEz
    go_wp2_with fail
    go_ret
    exact ⟨none, 0, by rw [hv.out]; rfl, fun hz => by rw [hv.out] at hz; simp at hz, X2.out.1⟩
  have d0 : (E != 0) = false := by simpa using hEz
  have hok := Lib.hid (Hok.out hEz)
  have hV1 : Hid (V = rsS ((nodesL ⟨os.map (·.o), fs, cs.map (·.c)⟩).map tb)) := Lib.hid (by rw [hV.out]; unfold orNil; rw [if_pos hEz])
  clear hEz Hok hV
  have hno : no ≤ 600 := by have := hok.out.o; rw [List.length_map] at this; have := hNo.out; omega
  have hnc : nc ≤ 6000 := by have := hok.out.c; rw [List.length_map] at this; have := hNc.out; omega
  have hkk : Hid (∀ x ∈ os, x.o.kinds.size ≤ 64) := Lib.hid (fun x hx => hok.out.k x.o (List.mem_map_of_mem hx))
  have hgg : Hid (∀ x ∈ cs, x.c.args.length ≤ 7) := Lib.hid (fun x hx => hok.out.g x.c (List.mem_map_of_mem hx))
  obtain ⟨L, hL⟩ : ∃ L, Hid (L = cs.map (·.c)) := ⟨_, Lib.hid rfl⟩
  have hLn : Hid (L.length = nc) := Lib.hid (by rw [hL.out, List.length_map]; exact hNc.out.symm)
  have hLg : Hid (∀ c ∈ L, c.args.length ≤ 7) := Lib.hid (fun c hc => by
    rw [hL.out] at hc
    obtain ⟨x, hx, rfl⟩ := List.mem_map.1 hc
    exact hgg.out x hx)
  have s2 := X2.out.2.cell 2
  simp only [List.getElem?_toArray, List.getElem?_cons_zero, List.getElem?_cons_succ] at s2
  have hnil : Hid (TL w w2 none 0 ((L.take 0).flatMap conN)) := Lib.hid (TL.nil X2.out.1)
  go_wp2_with fail
  clear s2 d0
  go_loopw [3, 14] (fun v i wr => ∃ (k : Nat) (A : Option Addr) (cap : Nat), k ≤ nc ∧ i = .int .i64 k ∧ v = .slice A ((L.take k).flatMap conN).length cap ∧ Hid (TL w wr A cap ((L.take k).flatMap conN)) ∧ Hid (SR w wr #[.slice oA no oc, .slice fA nf fc, .slice cA nc cc])) (fun _ i _ => nc - (intOf i).toNat)
  case atStart => exact ⟨0, none, 0, by omega, rfl, rfl, hnil, X2⟩
  case round =>
    obtain ⟨k, A, cap, hk, rfl, rfl, HT, HX⟩ := hrel
    clear hnil X2
    rename World => wr
    by_cases hkl : k < nc
    · have e1 : decide ((k : Int) < (nc : Int)) = true := decide_eq_true (by omega)
      have hkx : k < cs.length := by rw [← hNc.out]; exact hkl
      have hkL : k < L.length := by rw [hLn.out]; exact hkl
      obtain ⟨g, off, rfl, hg, c0, c1, c2, c3, c4, c5⟩ := tbl_con (HC.out wr HT.out.fr) hkx
      have hlen := flat_len (l := L.take k) (fun c hc => hLg.out c (List.mem_of_mem_take hc))
      rw [List.length_take, Nat.min_eq_left (by omega)] at hlen
      have hlen2 : ((L.take k).flatMap conN).length ≤ 60000 := by omega
      have hLe : Hid (L[k] = cs[k].c) := Lib.hid (by
        have e : L[k]? = some cs[k].c := by rw [hL.out, List.getElem?_map, List.getElem?_eq_getElem hkx]; rfl
        rw [List.getElem?_eq_getElem hkL] at e
        exact Option.some.inj e)
      have hnext := Lib.hid (flat_take hkL)
      rw [hLe.out] at hnext
      have hag := hgg.out cs[k] (List.getElem_mem hkx)
      have HGk := Lib.hid (fun W hb => HG.out W hb cs[k] (List.getElem_mem hkx))
      clear hlen hLe
      obtain ⟨l2, hl2⟩ : ∃ l, Hid (l = (L.take (k + 1)).flatMap conN) := ⟨_, Lib.hid rfl⟩
      rw [← hl2.out] at hnext
      generalize (L.take k).flatMap conN = l1 at *
      generalize cs[k] = x at *
      obtain ⟨⟨xo, xa, xb, xk, xt, xg⟩, xA, xc⟩ := x
      dsimp only at *
      have HT1 := Lib.hid (HT.out.on ((Fr.refl [] wr).alloc (.cells #[.int .i64 xo, .string xa, .string xb, .int .i64 xk, .string xt, .slice xA xg.length xc] 36)).all)
      have HX1 := Lib.hid (HX.out.alloc (.cells #[.int .i64 xo, .string xa, .string xb, .int .i64 xk, .string xt, .slice xA xg.length xc] 36))
      have HB1 := Lib.hid (Box.new wr 36 #[.int .i64 xo, .string xa, .string xb, .int .i64 xk, .string xt, .slice xA xg.length xc])
      have b1 := HB1.out.cell 1
      simp only [List.getElem?_toArray, List.getElem?_cons_zero, List.getElem?_cons_succ] at b1
      go_upto_region 7 with fail
      have hlt := HT.out.fr.size
      generalize hW : wr.alloc (.cells #[.int .i64 xo, .string xa, .string xb, .int .i64 xk, .string xt, .slice xA xg.length xc] 36) = W at *
      clear hW c0 c1 c2 c3 c4 c5 HT HX
      generalize wr.heap.size = bm at *
      by_cases hop : xo = 1
      · have dop : (xo != 1) = false := by simpa using hop
        have hcn : Hid (l2 = l1 ++ [xa] ++ xg.filter (fun a => !(a.size == 0))) := Lib.hid (by rw [hnext.out]; unfold conN; rw [if_pos hop]; simp)
        clear hnext hop
        go_wp2_with (at_builtin; refine wpList_push rfl _ _ _ rfl (HT1.out.seg.alloc _) (by rw [List.length_map]) Tryz.underlying31 Hi.out Hz0.out Hz1.out Hz2.out rfl rfl rfl (new_cell _ _ _) rfl (by omega) (by omega) ?_; intro A3 cap3 w3 hs3 f3 hf3; have HB3 : Hid (Box w3 bm 36 #[.int .i64 xo, .string xa, .string xb, .int .i64 xk, .string xt, .slice xA xg.length xc]) := Lib.hid ((HB1.out.kept ((Fr.refl [] _).alloc _) (by simp)).kept f3 (HT1.out.seg.ne_box HB1.out (by decide))); have b0 := HB3.out.cell 0; have b5 := HB3.out.cell 5; simp only [List.getElem?_toArray, List.getElem?_cons_zero, List.getElem?_cons_succ] at b0 b5)
        have HT3 := Lib.hid (HT1.out.push hs3 f3 hf3)
        have HX3 := Lib.hid (HX1.out.push3 HT1.out f3)
        obtain ⟨l5, hl5e⟩ : ∃ l, Hid (l = l1 ++ [xa]) := ⟨_, Lib.hid rfl⟩
        rw [← hl5e.out] at HT3 hcn
        have hl5 : Hid (l5 ++ xg.filter (fun a => !(a.size == 0)) = l2) := Lib.hid hcn.out.symm
        have hl5n : Hid (l5.length = l1.length + 1) := Lib.hid (by rw [hl5e.out, List.length_append]; rfl)
        have hl5b : l5.length ≤ 60002 := by have := hl5n.out; omega
        clear hcn b0 b5 b1 dop hs3 f3 hf3 HT1 HB1 HX1
        have hl50 : Hid (l5 = l5 ++ (xg.take 0).filter (fun a => !(a.size == 0))) := Lib.hid (by simp)
        have hln : Hid (l5.length = (l5 ++ (xg.take 0).filter (fun a => !(a.size == 0))).length) := Lib.hid (congrArg List.length hl50.out)
        have HTi : Hid (TL w w3 A3 cap3 (l5 ++ (xg.take 0).filter (fun a => !(a.size == 0)))) := Lib.hid (by rw [← hl50.out]; exact HT3.out)
        clear HT3
        go_loopw [3, 34] (fun v i wx => ∃ (j : Nat) (A : Option Addr) (cap : Nat), j ≤ xg.length ∧ i = .int .i64 j ∧ v = .slice A (l5 ++ (xg.take j).filter (fun a => !(a.size == 0))).length cap ∧ Hid (TL w wx A cap (l5 ++ (xg.take j).filter (fun a => !(a.size == 0)))) ∧ Hid (Box wx bm 36 #[.int .i64 xo, .string xa, .string xb, .int .i64 xk, .string xt, .slice xA xg.length xc]) ∧ Hid (SR w wx #[.slice oA no oc, .slice fA nf fc, .slice (some ⟨g, off, none⟩) nc cc])) (fun _ i _ => xg.length - (intOf i).toNat)
        case atStart => exact ⟨0, A3, cap3, by omega, rfl, by rw [← hln.out, hl5n.out], HTi, HB3, HX3⟩
        case round =>
          obtain ⟨j, A, cap, hj, rfl, rfl, HT6, HB6, HX6⟩ := hrel
          clear HTi hln hl50
          rename World => wx
          by_cases hjl : j < xg.length
          · have e2 : decide ((j : Int) < (xg.length : Int)) = true := decide_eq_true (by omega)
            obtain ⟨g6, o6, rfl, _, hc6⟩ := (HGk.out wx HT6.out.fr) (by rw [List.length_map]; omega)
            have c6 := hc6 j (by rw [List.length_map]; exact hjl)
            rw [List.getElem_map] at c6
            clear hc6
            have hl6 : (l5 ++ (xg.take j).filter (fun a => !(a.size == 0))).length ≤ 70000 := by
              have h1 := List.length_filter_le (fun a : ByteArray => !(a.size == 0)) (xg.take j)
              rw [List.length_take] at h1
              rw [List.length_append]
              omega
            have hnx : Hid (l5 ++ (xg.take (j + 1)).filter (fun a => !(a.size == 0)) = (l5 ++ (xg.take j).filter (fun a => !(a.size == 0))) ++ (if (xg[j].size == 0) = true then [] else [xg[j]])) := Lib.hid (by rw [filt_take hjl, List.append_assoc])
            obtain ⟨l7, hl7⟩ : ∃ l, Hid (l = l5 ++ (xg.take (j + 1)).filter (fun a => !(a.size == 0))) := ⟨_, Lib.hid rfl⟩
            rw [← hl7.out] at hnx
            generalize (l5 ++ (xg.take j).filter (fun a => !(a.size == 0))) = l6 at *
            have hz := size_nil xg[j]
            generalize xg[j] = aj at *
            rcases hzz : (aj.size == 0) with _ | _ <;> rw [hzz] at hz
            · have hnx2 : Hid (l7 = l6 ++ [aj]) := Lib.hid (by rw [hnx.out, hzz]; rfl)
              clear hzz hnx
              go_wp2_with (at_builtin; refine wpList_push rfl _ _ _ rfl (HT6.out.seg.alloc _) (by rw [List.length_map]) Tryz.underlying31 Hi.out Hz0.out Hz1.out Hz2.out rfl rfl rfl (new_cell _ _ _) rfl (by omega) (by omega) ?_; intro A9 cap9 w9 hs9 f9 hf9; have HB9 : Hid (Box w9 bm 36 #[.int .i64 xo, .string xa, .string xb, .int .i64 xk, .string xt, .slice (some ⟨g6, o6, none⟩) xg.length xc]) := Lib.hid ((HB6.out.kept ((Fr.refl [] _).alloc _) (by simp)).kept f9 (HT6.out.seg.ne_box HB6.out (by decide))))
              have HT9 := Lib.hid (HT6.out.push hs9 f9 hf9)
              have HX9 := Lib.hid (HX6.out.push3 HT6.out f9)
              rw [← hnx2.out] at HT9
              have hlz : Hid (l6.length + 1 = l7.length) := Lib.hid (by rw [hnx2.out, List.length_append]; rfl)
              go_roundw
              case rel => exact ⟨j + 1, A9, cap9, by omega, by go_num, by rw [hlz.out, hl7.out], by rw [hl7.out] at HT9; exact HT9, HB9, HX9⟩
              case measure => simp [intOf]; omega
            · have hnx2 : Hid (l7 = l6) := Lib.hid (by rw [hnx.out, hzz]; simp)
              clear hzz hnx
              rw [← hnx2.out] at HT6
              have hlz : Hid (l6.length = l7.length) := Lib.hid (by rw [hnx2.out])
              go_wp2_with fail
              go_roundw
              case rel => exact ⟨j + 1, A, cap, by omega, by go_num, by rw [hlz.out, hl7.out], by rw [hl7.out] at HT6; exact HT6, HB6, HX6⟩
              case measure => simp [intOf]; omega
          · obtain rfl : j = xg.length := by omega
            have e2 : decide ((xg.length : Int) < (xg.length : Int)) = false := decide_eq_false (by omega)
            have hfull : Hid (l5 ++ (xg.take xg.length).filter (fun a => !(a.size == 0)) = l2) := Lib.hid (by rw [List.take_length, hl5.out])
            rw [hfull.out] at HT6
            have hlz : Hid ((l5 ++ (xg.take xg.length).filter (fun a => !(a.size == 0))).length = l2.length) := Lib.hid (congrArg List.length hfull.out)
            go_wp2_with fail
            go_roundw
            case rel => exact ⟨k + 1, A, cap, by omega, by go_num, by rw [hlz.out, hl2.out], by rw [hl2.out] at HT6; exact HT6, HX6⟩
            case measure => simp [intOf]; omega
      · have dop : (xo != 1) = true := by simpa using hop
        have hcn : Hid (l2 = l1 ++ [xa] ++ [xb] ++ xg.filter (fun a => !(a.size == 0))) := Lib.hid (by rw [hnext.out]; unfold conN; rw [if_neg hop]; simp)
        clear hnext hop
        go_upto_region 9 with (at_builtin; refine wpList_push rfl _ _ _ rfl (HT1.out.seg.alloc _) (by rw [List.length_map]) Tryz.underlying31 Hi.out Hz0.out Hz1.out Hz2.out rfl rfl rfl (new_cell _ _ _) rfl (by omega) (by omega) ?_; intro A3 cap3 w3 hs3 f3 hf3; have HB3 : Hid (Box w3 bm 36 #[.int .i64 xo, .string xa, .string xb, .int .i64 xk, .string xt, .slice xA xg.length xc]) := Lib.hid ((HB1.out.kept ((Fr.refl [] _).alloc _) (by simp)).kept f3 (HT1.out.seg.ne_box HB1.out (by decide))); have b0 := HB3.out.cell 0; have b2 := HB3.out.cell 2; simp only [List.getElem?_toArray, List.getElem?_cons_zero, List.getElem?_cons_succ] at b0 b2)
        have HT3 := Lib.hid (HT1.out.push hs3 f3 hf3)
        have HX3 := Lib.hid (HX1.out.push3 HT1.out f3)
        obtain ⟨l4, hl4e⟩ : ∃ l, Hid (l = l1 ++ [xa]) := ⟨_, Lib.hid rfl⟩
        rw [← hl4e.out] at HT3 hcn
        have hl4n : Hid (l1.length + 1 = l4.length) := Lib.hid (by rw [hl4e.out, List.length_append]; rfl)
        have hl4b : l4.length ≤ 60002 := by have := hl4n.out; omega
        rw [hl4n.out]
        clear b0 b1 dop hs3 f3 hf3 HT1 HB1 HX1
        go_wp2_with (at_builtin; refine wpList_push rfl _ _ _ rfl (HT3.out.seg.alloc _) (by rw [List.length_map]) Tryz.underlying31 Hi.out Hz0.out Hz1.out Hz2.out rfl rfl rfl (new_cell _ _ _) rfl (by omega) (by omega) ?_; intro A4 cap4 w4 hs4 f4 hf4; have HB4 : Hid (Box w4 bm 36 #[.int .i64 xo, .string xa, .string xb, .int .i64 xk, .string xt, .slice xA xg.length xc]) := Lib.hid ((HB3.out.kept ((Fr.refl [] _).alloc _) (by simp)).kept f4 (HT3.out.seg.ne_box HB3.out (by decide))); have b5 := HB4.out.cell 5; simp only [List.getElem?_toArray, List.getElem?_cons_zero, List.getElem?_cons_succ] at b5)
        have HT4 := Lib.hid (HT3.out.push hs4 f4 hf4)
        have HX4 := Lib.hid (HX3.out.push3 HT3.out f4)
        obtain ⟨l5, hl5e⟩ : ∃ l, Hid (l = l4 ++ [xb]) := ⟨_, Lib.hid rfl⟩
        rw [← hl5e.out] at HT4 hcn
        have hl5 : Hid (l5 ++ xg.filter (fun a => !(a.size == 0)) = l2) := Lib.hid hcn.out.symm
        have hl5n : Hid (l5.length = l4.length + 1) := Lib.hid (by rw [hl5e.out, List.length_append]; rfl)
        have hl5b : l5.length ≤ 60004 := by have := hl5n.out; omega
        clear hcn b2 b5 hs4 f4 hf4 HT3 HB3 HX3
        have hl50 : Hid (l5 = l5 ++ (xg.take 0).filter (fun a => !(a.size == 0))) := Lib.hid (by simp)
        have hln : Hid (l5.length = (l5 ++ (xg.take 0).filter (fun a => !(a.size == 0))).length) := Lib.hid (congrArg List.length hl50.out)
        have HTi : Hid (TL w w4 A4 cap4 (l5 ++ (xg.take 0).filter (fun a => !(a.size == 0)))) := Lib.hid (by rw [← hl50.out]; exact HT4.out)
        clear HT4
        go_loopw [3, 34] (fun v i wx => ∃ (j : Nat) (A : Option Addr) (cap : Nat), j ≤ xg.length ∧ i = .int .i64 j ∧ v = .slice A (l5 ++ (xg.take j).filter (fun a => !(a.size == 0))).length cap ∧ Hid (TL w wx A cap (l5 ++ (xg.take j).filter (fun a => !(a.size == 0)))) ∧ Hid (Box wx bm 36 #[.int .i64 xo, .string xa, .string xb, .int .i64 xk, .string xt, .slice xA xg.length xc]) ∧ Hid (SR w wx #[.slice oA no oc, .slice fA nf fc, .slice (some ⟨g, off, none⟩) nc cc])) (fun _ i _ => xg.length - (intOf i).toNat)
        case atStart => exact ⟨0, A4, cap4, by omega, rfl, by rw [← hln.out, hl5n.out], HTi, HB4, HX4⟩
        case round =>
          obtain ⟨j, A, cap, hj, rfl, rfl, HT6, HB6, HX6⟩ := hrel
          clear HTi hln hl50
          rename World => wx
          by_cases hjl : j < xg.length
          · have e2 : decide ((j : Int) < (xg.length : Int)) = true := decide_eq_true (by omega)
            obtain ⟨g6, o6, rfl, _, hc6⟩ := (HGk.out wx HT6.out.fr) (by rw [List.length_map]; omega)
            have c6 := hc6 j (by rw [List.length_map]; exact hjl)
            rw [List.getElem_map] at c6
            clear hc6
            have hl6 : (l5 ++ (xg.take j).filter (fun a => !(a.size == 0))).length ≤ 70000 := by
              have h1 := List.length_filter_le (fun a : ByteArray => !(a.size == 0)) (xg.take j)
              rw [List.length_take] at h1
              rw [List.length_append]
              omega
            have hnx : Hid (l5 ++ (xg.take (j + 1)).filter (fun a => !(a.size == 0)) = (l5 ++ (xg.take j).filter (fun a => !(a.size == 0))) ++ (if (xg[j].size == 0) = true then [] else [xg[j]])) := Lib.hid (by rw [filt_take hjl, List.append_assoc])
            obtain ⟨l7, hl7⟩ : ∃ l, Hid (l = l5 ++ (xg.take (j + 1)).filter (fun a => !(a.size == 0))) := ⟨_, Lib.hid rfl⟩
            rw [← hl7.out] at hnx
            generalize (l5 ++ (xg.take j).filter (fun a => !(a.size == 0))) = l6 at *
            have hz := size_nil xg[j]
            generalize xg[j] = aj at *
            rcases hzz : (aj.size == 0) with _ | _ <;> rw [hzz] at hz
            · have hnx2 : Hid (l7 = l6 ++ [aj]) := Lib.hid (by rw [hnx.out, hzz]; rfl)
              clear hzz hnx
              go_wp2_with (at_builtin; refine wpList_push rfl _ _ _ rfl (HT6.out.seg.alloc _) (by rw [List.length_map]) Tryz.underlying31 Hi.out Hz0.out Hz1.out Hz2.out rfl rfl rfl (new_cell _ _ _) rfl (by omega) (by omega) ?_; intro A9 cap9 w9 hs9 f9 hf9; have HB9 : Hid (Box w9 bm 36 #[.int .i64 xo, .string xa, .string xb, .int .i64 xk, .string xt, .slice (some ⟨g6, o6, none⟩) xg.length xc]) := Lib.hid ((HB6.out.kept ((Fr.refl [] _).alloc _) (by simp)).kept f9 (HT6.out.seg.ne_box HB6.out (by decide))))
              have HT9 := Lib.hid (HT6.out.push hs9 f9 hf9)
              have HX9 := Lib.hid (HX6.out.push3 HT6.out f9)
              rw [← hnx2.out] at HT9
              have hlz : Hid (l6.length + 1 = l7.length) := Lib.hid (by rw [hnx2.out, List.length_append]; rfl)
              go_roundw
              case rel => exact ⟨j + 1, A9, cap9, by omega, by go_num, by rw [hlz.out, hl7.out], by rw [hl7.out] at HT9; exact HT9, HB9, HX9⟩
              case measure => simp [intOf]; omega
            · have hnx2 : Hid (l7 = l6) := Lib.hid (by rw [hnx.out, hzz]; simp)
              clear hzz hnx
              rw [← hnx2.out] at HT6
              have hlz : Hid (l6.length = l7.length) := Lib.hid (by rw [hnx2.out])
              go_wp2_with fail
              go_roundw
              case rel => exact ⟨j + 1, A, cap, by omega, by go_num, by rw [hlz.out, hl7.out], by rw [hl7.out] at HT6; exact HT6, HB6, HX6⟩
              case measure => simp [intOf]; omega
          · obtain rfl : j = xg.length := by omega
            have e2 : decide ((xg.length : Int) < (xg.length : Int)) = false := decide_eq_false (by omega)
            have hfull : Hid (l5 ++ (xg.take xg.length).filter (fun a => !(a.size == 0)) = l2) := Lib.hid (by rw [List.take_length, hl5.out])
            rw [hfull.out] at HT6
            have hlz : Hid ((l5 ++ (xg.take xg.length).filter (fun a => !(a.size == 0))).length = l2.length) := Lib.hid (congrArg List.length hfull.out)
            go_wp2_with fail
            go_roundw
            case rel => exact ⟨k + 1, A, cap, by omega, by go_num, by rw [hlz.out, hl2.out], by rw [hl2.out] at HT6; exact HT6, HX6⟩
            case measure => simp [intOf]; omega
    · obtain rfl : k = nc := by omega
      have e1 : decide ((k : Int) < (k : Int)) = false := decide_eq_false (by omega)
      have hall : Hid (L.take k = L) := Lib.hid (List.take_of_length_le (by rw [hLn.out]; exact Nat.le_refl _))
      have hlq : Hid (((L.take k).flatMap conN).length = (L.flatMap conN).length) := Lib.hid (by rw [hall.out])
      rw [hall.out] at HT
      have hla := flat_len hLg.out
      rw [hLn.out] at hla
      have hlb := cellsL_len (p := inB ⟨#[112]⟩) (l := os.map (·.o)) (fun o ho => by
        obtain ⟨x, hx, rfl⟩ := List.mem_map.1 ho
        exact hkk.out x hx)
      rw [List.length_map, ← hNo.out] at hlb
      have hV3 : Hid (V = rsS ((L.flatMap conN ++ cellsL (inB ⟨#[112]⟩) (os.map (·.o))).map tb)) := Lib.hid (by rw [hV1.out, hL.out]; rfl)
      have CE := Lib.hid (HCE.out wr HX.out.1 hno hkk.out)
      clear HCE hV1 hall hLn hLg hL hkk hgg
      generalize L.flatMap conN = la at *
      generalize cellsL (inB ⟨#[112]⟩) (os.map (·.o)) = lb at *
      have s0 := HX.out.2.cell 0
      have s1 := HX.out.2.cell 1
      have s2 := HX.out.2.cell 2
      simp only [List.getElem?_toArray, List.getElem?_cons_zero, List.getElem?_cons_succ] at s0 s1 s2
      rw [hlq.out]
      go_wp2_with fail
      refine CE.out.mono ?_
      rintro e w5 ⟨A5, cap5, rfl, hT5⟩
      have HC5 := Lib.hid hT5
      have HT5 := Lib.hid (HT.out.on hT5.fr)
      clear hT5 s0 s1 s2 HT HX CE hlq
      have hla2 : la.length ≤ 60000 := by omega
      have hlb2 : lb.length ≤ 40000 := by omega
      clear hla hlb
      go_wp2_with (at_builtin; refine wpList_app rfl _ _ _ rfl HT5.out.seg HC5.out.seg.rd (by rw [List.length_map]) (by rw [List.length_map]) Tryz.underlying31 Hi.out Hz0.out Hz1.out Hz2.out rfl rfl rfl (one_str _) (by omega) (by omega) ?_; intro A6 cap6 w6 hs6 f6 hf6)
      have HT6 := Lib.hid (HT5.out.app hs6 f6 hf6)
      have K6 := HR.out w6 A6 cap6 (la ++ lb) HT6.out.seg (by rw [List.length_append]; omega)
      rw [← hV3.out, List.length_append] at K6
      have H6 := Lib.hid K6
      clear K6 hs6 f6 hf6 HR
      refine H6.out.mono ?_
      rintro e w7 ⟨cap7, rfl, hr7, f7⟩
      have R7 := Lib.hid hr7
      have B7 := Lib.hid (HT6.out.fr.trans (f7.below (fun g hg => HT6.out.own g hg) HT6.out.fr.size))
      clear hr7 f7 H6
      go_wp2_with fail
      go_ret
      exact ⟨A6, cap7, rfl, R7.out, B7.out⟩
end Go.Proofs.YtjkhlcimcpfkjaaGreatDoor.sy
