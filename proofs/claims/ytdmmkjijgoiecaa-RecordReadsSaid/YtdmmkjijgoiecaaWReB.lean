import Derived.Test.YtdmmkjijgoiecaaW1
set_option linter.all false
/-
  record: the reference's writer: a summary (gen_reB.py).
-/
namespace Go.Proofs.Ytdmmkjijgoiecaa.re
open Go.RowKit Go.Shelf Go.Proofs.Ytdmmkjijgoiecaa.mem Go.Proofs.Ytdmmkjijgoiecaa.sy Go.Proofs.Ytdmmkjijgoiecaa.vx Go.Proofs.Ytdmmkjijgoiecaa.vr Go.Proofs.Ytdmmkjijgoiecaa.po Go.Proofs.Ytdmmkjijgoiecaa.inn

/-- where the summary's own block lies, what was written, nothing else turned -/
structure SX (w0 : World) (g : Nat) (pA : Option Addr) (pc : Nat) (m : List (List UInt8)) (W : World) (bx : Nat) (row : Array Value) (evs : List Ev) (w : World) : Prop where
  rv : RV w0 g pA pc m evs w
  fr : Fr [g] W w
  bx : Box w bx 29 row
theorem SX.step {w0 : World} {g : Nat} {pA : Option Addr} {pc : Nat} {m : List (List UInt8)} {W : World} {bx : Nat} {row : Array Value} {evs e2 : List Ev} {w w2 : World} (h : SX w0 g pA pc m W bx row evs w) (hne : bx ≠ g) (x : RV w0 g pA pc m e2 w2) (f : Fr [g] w w2) : SX w0 g pA pc m W bx row e2 w2 :=
  ⟨x, frg_trans h.fr f, h.bx.kept f (by simpa using hne)⟩
theorem SX.alloc {w0 : World} {g : Nat} {pA : Option Addr} {pc : Nat} {m : List (List UInt8)} {W : World} {bx : Nat} {row : Array Value} {evs : List Ev} {w : World} (h : SX w0 g pA pc m W bx row evs w) (o : Obj) : SX w0 g pA pc m W bx row evs (w.alloc o) :=
  ⟨h.rv.bel ((Below.refl _ _).alloc (Nat.le_refl _) _), h.fr.alloc o, h.bx.kept ((Fr.refl [] _).alloc _) (by simp)⟩
theorem SX.ev {w0 : World} {g : Nat} {pA : Option Addr} {pc : Nat} {m : List (List UInt8)} {W : World} {bx : Nat} {row : Array Value} {evs e2 : List Ev} {w : World} (h : SX w0 g pA pc m W bx row evs w) (e : evs = e2) : SX w0 g pA pc m W bx row e2 w := e ▸ h

set_option maxRecDepth 100000 in
set_option maxHeartbeats 8000000 in
theorem v_sum {w0 : World} {g : Nat} {pA : Option Addr} {pc : Nat} {m : List (List UInt8)} {w : World} (hp : Rd w0 pA (m.map encStr)) (hm : m.length ≤ 1000000) (u : MU) (hu : SumM w0 u) (h : RV w0 g pA pc m [] w) (hl : (evSU u.su).length ≤ 1000000) :
    Calls Try.prog 21 #[.pointer (some ⟨g, 0, none⟩), u.val] w (RVP w0 g pA pc m (evSU u.su) w) := by
  obtain ⟨nm, gA, gc, gs, wA, wc, ws, kA, kc, ks, ⟨oA, oc, os, fA, fc, fs, cA, cc, cs⟩⟩ := u
  obtain ⟨hg, hw, hk, ho⟩ := hu
  have Ho := Lib.hid ho.o
  have Hf := Lib.hid ho.f
  have Hc := Lib.hid ho.c
  have Hok := Lib.hid ho.ok
  have Hck := Lib.hid ho.ck
  have Hg := Lib.hid hg
  have Hw := Lib.hid hw
  have Hk := Lib.hid hk
  unfold MU.val MU.row MU.su MS.sys at *
  dsimp only at *
  have hev : Hid (evSU ⟨nm, gs, ws, ks, ⟨os.map (·.o), fs, cs.map (·.c)⟩⟩ = (((((([] ++ [Ev.t nm]) ++ evL gs) ++ evL ws) ++ evL ks) ++ (Ev.n os.length :: os.flatMap (fun x => evO x.o))) ++ (Ev.n fs.length :: fs.flatMap (fun x => evF x))) ++ (Ev.n cs.length :: cs.flatMap (fun x => evC x.c))) := Lib.hid (by simp [evSU, evOs, evFs, evCs, List.flatMap_map])
  rw [hev.out] at hl ⊢
  have hl2 := hl
  simp only [List.length_append, List.length_cons, List.length_nil] at hl2
  have bo : os.length ≤ (os.flatMap (fun x => evO x.o)).length := flat_ge _ (fun x => by simp [evO]) os
  have bf : fs.length ≤ (fs.flatMap (fun x => evF x)).length := flat_ge _ (fun x => by simp [evF]) fs
  have bc : cs.length ≤ (cs.flatMap (fun x => evC x.c)).length := flat_ge _ (fun x => by simp [evC]) cs
  have VN := Lib.hid (fun (w1 : World) (e1 : List Ev) (k : Int) (x : RV w0 g pA pc m e1 w1) hh => v_num k x hh)
  have VT := Lib.hid (fun (w1 : World) (e1 : List Ev) (s : ByteArray) (x : RV w0 g pA pc m e1 w1) hh => v_txt hp hm s x hh)
  have VL := Lib.hid (fun (w1 : World) (e1 : List Ev) A c l hr (x : RV w0 g pA pc m e1 w1) hh => v_txts hp hm A c l hr x hh)
  unfold RVP at VN VT VL
  have hgl : g < w.heap.size := by
    obtain ⟨A, cap, hx, hs⟩ := RS.x h
    exact hx.lt
  obtain ⟨W, hWe⟩ : ∃ W, Hid (W = w.alloc (.cells #[.string nm, .slice gA gs.length gc, .slice wA ws.length wc, .slice kA ks.length kc, .slice oA os.length oc, .slice fA fs.length fc, .slice cA cs.length cc] 29)) := ⟨_, Lib.hid rfl⟩
  have hne : w.heap.size ≠ g := by omega
  have hfrW : Hid (Fr [g] w W) := Lib.hid (by rw [hWe.out]; exact (Fr.refl [g] w).alloc _)
  have X0 : Hid (SX w0 g pA pc m W w.heap.size #[.string nm, .slice gA gs.length gc, .slice wA ws.length wc, .slice kA ks.length kc, .slice oA os.length oc, .slice fA fs.length fc, .slice cA cs.length cc] [] W) := Lib.hid (by
    rw [hWe.out]
    exact ⟨h.bel ((Below.refl _ _).alloc (Nat.le_refl _) _), Fr.refl _ _, Box.new _ _ _⟩)
  have hfin : Hid (∀ e w2, SX w0 g pA pc m W w.heap.size #[.string nm, .slice gA gs.length gc, .slice wA ws.length wc, .slice kA ks.length kc, .slice oA os.length oc, .slice fA fs.length fc, .slice cA cs.length cc] e w2 → RV w0 g pA pc m e w2 ∧ Fr [g] w w2) := Lib.hid (fun e w2 s => ⟨s.rv, frg_trans hfrW.out s.fr⟩)
  clear hp hm h hg hw hk ho hl hev hgl
  go_enter Try.func21, Try.ntmps21
  go_upto_region 1 with fail
  rw [← hWe.out]
  clear hWe hfrW
  generalize w.heap.size = bx at *
  have y0 : W.cell? ⟨bx, 0, none⟩ = some (.string nm) := X0.out.bx.cell 0
  have K := Lib.hid (VT.out _ _ nm X0.out.rv (by simp only [List.length_append, List.length_cons, List.length_nil]; omega))
  go_wp2_with fail
  refine K.out.mono ?_
  rintro e w1 ⟨rfl, x, f⟩
  have X1 := Lib.hid (X0.out.step hne x f)
  clear x f K y0 X0
  have y0 : w1.cell? ⟨bx, 1, none⟩ = some (.slice gA gs.length gc) := X1.out.bx.cell 1
  have K := Lib.hid (VL.out _ _ gA gc gs Hg.out X1.out.rv (by simp only [List.length_append, List.length_cons, List.length_nil]; omega))
  go_wp2_with fail
  refine K.out.mono ?_
  rintro e w2 ⟨rfl, x, f⟩
  have X2 := Lib.hid (X1.out.step hne x f)
  clear x f K y0 X1
  have y0 : w2.cell? ⟨bx, 2, none⟩ = some (.slice wA ws.length wc) := X2.out.bx.cell 2
  have K := Lib.hid (VL.out _ _ wA wc ws Hw.out X2.out.rv (by simp only [List.length_append, List.length_cons, List.length_nil]; omega))
  go_wp2_with fail
  refine K.out.mono ?_
  rintro e w3 ⟨rfl, x, f⟩
  have X3 := Lib.hid (X2.out.step hne x f)
  clear x f K y0 X2
  have y0 : w3.cell? ⟨bx, 3, none⟩ = some (.slice kA ks.length kc) := X3.out.bx.cell 3
  have K := Lib.hid (VL.out _ _ kA kc ks Hk.out X3.out.rv (by simp only [List.length_append, List.length_cons, List.length_nil]; omega))
  go_wp2_with fail
  refine K.out.mono ?_
  rintro e w4 ⟨rfl, x, f⟩
  have X4 := Lib.hid (X3.out.step hne x f)
  clear x f K y0 X3
  have y0 : w4.cell? ⟨bx, 4, none⟩ = some (.slice oA os.length oc) := X4.out.bx.cell 4
  have K := Lib.hid (VN.out _ _ (os.length : Int) X4.out.rv (by simp only [List.length_append, List.length_cons, List.length_nil]; omega))
  go_wp2_with fail
  refine K.out.mono ?_
  rintro e w5 ⟨rfl, x, f⟩
  have X5 := Lib.hid (X4.out.step hne x f)
  clear x f K y0 X4
  have Yo : Hid (SX w0 g pA pc m W bx #[.string nm, .slice gA gs.length gc, .slice wA ws.length wc, .slice kA ks.length kc, .slice oA os.length oc, .slice fA fs.length fc, .slice cA cs.length cc] ((((([] ++ [Ev.t nm]) ++ evL gs) ++ evL ws) ++ evL ks) ++ (Ev.n os.length :: (os.take 0).flatMap (fun x => evO x.o))) w5) := Lib.hid (X5.out.ev (by simp))
  clear X5
  have y0 : w5.cell? ⟨bx, 4, none⟩ = some (.slice oA os.length oc) := Yo.out.bx.cell 4
  go_wp2_with fail
  clear y0
  go_loopw [4] (fun i wr => ∃ k : Nat, k ≤ os.length ∧ i = .int .i64 k ∧ Hid (SX w0 g pA pc m W bx #[.string nm, .slice gA gs.length gc, .slice wA ws.length wc, .slice kA ks.length kc, .slice oA os.length oc, .slice fA fs.length fc, .slice cA cs.length cc] ((((([] ++ [Ev.t nm]) ++ evL gs) ++ evL ws) ++ evL ks) ++ (Ev.n os.length :: (os.take k).flatMap (fun x => evO x.o))) wr)) (fun i _ => os.length - (intOf i).toNat)
  case atStart => exact ⟨0, by omega, rfl, Yo⟩
  case round =>
    obtain ⟨k, hk, rfl, X0⟩ := hrel
    clear Yo
    have y0 : wr.cell? ⟨bx, 4, none⟩ = some (.slice oA os.length oc) := X0.out.bx.cell 4
    by_cases hkl : k < os.length
    · have d1 : decide ((k : Int) < (os.length : Int)) = true := decide_eq_true (by omega)
      obtain ⟨b, off, rfl, hlt, c0, c1, c2⟩ := tbl_obj Ho.out hkl
      replace c0 := (X0.out.rv.be.cell (show b < w0.heap.size from hlt)).trans c0
      replace c1 := (X0.out.rv.be.cell (show b < w0.heap.size from hlt)).trans c1
      replace c2 := (X0.out.rv.be.cell (show b < w0.heap.size from hlt)).trans c2
      have hlk := flat_at (fun x => evO x.o) os k hkl
      try dsimp only at hlk
      have hnx : Hid (((((([] ++ [Ev.t nm]) ++ evL gs) ++ evL ws) ++ evL ks) ++ (Ev.n os.length :: (os.take k).flatMap (fun x => evO x.o))) ++ evO os[k].o = ((((([] ++ [Ev.t nm]) ++ evL gs) ++ evL ws) ++ evL ks) ++ (Ev.n os.length :: (os.take (k + 1)).flatMap (fun x => evO x.o)))) := Lib.hid (by rw [flat_next _ _ _ hkl]; simp only [List.append_assoc, List.cons_append])
      have hx0 := Hok.out os[k] (List.getElem_mem hkl)
      generalize os[k] = x at *
      obtain ⟨⟨xn, xk, xm⟩, xA, xc⟩ := x
      dsimp only at *
      have HM := Lib.hid hx0.m
      clear hx0
      have hlk2 : (evO ⟨xn, xk, xm⟩).length = 3 + (xm.flatMap evM).length := by simp [evO, evMs]; omega
      have bm_ : xm.length ≤ (xm.flatMap evM).length := flat_ge _ (fun x => by simp [evM]) xm
      obtain ⟨W2, hW2⟩ : ∃ W2, Hid (W2 = wr.alloc (.cells #[.string xn, .string xk, .slice xA xm.length xc] 76)) := ⟨_, Lib.hid rfl⟩
      have X1 : Hid (SX w0 g pA pc m W bx #[.string nm, .slice gA gs.length gc, .slice wA ws.length wc, .slice kA ks.length kc, .slice (some ⟨b, off, none⟩) os.length oc, .slice fA fs.length fc, .slice cA cs.length cc] ((((([] ++ [Ev.t nm]) ++ evL gs) ++ evL ws) ++ evL ks) ++ (Ev.n os.length :: (os.take k).flatMap (fun x => evO x.o))) W2) := Lib.hid (by rw [hW2.out]; exact X0.out.alloc _)
      have B1 : Hid (Box W2 wr.heap.size 76 #[.string xn, .string xk, .slice xA xm.length xc]) := Lib.hid (by rw [hW2.out]; exact Box.new _ _ _)
      have hnm : wr.heap.size ≠ g := by
        obtain ⟨A, cap, hx, hs⟩ := RS.x X0.out.rv
        have := hx.lt
        omega
      clear hlt
      go_upto_region 10 with fail
      rw [← hW2.out]
      generalize wr.heap.size = bm at *
      clear y0 c0 c1 c2 X0 hW2
      have z0 : W2.cell? ⟨bm, 0, none⟩ = some (.string xn) := B1.out.cell 0
      have K := Lib.hid (VT.out _ _ xn X1.out.rv (by simp only [List.length_append, List.length_cons, List.length_nil]; omega))
      go_wp2_with fail
      refine K.out.mono ?_
      rintro e w2 ⟨rfl, x, f⟩
      have X2 := Lib.hid (X1.out.step hne x f)
      have B2 := Lib.hid (B1.out.kept f (by simpa using hnm))
      clear x f K z0 X1 B1
      have z0 : w2.cell? ⟨bm, 1, none⟩ = some (.string xk) := B2.out.cell 1
      have K := Lib.hid (VT.out _ _ xk X2.out.rv (by simp only [List.length_append, List.length_cons, List.length_nil]; omega))
      go_wp2_with fail
      refine K.out.mono ?_
      rintro e w3 ⟨rfl, x, f⟩
      have X3 := Lib.hid (X2.out.step hne x f)
      have B3 := Lib.hid (B2.out.kept f (by simpa using hnm))
      clear x f K z0 X2 B2
      have z0 : w3.cell? ⟨bm, 2, none⟩ = some (.slice xA xm.length xc) := B3.out.cell 2
      have K := Lib.hid (VN.out _ _ (xm.length : Int) X3.out.rv (by simp only [List.length_append, List.length_cons, List.length_nil]; omega))
      go_wp2_with fail
      refine K.out.mono ?_
      rintro e w4 ⟨rfl, x, f⟩
      have X4 := Lib.hid (X3.out.step hne x f)
      have B4 := Lib.hid (B3.out.kept f (by simpa using hnm))
      clear x f K z0 X3 B3
      have Y1 : Hid (SX w0 g pA pc m W bx #[.string nm, .slice gA gs.length gc, .slice wA ws.length wc, .slice kA ks.length kc, .slice (some ⟨b, off, none⟩) os.length oc, .slice fA fs.length fc, .slice cA cs.length cc] (((((((([] ++ [Ev.t nm]) ++ evL gs) ++ evL ws) ++ evL ks) ++ (Ev.n os.length :: (os.take k).flatMap (fun x => evO x.o))) ++ [Ev.t xn]) ++ [Ev.t xk]) ++ (Ev.n xm.length :: (xm.take 0).flatMap evM)) w4) := Lib.hid (X4.out.ev (by simp))
      have z0 : w4.cell? ⟨bm, 2, none⟩ = some (.slice xA xm.length xc) := B4.out.cell 2
      go_wp2_with fail
      clear z0 X4
      go_loopw [6] (fun i wx => ∃ q : Nat, q ≤ xm.length ∧ i = .int .i64 q ∧ Hid (SX w0 g pA pc m W bx #[.string nm, .slice gA gs.length gc, .slice wA ws.length wc, .slice kA ks.length kc, .slice (some ⟨b, off, none⟩) os.length oc, .slice fA fs.length fc, .slice cA cs.length cc] (((((((([] ++ [Ev.t nm]) ++ evL gs) ++ evL ws) ++ evL ks) ++ (Ev.n os.length :: (os.take k).flatMap (fun x => evO x.o))) ++ [Ev.t xn]) ++ [Ev.t xk]) ++ (Ev.n xm.length :: (xm.take q).flatMap evM)) wx) ∧ Hid (Box wx bm 76 #[.string xn, .string xk, .slice xA xm.length xc])) (fun i _ => xm.length - (intOf i).toNat)
      case atStart => exact ⟨0, by omega, rfl, Y1, B4⟩
      case round =>
        obtain ⟨q, hq, rfl, X0, B0⟩ := hrel
        clear Y1 B4
        rename World => wx
        have z0 : wx.cell? ⟨bm, 2, none⟩ = some (.slice xA xm.length xc) := B0.out.cell 2
        by_cases hql : q < xm.length
        · have d1 : decide ((q : Int) < (xm.length : Int)) = true := decide_eq_true (by omega)
          obtain ⟨b2, off2, rfl, hlt2, c0, c1⟩ := tbl_mk HM.out hql
          have hql2 := flat_at evM xm q hql
          have hqx : Hid ((((((((([] ++ [Ev.t nm]) ++ evL gs) ++ evL ws) ++ evL ks) ++ (Ev.n os.length :: (os.take k).flatMap (fun x => evO x.o))) ++ [Ev.t xn]) ++ [Ev.t xk]) ++ (Ev.n xm.length :: (xm.take q).flatMap evM)) ++ evM xm[q] = (((((((([] ++ [Ev.t nm]) ++ evL gs) ++ evL ws) ++ evL ks) ++ (Ev.n os.length :: (os.take k).flatMap (fun x => evO x.o))) ++ [Ev.t xn]) ++ [Ev.t xk]) ++ (Ev.n xm.length :: (xm.take (q + 1)).flatMap evM))) := Lib.hid (by rw [flat_next _ _ _ hql]; simp only [List.append_assoc, List.cons_append])
          have hc0 : Hid (∀ e w1, RV w0 g pA pc m e w1 → w1.cell? ⟨b2, off2 + q * 2, none⟩ = some (.int .i64 xm[q].at_)) := Lib.hid (fun e w1 x => (x.be.cell (show b2 < w0.heap.size from hlt2)).trans c0)
          have hc1 : Hid (∀ e w1, RV w0 g pA pc m e w1 → w1.cell? ⟨b2, off2 + q * 2 + 1, none⟩ = some (.string xm[q].tag)) := Lib.hid (fun e w1 x => (x.be.cell (show b2 < w0.heap.size from hlt2)).trans c1)
          clear c0 c1 hlt2
          have hq3 : (evM xm[q]).length = 2 := rfl
          generalize xm[q] = y at *
          have c0 := hc0.out _ _ X0.out.rv
          have K := Lib.hid (VN.out _ _ y.at_ X0.out.rv (by simp only [List.length_append, List.length_cons, List.length_nil]; omega))
          go_wp2_with fail
          refine K.out.mono ?_
          rintro e w6 ⟨rfl, x, f⟩
          have X1 := Lib.hid (X0.out.step hne x f)
          have B1 := Lib.hid (B0.out.kept f (by simpa using hnm))
          clear x f K c0 z0 X0 B0
          have c1 := hc1.out _ _ X1.out.rv
          have z1 : w6.cell? ⟨bm, 2, none⟩ = some (.slice (some ⟨b2, off2, none⟩) xm.length xc) := B1.out.cell 2
          have K := Lib.hid (VT.out _ _ y.tag X1.out.rv (by simp only [List.length_append, List.length_cons, List.length_nil]; omega))
          go_wp2_with fail
          refine K.out.mono ?_
          rintro e w7 ⟨rfl, x, f⟩
          have X2 : Hid (SX w0 g pA pc m W bx #[.string nm, .slice gA gs.length gc, .slice wA ws.length wc, .slice kA ks.length kc, .slice (some ⟨b, off, none⟩) os.length oc, .slice fA fs.length fc, .slice cA cs.length cc] (((((((([] ++ [Ev.t nm]) ++ evL gs) ++ evL ws) ++ evL ks) ++ (Ev.n os.length :: (os.take k).flatMap (fun x => evO x.o))) ++ [Ev.t xn]) ++ [Ev.t xk]) ++ (Ev.n xm.length :: (xm.take (q + 1)).flatMap evM)) w7) := Lib.hid ((X1.out.step hne x f).ev (by rw [← hqx.out]; simp [evM]))
          have B2 := Lib.hid (B1.out.kept f (by simpa using hnm))
          clear x f K c1 z1 X1 B1
          go_wp2_with fail
          go_roundw
          case rel => exact ⟨q + 1, by omega, by go_num, X2, B2⟩
          case measure => simp [intOf]; omega
        · obtain rfl : q = xm.length := by omega
          have d1 : decide ((xm.length : Int) < (xm.length : Int)) = false := decide_eq_false (by omega)
          have X5 : Hid (SX w0 g pA pc m W bx #[.string nm, .slice gA gs.length gc, .slice wA ws.length wc, .slice kA ks.length kc, .slice (some ⟨b, off, none⟩) os.length oc, .slice fA fs.length fc, .slice cA cs.length cc] ((((([] ++ [Ev.t nm]) ++ evL gs) ++ evL ws) ++ evL ks) ++ (Ev.n os.length :: (os.take (k + 1)).flatMap (fun x => evO x.o))) wx) := Lib.hid (X0.out.ev (by rw [← hnx.out, List.take_length]; simp [evO, evMs]))
          clear X0
          go_wp2_with fail
          go_roundw
          case rel => exact ⟨k + 1, by omega, by go_num, X5⟩
          case measure => simp [intOf]; omega
    · obtain rfl : k = os.length := by omega
      have d1 : decide ((os.length : Int) < (os.length : Int)) = false := decide_eq_false (by omega)
      have X6 : Hid (SX w0 g pA pc m W bx #[.string nm, .slice gA gs.length gc, .slice wA ws.length wc, .slice kA ks.length kc, .slice oA os.length oc, .slice fA fs.length fc, .slice cA cs.length cc] ((((([] ++ [Ev.t nm]) ++ evL gs) ++ evL ws) ++ evL ks) ++ (Ev.n os.length :: os.flatMap (fun x => evO x.o))) wr) := Lib.hid (X0.out.ev (by rw [List.take_length]))
      clear X0
      have y0 : wr.cell? ⟨bx, 5, none⟩ = some (.slice fA fs.length fc) := X6.out.bx.cell 5
      have K := Lib.hid (VN.out _ _ (fs.length : Int) X6.out.rv (by simp only [List.length_append, List.length_cons, List.length_nil]; omega))
      go_wp2_with fail
      refine K.out.mono ?_
      rintro e w7 ⟨rfl, x, f⟩
      have X7 := Lib.hid (X6.out.step hne x f)
      clear x f K y0 X6
      have Yf : Hid (SX w0 g pA pc m W bx #[.string nm, .slice gA gs.length gc, .slice wA ws.length wc, .slice kA ks.length kc, .slice oA os.length oc, .slice fA fs.length fc, .slice cA cs.length cc] (((((([] ++ [Ev.t nm]) ++ evL gs) ++ evL ws) ++ evL ks) ++ (Ev.n os.length :: os.flatMap (fun x => evO x.o))) ++ (Ev.n fs.length :: (fs.take 0).flatMap (fun x => evF x))) w7) := Lib.hid (X7.out.ev (by simp))
      clear X7
      have y0 : w7.cell? ⟨bx, 5, none⟩ = some (.slice fA fs.length fc) := Yf.out.bx.cell 5
      go_wp2_with fail
      clear y0
      go_loopw [7] (fun i wr => ∃ k : Nat, k ≤ fs.length ∧ i = .int .i64 k ∧ Hid (SX w0 g pA pc m W bx #[.string nm, .slice gA gs.length gc, .slice wA ws.length wc, .slice kA ks.length kc, .slice oA os.length oc, .slice fA fs.length fc, .slice cA cs.length cc] (((((([] ++ [Ev.t nm]) ++ evL gs) ++ evL ws) ++ evL ks) ++ (Ev.n os.length :: os.flatMap (fun x => evO x.o))) ++ (Ev.n fs.length :: (fs.take k).flatMap (fun x => evF x))) wr)) (fun i _ => fs.length - (intOf i).toNat)
      case atStart => exact ⟨0, by omega, rfl, Yf⟩
      case round =>
        obtain ⟨k, hk, rfl, X0⟩ := hrel
        clear Yf
        have y0 : wr.cell? ⟨bx, 5, none⟩ = some (.slice fA fs.length fc) := X0.out.bx.cell 5
        by_cases hkl : k < fs.length
        · have d1 : decide ((k : Int) < (fs.length : Int)) = true := decide_eq_true (by omega)
          obtain ⟨b, off, rfl, hlt, c0, c1, c2⟩ := tbl_fn Hf.out hkl
          replace c0 := (X0.out.rv.be.cell (show b < w0.heap.size from hlt)).trans c0
          replace c1 := (X0.out.rv.be.cell (show b < w0.heap.size from hlt)).trans c1
          replace c2 := (X0.out.rv.be.cell (show b < w0.heap.size from hlt)).trans c2
          have hlk := flat_at (fun x => evF x) fs k hkl
          try dsimp only at hlk
          have hnx : Hid ((((((([] ++ [Ev.t nm]) ++ evL gs) ++ evL ws) ++ evL ks) ++ (Ev.n os.length :: os.flatMap (fun x => evO x.o))) ++ (Ev.n fs.length :: (fs.take k).flatMap (fun x => evF x))) ++ evF fs[k] = (((((([] ++ [Ev.t nm]) ++ evL gs) ++ evL ws) ++ evL ks) ++ (Ev.n os.length :: os.flatMap (fun x => evO x.o))) ++ (Ev.n fs.length :: (fs.take (k + 1)).flatMap (fun x => evF x)))) := Lib.hid (by rw [flat_next _ _ _ hkl]; simp only [List.append_assoc, List.cons_append])
          generalize fs[k] = x at *
          obtain ⟨xn, xk, xr⟩ := x
          dsimp only at *
          have hlk2 : (evF ⟨xn, xk, xr⟩).length = 3 := rfl
          obtain ⟨W2, hW2⟩ : ∃ W2, Hid (W2 = wr.alloc (.cells #[.string xn, .string xk, .string xr] 80)) := ⟨_, Lib.hid rfl⟩
          have X1 : Hid (SX w0 g pA pc m W bx #[.string nm, .slice gA gs.length gc, .slice wA ws.length wc, .slice kA ks.length kc, .slice oA os.length oc, .slice (some ⟨b, off, none⟩) fs.length fc, .slice cA cs.length cc] (((((([] ++ [Ev.t nm]) ++ evL gs) ++ evL ws) ++ evL ks) ++ (Ev.n os.length :: os.flatMap (fun x => evO x.o))) ++ (Ev.n fs.length :: (fs.take k).flatMap (fun x => evF x))) W2) := Lib.hid (by rw [hW2.out]; exact X0.out.alloc _)
          have B1 : Hid (Box W2 wr.heap.size 80 #[.string xn, .string xk, .string xr]) := Lib.hid (by rw [hW2.out]; exact Box.new _ _ _)
          have hnm : wr.heap.size ≠ g := by
            obtain ⟨A, cap, hx, hs⟩ := RS.x X0.out.rv
            have := hx.lt
            omega
          clear hlt
          go_upto_region 23 with fail
          rw [← hW2.out]
          generalize wr.heap.size = bm at *
          clear y0 c0 c1 c2 X0 hW2
          have z0 : W2.cell? ⟨bm, 0, none⟩ = some (.string xn) := B1.out.cell 0
          have K := Lib.hid (VT.out _ _ xn X1.out.rv (by simp only [List.length_append, List.length_cons, List.length_nil]; omega))
          go_wp2_with fail
          refine K.out.mono ?_
          rintro e w2 ⟨rfl, x, f⟩
          have X2 := Lib.hid (X1.out.step hne x f)
          have B2 := Lib.hid (B1.out.kept f (by simpa using hnm))
          clear x f K z0 X1 B1
          have z0 : w2.cell? ⟨bm, 1, none⟩ = some (.string xk) := B2.out.cell 1
          have K := Lib.hid (VT.out _ _ xk X2.out.rv (by simp only [List.length_append, List.length_cons, List.length_nil]; omega))
          go_wp2_with fail
          refine K.out.mono ?_
          rintro e w3 ⟨rfl, x, f⟩
          have X3 := Lib.hid (X2.out.step hne x f)
          have B3 := Lib.hid (B2.out.kept f (by simpa using hnm))
          clear x f K z0 X2 B2
          have z0 : w3.cell? ⟨bm, 2, none⟩ = some (.string xr) := B3.out.cell 2
          have K := Lib.hid (VT.out _ _ xr X3.out.rv (by simp only [List.length_append, List.length_cons, List.length_nil]; omega))
          go_wp2_with fail
          refine K.out.mono ?_
          rintro e w4 ⟨rfl, x, f⟩
          have X4 := Lib.hid (X3.out.step hne x f)
          have B4 := Lib.hid (B3.out.kept f (by simpa using hnm))
          clear x f K z0 X3 B3
          have Xe : Hid (SX w0 g pA pc m W bx #[.string nm, .slice gA gs.length gc, .slice wA ws.length wc, .slice kA ks.length kc, .slice oA os.length oc, .slice (some ⟨b, off, none⟩) fs.length fc, .slice cA cs.length cc] (((((([] ++ [Ev.t nm]) ++ evL gs) ++ evL ws) ++ evL ks) ++ (Ev.n os.length :: os.flatMap (fun x => evO x.o))) ++ (Ev.n fs.length :: (fs.take (k + 1)).flatMap (fun x => evF x))) w4) := Lib.hid (X4.out.ev (by rw [← hnx.out]; simp [evF, evC]))
          clear X4 B4
          go_wp2_with fail
          go_roundw
          case rel => exact ⟨k + 1, by omega, by go_num, Xe⟩
          case measure => simp [intOf]; omega
        · obtain rfl : k = fs.length := by omega
          have d1 : decide ((fs.length : Int) < (fs.length : Int)) = false := decide_eq_false (by omega)
          have X8 : Hid (SX w0 g pA pc m W bx #[.string nm, .slice gA gs.length gc, .slice wA ws.length wc, .slice kA ks.length kc, .slice oA os.length oc, .slice fA fs.length fc, .slice cA cs.length cc] (((((([] ++ [Ev.t nm]) ++ evL gs) ++ evL ws) ++ evL ks) ++ (Ev.n os.length :: os.flatMap (fun x => evO x.o))) ++ (Ev.n fs.length :: fs.flatMap (fun x => evF x))) wr) := Lib.hid (X0.out.ev (by rw [List.take_length]))
          clear X0
          have y0 : wr.cell? ⟨bx, 6, none⟩ = some (.slice cA cs.length cc) := X8.out.bx.cell 6
          have K := Lib.hid (VN.out _ _ (cs.length : Int) X8.out.rv (by simp only [List.length_append, List.length_cons, List.length_nil]; omega))
          go_wp2_with fail
          refine K.out.mono ?_
          rintro e w9 ⟨rfl, x, f⟩
          have X9 := Lib.hid (X8.out.step hne x f)
          clear x f K y0 X8
          have Yc : Hid (SX w0 g pA pc m W bx #[.string nm, .slice gA gs.length gc, .slice wA ws.length wc, .slice kA ks.length kc, .slice oA os.length oc, .slice fA fs.length fc, .slice cA cs.length cc] ((((((([] ++ [Ev.t nm]) ++ evL gs) ++ evL ws) ++ evL ks) ++ (Ev.n os.length :: os.flatMap (fun x => evO x.o))) ++ (Ev.n fs.length :: fs.flatMap (fun x => evF x))) ++ (Ev.n cs.length :: (cs.take 0).flatMap (fun x => evC x.c))) w9) := Lib.hid (X9.out.ev (by simp))
          clear X9
          have y0 : w9.cell? ⟨bx, 6, none⟩ = some (.slice cA cs.length cc) := Yc.out.bx.cell 6
          go_wp2_with fail
          clear y0
          go_loopw [9] (fun i wr => ∃ k : Nat, k ≤ cs.length ∧ i = .int .i64 k ∧ Hid (SX w0 g pA pc m W bx #[.string nm, .slice gA gs.length gc, .slice wA ws.length wc, .slice kA ks.length kc, .slice oA os.length oc, .slice fA fs.length fc, .slice cA cs.length cc] ((((((([] ++ [Ev.t nm]) ++ evL gs) ++ evL ws) ++ evL ks) ++ (Ev.n os.length :: os.flatMap (fun x => evO x.o))) ++ (Ev.n fs.length :: fs.flatMap (fun x => evF x))) ++ (Ev.n cs.length :: (cs.take k).flatMap (fun x => evC x.c))) wr)) (fun i _ => cs.length - (intOf i).toNat)
          case atStart => exact ⟨0, by omega, rfl, Yc⟩
          case round =>
            obtain ⟨k, hk, rfl, X0⟩ := hrel
            clear Yc
            have y0 : wr.cell? ⟨bx, 6, none⟩ = some (.slice cA cs.length cc) := X0.out.bx.cell 6
            by_cases hkl : k < cs.length
            · have d1 : decide ((k : Int) < (cs.length : Int)) = true := decide_eq_true (by omega)
              obtain ⟨b, off, rfl, hlt, c0, c1, c2, c3, c4, c5⟩ := tbl_con Hc.out hkl
              replace c0 := (X0.out.rv.be.cell (show b < w0.heap.size from hlt)).trans c0
              replace c1 := (X0.out.rv.be.cell (show b < w0.heap.size from hlt)).trans c1
              replace c2 := (X0.out.rv.be.cell (show b < w0.heap.size from hlt)).trans c2
              replace c3 := (X0.out.rv.be.cell (show b < w0.heap.size from hlt)).trans c3
              replace c4 := (X0.out.rv.be.cell (show b < w0.heap.size from hlt)).trans c4
              replace c5 := (X0.out.rv.be.cell (show b < w0.heap.size from hlt)).trans c5
              have hlk := flat_at (fun x => evC x.c) cs k hkl
              try dsimp only at hlk
              have hnx : Hid (((((((([] ++ [Ev.t nm]) ++ evL gs) ++ evL ws) ++ evL ks) ++ (Ev.n os.length :: os.flatMap (fun x => evO x.o))) ++ (Ev.n fs.length :: fs.flatMap (fun x => evF x))) ++ (Ev.n cs.length :: (cs.take k).flatMap (fun x => evC x.c))) ++ evC cs[k].c = ((((((([] ++ [Ev.t nm]) ++ evL gs) ++ evL ws) ++ evL ks) ++ (Ev.n os.length :: os.flatMap (fun x => evO x.o))) ++ (Ev.n fs.length :: fs.flatMap (fun x => evF x))) ++ (Ev.n cs.length :: (cs.take (k + 1)).flatMap (fun x => evC x.c)))) := Lib.hid (by rw [flat_next _ _ _ hkl]; simp only [List.append_assoc, List.cons_append])
              have hx0 := Hck.out cs[k] (List.getElem_mem hkl)
              generalize cs[k] = x at *
              obtain ⟨⟨xo, xa, xb, xk, xt, xg⟩, xA, xc⟩ := x
              dsimp only at *
              have HM := Lib.hid hx0.g
              clear hx0
              have hlk2 : (evC ⟨xo, xa, xb, xk, xt, xg⟩).length = 5 + (evL xg).length := by simp [evC]; omega
              obtain ⟨W2, hW2⟩ : ∃ W2, Hid (W2 = wr.alloc (.cells #[.int .i64 xo, .string xa, .string xb, .int .i64 xk, .string xt, .slice xA xg.length xc] 84)) := ⟨_, Lib.hid rfl⟩
              have X1 : Hid (SX w0 g pA pc m W bx #[.string nm, .slice gA gs.length gc, .slice wA ws.length wc, .slice kA ks.length kc, .slice oA os.length oc, .slice fA fs.length fc, .slice (some ⟨b, off, none⟩) cs.length cc] ((((((([] ++ [Ev.t nm]) ++ evL gs) ++ evL ws) ++ evL ks) ++ (Ev.n os.length :: os.flatMap (fun x => evO x.o))) ++ (Ev.n fs.length :: fs.flatMap (fun x => evF x))) ++ (Ev.n cs.length :: (cs.take k).flatMap (fun x => evC x.c))) W2) := Lib.hid (by rw [hW2.out]; exact X0.out.alloc _)
              have B1 : Hid (Box W2 wr.heap.size 84 #[.int .i64 xo, .string xa, .string xb, .int .i64 xk, .string xt, .slice xA xg.length xc]) := Lib.hid (by rw [hW2.out]; exact Box.new _ _ _)
              have hnm : wr.heap.size ≠ g := by
                obtain ⟨A, cap, hx, hs⟩ := RS.x X0.out.rv
                have := hx.lt
                omega
              clear hlt
              go_upto_region 31 with fail
              rw [← hW2.out]
              generalize wr.heap.size = bm at *
              clear y0 c0 c1 c2 c3 c4 c5 X0 hW2
              have z0 : W2.cell? ⟨bm, 0, none⟩ = some (.int .i64 xo) := B1.out.cell 0
              have K := Lib.hid (VN.out _ _ xo X1.out.rv (by simp only [List.length_append, List.length_cons, List.length_nil]; omega))
              go_wp2_with fail
              refine K.out.mono ?_
              rintro e w2 ⟨rfl, x, f⟩
              have X2 := Lib.hid (X1.out.step hne x f)
              have B2 := Lib.hid (B1.out.kept f (by simpa using hnm))
              clear x f K z0 X1 B1
              have z0 : w2.cell? ⟨bm, 1, none⟩ = some (.string xa) := B2.out.cell 1
              have K := Lib.hid (VT.out _ _ xa X2.out.rv (by simp only [List.length_append, List.length_cons, List.length_nil]; omega))
              go_wp2_with fail
              refine K.out.mono ?_
              rintro e w3 ⟨rfl, x, f⟩
              have X3 := Lib.hid (X2.out.step hne x f)
              have B3 := Lib.hid (B2.out.kept f (by simpa using hnm))
              clear x f K z0 X2 B2
              have z0 : w3.cell? ⟨bm, 2, none⟩ = some (.string xb) := B3.out.cell 2
              have K := Lib.hid (VT.out _ _ xb X3.out.rv (by simp only [List.length_append, List.length_cons, List.length_nil]; omega))
              go_wp2_with fail
              refine K.out.mono ?_
              rintro e w4 ⟨rfl, x, f⟩
              have X4 := Lib.hid (X3.out.step hne x f)
              have B4 := Lib.hid (B3.out.kept f (by simpa using hnm))
              clear x f K z0 X3 B3
              have z0 : w4.cell? ⟨bm, 3, none⟩ = some (.int .i64 xk) := B4.out.cell 3
              have K := Lib.hid (VN.out _ _ xk X4.out.rv (by simp only [List.length_append, List.length_cons, List.length_nil]; omega))
              go_wp2_with fail
              refine K.out.mono ?_
              rintro e w5 ⟨rfl, x, f⟩
              have X5 := Lib.hid (X4.out.step hne x f)
              have B5 := Lib.hid (B4.out.kept f (by simpa using hnm))
              clear x f K z0 X4 B4
              have z0 : w5.cell? ⟨bm, 4, none⟩ = some (.string xt) := B5.out.cell 4
              have K := Lib.hid (VT.out _ _ xt X5.out.rv (by simp only [List.length_append, List.length_cons, List.length_nil]; omega))
              go_wp2_with fail
              refine K.out.mono ?_
              rintro e w6 ⟨rfl, x, f⟩
              have X6 := Lib.hid (X5.out.step hne x f)
              have B6 := Lib.hid (B5.out.kept f (by simpa using hnm))
              clear x f K z0 X5 B5
              have z0 : w6.cell? ⟨bm, 5, none⟩ = some (.slice xA xg.length xc) := B6.out.cell 5
              have K := Lib.hid (VL.out _ _ xA xc xg HM.out X6.out.rv (by simp only [List.length_append, List.length_cons, List.length_nil]; omega))
              go_wp2_with fail
              refine K.out.mono ?_
              rintro e w7 ⟨rfl, x, f⟩
              have X7 := Lib.hid (X6.out.step hne x f)
              have B7 := Lib.hid (B6.out.kept f (by simpa using hnm))
              clear x f K z0 X6 B6
              have Xe : Hid (SX w0 g pA pc m W bx #[.string nm, .slice gA gs.length gc, .slice wA ws.length wc, .slice kA ks.length kc, .slice oA os.length oc, .slice fA fs.length fc, .slice (some ⟨b, off, none⟩) cs.length cc] ((((((([] ++ [Ev.t nm]) ++ evL gs) ++ evL ws) ++ evL ks) ++ (Ev.n os.length :: os.flatMap (fun x => evO x.o))) ++ (Ev.n fs.length :: fs.flatMap (fun x => evF x))) ++ (Ev.n cs.length :: (cs.take (k + 1)).flatMap (fun x => evC x.c))) w7) := Lib.hid (X7.out.ev (by rw [← hnx.out]; simp [evF, evC]))
              clear X7 B7
              go_wp2_with fail
              go_roundw
              case rel => exact ⟨k + 1, by omega, by go_num, Xe⟩
              case measure => simp [intOf]; omega
            · obtain rfl : k = cs.length := by omega
              have d1 : decide ((cs.length : Int) < (cs.length : Int)) = false := decide_eq_false (by omega)
              have X10 : Hid (SX w0 g pA pc m W bx #[.string nm, .slice gA gs.length gc, .slice wA ws.length wc, .slice kA ks.length kc, .slice oA os.length oc, .slice fA fs.length fc, .slice cA cs.length cc] ((((((([] ++ [Ev.t nm]) ++ evL gs) ++ evL ws) ++ evL ks) ++ (Ev.n os.length :: os.flatMap (fun x => evO x.o))) ++ (Ev.n fs.length :: fs.flatMap (fun x => evF x))) ++ (Ev.n cs.length :: cs.flatMap (fun x => evC x.c))) wr) := Lib.hid (X0.out.ev (by rw [List.take_length]))
              clear X0
              go_wp2_with fail
              go_end0
              exact ⟨rfl, hfin.out _ _ X10.out⟩
end Go.Proofs.Ytdmmkjijgoiecaa.re
