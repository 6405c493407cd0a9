import Derived.Test.YtdmmkjijgoiecaaWRe3
import Derived.Test.YtdmmkjijgoiecaaWRe4
import Derived.Test.YtdmmkjijgoiecaaW1
set_option linter.all false
/-
  record: Texts and Bytes.
-/
namespace Go.Proofs.Ytdmmkjijgoiecaa.re
open Go.RowKit Go.Shelf Go.Proofs.Ytdmmkjijgoiecaa.mem Go.Proofs.Ytdmmkjijgoiecaa.sy Go.Proofs.Ytdmmkjijgoiecaa.vx Go.Proofs.Ytdmmkjijgoiecaa.vr Go.Proofs.Ytdmmkjijgoiecaa.po Go.Proofs.Ytdmmkjijgoiecaa.inn

def RP (st : List UInt8 × Int) (w : World) (e : Ending) (w' : World) : Prop := e = .returned (.tuple #[.string (bs (doneS st)), .int .i64 st.2]) ∧ Below w.heap.size w w'

set_option maxRecDepth 100000 in
theorem bytes_any (w : World) (pb : Nat) (pA : Option Addr) (pc : Nat) (m : List (List UInt8)) (hp : Pl w pb pA pc m) (hs : m.Pairwise (fun a b => a < b)) (hm : m.length ≤ 1000000) (u : MU) (hu : SumM w u) (hl : (evSU u.su).length ≤ MX) :
    Calls Try.prog 10 #[.pointer (some ⟨pb, 0, none⟩), u.val] w (RP (foldE m (evSU u.su)) w) := by
  have S := sink_w (w.heap.size + 1) hp hs hm
  obtain ⟨W, hWe⟩ : ∃ W, Hid (W = (w.alloc (.cells u.row 29)).alloc (.cells #[.slice none 0 0, .int .i64 0, .pointer (some ⟨pb, 0, none⟩), .int .i64 0] 59)) := ⟨_, Lib.hid rfl⟩
  have hz : (w.alloc (.cells u.row 29)).heap.size = w.heap.size + 1 := Array.size_push _
  have hfW : Fr [] w W := by rw [hWe.out]; exact ((Fr.refl [] w).alloc _).alloc _
  have B0 : Box W w.heap.size 29 u.row := by rw [hWe.out]; exact (Box.new w _ _).kept ((Fr.refl [] _).alloc _) (by simp)
  have B1 : Box W (w.heap.size + 1) 59 #[.slice none 0 0, .int .i64 0, .pointer (some ⟨pb, 0, none⟩), .int .i64 0] := by
    rw [hWe.out, ← hz]; exact Box.new _ _ _
  have h0 : IW w (w.heap.size + 1) pb m [w.heap.size + 1] [] W := ⟨hfW.all, fun x hx => by rw [List.mem_singleton] at hx; omega, none, 0, rfl, B1, Seg.nil _ _, by decide, by decide⟩
  have KP := Lib.hid (put_any_w S h0 u hu (by simpa using hl))
  rw [List.nil_append] at KP
  have hlen := foldE_len m (evSU u.su)
  obtain ⟨evs, hevs⟩ : ∃ e, e = evSU u.su := ⟨_, rfl⟩
  rw [← hevs] at KP hlen ⊢
  have hfin : Hid (∀ F' w', St (IW w (w.heap.size + 1) pb m) W [w.heap.size + 1] F' evs w' → Below w.heap.size w w') := Lib.hid (fun F' w' s => S.be s.i)
  have hcell : Hid (∀ F' w', St (IW w (w.heap.size + 1) pb m) W [w.heap.size + 1] F' evs w' → w'.cell? ⟨w.heap.size + 1, 3, none⟩ = some (.int .i64 (foldE m evs).2)) := Lib.hid (fun F' w' s => (WS.cells s.i).2.1)
  have hdone : Hid (∀ F' w', St (IW w (w.heap.size + 1) pb m) W [w.heap.size + 1] F' evs w' → Calls Try.prog 24 #[.pointer (some ⟨w.heap.size + 1, 0, none⟩)] w' fun e w'' => e = .returned (.tuple #[.string (bs (foldE m evs).1), .int .i64 0]) ∧ Below w'.heap.size w' w'') := Lib.hid (fun F' w' s => by
    obtain ⟨A, cap, _, hx⟩ := s.i.x
    exact wd_any w' (w.heap.size + 1) A cap ((foldE m evs).1, 0) hx)
  have hrow : Hid (u.val = .agg u.row) := Lib.hid rfl
  have x0 : W.cell? ⟨w.heap.size, 0, none⟩ = _ := B0.cell 0
  have x1 : W.cell? ⟨w.heap.size, 1, none⟩ = _ := B0.cell 1
  have x2 : W.cell? ⟨w.heap.size, 2, none⟩ = _ := B0.cell 2
  have x3 : W.cell? ⟨w.heap.size, 3, none⟩ = _ := B0.cell 3
  have x4 : W.cell? ⟨w.heap.size, 4, none⟩ = _ := B0.cell 4
  have x5 : W.cell? ⟨w.heap.size, 5, none⟩ = _ := B0.cell 5
  have x6 : W.cell? ⟨w.heap.size, 6, none⟩ = _ := B0.cell 6
  clear S h0 hp hs hu hl B0 B1 hevs hlen hfW
  obtain ⟨nm, gA, gc, gs, wA, wc, ws, kA, kc, ks, ⟨oA, oc, os, fA, fc, fs, cA, cc, cs⟩⟩ := u
  unfold MU.val MU.row at *
  dsimp only at *
  simp only [List.getElem?_toArray, List.getElem?_cons_zero, List.getElem?_cons_succ] at x0 x1 x2 x3 x4 x5 x6
  generalize foldE m evs = st at *
  obtain ⟨R, E⟩ := st
  dsimp only at hcell hdone
  go_enter Try.func10, Try.ntmps10
  go_upto_region 2 with fail
  rw [← hWe.out]
  try rw [hz]
  clear hz
  go_wp2_with fail
  refine KP.out.mono ?_
  rintro e w2 ⟨rfl, F2, s2⟩
  have S2 := Lib.hid s2
  have c3 := hcell.out _ _ s2
  have K3 := Lib.hid (hdone.out _ _ s2)
  have hb := Lib.hid (hfin.out _ _ s2)
  clear s2 x0 x1 x2 x3 x4 x5 x6 KP hcell hdone hfin
  by_cases hE : E = 0
  · subst hE
    go_wp2_with fail
    refine K3.out.mono ?_
    rintro e w3 ⟨rfl, b3⟩
    have h3 := Lib.hid (hb.out.trans (b3.mono hb.out.size))
    clear b3
    go_wp2_with fail
    refine bodyPost_ret (results_tmp2 rfl _ _ _) rfl ?_
    exact ⟨rfl, h3.out⟩
  · have d0 : (E != 0) = true := by simpa using hE
    have c3d : w2.drew.cell? ⟨w.heap.size + 1, 3, none⟩ = some (.int .i64 E) := c3
    have hbd := Lib.hid hb.out.drew
    have hv : Hid (bs (doneS (R, E)) = ⟨#[]⟩) := Lib.hid (by unfold doneS; rw [if_pos hE]; rfl)
    go_wp2_with fail
    go_region
    all_goals go_wp2_with fail
    all_goals (refine bodyPost_ret (results_tmp2 rfl _ _ _) rfl ?_; exact ⟨by rw [hv.out]; rfl, hbd.out⟩)

def TP (R : List (List UInt8)) (w : World) (e : Ending) (w' : World) : Prop := ∃ A' cap', e = .returned (.slice A' R.length cap') ∧ Rd w' A' (R.map encStr) ∧ Below w.heap.size w w'

theorem map_tx (l : List ByteArray) : (l.map tx).map encStr = l.map Value.string := by
  rw [List.map_map]
  rfl

set_option maxRecDepth 100000 in
theorem texts_any (w : World) (u : MU) (hu : SumM w u) (hl : (evSU u.su).length ≤ 1000000) :
    Calls Try.prog 14 #[u.val] w (TP (rsS ((txE (evSU u.su)).map tx)) w) := by
  have S := sink_t w (w.heap.size + 1)
  obtain ⟨W, hWe⟩ : ∃ W, Hid (W = (w.alloc (.cells u.row 29)).alloc (.cells #[.slice none 0 0] 65)) := ⟨_, Lib.hid rfl⟩
  have hz : (w.alloc (.cells u.row 29)).heap.size = w.heap.size + 1 := Array.size_push _
  have hfW : Fr [] w W := by rw [hWe.out]; exact ((Fr.refl [] w).alloc _).alloc _
  have B0 : Box W w.heap.size 29 u.row := by rw [hWe.out]; exact (Box.new w _ _).kept ((Fr.refl [] _).alloc _) (by simp)
  have B1 : Box W (w.heap.size + 1) 65 #[.slice none 0 0] := by
    rw [hWe.out, ← hz]; exact Box.new _ _ _
  have h0 : IT w (w.heap.size + 1) [w.heap.size + 1] [] W := ⟨hfW.all, fun x hx => by rw [List.mem_singleton] at hx; omega, none, 0, rfl, B1, Seg.nil _ _⟩
  have KP := Lib.hid (put_any_t S h0 u hu (by unfold MX; simp; omega))
  rw [List.nil_append] at KP
  have hlen := txE_len (evSU u.su)
  have hl2 : (txE (evSU u.su)).length ≤ 1000000 := by omega
  unfold SPost at KP
  have hX : Hid (∀ F' w', St (IT w (w.heap.size + 1)) W [w.heap.size + 1] F' (evSU u.su) w' → ∃ A cap, w'.cell? ⟨w.heap.size + 1, 0, none⟩ = some (.slice A ((txE (evSU u.su)).map tx).length cap) ∧ Rd w' A (((txE (evSU u.su)).map tx).map encStr) ∧ Below w.heap.size w w') := Lib.hid (fun F' w' s => by
    obtain ⟨A, cap, _, hb, hs⟩ := s.i.x
    refine ⟨A, cap, ?_, ?_, S.be s.i⟩
    · rw [List.length_map]; exact hb.cell 0
    · rw [map_tx]; exact hs.rd)
  have hl3 : ((txE (evSU u.su)).map tx).length ≤ 1000000 := by rw [List.length_map]; exact hl2
  generalize (txE (evSU u.su)).map tx = L at *
  generalize evSU u.su = evs at *
  have x0 : W.cell? ⟨w.heap.size, 0, none⟩ = _ := B0.cell 0
  have x1 : W.cell? ⟨w.heap.size, 1, none⟩ = _ := B0.cell 1
  have x2 : W.cell? ⟨w.heap.size, 2, none⟩ = _ := B0.cell 2
  have x3 : W.cell? ⟨w.heap.size, 3, none⟩ = _ := B0.cell 3
  have x4 : W.cell? ⟨w.heap.size, 4, none⟩ = _ := B0.cell 4
  have x5 : W.cell? ⟨w.heap.size, 5, none⟩ = _ := B0.cell 5
  have x6 : W.cell? ⟨w.heap.size, 6, none⟩ = _ := B0.cell 6
  clear S h0 hu hl B0 B1 hlen hfW hl2
  obtain ⟨nm, gA, gc, gs, wA, wc, ws, kA, kc, ks, ⟨oA, oc, os, fA, fc, fs, cA, cc, cs⟩⟩ := u
  unfold MU.val MU.row at *
  dsimp only at *
  simp only [List.getElem?_toArray, List.getElem?_cons_zero, List.getElem?_cons_succ] at x0 x1 x2 x3 x4 x5 x6
  go_enter Try.func14, Try.ntmps14
  go_upto_region 2 with fail
  rw [← hWe.out]
  try rw [hz]
  clear hz
  go_wp2_with fail
  refine KP.out.mono ?_
  rintro e w2 ⟨rfl, F2, s2⟩
  obtain ⟨A, cap, c3, r3, b3⟩ := hX.out _ _ s2
  have K3 := Lib.hid (sorted_any w2 A cap L r3 hl3)
  have hb := Lib.hid b3
  clear s2 x0 x1 x2 x3 x4 x5 x6 KP hX r3 b3
  unfold inn.SPost at K3
  go_wp2_with fail
  refine K3.out.mono ?_
  rintro e w3 ⟨A3, cap3, rfl, b3, r3⟩
  have h3 := Lib.hid (hb.out.trans (b3.mono hb.out.size))
  have R3 := Lib.hid r3
  clear b3 r3
  go_wp2_with fail
  go_ret
  exact ⟨A3, cap3, rfl, R3.out, h3.out⟩
end Go.Proofs.Ytdmmkjijgoiecaa.re
