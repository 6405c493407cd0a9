import Derived.Test.YtdmmkjijgoiecaaWReB
import Derived.Test.YtdmmkjijgoiecaaWRe7
set_option linter.all false
/-
  record: the reference's Texts and Bytes.
-/
namespace Go.Proofs.Ytdmmkjijgoiecaa.re
open Go.RowKit Go.Shelf Go.Proofs.Ytdmmkjijgoiecaa.mem Go.Proofs.Ytdmmkjijgoiecaa.sy Go.Proofs.Ytdmmkjijgoiecaa.vx Go.Proofs.Ytdmmkjijgoiecaa.vr Go.Proofs.Ytdmmkjijgoiecaa.po Go.Proofs.Ytdmmkjijgoiecaa.inn

set_option maxRecDepth 100000 in
theorem rbytes_any (w : World) (pA : Option Addr) (pc : Nat) (m : List (List UInt8)) (hp : Rd w pA (m.map encStr)) (hm : m.length ≤ 1000000) (u : MU) (hu : SumM w u) (hl : (evSU u.su).length ≤ 1000000) :
    Calls Try.prog 12 #[.slice pA m.length pc, u.val] w (RP (foldE m (evSU u.su)) w) := by
  obtain ⟨W, hWe⟩ : ∃ W, Hid (W = (w.alloc (.cells u.row 29)).alloc (.cells #[.slice pA m.length pc, .string ⟨#[]⟩, .slice none 0 0, .int .i64 0] 52)) := ⟨_, Lib.hid rfl⟩
  have hz : (w.alloc (.cells u.row 29)).heap.size = w.heap.size + 1 := Array.size_push _
  have hfW : Fr [] w W := by rw [hWe.out]; exact ((Fr.refl [] w).alloc _).alloc _
  have B0 : Box W w.heap.size 29 u.row := by rw [hWe.out]; exact (Box.new w _ _).kept ((Fr.refl [] _).alloc _) (by simp)
  have B1 : Box W (w.heap.size + 1) 52 #[.slice pA m.length pc, .string ⟨#[]⟩, .slice none 0 0, .int .i64 0] := by
    rw [hWe.out, ← hz]; exact Box.new _ _ _
  have h0 : RV w (w.heap.size + 1) pA pc m [] W := ⟨hfW.all, by omega, none, 0, B1, Seg.nil _ _⟩
  have KP := Lib.hid (v_sum hp hm u hu h0 hl)
  unfold RVP at KP
  have hX : Hid (∀ w', RV w (w.heap.size + 1) pA pc m (evSU u.su) w' → w'.cell? ⟨w.heap.size + 1, 1, none⟩ = some (.string (bs (foldE m (evSU u.su)).1)) ∧ w'.cell? ⟨w.heap.size + 1, 3, none⟩ = some (.int .i64 (foldE m (evSU u.su)).2) ∧ Below w.heap.size w w') := Lib.hid (fun w' s => ⟨(RS.cells s).2.1, (RS.cells s).2.2.1, s.be⟩)
  have x0 : W.cell? ⟨w.heap.size, 0, none⟩ = _ := B0.cell 0
  have x1 : W.cell? ⟨w.heap.size, 1, none⟩ = _ := B0.cell 1
  have x2 : W.cell? ⟨w.heap.size, 2, none⟩ = _ := B0.cell 2
  have x3 : W.cell? ⟨w.heap.size, 3, none⟩ = _ := B0.cell 3
  have x4 : W.cell? ⟨w.heap.size, 4, none⟩ = _ := B0.cell 4
  have x5 : W.cell? ⟨w.heap.size, 5, none⟩ = _ := B0.cell 5
  have x6 : W.cell? ⟨w.heap.size, 6, none⟩ = _ := B0.cell 6
  generalize foldE m (evSU u.su) = st at *
  generalize evSU u.su = evs at *
  clear h0 hp hu hl B0 B1 hfW
  obtain ⟨nm, gA, gc, gs, wA, wc, ws, kA, kc, ks, ⟨oA, oc, os, fA, fc, fs, cA, cc, cs⟩⟩ := u
  unfold MU.val MU.row at *
  dsimp only at *
  simp only [List.getElem?_toArray, List.getElem?_cons_zero, List.getElem?_cons_succ] at x0 x1 x2 x3 x4 x5 x6
  obtain ⟨R, E⟩ := st
  dsimp only at hX
  go_enter Try.func12, Try.ntmps12
  go_upto_region 2 with fail
  rw [← hWe.out]
  try rw [hz]
  clear hz
  go_wp2_with fail
  refine KP.out.mono ?_
  rintro e w2 ⟨rfl, s2, f2⟩
  obtain ⟨c1, c3, b3⟩ := hX.out _ s2
  have hb := Lib.hid b3
  clear s2 f2 x0 x1 x2 x3 x4 x5 x6 KP hX b3
  by_cases hE : E = 0
  · subst hE
    have hv : Hid (bs (doneS (R, 0)) = bs R) := Lib.hid rfl
    go_wp2_with fail
    refine bodyPost_ret (results_tmp2 rfl _ _ _) rfl ?_
    exact ⟨rfl, hb.out⟩
  · have d0 : (E != 0) = true := by simpa using hE
    have c3d : w2.drew.cell? ⟨w.heap.size + 1, 3, none⟩ = some (.int .i64 E) := c3
    have hbd := Lib.hid hb.out.drew
    have hv : Hid (bs (doneS (R, E)) = ⟨#[]⟩) := Lib.hid (by unfold doneS; rw [if_pos hE]; rfl)
    go_wp2_with fail
    go_region
    all_goals go_wp2_with fail
    all_goals (refine bodyPost_ret (results_tmp2 rfl _ _ _) rfl ?_; exact ⟨by rw [hv.out]; rfl, hbd.out⟩)

set_option maxRecDepth 100000 in
theorem rtexts_any (w : World) (u : MU) (hu : SumM w u) (hl : (evSU u.su).length ≤ 1000000) :
    Calls Try.prog 8 #[u.val] w (TP (rsS ((txE (evSU u.su)).map tx)) w) := by
  obtain ⟨W, hWe⟩ : ∃ W, Hid (W = (w.alloc (.cells u.row 29)).alloc (.cells #[.slice none 0 0, .string ⟨#[]⟩, .slice none 0 0, .int .i64 0] 52)) := ⟨_, Lib.hid rfl⟩
  have hz : (w.alloc (.cells u.row 29)).heap.size = w.heap.size + 1 := Array.size_push _
  have hfW : Fr [] w W := by rw [hWe.out]; exact ((Fr.refl [] w).alloc _).alloc _
  have B0 : Box W w.heap.size 29 u.row := by rw [hWe.out]; exact (Box.new w _ _).kept ((Fr.refl [] _).alloc _) (by simp)
  have B1 : Box W (w.heap.size + 1) 52 #[.slice none 0 0, .string ⟨#[]⟩, .slice none 0 0, .int .i64 0] := by
    rw [hWe.out, ← hz]; exact Box.new _ _ _
  have h0 : RV w (w.heap.size + 1) none 0 [] [] W := ⟨hfW.all, by omega, none, 0, B1, Seg.nil _ _⟩
  have KP := Lib.hid (v_sum (m := []) (fun hz => by simp at hz) (by simp) u hu h0 hl)
  unfold RVP at KP
  have hX : Hid (∀ w', RV w (w.heap.size + 1) none 0 [] (evSU u.su) w' → ∃ A cap, w'.cell? ⟨w.heap.size + 1, 2, none⟩ = some (.slice A (rsS ((txE (evSU u.su)).map tx)).length cap) ∧ Rd w' A ((rsS ((txE (evSU u.su)).map tx)).map encStr) ∧ Below w.heap.size w w') := Lib.hid (fun w' s => by
    obtain ⟨A, cap, hb, hs⟩ := RS.x s
    exact ⟨A, cap, hb.cell 2, hs.rd, s.be⟩)
  have x0 : W.cell? ⟨w.heap.size, 0, none⟩ = _ := B0.cell 0
  have x1 : W.cell? ⟨w.heap.size, 1, none⟩ = _ := B0.cell 1
  have x2 : W.cell? ⟨w.heap.size, 2, none⟩ = _ := B0.cell 2
  have x3 : W.cell? ⟨w.heap.size, 3, none⟩ = _ := B0.cell 3
  have x4 : W.cell? ⟨w.heap.size, 4, none⟩ = _ := B0.cell 4
  have x5 : W.cell? ⟨w.heap.size, 5, none⟩ = _ := B0.cell 5
  have x6 : W.cell? ⟨w.heap.size, 6, none⟩ = _ := B0.cell 6
  generalize rsS ((txE (evSU u.su)).map tx) = L at *
  generalize evSU u.su = evs at *
  clear h0 hu hl B0 B1 hfW
  obtain ⟨nm, gA, gc, gs, wA, wc, ws, kA, kc, ks, ⟨oA, oc, os, fA, fc, fs, cA, cc, cs⟩⟩ := u
  unfold MU.val MU.row at *
  dsimp only at *
  simp only [List.getElem?_toArray, List.getElem?_cons_zero, List.getElem?_cons_succ] at x0 x1 x2 x3 x4 x5 x6
  go_enter Try.func8, Try.ntmps8
  go_upto_region 2 with fail
  rw [← hWe.out]
  try rw [hz]
  clear hz
  go_wp2_with fail
  refine KP.out.mono ?_
  rintro e w2 ⟨rfl, s2, f2⟩
  obtain ⟨A, cap, c2, r3, b3⟩ := hX.out _ s2
  have hb := Lib.hid b3
  have hr := Lib.hid r3
  clear s2 f2 x0 x1 x2 x3 x4 x5 x6 KP hX b3 r3
  go_wp2_with fail
  go_ret
  exact ⟨A, cap, rfl, hr.out, hb.out⟩
end Go.Proofs.Ytdmmkjijgoiecaa.re
