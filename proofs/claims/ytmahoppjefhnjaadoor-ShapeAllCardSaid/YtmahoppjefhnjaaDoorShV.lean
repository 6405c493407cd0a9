/-
  Shape: works.
-/
import Derived.Test.YtmahoppjefhnjaaDoorShU
import Derived.Test.YtmahoppjefhnjaaDoorShJ
import Derived.Test.YtmahoppjefhnjaaDoorShS
import Derived.Deep.RegionHeld3
namespace Go.Proofs.YtmahoppjefhnjaaDoor.sh
open Go.RowKit Go.Sort Go.Proofs.YtmahoppjefhnjaaDoor.mem

def tRec : Ty := .mk 3 ⟨#[83]⟩ 0 []

theorem w_check : checkC ssL tRec = 0 := by decide +kernel
theorem w_cells : cellsC ssL tRec = ([112, 105, 112], [(0, [83]), (1, [91, 93, 105, 110, 116])]) := by decide +kernel
theorem w_size : sizeC ssL tRec = 5 := by decide +kernel
theorem w_cell : cellC ssL tRec 3 = 1 := by decide +kernel
theorem w_place : placeC ssL tRec 3 = 0 := by decide +kernel
theorem w_begins : beginsC ssL tRec 1 [91, 93, 105, 110, 116] = true := by decide +kernel
theorem w_deep : ∃ m, 7 < m ∧ deepB m tRec = false := ⟨8, by omega, by decide +kernel⟩
theorem w_fields : ∀ st ∈ ssL, ∀ fd ∈ st.2, deepB 8 fd.2 = false := by decide +kernel

theorem trec_at (w : World) : TyAt w 1 tRec (.int .i64 3) (.string ⟨#[83]⟩) (.int .i64 0) (.slice none 0 0) := ⟨rfl, rfl, rfl, by decide, rfl, rfl, none, 0, rfl, by simp [tRec, Ty.of], fun h => by simp [tRec, Ty.of] at h, fun j hj => by simp [tRec, Ty.of] at hj⟩

theorem w_arg {w : World} {A : Option Addr} (h : SsAt w 3 A ssL) : Arg w 3 1 A ssL tRec (.int .i64 3) (.string ⟨#[83]⟩) (.int .i64 0) (.slice none 0 0) :=
  ⟨h, by decide, by decide, trec_at w, by omega⟩

def R4 (v : Value) (w : World) (e : Ending) (w' : World) : Prop := e = .returned v ∧ Below w.heap.size w w'

theorem cells_w (w : World) (A : Option Addr) (h : SsAt w 3 A ssL) (ht : TabS w) : Calls Tryd.prog 31 #[.slice A ssL.length 1, .agg #[.int .i64 3, .string ⟨#[83]⟩, .int .i64 0, .slice none 0 0]] w fun e w' => ∃ M mc, e = .returned (.tuple #[.string ⟨#[112, 105, 112]⟩, .slice M 2 mc, .int .i64 0]) ∧ Below w.heap.size w w' := by
  refine (cells_any w 3 1 A 1 ssL w_fields tRec _ _ _ _ (w_arg h) w_deep ht).mono ?_
  rintro e w' ⟨M, mc, he, hb, _⟩
  rw [w_cells, w_check] at he
  exact ⟨M, mc, he, hb⟩

theorem size_w (w : World) (A : Option Addr) (h : SsAt w 3 A ssL) : Calls Tryd.prog 32 #[.slice A ssL.length 1, .agg #[.int .i64 3, .string ⟨#[83]⟩, .int .i64 0, .slice none 0 0]] w fun e w' => e = .returned (.tuple #[.int .i64 5, .int .i64 0]) ∧ Below w.heap.size w w' := by
  refine (size_any w 3 1 A 1 ssL tRec _ _ _ _ (w_arg h)).mono ?_
  rintro e w' ⟨he, hb⟩
  rw [w_size, w_check] at he
  exact ⟨he, hb⟩

theorem cell_w (w : World) (A : Option Addr) (h : SsAt w 3 A ssL) : Calls Tryd.prog 33 #[.slice A ssL.length 1, .agg #[.int .i64 3, .string ⟨#[83]⟩, .int .i64 0, .slice none 0 0], .int .i64 3] w fun e w' => e = .returned (.tuple #[.int .i64 1, .int .i64 0]) ∧ Below w.heap.size w w' := by
  refine (cell_any w 3 1 A 1 ssL tRec _ _ _ _ (w_arg h) 3).mono ?_
  rintro e w' ⟨he, hb⟩
  rw [w_cell, w_place] at he
  exact ⟨he, hb⟩

theorem begins_w (w : World) (A : Option Addr) (h : SsAt w 3 A ssL) (ht : TabS w) : Calls Tryd.prog 34 #[.slice A ssL.length 1, .agg #[.int .i64 3, .string ⟨#[83]⟩, .int .i64 0, .slice none 0 0], .int .i64 1, .string ⟨#[91, 93, 105, 110, 116]⟩] w fun e w' => e = .returned (.bool true) ∧ Below w.heap.size w w' := by
  have h1 := begins_any w 3 1 A 1 ssL w_fields tRec _ _ _ _ (w_arg h) 1 [91, 93, 105, 110, 116] w_deep ht
  refine h1.mono ?_
  rintro e w' ⟨he, hb⟩
  rw [w_begins] at he
  exact ⟨he, hb⟩

/-- what lies ahead, all along works -/
structure WB (w wx : World) : Prop where
  on : Below w.heap.size w wx
  box : Box wx w.heap.size 51 #[.int .i64 3, .string ⟨#[83]⟩, .int .i64 0, .slice none 0 0]
  tab : TabS wx

theorem WB.kept {w wx wy : World} (h : WB w wx) (hb : Below wx.heap.size wx wy) : WB w wy := ⟨h.on.trans (hb.mono h.on.size), h.box.kept (Fr.of_below hb []) (by simp), tabS_below h.tab hb⟩
theorem WB.drew {w wx : World} (h : WB w wx) : WB w wx.drew := h.kept (Below.refl _ _).drew
theorem WB.cells {w wx : World} (h : WB w wx) : wx.cell? ⟨w.heap.size, 0, none⟩ = some (.int .i64 3) ∧ wx.cell? ⟨w.heap.size, 1, none⟩ = some (.string ⟨#[83]⟩) ∧ wx.cell? ⟨w.heap.size, 2, none⟩ = some (.int .i64 0) ∧ wx.cell? ⟨w.heap.size, 3, none⟩ = some (.slice none 0 0) := ⟨h.box.cell 0, h.box.cell 1, h.box.cell 2, h.box.cell 3⟩

def WkPost (w : World) (e : Ending) (w' : World) : Prop := e = .returned (.bool true) ∧ Below w.heap.size w w'

set_option maxRecDepth 100000 in
set_option maxHeartbeats 1000000 in
theorem works_any (w : World) (htab : TabS w) : Calls Tryd.prog 30 #[] w (WkPost w) := by
  have W1 : Hid (WB w (w.alloc (.cells #[.int .i64 3, .string ⟨#[83]⟩, .int .i64 0, .slice none 0 0] 51))) := Lib.hid ⟨(Below.refl _ _).alloc (Nat.le_refl _) _, Box.new w _ _, tabS_below htab ((Below.refl _ _).alloc (Nat.le_refl _) _)⟩
  clear htab
  go_enter Tryd.func30, Tryd.ntmps30
  go_upto_region 2 with fail
  generalize (w.alloc (.cells #[.int .i64 3, .string ⟨#[83]⟩, .int .i64 0, .slice none 0 0] 51)) = w1 at *
  obtain ⟨c0, c1, c2, c3⟩ := W1.out.drew.cells
  go_region_held3 (fun w' => w'.cell? ⟨w.heap.size, 0, none⟩ = some (.int .i64 3) ∧ w'.cell? ⟨w.heap.size, 1, none⟩ = some (.string ⟨#[83]⟩) ∧ w'.cell? ⟨w.heap.size, 2, none⟩ = some (.int .i64 0) ∧ w'.cell? ⟨w.heap.size, 3, none⟩ = some (.slice none 0 0))
    (first | exact ⟨c0, c1, c2, c3⟩ | exact W3.out.cells | exact W2.out.cells | go_keep)
    (first | (go_at_call 55; refine (structs_any _).mono ?_; rintro e w2 ⟨A, rfl, b2, hs2⟩; have W2 := Lib.hid (W1.out.drew.kept b2); have S2 := Lib.hid hs2; clear b2 hs2)
           | (go_at_call 31; refine (cells_w _ _ S2.out W2.out.tab).mono ?_; rintro e w3 ⟨M, mc, rfl, b3⟩; have W3 := Lib.hid (W2.out.kept b3); clear b3))
  clear c0 c1 c2 c3 W1 W2 S2
  obtain ⟨c0, c1, c2, c3⟩ := W3.out.drew.cells
  go_wp2_with fail
  go_region_held3 (fun w' => w'.cell? ⟨w.heap.size, 0, none⟩ = some (.int .i64 3) ∧ w'.cell? ⟨w.heap.size, 1, none⟩ = some (.string ⟨#[83]⟩) ∧ w'.cell? ⟨w.heap.size, 2, none⟩ = some (.int .i64 0) ∧ w'.cell? ⟨w.heap.size, 3, none⟩ = some (.slice none 0 0))
    (first | exact ⟨c0, c1, c2, c3⟩ | exact W5.out.cells | exact W4.out.cells | go_keep)
    (first | (go_at_call 55; refine (structs_any _).mono ?_; rintro e w4 ⟨A, rfl, b2, hs2⟩; have W4 := Lib.hid (W3.out.drew.kept b2); have S4 := Lib.hid hs2; clear b2 hs2)
           | (go_at_call 32; refine (size_w _ _ S4.out).mono ?_; rintro e w5 ⟨rfl, b3⟩; have W5 := Lib.hid (W4.out.kept b3); clear b3))
  clear c0 c1 c2 c3 W3 W4 S4
  obtain ⟨c0, c1, c2, c3⟩ := W5.out.drew.cells
  go_wp2_with fail
  go_region_held3 (fun w' => w'.cell? ⟨w.heap.size, 0, none⟩ = some (.int .i64 3) ∧ w'.cell? ⟨w.heap.size, 1, none⟩ = some (.string ⟨#[83]⟩) ∧ w'.cell? ⟨w.heap.size, 2, none⟩ = some (.int .i64 0) ∧ w'.cell? ⟨w.heap.size, 3, none⟩ = some (.slice none 0 0))
    (first | exact ⟨c0, c1, c2, c3⟩ | exact W7.out.cells | exact W6.out.cells | go_keep)
    (first | (go_at_call 55; refine (structs_any _).mono ?_; rintro e w6 ⟨A, rfl, b2, hs2⟩; have W6 := Lib.hid (W5.out.drew.kept b2); have S6 := Lib.hid hs2; clear b2 hs2)
           | (go_at_call 33; refine (cell_w _ _ S6.out).mono ?_; rintro e w7 ⟨rfl, b3⟩; have W7 := Lib.hid (W6.out.kept b3); clear b3))
  clear c0 c1 c2 c3 W5 W6 S6
  obtain ⟨c0, c1, c2, c3⟩ := W7.out.drew.cells
  go_wp2_with fail
  go_region_held3 (fun w' => w'.cell? ⟨w.heap.size, 0, none⟩ = some (.int .i64 3) ∧ w'.cell? ⟨w.heap.size, 1, none⟩ = some (.string ⟨#[83]⟩) ∧ w'.cell? ⟨w.heap.size, 2, none⟩ = some (.int .i64 0) ∧ w'.cell? ⟨w.heap.size, 3, none⟩ = some (.slice none 0 0))
    (first | exact ⟨c0, c1, c2, c3⟩ | exact W9.out.cells | exact W8.out.cells | go_keep)
    (first | (go_at_call 55; refine (structs_any _).mono ?_; rintro e w8 ⟨A, rfl, b2, hs2⟩; have W8 := Lib.hid (W7.out.drew.kept b2); have S8 := Lib.hid hs2; clear b2 hs2)
           | (go_at_call 34; refine (begins_w _ _ S8.out W8.out.tab).mono ?_; rintro e w9 ⟨rfl, b3⟩; have W9 := Lib.hid (W8.out.kept b3); clear b3))
  go_wp2_with fail
  go_ret
  exact ⟨rfl, W9.out.on⟩
end Go.Proofs.YtmahoppjefhnjaaDoor.sh
