/-
  the examples of the statements over names.
-/
import Derived.Test.YtenohenkedofkabDoorNm7
namespace Go.Proofs.YtenohenkedofkabDoor.nm
open Go.RowKit Go.Sort

/-- what the walks take of == over nodes (proved in a text beside this one) -/
structure HeldE : Prop where
  eql : ∀ (a b : Nd) (w : World), (binOp .eql 28 a.val b.val).run Tryd.prog w = .ok (.bool (sameB a b)) w
  guard : ∀ (op : BinOp) (x y : Operand) (xs ys : Array Value) (w : World), (eqGuard op 28 x y (.agg xs) (.agg ys)).run Tryd.prog w = .ok () w

def ex1 : ByteArray := ⟨#[102, 126, 51, 46, 112]⟩
def ex2 : ByteArray := ⟨#[102, 37, 120]⟩

def WorksPost (w : World) (e : Ending) (w' : World) : Prop := e = .returned (.bool true) ∧ Below w.heap.size w w'

theorem ex_le (s : ByteArray) (h : s.size ≤ 9) : s.size ≤ maxLen := Nat.le_trans h (by decide)

theorem ex1_read (hd : Held) (w : World) (h : Tab w) : Calls Tryd.prog 13 #[.string ⟨#[102, 126, 51, 46, 112]⟩] w fun e w' => e = .returned (.tuple #[.agg #[.int .i64 1, .string ⟨#[102]⟩, .int .i64 3, .string ⟨#[112]⟩, .int .i64 0, .int .i64 (-1)], .int .i64 0]) ∧ Below w.heap.size w w' := by
  have := read_any hd ex1 w (ex_le _ (by decide)) h
  unfold ReadPost at this
  rw [show readN ex1 = ⟨1, ⟨#[102]⟩, 3, ⟨#[112]⟩, 0, -1⟩ from by kernel_rfl, show readE ex1 = 0 from by kernel_rfl] at this
  exact this
theorem ex1_base (hd : Held) (w : World) (h : Tab w) : Calls Tryd.prog 17 #[.string ⟨#[102, 126, 51, 46, 112]⟩] w fun e w' => e = .returned (.string ⟨#[102, 46, 112]⟩) ∧ Below w.heap.size w w' := by
  have := base_any hd ex1 w (ex_le _ (by decide)) h
  unfold StrPost at this
  rw [show baseS ex1 = ⟨#[102, 46, 112]⟩ from by kernel_rfl] at this
  exact this
theorem ex2_cell (hd : Held) (w : World) (h : Tab w) : Calls Tryd.prog 21 #[.string ⟨#[102, 37, 120]⟩, .int .i64 2] w fun e w' => e = .returned (.string ⟨#[102, 37, 120, 43, 50]⟩) ∧ Below w.heap.size w w' := by
  have := cell_any hd ex2 2 w (ex_le _ (by decide)) h
  unfold StrPost at this
  rw [show cellTS ex2 2 = ⟨#[102, 37, 120, 43, 50]⟩ from by kernel_rfl] at this
  exact this

set_option maxRecDepth 100000 in
set_option maxHeartbeats 1000000 in
theorem works_any (hd : Held) (he : HeldE) (w : World) (htab : Tab w) : Calls Tryd.prog 12 #[] w (WorksPost w) := by
  have Hr := Lib.hid (ex1_read hd)
  have Hb := Lib.hid (ex1_base hd)
  have Hc := Lib.hid (ex2_cell hd)
  have heq : ∀ w, (binOp .eql 28 (.agg #[.int .i64 1, .string ⟨#[102]⟩, .int .i64 3, .string ⟨#[112]⟩, .int .i64 0, .int .i64 (-1)]) (.agg #[.int .i64 1, .string ⟨#[102]⟩, .int .i64 3, .string ⟨#[112]⟩, .int .i64 0, .int .i64 (-1)])).run Tryd.prog w = .ok (.bool true) w := fun w => by
    have := he.eql ⟨1, ⟨#[102]⟩, 3, ⟨#[112]⟩, 0, -1⟩ ⟨1, ⟨#[102]⟩, 3, ⟨#[112]⟩, 0, -1⟩ w
    rw [show sameB ⟨1, ⟨#[102]⟩, 3, ⟨#[112]⟩, 0, -1⟩ ⟨1, ⟨#[102]⟩, 3, ⟨#[112]⟩, 0, -1⟩ = true from by unfold sameB; simp] at this
    exact this
  have hgd := he.guard
  have Htab := Lib.hid htab
  clear hd he htab
  go_enter Tryd.func12, Tryd.ntmps12
  go_wp2_with fail
  refine (Hr.out _ Htab.out).mono ?_
  rintro e w1 ⟨rfl, b1⟩
  clear Hr
  go_wp2_with fail
  have hb2 : Below w.heap.size w (w1.alloc (.cells #[.int .i64 1, .string ⟨#[102]⟩, .int .i64 3, .string ⟨#[112]⟩, .int .i64 0, .int .i64 (-1)] 28)) := Below.alloc b1 b1.size _
  refine (Hb.out _ (tab_below Htab.out hb2)).mono ?_
  rintro e w3 ⟨rfl, b3⟩
  have hb3 := below_on hb2 b3
  clear b3 hb2 b1 Hb
  go_wp2_with fail
  refine (Hc.out _ (tab_below Htab.out hb3)).mono ?_
  rintro e w4 ⟨rfl, b4⟩
  have hb4 := below_on hb3 b4
  clear b4 hb3 Hc
  go_wp2_with fail
  go_ret
  exact ⟨rfl, hb4⟩

end Go.Proofs.YtenohenkedofkabDoor.nm
