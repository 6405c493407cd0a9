import Derived.Test.YtdmmkjijgoiecaaGreatDoorV04
import Derived.Lib.SmallJoins
/-
  names: what belongs to a node's kind; whether a node may be written.
-/
set_option linter.all false
namespace Go.Proofs.YtdmmkjijgoiecaaGreatDoor.nm
open Go.RowKit

/-- A node, as its six fields hold it. -/
structure Nd where
  kind : Int
  fn : ByteArray
  copy : Int
  name : ByteArray
  n : Int
  cell : Int

def Nd.cells (d : Nd) : Array Value := #[.int .i64 d.kind, .string d.fn, .int .i64 d.copy, .string d.name, .int .i64 d.n, .int .i64 d.cell]
def Nd.val (d : Nd) : Value := .agg d.cells

/-- are two nodes the same? -/
def sameB (a b : Nd) : Bool := a.kind == b.kind && (a.fn.toList == b.fn.toList && (a.copy == b.copy && (a.name.toList == b.name.toList && (a.n == b.n && a.cell == b.cell))))

/-- What the walks below take of the comparison of two nodes (proved in a text beside this one). -/
structure Held : Prop where
  neq : ∀ (a b : Nd) (w : World), (binOp .neq 175 a.val b.val).run Tryz.prog w = .ok (.bool (!sameB a b)) w
  guard : ∀ (op : BinOp) (x y : Operand) (xs ys : Array Value) (w : World), (eqGuard op 175 x y (.agg xs) (.agg ys)).run Tryz.prog w = .ok () w

/-- only what a kind has -/
def ownN (d : Nd) : Nd :=
  if d.kind = 5 then { kind := 5, fn := ⟨#[]⟩, copy := 0, name := d.name, n := 0, cell := d.cell }
  else if d.kind = 6 then { kind := 6, fn := d.fn, copy := d.copy, name := d.name, n := 0, cell := d.cell }
  else if d.kind = 1 then { kind := 1, fn := d.fn, copy := d.copy, name := d.name, n := 0, cell := -1 }
  else if d.kind = 7 then { kind := 7, fn := d.fn, copy := d.copy, name := ⟨#[]⟩, n := d.n, cell := d.cell }
  else if d.kind = 2 ∨ d.kind = 3 then { kind := d.kind, fn := d.fn, copy := d.copy, name := ⟨#[]⟩, n := d.n, cell := -1 }
  else { kind := d.kind, fn := d.fn, copy := d.copy, name := ⟨#[]⟩, n := 0, cell := -1 }

def OwnPost (d : Nd) (w : World) (e : Ending) (w' : World) : Prop := e = .returned (ownN d).val ∧ Below w.heap.size w w'

theorem below3 (w : World) (a b c : Obj) : Below w.heap.size w (((w.alloc a).alloc b).alloc c) := (((Below.refl _ _).alloc (Nat.le_refl _) _).alloc (by simp) _).alloc (by simp; omega) _

theorem ownPost_mk {d o : Nd} {w w' : World} (h : ownN d = o) (hb : Below w.heap.size w w') : OwnPost d w (.returned o.val) w' := ⟨by rw [h], hb⟩

set_option maxHeartbeats 2000000 in
theorem own_any (d : Nd) (w : World) : Calls Tryz.prog 249 #[d.val] w (OwnPost d w) := by
  obtain ⟨kind, fn, copy, name, n, cell⟩ := d
  unfold Nd.val Nd.cells
  rcases (by omega : kind = 5 ∨ kind = 6 ∨ kind = 1 ∨ kind = 7 ∨ kind = 2 ∨ kind = 3 ∨ (kind ≠ 5 ∧ kind ≠ 6 ∧ kind ≠ 1 ∧ kind ≠ 7 ∧ kind ≠ 2 ∧ kind ≠ 3)) with rfl | rfl | rfl | rfl | rfl | rfl | ⟨h5, h6, h1, h7, h2, h3⟩
  · go_enter Tryz.func249, Tryz.ntmps249
    go_wp2
    exact bodyPost_ret (v := .agg #[.int .i64 5, .string ⟨#[]⟩, .int .i64 0, .string name, .int .i64 0, .int .i64 cell]) (by simp [results, Tryz.results249, go_sem]) rfl (ownPost_mk (o := ⟨5, ⟨#[]⟩, 0, name, 0, cell⟩) rfl (below3 _ _ _ _))
  · go_enter Tryz.func249, Tryz.ntmps249
    go_wp2
    exact bodyPost_ret (v := .agg #[.int .i64 6, .string fn, .int .i64 copy, .string name, .int .i64 0, .int .i64 cell]) (by simp [results, Tryz.results249, go_sem]) rfl (ownPost_mk (o := ⟨6, fn, copy, name, 0, cell⟩) rfl (below3 _ _ _ _))
  · go_enter Tryz.func249, Tryz.ntmps249
    go_wp2
    exact bodyPost_ret (v := .agg #[.int .i64 1, .string fn, .int .i64 copy, .string name, .int .i64 0, .int .i64 (-1)]) (by simp [results, Tryz.results249, go_sem]) rfl (ownPost_mk (o := ⟨1, fn, copy, name, 0, -1⟩) rfl (below3 _ _ _ _))
  · go_enter Tryz.func249, Tryz.ntmps249
    go_wp2
    exact bodyPost_ret (v := .agg #[.int .i64 7, .string fn, .int .i64 copy, .string ⟨#[]⟩, .int .i64 n, .int .i64 cell]) (by simp [results, Tryz.results249, go_sem]) rfl (ownPost_mk (o := ⟨7, fn, copy, ⟨#[]⟩, n, cell⟩) rfl (below3 _ _ _ _))
  · go_enter Tryz.func249, Tryz.ntmps249
    go_wp2
    exact bodyPost_ret (v := .agg #[.int .i64 2, .string fn, .int .i64 copy, .string ⟨#[]⟩, .int .i64 n, .int .i64 (-1)]) (by simp [results, Tryz.results249, go_sem]) rfl (ownPost_mk (o := ⟨2, fn, copy, ⟨#[]⟩, n, -1⟩) rfl (below3 _ _ _ _))
  · go_enter Tryz.func249, Tryz.ntmps249
    go_wp2
    exact bodyPost_ret (v := .agg #[.int .i64 3, .string fn, .int .i64 copy, .string ⟨#[]⟩, .int .i64 n, .int .i64 (-1)]) (by simp [results, Tryz.results249, go_sem]) rfl (ownPost_mk (o := ⟨3, fn, copy, ⟨#[]⟩, n, -1⟩) rfl (below3 _ _ _ _))
  · have b5 : (kind == 5) = false := beq_eq_false_iff_ne.2 h5
    have b6 : (kind == 6) = false := beq_eq_false_iff_ne.2 h6
    have b1 : (kind == 1) = false := beq_eq_false_iff_ne.2 h1
    have b7 : (kind == 7) = false := beq_eq_false_iff_ne.2 h7
    have b2 : (kind == 2) = false := beq_eq_false_iff_ne.2 h2
    have b3 : (kind == 3) = false := beq_eq_false_iff_ne.2 h3
    have Ho : Hid (ownN ⟨kind, fn, copy, name, n, cell⟩ = ⟨kind, fn, copy, ⟨#[]⟩, 0, -1⟩) := Lib.hid (by
      unfold ownN
      simp only []
      rw [if_neg h5, if_neg h6, if_neg h1, if_neg h7, if_neg (by rintro (h | h); exact h2 h; exact h3 h)])
    clear h5 h6 h1 h7 h2 h3
    go_enter Tryz.func249, Tryz.ntmps249
    go_wp2
    exact bodyPost_ret (v := .agg #[.int .i64 kind, .string fn, .int .i64 copy, .string ⟨#[]⟩, .int .i64 0, .int .i64 (-1)]) (by simp [results, Tryz.results249, go_sem]) rfl (ownPost_mk (o := ⟨kind, fn, copy, ⟨#[]⟩, 0, -1⟩) Ho.out (below3 _ _ _ _))

def cntB (n least : Int) : Bool := decide (least ≤ n ∧ n ≤ 268435456)

theorem count_any (n least : Int) (w : World) : Calls Tryz.prog 250 #[.int .i64 n, .int .i64 least] w fun e w' => e = .returned (.bool (cntB n least)) ∧ w = w' := by
  by_cases h1 : least ≤ n
  · by_cases h2 : n ≤ 268435456
    · have H : Hid (cntB n least = true) := Lib.hid (decide_eq_true ⟨h1, h2⟩)
      go_enter Tryz.func250, Tryz.ntmps250
      go_wp2
      go_ret
      exact ⟨by rw [H.out]; rfl, rfl⟩
    · have H : Hid (cntB n least = false) := Lib.hid (decide_eq_false (fun h => h2 h.2))
      go_enter Tryz.func250, Tryz.ntmps250
      go_wp2
      go_ret
      exact ⟨by rw [H.out]; rfl, rfl⟩
  · have H : Hid (cntB n least = false) := Lib.hid (decide_eq_false (fun h => h1 h.1))
    go_enter Tryz.func250, Tryz.ntmps250
    go_wp2
    go_ret
    exact ⟨by rw [H.out]; rfl, rfl⟩

/-- what a kind asks of its names and numbers -/
def swB (d : Nd) : Bool :=
  if (d.kind == 5) = true then dg.nameB d.name
  else if (d.kind == 1) = true ∨ (d.kind == 6) = true then dg.nameB d.fn && dg.nameB d.name
  else if (d.kind == 3) = true ∨ (d.kind == 7) = true then dg.nameB d.fn && cntB d.n 1
  else dg.nameB d.fn && cntB d.n 0

/-- may a node be written? -/
def mayB (d : Nd) : Bool := decide (1 ≤ d.kind ∧ d.kind ≤ 7) && (sameB d (ownN d) && (cntB d.copy 0 && (cntB d.cell (-1) && swB d)))
end Go.Proofs.YtdmmkjijgoiecaaGreatDoor.nm
