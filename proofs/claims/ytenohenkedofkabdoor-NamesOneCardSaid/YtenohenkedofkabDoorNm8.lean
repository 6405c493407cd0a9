/-
  weftref14.Right: whether a node may be, by definition: what is common.
-/
import Derived.Test.YtenohenkedofkabDoorNm7
namespace Go.Proofs.YtenohenkedofkabDoor.nm
open Go.RowKit Go.Sort


def rcB (n : Int) : Bool := decide (0 ≤ n ∧ n ≤ 268435456)

theorem rcount_any (n : Int) (w : World) : Calls Tryd.prog 36 #[.int .i64 n] w fun e w' => e = .returned (.bool (rcB n)) ∧ w = w' := by
  by_cases h0 : 0 ≤ n
  · have h0' : decide (n < 0) = false := by simp; omega
    have Hv : Hid (rcB n = decide (n ≤ 268435456)) := Lib.hid (by unfold rcB; simp [h0])
    go_enter Tryd.func36, Tryd.ntmps36
    go_wp2_with fail
    go_ret
    exact ⟨by rw [Hv.out]; rfl, rfl⟩
  · have Hv : Hid (rcB n = false) := Lib.hid (by unfold rcB; simp [h0])
    have h0' : decide (n < 0) = true := by simp; omega
    go_enter Tryd.func36, Tryd.ntmps36
    go_wp2_with fail
    go_ret
    exact ⟨by rw [Hv.out]; rfl, rfl⟩

def RPost (b : Bool) (w : World) (e : Ending) (w' : World) : Prop := e = .returned (.bool b) ∧ Below w.heap.size w w'

set_option maxRecDepth 100000 in
set_option maxHeartbeats 1000000 in
theorem right_kind (kind : Int) (fn : ByteArray) (copy : Int) (name : ByteArray) (n cell : Int) (w : World) (h : ¬ (1 ≤ kind ∧ kind ≤ 7)) :
    Calls Tryd.prog 25 #[Nd.val ⟨kind, fn, copy, name, n, cell⟩] w (RPost false w) := by
  unfold Nd.val Nd.cells
  by_cases h1 : kind < 1
  · clear h
    go_enter Tryd.func25, Tryd.ntmps25
    go_wp2_with fail
    go_ret
    exact ⟨rfl, (Below.refl _ _).alloc (Nat.le_refl _) _⟩
  · have h2 : 7 < kind := by omega
    clear h
    go_enter Tryd.func25, Tryd.ntmps25
    go_wp2_with fail
    go_ret
    exact ⟨rfl, (Below.refl _ _).alloc (Nat.le_refl _) _⟩

def rightF (k copy n cell : Int) (c1 c2 c3 fE fN nE nN : Bool) : Bool :=
  (decide (1 ≤ k ∧ k ≤ 7) && (c1 && (c2 && ((cell == -1) || c3)))) &&
  ((!(((k == 5) != fE) || ((!fE && !fN) || ((k == 5) && (copy != 0))))) &&
  ((!(((k == 1 || (k == 5 || k == 6)) != !nE) || ((k == 1 || (k == 5 || k == 6)) && !nN))) &&
  ((!((!(k == 2 || (k == 3 || k == 7)) && (n != 0)) || ((n == 0) && (k == 3 || k == 7)))) &&
  (decide (5 ≤ k) || (cell == -1)))))
def rightB (d : Nd) : Bool := rightF d.kind d.copy d.n d.cell (rcB d.copy) (rcB d.n) (rcB d.cell) d.fn.toList.isEmpty (dg.nameB d.fn) d.name.toList.isEmpty (dg.nameB d.name)

set_option maxRecDepth 100000 in
set_option maxHeartbeats 400000 in
theorem right_copy (kind : Int) (fn : ByteArray) (copy : Int) (name : ByteArray) (n cell : Int) (w : World) (h1 : 1 ≤ kind) (h7 : kind ≤ 7) (Hc1 : Hid (∀ w, Calls Tryd.prog 36 #[.int .i64 (copy)] w fun e w' => e = .returned (.bool false) ∧ w = w')) (hc1 : rcB copy = false) :
    Calls Tryd.prog 25 #[Nd.val ⟨kind, fn, copy, name, n, cell⟩] w (RPost (rightB ⟨kind, fn, copy, name, n, cell⟩) w) := by
  have hk1 : decide (kind < 1) = false := decide_eq_false (by omega)
  have hk7 : decide (7 < kind) = false := decide_eq_false (by omega)
  have Hv : Hid (rightB ⟨kind, fn, copy, name, n, cell⟩ = false) := Lib.hid (by unfold rightB; simp only [hc1]; unfold rightF; simp)
  unfold Nd.val Nd.cells
  clear h1 h7
  go_enter Tryd.func25, Tryd.ntmps25
  go_wp2_with fail
  repeat (first | (with_reducible refine (Hc1.out _).mono ?_; rintro e w' ⟨rfl, rfl⟩; go_wp2_with fail))
  go_ret
  exact ⟨by rw [Hv.out]; try rfl, (Below.refl _ _).alloc (Nat.le_refl _) _⟩

set_option maxRecDepth 100000 in
set_option maxHeartbeats 400000 in
theorem right_n (kind : Int) (fn : ByteArray) (copy : Int) (name : ByteArray) (n cell : Int) (w : World) (h1 : 1 ≤ kind) (h7 : kind ≤ 7) (Hc1 : Hid (∀ w, Calls Tryd.prog 36 #[.int .i64 (copy)] w fun e w' => e = .returned (.bool true) ∧ w = w')) (Hc2 : Hid (∀ w, Calls Tryd.prog 36 #[.int .i64 (n)] w fun e w' => e = .returned (.bool false) ∧ w = w')) (hc2 : rcB n = false) :
    Calls Tryd.prog 25 #[Nd.val ⟨kind, fn, copy, name, n, cell⟩] w (RPost (rightB ⟨kind, fn, copy, name, n, cell⟩) w) := by
  have hk1 : decide (kind < 1) = false := decide_eq_false (by omega)
  have hk7 : decide (7 < kind) = false := decide_eq_false (by omega)
  have Hv : Hid (rightB ⟨kind, fn, copy, name, n, cell⟩ = false) := Lib.hid (by unfold rightB; simp only [hc2]; unfold rightF; simp)
  unfold Nd.val Nd.cells
  clear h1 h7
  go_enter Tryd.func25, Tryd.ntmps25
  go_wp2_with fail
  repeat (first | (with_reducible refine (Hc1.out _).mono ?_; rintro e w' ⟨rfl, rfl⟩; go_wp2_with fail) | (with_reducible refine (Hc2.out _).mono ?_; rintro e w' ⟨rfl, rfl⟩; go_wp2_with fail))
  go_ret
  exact ⟨by rw [Hv.out]; try rfl, (Below.refl _ _).alloc (Nat.le_refl _) _⟩

set_option maxRecDepth 100000 in
set_option maxHeartbeats 400000 in
theorem right_cell (kind : Int) (fn : ByteArray) (copy : Int) (name : ByteArray) (n cell : Int) (w : World) (h1 : 1 ≤ kind) (h7 : kind ≤ 7) (Hc1 : Hid (∀ w, Calls Tryd.prog 36 #[.int .i64 (copy)] w fun e w' => e = .returned (.bool true) ∧ w = w')) (Hc2 : Hid (∀ w, Calls Tryd.prog 36 #[.int .i64 (n)] w fun e w' => e = .returned (.bool true) ∧ w = w')) (Hc3 : Hid (∀ w, Calls Tryd.prog 36 #[.int .i64 (cell)] w fun e w' => e = .returned (.bool false) ∧ w = w')) (hc3 : rcB cell = false) (hz3 : (cell == -1) = false) (hz4 : (cell != -1) = true) :
    Calls Tryd.prog 25 #[Nd.val ⟨kind, fn, copy, name, n, cell⟩] w (RPost (rightB ⟨kind, fn, copy, name, n, cell⟩) w) := by
  have hk1 : decide (kind < 1) = false := decide_eq_false (by omega)
  have hk7 : decide (7 < kind) = false := decide_eq_false (by omega)
  have Hv : Hid (rightB ⟨kind, fn, copy, name, n, cell⟩ = false) := Lib.hid (by unfold rightB; simp only [hc3]; unfold rightF; simp only [hz3]; simp)
  unfold Nd.val Nd.cells
  clear h1 h7
  go_enter Tryd.func25, Tryd.ntmps25
  go_wp2_with fail
  repeat (first | (with_reducible refine (Hc1.out _).mono ?_; rintro e w' ⟨rfl, rfl⟩; go_wp2_with fail) | (with_reducible refine (Hc2.out _).mono ?_; rintro e w' ⟨rfl, rfl⟩; go_wp2_with fail) | (with_reducible refine (Hc3.out _).mono ?_; rintro e w' ⟨rfl, rfl⟩; go_wp2_with fail))
  go_ret
  exact ⟨by rw [Hv.out]; try rfl, (Below.refl _ _).alloc (Nat.le_refl _) _⟩

theorem cnt_val {x : Int} {b : Bool} (h : rcB x = b) : Hid (∀ w, Calls Tryd.prog 36 #[.int .i64 x] w fun e w' => e = .returned (.bool b) ∧ w = w') := Lib.hid fun w => by rw [← h]; exact rcount_any x w
theorem nam_val {x : ByteArray} {b : Bool} (hs : x.size ≤ maxLen) (h : dg.nameB x = b) : Hid (∀ w, Calls Tryd.prog 37 #[.string x] w fun e w' => e = .returned (.bool b) ∧ w = w') := Lib.hid fun w => by rw [← h]; exact dg.rname_any x w hs
end Go.Proofs.YtenohenkedofkabDoor.nm
