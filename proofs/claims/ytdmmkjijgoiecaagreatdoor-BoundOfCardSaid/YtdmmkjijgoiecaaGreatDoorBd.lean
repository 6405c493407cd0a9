/-
  bound: a system's size, plain.
-/
import Derived.Test.YtdmmkjijgoiecaaGreatDoorLBdBase
set_option linter.all false
namespace Go.Proofs.YtdmmkjijgoiecaaGreatDoor.bd
open Go.RowKit Go.Proofs.YtdmmkjijgoiecaaGreatDoor.mem Go.Proofs.YtdmmkjijgoiecaaGreatDoor.sy
open Go.Proofs.YtdmmkjijgoiecaaGreatDoor.tx (rsS mem_rsS rs_len)

theorem fn_ok {f : SF} (h : fnE f = 0) : f.kinds.size ≤ 6 := by
  unfold fnE at h
  split at h
  · cases h
  · split at h
    · cases h
    · rename_i h2
      simp only [not_or] at h2
      exact kinds_le (by simpa using h2.1)
theorem con_op {c : SC} (h : conE c = 0) : 1 ≤ c.op ∧ c.op ≤ 6 := by
  unfold conE at h
  split at h
  · cases h
  · rename_i h2
    omega
/-- what a system that may be has -/
structure OfOk (s : SS) : Prop where
  f : ∀ x ∈ s.fns, x.kinds.size ≤ 6
  op : ∀ c ∈ s.cons, 1 ≤ c.op ∧ c.op ≤ 6
theorem of_ok {s : SS} (h : checkE s = 0) : OfOk s := by
  unfold checkE at h
  split at h
  · cases h
  · obtain ⟨_, h2⟩ := thenE_ok h
    obtain ⟨h1, h3⟩ := thenE_ok h2
    exact ⟨fun x hx => fn_ok (goE_ok h1 x hx), fun c hc => con_op (goE_ok h3 c hc)⟩

/-- functions' Formals -/
def fnN : List SF → Nat
  | [] => 0
  | f :: r => (f.kinds.size + 1) + fnN r
theorem fnN_snoc (l : List SF) (f : SF) : fnN (l ++ [f]) = fnN l + (f.kinds.size + 1) := by
  induction l with
  | nil => simp [fnN]
  | cons x r ih => simp only [List.cons_append, fnN, ih]; omega
theorem fnN_take {l : List SF} {k : Nat} (hk : k < l.length) : fnN (l.take (k + 1)) = fnN (l.take k) + (l[k].kinds.size + 1) := by
  rw [List.take_succ_eq_append_getElem hk, fnN_snoc]
theorem fnN_le {l : List SF} (h : ∀ x ∈ l, x.kinds.size ≤ 6) : fnN l ≤ l.length * 7 := by
  induction l with
  | nil => simp [fnN]
  | cons x r ih =>
    have h1 := ih (fun y hy => h y (List.mem_cons_of_mem _ hy))
    have h2 := h x List.mem_cons_self
    simp only [fnN, List.length_cons]
    omega
theorem fnN_take_le {l : List SF} (h : ∀ x ∈ l, x.kinds.size ≤ 6) (k : Nat) : fnN (l.take k) ≤ l.length * 7 := by
  have h1 := fnN_le (l := l.take k) (fun x hx => h x (List.mem_of_mem_take hx))
  rw [List.length_take] at h1
  have : min k l.length * 7 ≤ l.length * 7 := Nat.mul_le_mul_right _ (Nat.min_le_right _ _)
  omega

/-- constraints that places meet -/
def coN (l : List SC) : Nat := (l.filter fun c => decide (2 < c.op)).length
theorem coN_take {l : List SC} {k : Nat} (hk : k < l.length) : coN (l.take (k + 1)) = coN (l.take k) + (if 2 < l[k].op then 1 else 0) := by
  unfold coN
  rw [List.take_succ_eq_append_getElem hk, List.filter_append, List.length_append]
  by_cases h : 2 < l[k].op
  · rw [if_pos h, List.filter_cons_of_pos (by simpa using h)]; rfl
  · rw [if_neg h, List.filter_cons_of_neg (by simpa using h)]; rfl
theorem coN_le (l : List SC) (k : Nat) : coN (l.take k) ≤ l.length := by
  unfold coN
  refine Nat.le_trans (List.length_filter_le _ _) ?_
  rw [List.length_take]
  exact Nat.min_le_right _ _

/-- all that is a node, or a place -/
def allN (a b : List (List UInt8)) : List (List UInt8) := rsS (a ++ b)
theorem allN_take {a b : List (List UInt8)} {k : Nat} (hk : k < b.length) : allN a (b.take (k + 1)) = tx.intoS (allN a (b.take k)) b[k] := by
  unfold allN
  rw [List.take_succ_eq_append_getElem hk, ← List.append_assoc]
  exact inn.intoAll_snoc _ _ _
theorem allN_len (a b : List (List UInt8)) : (allN a b).length ≤ a.length + b.length := by
  unfold allN
  have := rs_len (a ++ b)
  rwa [List.length_append] at this
theorem allN_take_len (a b : List (List UInt8)) (k : Nat) : (allN a (b.take k)).length ≤ a.length + b.length := by
  have h := allN_len a (b.take k)
  rw [List.length_take] at h
  have := Nat.min_le_right k b.length
  omega

theorem allN_nil {a : List (List UInt8)} (h : a.Pairwise (fun x y => x < y)) : allN a [] = a := by
  unfold allN
  rw [List.append_nil]
  exact inn.rises_ext inn.ordS (inn.intoAll_spec inn.ordS a).1 h (fun x => mem_rsS a x)
theorem orNil_rise (l : List ByteArray) : (orNil 0 l).Pairwise (fun x y => x < y) := by
  unfold orNil
  rw [if_pos rfl]
  exact (inn.intoAll_spec inn.ordS _).1

/-- a system's size: nodes, constraints -/
noncomputable def nodesZ (s : SS) : Nat := if checkE s = 0 then (allN (orNil 0 (nodesL s)) (orNil 0 (placesL s))).length + fnN s.fns else 0
noncomputable def consZ (s : SS) : Nat := if checkE s = 0 then coN s.cons else 0
/-- fuel that is enough for a size -/
def fuelZ (n k : Int) : Int := if n < 0 ∨ k < 0 ∨ 100000 < n ∨ 100000 < k then 0 else (n + k + 1) * (n + k + 1) * (n + k + 1)
end Go.Proofs.YtdmmkjijgoiecaaGreatDoor.bd
