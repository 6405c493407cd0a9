/-
  Shape: is a type too deep, or too great, to be asked?
-/
import Derived.Test.YtmahoppjefhnjaaDoorTy
import Derived.ProofKit
import Derived.WalkKit
namespace Go.Proofs.YtmahoppjefhnjaaDoor.sh
open Go.RowKit Go.Proofs.YtmahoppjefhnjaaDoor.mem

/-- the law's own: too deep, too long, too many -/
def deepB : Nat → Ty → Bool
  | 0, _ => true
  | l + 1, T => decide (100 < T.name.size) || (decide (3 < T.of.length) || T.of.any (deepB l))

theorem any_take_succ {α : Type} (p : α → Bool) (l : List α) (k : Nat) (hk : k < l.length) (h : (l.take k).any p = false) : (l.take (k + 1)).any p = p l[k] := by
  rw [List.take_add_one, List.any_append, h, List.getElem?_eq_getElem hk]
  simp

set_option maxRecDepth 100000 in
theorem deep_zero (T : Ty) (n : Nat) (v0 v1 v2 v3 : Value) (w : World) (ht : TyAt w n T v0 v1 v2 v3) :
    Calls Tryd.prog 52 #[.agg #[v0, v1, v2, v3], .int .i64 (0 : Int)] w fun e w' => e = .returned (.bool true) ∧ Below w.heap.size w w' := by
  cases n with
  | zero => exact ht.elim
  | succ n =>
  obtain ⟨rfl, w0, rfl, w1, rfl, w2, A, cap, rfl, h7, h8, h9⟩ := ht
  clear h8 h9
  go_enter Tryd.func52, Tryd.ntmps52
  go_wp2_with fail
  go_ret
  exact ⟨rfl, (Below.refl _ _).alloc (Nat.le_refl _) _⟩

/-- where a round of the loop stands -/
structure AtRound (w wr : World) (A : Option Addr) (n cap : Nat) : Prop where
  on : Below w.heap.size w wr
  lt : w.heap.size < wr.heap.size
  c3 : wr.cell? ⟨w.heap.size, 3, none⟩ = some (.slice A n cap)

set_option maxRecDepth 100000 in
theorem deep_any : ∀ (l : Nat) (T : Ty) (n : Nat) (v0 v1 v2 v3 : Value) (w : World), l ≤ 100 → TyAt w n T v0 v1 v2 v3 →
    Calls Tryd.prog 52 #[.agg #[v0, v1, v2, v3], .int .i64 (l : Int)] w fun e w' => e = .returned (.bool (deepB l T)) ∧ Below w.heap.size w w' := by
  intro l
  induction l with
  | zero => intro T n v0 v1 v2 v3 w _ ht; exact deep_zero T n v0 v1 v2 v3 w ht
  | succ l ih =>
  intro T n v0 v1 v2 v3 w hl ht
  have Hd : Hid (∀ (T : Ty) (n : Nat) (v0 v1 v2 v3 : Value) (w : World) (z : Int), z = (l : Int) → TyAt w n T v0 v1 v2 v3 →
      Calls Tryd.prog 52 #[.agg #[v0, v1, v2, v3], .int .i64 z] w fun e w' => e = .returned (.bool (deepB l T)) ∧ Below w.heap.size w w') :=
    Lib.hid (fun T n v0 v1 v2 v3 w z hz h => by rw [hz]; exact ih T n v0 v1 v2 v3 w (by omega) h)
  clear ih
  obtain ⟨L, hL⟩ : ∃ L : Int, L = ((l + 1 : Nat) : Int) := ⟨_, rfl⟩
  rw [← hL]
  have hL1 := Lib.hid hL
  have hL2 : 1 ≤ L := by omega
  have hL3 : L ≤ 101 := by omega
  clear hL
  cases n with
  | zero => exact ht.elim
  | succ n =>
  have e0 : (L == 0) = false := by simp; omega
  obtain ⟨rfl, w0, rfl, w1, rfl, w2, A, cap, rfl, h7, h8, h9⟩ := ht
  by_cases hn : 100 < T.name.size
  · have e1 : decide ((100 : Int) < (T.name.size : Int)) = true := decide_eq_true (by omega)
    have hres : deepB (l + 1) T = true := by simp [deepB, hn]
    rw [hres]
    clear h8 h9 Hd
    go_enter Tryd.func52, Tryd.ntmps52
    go_wp2_with fail
    go_ret
    exact ⟨rfl, (Below.refl _ _).alloc (Nat.le_refl _) _⟩
  have e1 : decide ((100 : Int) < (T.name.size : Int)) = false := decide_eq_false (by omega)
  by_cases ho : 3 < T.of.length
  · have e2 : decide ((3 : Int) < (T.of.length : Int)) = true := decide_eq_true (by omega)
    have hres : deepB (l + 1) T = true := by simp [deepB, ho]
    rw [hres]
    clear h8 h9 Hd
    go_enter Tryd.func52, Tryd.ntmps52
    go_wp2_with fail
    go_ret
    exact ⟨rfl, (Below.refl _ _).alloc (Nat.le_refl _) _⟩
  have e2 : decide ((3 : Int) < (T.of.length : Int)) = false := decide_eq_false (by omega)
  have hres : deepB (l + 1) T = T.of.any (deepB l) := by simp [deepB, hn, ho]
  rw [hres]
  have H8 := Lib.hid h8
  have H9 := Lib.hid h9
  clear h8 h9 hres
  generalize hof : T.of = of at *
  have hm := Lib.hid hof
  clear hof
  go_enter Tryd.func52, Tryd.ntmps52
  go_wp2_with fail
  go_loopw [5] (fun i wr => ∃ k : Nat, k ≤ of.length ∧ i = .int .i64 k ∧ Hid ((of.take k).any (deepB l) = false) ∧ Hid (AtRound w wr A of.length cap)) (fun i _ => of.length - (intOf i).toNat)
  case atStart => exact ⟨0, by omega, rfl, Lib.hid (by simp), Lib.hid ⟨(Below.refl _ _).alloc (Nat.le_refl _) _, by simp, by simp⟩⟩
  case round =>
    obtain ⟨k, hk, rfl, ha, hr⟩ := hrel
    rename_i wr _
    have C3 := hr.out.c3
    have CL := hr.out.lt
    by_cases hkl : k < of.length
    · have e3 : decide ((k : Int) < (of.length : Int)) = true := decide_eq_true (by omega)
      obtain ⟨b, off, rfl, hb⟩ := H8.out (by omega)
      obtain ⟨c0, c1, c2, c3, k0, k1, k2, k3, hT⟩ := H9.out k hkl b off rfl
      have step := Lib.hid (any_take_succ (deepB l) of k hkl ha.out)
      have hT2 : Hid (TyAt wr n of[k] c0 c1 c2 c3) := Lib.hid (TyAt.kept hr.out.on _ _ _ _ _ _ hT)
      have K0 : wr.cell? ⟨b, off + k * 4, none⟩ = some c0 := (hr.out.on.cell hb).trans k0
      have K1 : wr.cell? ⟨b, off + k * 4 + 1, none⟩ = some c1 := (hr.out.on.cell hb).trans k1
      have K2 : wr.cell? ⟨b, off + k * 4 + 2, none⟩ = some c2 := (hr.out.on.cell hb).trans k2
      have K3 : wr.cell? ⟨b, off + k * 4 + 3, none⟩ = some c3 := (hr.out.on.cell hb).trans k3
      obtain ⟨m, rfl⟩ : ∃ m, n = m + 1 := by cases n with | zero => exact hT.elim | succ m => exact ⟨m, rfl⟩
      generalize of[k] = T' at *
      obtain ⟨rfl, x0, rfl, x1, rfl, x2, A', cap', rfl, x3, _, _⟩ := hT
      clear k0 k1 k2 k3 H9 H8
      go_wp2_with fail
      refine (Hd.out T' (m + 1) _ _ _ _ wr _ (by have := hL1.out; omega) hT2.out).mono ?_
      rintro e w2 ⟨rfl, hb2⟩
      have on2 := Lib.hid (hr.out.on.trans (hb2.mono (by omega)))
      have C3' : w2.cell? ⟨w.heap.size, 3, none⟩ = some (.slice (some ⟨b, off, none⟩) of.length cap) := (hb2.cell CL).trans C3
      have CL' : w.heap.size < w2.heap.size := by have := hb2.size; omega
      have hb3 := Lib.hid hb2
      clear hb2 hr C3 CL
      cases hd : deepB l T' with
      | true =>
        have hany := Lib.hid (show of.any (deepB l) = true from by
          have := step.out; rw [hd] at this
          obtain ⟨x, hx, hy⟩ := List.any_eq_true.1 this
          exact List.any_eq_true.2 ⟨x, List.mem_of_mem_take hx, hy⟩)
        clear hd
        go_wp2_with fail
        go_ret
        exact ⟨by rw [hany.out]; rfl, on2.out⟩
      | false =>
        have hs := Lib.hid (step.out.trans hd)
        clear hd
        go_wp2_with fail
        go_roundw
        case rel => exact ⟨k + 1, by omega, by go_num, hs, Lib.hid ⟨on2.out, CL', C3'⟩⟩
        case measure => simp [intOf]; omega
    · obtain rfl : k = of.length := by omega
      have e3 : decide ((of.length : Int) < (of.length : Int)) = false := decide_eq_false (by omega)
      have hall := Lib.hid (show of.any (deepB l) = false by have := ha.out; rwa [List.take_length] at this)
      go_wp2_with fail
      go_ret
      exact ⟨by rw [hall.out]; rfl, hr.out.on⟩
end Go.Proofs.YtmahoppjefhnjaaDoor.sh
