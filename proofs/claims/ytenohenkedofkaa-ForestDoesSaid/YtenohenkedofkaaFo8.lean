/-
  forest: New, and the reference's New.
-/
import Derived.Test.YtenohenkedofkaaFo7
import Derived.Deep.OwnRows
import Derived.Deep.DeepCutAuto
import Derived.Laws.OwnMore
namespace Go.Proofs.Ytenohenkedofkaa.fo
open Go.RowKit Go.Proofs.Ytenohenkedofkaa.mem

theorem info_int : (Try.prog.info? 3).map (fun i => (i.zero, i.size, i.bytes)) = some (some (.int .i64 0), 1, 8) := by kernel_rfl

/-- the first j written -/
def upto (k j : Nat) : List Nat := List.range j ++ List.replicate (k - j) 0
theorem upto_len (k j : Nat) (h : j ≤ k) : (upto k j).length = k := by unfold upto; simp; omega
theorem upto_set (k j : Nat) (h : j < k) : (upto k j).set j j = upto k (j + 1) := by
  unfold upto
  rw [List.set_append_right _ _ (by simp), List.length_range, Nat.sub_self]
  obtain ⟨m, hm⟩ : ∃ m, k - j = m + 1 := ⟨k - j - 1, by omega⟩
  rw [hm, List.replicate_succ, List.set_cons_zero, show k - (j + 1) = m from by omega, List.range_succ, List.append_assoc]
  rfl
theorem upto_all (k : Nat) : upto k k = List.range k := by unfold upto; simp
theorem upto_zero (k : Nat) : upto k 0 = List.replicate k 0 := by unfold upto; simp

theorem made_nat (k : Nat) : madeCells #[Value.int .i64 0] k = natv (upto k 0) := by
  rw [upto_zero]
  apply Array.ext'
  rw [toList_madeCells_one]
  unfold natv
  simp

structure NewAt (w w' : World) (f ga gn k j : Nat) : Prop where
  box : Box w' f 84 #[.slice (some ⟨ga, 0, none⟩) k k, .slice (some ⟨gn, 0, none⟩) k k, .int .i64 k]
  ab : Box w' ga 3 (natv (upto k j))
  nx : Box w' gn 3 (natv (upto k j))
  ne : ga ≠ gn
  on : Below w.heap.size w w'
  bf : w.heap.size ≤ f
  ba : w.heap.size ≤ ga
  bn : w.heap.size ≤ gn

theorem NewAt.step {w w' : World} {f ga gn k j : Nat} (h : NewAt w w' f ga gn k j) (hj : j < k) : NewAt w (((w'.setCell ⟨ga, j, none⟩ (.int .i64 (j : Int))).setCell ⟨gn, j, none⟩ (.int .i64 (j : Int))).drew) f ga gn k (j + 1) := by
  have nf : f ≠ ga := by
    rintro rfl
    have := h.box.symm.trans h.ab
    simp at this
  have nf2 : f ≠ gn := by
    rintro rfl
    have := h.box.symm.trans h.nx
    simp at this
  have f1 : Fr [ga] w' (w'.setCell ⟨ga, j, none⟩ (.int .i64 (j : Int))) := (Fr.refl [ga] w').setCell (Or.inl (by simp)) _
  have f2 : Fr [gn] (w'.setCell ⟨ga, j, none⟩ (.int .i64 (j : Int))) ((w'.setCell ⟨ga, j, none⟩ (.int .i64 (j : Int))).setCell ⟨gn, j, none⟩ (.int .i64 (j : Int))) := (Fr.refl [gn] _).setCell (Or.inl (by simp)) _
  have f2 := f2.drew
  refine ⟨(h.box.kept f1 (by simp; exact nf)).kept f2 (by simp; exact nf2), ?_, ?_, h.ne, ?_, h.bf, h.ba, h.bn⟩
  · refine Box.kept ?_ f2 (by simp; exact h.ne)
    have := h.ab.put j (.int .i64 (j : Int))
    rwa [natv_set, upto_set k j hj] at this
  · have := (h.nx.kept f1 (by simp; exact fun e => h.ne e.symm)).put j (.int .i64 (j : Int))
    rwa [natv_set, upto_set k j hj] at this
  · exact ((h.on.setCell (p := ⟨ga, j, none⟩) h.ba _).setCell (p := ⟨gn, j, none⟩) h.bn _).drew

theorem newAt_start (w : World) (ga gn k : Nat) (w1 : World) (hn : ga ≠ gn) (h1 : Box w1 ga 3 (natv (upto k 0))) (h2 : Box w1 gn 3 (natv (upto k 0))) (hb : Below w.heap.size w w1) (ha : w.heap.size ≤ ga) (hg : w.heap.size ≤ gn) :
    NewAt w (w1.alloc (.cells #[.slice (some ⟨ga, 0, none⟩) k k, .slice (some ⟨gn, 0, none⟩) k k, .int .i64 k] 84)) w1.heap.size ga gn k 0 :=
  ⟨Box.new _ _ _, h1.kept ((Fr.refl [] w1).alloc _) (by simp), h2.kept ((Fr.refl [] w1).alloc _) (by simp), hn, hb.alloc hb.size _, hb.size, ha, hg⟩

theorem newAt_a (w : World) (k : Nat) : NewAt w (((w.alloc (.cells (natv (upto k 0)) 3)).alloc (.cells (natv (upto k 0)) 3)).alloc (.cells #[.slice (some ⟨w.heap.size, 0, none⟩) k k, .slice (some ⟨w.heap.size + 1, 0, none⟩) k k, .int .i64 k] 84)).drew (w.heap.size + 1 + 1) w.heap.size (w.heap.size + 1) k 0 := by
  have h1 : Box (w.alloc (.cells (natv (upto k 0)) 3)) w.heap.size 3 (natv (upto k 0)) := Box.new _ _ _
  have h2 : Box ((w.alloc (.cells (natv (upto k 0)) 3)).alloc (.cells (natv (upto k 0)) 3)) (w.heap.size + 1) 3 (natv (upto k 0)) := by
    have := Box.new (w.alloc (.cells (natv (upto k 0)) 3)) 3 (natv (upto k 0))
    rwa [World.size_alloc] at this
  have := newAt_start w w.heap.size (w.heap.size + 1) k _ (by omega) (h1.kept ((Fr.refl [] _).alloc (.cells (natv (upto k 0)) 3)) (by simp)) h2 (((Below.refl w.heap.size w).alloc (Nat.le_refl _) _).alloc (by simp) _) (by omega) (by omega)
  rw [World.size_alloc, World.size_alloc] at this
  exact ⟨this.box, this.ab, this.nx, this.ne, this.on.drew, this.bf, this.ba, this.bn⟩

theorem newAt_b (w : World) (k : Nat) : NewAt w (((w.alloc (.cells (natv (upto k 0)) 3)).alloc (.cells (natv (upto k 0)) 3)).alloc (.cells #[.slice (some ⟨w.heap.size + 1, 0, none⟩) k k, .slice (some ⟨w.heap.size, 0, none⟩) k k, .int .i64 k] 84)).drew (w.heap.size + 1 + 1) (w.heap.size + 1) w.heap.size k 0 := by
  have h1 : Box (w.alloc (.cells (natv (upto k 0)) 3)) w.heap.size 3 (natv (upto k 0)) := Box.new _ _ _
  have h2 : Box ((w.alloc (.cells (natv (upto k 0)) 3)).alloc (.cells (natv (upto k 0)) 3)) (w.heap.size + 1) 3 (natv (upto k 0)) := by
    have := Box.new (w.alloc (.cells (natv (upto k 0)) 3)) 3 (natv (upto k 0))
    rwa [World.size_alloc] at this
  have := newAt_start w (w.heap.size + 1) w.heap.size k _ (by omega) h2 (h1.kept ((Fr.refl [] _).alloc (.cells (natv (upto k 0)) 3)) (by simp)) (((Below.refl w.heap.size w).alloc (Nat.le_refl _) _).alloc (by simp) _) (by omega) (by omega)
  rw [World.size_alloc, World.size_alloc] at this
  exact ⟨this.box, this.ab, this.nx, this.ne, this.on.drew, this.bf, this.ba, this.bn⟩

theorem NewAt.ff {w w' : World} {f ga gn k : Nat} (h : NewAt w w' f ga gn k k) : FF w' f ga gn (List.range k) k := by
  refine ⟨List.range k, List.range k, ⟨?_, ?_, ?_, rfl, h.ne⟩, inv_new k, rg_new k⟩
  · rw [List.length_range]; exact h.box
  · have := h.ab; rwa [upto_all] at this
  · have := h.nx; rwa [upto_all] at this

def clamp (n : Int) : Nat := (min (max n 0) 100000).toNat

set_option maxRecDepth 100000 in
theorem new_any (w : World) (n : Int) (k : Nat) (hk : Hid (k = clamp n)) :
    Calls Try.prog 12 #[.int .i64 n] w fun e w' => ∃ f ga gn, e = .returned (.pointer (some ⟨f, 0, none⟩)) ∧ FF w' f ga gn (List.range k) k ∧ Below w.heap.size w w' ∧ w.heap.size ≤ f ∧ w.heap.size ≤ ga ∧ w.heap.size ≤ gn := by
  have hkl : k ≤ 100000 := by have := hk.out; unfold clamp at this; omega
  have hmk := run_make_row' (P := Try.prog) 25 3 (.int .i64 0) 8 Try.underlying25 info_int rfl .i64 .i64 k (by omega) (by omega)
  rw [made_nat] at hmk
  have HB : Hid (∀ c : Int, k = c → (Value.int .i64 c) = .int .i64 (k : Int)) := Lib.hid (fun c h => by rw [h])
  go_enter Try.func12, Try.ntmps12
  go_upto_region 1 with fail
  go_cut [0] (fun s0 wx => s0 = .int .i64 (k : Int) ∧ w = wx)
  case first =>
    clear hmk
    have hk' := hk.out
    unfold clamp at hk'
    by_cases h1 : n < 0
    · have h2 : ¬ (0 < n) := by omega
      have h3 : ¬ (0 ≤ n) := by omega
      have h4 : n ≤ 0 := by omega
      have h5 := Lib.hid (HB.out 0 (by omega))
      clear hk'
      go_wp2_with fail
      go_meet
      exact ⟨h5.out, rfl⟩
    · by_cases h2 : n ≤ 100000
      · have h3 : 0 ≤ n := by omega
        have h5 := Lib.hid (HB.out n (by omega))
        have h6 : ¬ (100000 < n) := by omega
        clear hk'
        go_wp2_with fail
        all_goals (go_meet; first | exact ⟨h5.out, rfl⟩ | exact ⟨by rw [← h5.out]; congr 1; omega, rfl⟩)
      · have h3 : 0 ≤ n := by omega
        have h3' : 0 < n := by omega
        have h5 := Lib.hid (HB.out 100000 (by omega))
        have h6 : 100000 < n := by omega
        have h7 : 100000 ≤ n := by omega
        clear hk'
        go_wp2_with fail
        all_goals (go_meet; first | exact ⟨h5.out, rfl⟩)
  case rest =>
    obtain ⟨rfl, rfl⟩ := hcut
    go_upto_region 2 with fail
    go_cut [3] (fun s3 wx => ∃ f ga gn, s3 = .pointer (some ⟨f, 0, none⟩) ∧ Hid (NewAt w wx f ga gn k 0))
    case first =>
      go_region
      all_goals (go_wp2_with fail; go_meet)
      · exact ⟨_, _, _, rfl, Lib.hid (newAt_a w k)⟩
      · exact ⟨_, _, _, rfl, Lib.hid (newAt_b w k)⟩
    case rest =>
      obtain ⟨f, ga, gn, rfl, hN⟩ := hcut
      clear hmk
      go_wp2_with fail
      go_loopw [16] (fun i wr => ∃ j : Nat, j ≤ k ∧ i = .int .i64 j ∧ Hid (NewAt w wr f ga gn k j)) (fun i _ => k - (intOf i).toNat)
      case atStart => exact ⟨0, by omega, rfl, hN⟩
      case round =>
        obtain ⟨j, hj, rfl, h⟩ := hrel
        by_cases hjk : j < k
        · have d1 : decide ((j : Int) < (k : Int)) = true := decide_eq_true (by omega)
          rename_i wr _
          have c0 : wr.cell? ⟨f, 0, none⟩ = some (.slice (some ⟨ga, 0, none⟩) k k) := h.out.box.cell 0
          have c1 : wr.cell? ⟨f, 1, none⟩ = some (.slice (some ⟨gn, 0, none⟩) k k) := h.out.box.cell 1
          have fa := h.out.ab.free j
          have fn := h.out.nx.free j
          have la : ∃ v, wr.cell? ⟨ga, j, none⟩ = some v := ⟨_, (h.out.ab.cell j).trans (natv_at _ j (by rw [upto_len k j hj]; exact hjk))⟩
          have ln : ∃ v, wr.cell? ⟨gn, j, none⟩ = some v := ⟨_, (h.out.nx.cell j).trans (natv_at _ j (by rw [upto_len k j hj]; exact hjk))⟩
          obtain ⟨va, la⟩ := la
          obtain ⟨vn, ln⟩ := ln
          have ln2 : (wr.setCell ⟨ga, j, none⟩ (.int .i64 (j : Int))).cell? ⟨gn, j, none⟩ = some vn := ((h.out.nx.kept ((Fr.refl [ga] wr).setCell (p := ⟨ga, j, none⟩) (Or.inl (by simp)) (.int .i64 (j : Int))) (by simp; exact fun e => h.out.ne e.symm)).cell j).trans ((h.out.nx.cell j).symm.trans ln)
          have hs := Lib.hid (h.out.step hjk)
          go_wp2_with fail
          go_region
          go_wp2_with fail
          go_roundw
          case rel => exact ⟨j + 1, by omega, by go_num, hs⟩
          case measure => simp [intOf]; omega
        · obtain rfl : j = k := by omega
          have d1 : decide ((j : Int) < (j : Int)) = false := decide_eq_false (by omega)
          go_wp2_with fail
          go_ret
          exact ⟨f, ga, gn, rfl, h.out.ff, h.out.on, h.out.bf, h.out.ba, h.out.bn⟩

/-- the reference's forest in memory -/
structure RF (w : World) (g : Nat) (F : List Nat) : Prop where
  box : Box w g 3 (natv F)

theorem rnew_step {w w' : World} {g k j : Nat} (h : Box w' g 3 (natv (upto k j)) ∧ Below w.heap.size w w') (hg : w.heap.size ≤ g) (hj : j < k) : Box (w'.setCell ⟨g, j, none⟩ (.int .i64 (j : Int))) g 3 (natv (upto k (j + 1))) ∧ Below w.heap.size w (w'.setCell ⟨g, j, none⟩ (.int .i64 (j : Int))) := by
  refine ⟨?_, h.2.setCell (p := ⟨g, j, none⟩) hg _⟩
  have := h.1.put j (.int .i64 (j : Int))
  rwa [natv_set, upto_set k j hj] at this

set_option maxRecDepth 100000 in
theorem rnew_any (w : World) (n : Int) (k : Nat) (hk : Hid (k = clamp n)) :
    Calls Try.prog 13 #[.int .i64 n] w fun e w' => ∃ g, e = .returned (.slice (some ⟨g, 0, none⟩) k k) ∧ Box w' g 3 (natv (List.range k)) ∧ Below w.heap.size w w' ∧ w.heap.size ≤ g := by
  have hkl : k ≤ 100000 := by have := hk.out; unfold clamp at this; omega
  have hmk := run_make_row' (P := Try.prog) 26 3 (.int .i64 0) 8 Try.underlying26 info_int rfl .i64 .i64 k (by omega) (by omega)
  rw [made_nat] at hmk
  have HB : Hid (∀ c : Int, k = c → (Value.int .i64 c) = .int .i64 (k : Int)) := Lib.hid (fun c h => by rw [h])
  go_enter Try.func13, Try.ntmps13
  go_upto_region 1 with fail
  go_cut [0] (fun s0 wx => s0 = .int .i64 (k : Int) ∧ w = wx)
  case first =>
    clear hmk
    have hk' := hk.out
    unfold clamp at hk'
    by_cases h1 : n < 0
    · have h2 : ¬ (0 < n) := by omega
      have h3 : ¬ (0 ≤ n) := by omega
      have h4 : n ≤ 0 := by omega
      have h5 := Lib.hid (HB.out 0 (by omega))
      clear hk'
      go_wp2_with fail
      go_meet
      exact ⟨h5.out, rfl⟩
    · by_cases h2 : n ≤ 100000
      · have h3 : 0 ≤ n := by omega
        have h5 := Lib.hid (HB.out n (by omega))
        have h6 : ¬ (100000 < n) := by omega
        clear hk'
        go_wp2_with fail
        all_goals (go_meet; first | exact ⟨h5.out, rfl⟩ | exact ⟨by rw [← h5.out]; congr 1; omega, rfl⟩)
      · have h3 : 0 ≤ n := by omega
        have h3' : 0 < n := by omega
        have h5 := Lib.hid (HB.out 100000 (by omega))
        have h6 : 100000 < n := by omega
        have h7 : 100000 ≤ n := by omega
        clear hk'
        go_wp2_with fail
        all_goals (go_meet; first | exact ⟨h5.out, rfl⟩)
  case rest =>
    obtain ⟨rfl, rfl⟩ := hcut
    have hN : Hid (Box (w.alloc (.cells (natv (upto k 0)) 3)) w.heap.size 3 (natv (upto k 0)) ∧ Below w.heap.size w (w.alloc (.cells (natv (upto k 0)) 3))) := Lib.hid ⟨Box.new _ _ _, (Below.refl _ _).alloc (Nat.le_refl _) _⟩
    obtain ⟨g, hg⟩ : ∃ g, Hid (g = w.heap.size) := ⟨_, Lib.hid rfl⟩
    go_wp2_with fail
    go_loopw [4] (fun i wr => ∃ j : Nat, j ≤ k ∧ i = .int .i64 j ∧ Hid (Box wr w.heap.size 3 (natv (upto k j)) ∧ Below w.heap.size w wr)) (fun i _ => k - (intOf i).toNat)
    case atStart => exact ⟨0, by omega, rfl, hN⟩
    case round =>
      obtain ⟨j, hj, rfl, h⟩ := hrel
      by_cases hjk : j < k
      · have d1 : decide ((j : Int) < (k : Int)) = true := decide_eq_true (by omega)
        rename_i wr _
        have fa := h.out.1.free j
        have la : ∃ v, wr.cell? ⟨w.heap.size, j, none⟩ = some v := ⟨_, (h.out.1.cell j).trans (natv_at _ j (by rw [upto_len k j hj]; exact hjk))⟩
        obtain ⟨va, la⟩ := la
        have hs := Lib.hid (rnew_step h.out (Nat.le_refl _) hjk)
        go_wp2_with fail
        go_roundw
        case rel => exact ⟨j + 1, by omega, by go_num, hs⟩
        case measure => simp [intOf]; omega
      · obtain rfl : j = k := by omega
        have d1 : decide ((j : Int) < (j : Int)) = false := decide_eq_false (by omega)
        go_wp2_with fail
        go_ret
        have := h.out.1
        rw [upto_all] at this
        exact ⟨_, rfl, this, h.out.2, Nat.le_refl _⟩
end Go.Proofs.Ytenohenkedofkaa.fo
