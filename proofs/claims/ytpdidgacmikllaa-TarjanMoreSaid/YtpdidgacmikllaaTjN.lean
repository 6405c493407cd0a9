/-
  tarjan: the search in memory: a part that is closed.
-/
import Derived.Test.YtpdidgacmikllaaTjM
namespace Go.Proofs.Ytpdidgacmikllaa.tj
open Go.RowKit Go.Proofs.Ytpdidgacmikllaa.mem

/-- a list that is new -/
theorem SM.newPend {f : Fx} {W W' : World} {v : Vd} {T : MS} (h : SM f W v T) (hb : Below W.heap.size W W') (r : Row) (hs : Seg W' 3 r.A r.cap (natI r.xs)) (hg : ∀ g ∈ blk r.A, W.heap.size ≤ g) : SM f W' { v with pend := [r] } T := by
  obtain ⟨tag0, ht0⟩ := h.tg
  have ht := ht0.newer h 9
  have h2 := h.on hb
  have htg := ht.grow (W' := W') hb.size h.n0
  refine ⟨fun j => ?_, h.rw_, ⟨tag2 tag0 W.heap.size 9, htg.t0, htg.t1, htg.t2, htg.t3, htg.t4, htg.t5, htg.t6, htg.t7, htg.t8, fun r' hr g hgr => ?_, htg.ge⟩, Nat.le_trans h.n0 hb.size⟩
  · match j with
    | 0 => exact h2.c 0
    | 1 => exact h2.c 1
    | 2 => exact h2.c 2
    | 3 => exact h2.c 3
    | 4 => exact h2.c 4
    | 5 => exact h2.c 5
    | 6 => exact h2.c 6
    | 7 => exact h2.c 7
    | 8 => exact h2.c 8
    | 9 =>
      intro r' hr
      obtain rfl := List.mem_singleton.1 hr
      exact hs
    | j + 10 => trivial
  · obtain rfl := List.mem_singleton.1 hr
    exact tag2_new (hg g hgr)

/-- the list is turned -/
theorem SM.setPend {f : Fx} {W W' : World} {v : Vd} {T : MS} {r : Row} (h : SM f W { v with pend := [r] } T) (hf : Fr (blk r.A) W W') (xs : List Nat) (hs : Seg W' 3 r.A r.cap (natI xs)) : SM f W' { v with pend := [{ r with xs := xs }] } T ∧ Below f.n0 W W' := by
  obtain ⟨tag, ht⟩ := h.tg
  have hf1 : FrP (fun g => tag g = 9) W W' := FrP.of_fr hf (fun g hg => ht.t9 r (by simp) g hg)
  have K := smc_keep (T := T) ht hf1
  have htg := ht.grow (W' := W') hf.size h.n0
  refine ⟨⟨fun j => ?_, h.rw_, ⟨tag, htg.t0, htg.t1, htg.t2, htg.t3, htg.t4, htg.t5, htg.t6, htg.t7, htg.t8, fun r' hr g hgr => ?_, htg.ge⟩, Nat.le_trans h.n0 hf.size⟩, sm_frame ht h.n0 (by omega) hf1⟩
  · match j with
    | 0 => exact K 0 (by omega) (h.c 0)
    | 1 => exact K 1 (by omega) (h.c 1)
    | 2 => exact K 2 (by omega) (h.c 2)
    | 3 => exact K 3 (by omega) (h.c 3)
    | 4 => exact K 4 (by omega) (h.c 4)
    | 5 => exact K 5 (by omega) (h.c 5)
    | 6 => exact K 6 (by omega) (h.c 6)
    | 7 => exact K 7 (by omega) (h.c 7)
    | 8 => exact K 8 (by omega) (h.c 8)
    | 9 =>
      intro r' hr
      obtain rfl := List.mem_singleton.1 hr
      exact hs
    | j + 10 => trivial
  · obtain rfl := List.mem_singleton.1 hr
    exact ht.t9 r (by simp) g hgr

/-- the list is a part -/
theorem SM.putParts {f : Fx} {W W1 : World} {v : Vd} {T : MS} {r : Row} (h : SM f W { v with pend := [r] } T) {A' : Option Addr} {c' n : Nat} (hn : n = T.parts.length + 1) (hs : Seg W1 32 A' c' ((v.rows ++ [r]).map hdr)) (hf : Fr (blk v.Aq) W W1) (hb : ∀ g ∈ blk A', g ∈ blk v.Aq ∨ W.heap.size ≤ g) :
    Box W1 f.s 56 #[f.outV, .slice (some ⟨f.to, 0, none⟩) f.n f.n, .slice (some ⟨f.tn, 0, none⟩) f.n f.n, .slice (some ⟨f.tl, 0, none⟩) f.n f.n, .slice (some ⟨f.tp, 0, none⟩) f.n f.n, .slice v.Ap T.path.length v.cp, .slice v.As T.stack.length v.cs, .slice v.Aq T.parts.length v.cq, .int .i64 (T.count : Nat)] ∧
    SM f (W1.setCell ⟨f.s, 7, none⟩ (.slice A' n c')) { v with Aq := A', cq := c', rows := v.rows ++ [r], pend := [] } { T with parts := T.parts ++ [r.xs] } ∧ Below f.n0 W (W1.setCell ⟨f.s, 7, none⟩ (.slice A' n c')) := by
  have hn' : n = (T.parts ++ [r.xs]).length := by simp [hn]
  subst hn'
  obtain ⟨tag0, ht0⟩ := h.tg
  have ht := ht0.newer h 7
  generalize htag : tag2 tag0 W.heap.size 7 = tag at ht
  have hf1 : FrP (fun g => tag g = 7) W W1 := FrP.of_fr hf ht.t7
  have K1 := smc_keep (T := T) ht hf1
  have hA : ∀ g ∈ blk A', tag g = 7 := fun g hg => by
    rcases hb g hg with e | e
    · exact ht.t7 g e
    · rw [← htag]; exact tag2_new e
  have hbx : Box W1 f.s _ _ := K1 0 (by omega) (h.c 0)
  have hf2 := set_frp (W := W1) (i := 7) ht.t0 (.slice A' (T.parts ++ [r.xs]).length c')
  have ht1 : Tgs f W1 { v with pend := [r] } tag := ht.grow hf.size h.n0
  -- what was the list's kind is the parts' now
  have ht2 : Tgs f W1 { v with Aq := A', cq := c', rows := v.rows ++ [r], pend := [] } (fun g => if tag g = 9 then 8 else tag g) := by
    refine ⟨by simp [ht1.t0], by simp [ht1.t1], by simp [ht1.t2], by simp [ht1.t3], by simp [ht1.t4], fun g hg => by simp [ht1.t5 g hg], fun g hg => by simp [ht1.t6 g hg], fun g hg => by simp [hA g hg], fun r' hr hz g hg => ?_, fun r' hr => (by cases hr), fun g hg hlt => ht1.ge g hg ?_⟩
    · rcases List.mem_append.1 hr with hr | hr
      · simp [ht1.t8 r' hr hz g hg]
      · obtain rfl := List.mem_singleton.1 hr
        simp [ht1.t9 r' (by simp) g hg]
    · split at hlt <;> omega
  have hsz : W1.heap.size ≤ (W1.setCell ⟨f.s, 7, none⟩ (.slice A' (T.parts ++ [r.xs]).length c')).heap.size := hf2.size
  have hf3 : FrP (fun g => (fun g => if tag g = 9 then 8 else tag g) g = 0) W1 (W1.setCell ⟨f.s, 7, none⟩ (.slice A' (T.parts ++ [r.xs]).length c')) := set_frp (by simp [ht1.t0]) _
  have K2 : ∀ j, j ≠ 0 → SMc f W1 { v with Aq := A', cq := c', rows := v.rows ++ [r], pend := [] } { T with parts := T.parts ++ [r.xs] } j → SMc f (W1.setCell ⟨f.s, 7, none⟩ (.slice A' (T.parts ++ [r.xs]).length c')) { v with Aq := A', cq := c', rows := v.rows ++ [r], pend := [] } { T with parts := T.parts ++ [r.xs] } j := smc_keep ht2 hf3
  refine ⟨hbx, ⟨fun j => ?_, by show (v.rows ++ [r]).map _ = _; rw [List.map_append, show v.rows.map (·.xs) = T.parts from h.rw_]; rfl, ⟨_, ht2.grow hsz (Nat.le_trans h.n0 hf.size)⟩, Nat.le_trans h.n0 (Nat.le_trans hf.size hsz)⟩, (sm_frame ht h.n0 (by omega) hf1).trans ((sm_frame ht1 (Nat.le_trans h.n0 hf.size) (by omega) hf2))⟩
  match j with
  | 0 => exact hbx.put 7 (.slice A' (T.parts ++ [r.xs]).length c')
  | 1 => exact K2 1 (by omega) (K1 1 (by omega) (h.c 1))
  | 2 => exact K2 2 (by omega) (K1 2 (by omega) (h.c 2))
  | 3 => exact K2 3 (by omega) (K1 3 (by omega) (h.c 3))
  | 4 => exact K2 4 (by omega) (K1 4 (by omega) (h.c 4))
  | 5 => exact K2 5 (by omega) (K1 5 (by omega) (h.c 5))
  | 6 => exact K2 6 (by omega) (K1 6 (by omega) (h.c 6))
  | 7 => exact K2 7 (by omega) hs
  | 8 =>
    refine K2 8 (by omega) fun r' hr => ?_
    have hr : r' ∈ v.rows ++ [r] := hr
    rcases List.mem_append.1 hr with hr | hr
    · exact (K1 8 (by omega) (h.c 8)) r' hr
    · obtain rfl := List.mem_singleton.1 hr
      exact ((K1 9 (by omega) (h.c 9)) r' (by simp)).rd
  | 9 => exact K2 9 (by omega) (fun r' hr => by cases hr)
  | j + 10 => trivial

/-- the cells that a walk loads -/
theorem SM.cells {f : Fx} {W : World} {v : Vd} {T : MS} (h : SM f W v T) :
    W.cell? ⟨f.s, 0, none⟩ = some f.outV ∧ W.cell? ⟨f.s, 1, none⟩ = some (.slice (some ⟨f.to, 0, none⟩) f.n f.n) ∧ W.cell? ⟨f.s, 2, none⟩ = some (.slice (some ⟨f.tn, 0, none⟩) f.n f.n) ∧ W.cell? ⟨f.s, 3, none⟩ = some (.slice (some ⟨f.tl, 0, none⟩) f.n f.n) ∧ W.cell? ⟨f.s, 4, none⟩ = some (.slice (some ⟨f.tp, 0, none⟩) f.n f.n) ∧
    W.cell? ⟨f.s, 5, none⟩ = some (.slice v.Ap T.path.length v.cp) ∧ W.cell? ⟨f.s, 6, none⟩ = some (.slice v.As T.stack.length v.cs) ∧ W.cell? ⟨f.s, 7, none⟩ = some (.slice v.Aq T.parts.length v.cq) ∧ W.cell? ⟨f.s, 8, none⟩ = some (.int .i64 (T.count : Nat)) :=
  ⟨(sm_box h).cell 0, (sm_box h).cell 1, (sm_box h).cell 2, (sm_box h).cell 3, (sm_box h).cell 4, (sm_box h).cell 5, (sm_box h).cell 6, (sm_box h).cell 7, (sm_box h).cell 8⟩

theorem SM.drewN {f : Fx} {W : World} {v : Vd} {T : MS} (h : SM f W v T) (n : Nat) : SM f (W.drewN n) v T := h.on (((Fr.refl [] W).drewN n).all)

theorem SM.tried {f : Fx} {W : World} {v : Vd} {T : MS} (h : SM f W v T) {m : Nat} (hm : m < f.n) : W.cell? ⟨f.to, m, none⟩ = some (.int .i64 (T.tried m : Nat)) ∧ W.frozen? ⟨f.to, m, none⟩ = false :=
  let b : Box W f.to _ _ := h.c 1; ⟨(b.cell m).trans (iv_at _ hm), b.free m⟩
theorem SM.num {f : Fx} {W : World} {v : Vd} {T : MS} (h : SM f W v T) {m : Nat} (hm : m < f.n) : W.cell? ⟨f.tn, m, none⟩ = some (.int .i64 (T.num m : Nat)) ∧ W.frozen? ⟨f.tn, m, none⟩ = false :=
  let b : Box W f.tn _ _ := h.c 2; ⟨(b.cell m).trans (iv_at _ hm), b.free m⟩
theorem SM.low {f : Fx} {W : World} {v : Vd} {T : MS} (h : SM f W v T) {m : Nat} (hm : m < f.n) : W.cell? ⟨f.tl, m, none⟩ = some (.int .i64 (T.low m : Nat)) ∧ W.frozen? ⟨f.tl, m, none⟩ = false :=
  let b : Box W f.tl _ _ := h.c 3; ⟨(b.cell m).trans (iv_at _ hm), b.free m⟩
theorem SM.part {f : Fx} {W : World} {v : Vd} {T : MS} (h : SM f W v T) {m : Nat} (hm : m < f.n) : W.cell? ⟨f.tp, m, none⟩ = some (.int .i64 (T.part m)) ∧ W.frozen? ⟨f.tp, m, none⟩ = false :=
  let b : Box W f.tp _ _ := h.c 4; ⟨(b.cell m).trans (iv_at _ hm), b.free m⟩
theorem SM.free {f : Fx} {W : World} {v : Vd} {T : MS} (h : SM f W v T) (i : Nat) : W.frozen? ⟨f.s, i, none⟩ = false := (sm_box h).free i
end Go.Proofs.Ytpdidgacmikllaa.tj
