/-
  Bits: the library's Insert of one block.
-/
import Derived.Test.YtnjaadcbpkbjbaaDoorBt6
import Derived.Laws.IdiomCopy
import Derived.Deep.RegionHeld3
import Derived.Lib.AppendZerosOnto
import Derived.Lib.AppendZeros
import Derived.Lib.Overlaps
import Derived.Laws.Externs
import Derived.Laws.NewBlocks
namespace Go.Proofs.YtnjaadcbpkbjbaaDoor.bt
open Go.RowKit Go.Sort Go.Proofs.YtnjaadcbpkbjbaaDoor.mem

/-- 'copy' of elements of several cells, whatever overlaps -/
theorem run_copy_wide {P : Program} (w : World) (dT sT ty elem : TypeId) (b o dLen dCap : Nat) (a : Addr) (sLen sCap sz : Nat) (cs : List Value)
    (hu : P.underlying dT = some (.slice elem)) (hs : (P.info? elem).map (·.size) = some sz) (hn : cs.length = Nat.min sLen dLen * sz)
    (hsrc : ∀ j v, cs[j]? = some v → w.cell? (a.add j) = some v) (hc : ∀ j, j < cs.length → (w.cell? ⟨b, o + j, none⟩).isSome = true) (hf : ∀ j, j < cs.length → w.frozen? ⟨b, o + j, none⟩ = false) (h1 : ∀ v ∈ cs, v.oneCell' = true) :
    (Builtin.copy_ #[dT, sT] ty #[.slice (some ⟨b, o, none⟩) dLen dCap, .slice (some a) sLen sCap]).run P w = .ok (goInt (Nat.min sLen dLen)) (w.setCells b o cs) := by
  have hl := run_loadCells_list (P := P) w a cs hsrc
  have hst := run_storeCells_cells (P := P) b o cs 0 w (by simpa using hc) (by simpa using hf) h1
  cases hq : P.info? elem with
  | none => simp [hq] at hs
  | some i =>
    have hz : i.size = sz := by simpa [hq] using hs
    simp [Builtin.copy_, run_underlying hu, Builtin.lenOf, Builtin.firstCells, sizeOf, typeInfo, hq, hz, ← hn, hl, hst]

theorem info_blk : (Tryd.prog.info? 53).map (fun i => (i.zero, i.size, i.bytes)) = some (some (.agg #[.int .i64 0, .int .u64 0]), 2, 16) := by kernel_rfl
theorem sizeOf_blk (w : World) : (sizeOf 53).run Tryd.prog w = .ok 2 w := by
  obtain ⟨i, hi, _, hz, _⟩ := info_parts info_blk
  simp [sizeOf, typeInfo, hi, hz]

/-- what an insertion leaves -/
structure IP (w : World) (A : Option Addr) (n : Nat) (cs : List Value) (w' : World) (A' : Option Addr) (cap' : Nat) : Prop where
  sg : Sg 2 w' 53 A' cap' (n + 1) cs
  fr : Fr (blk A) w w'
  bl : ∀ g ∈ blk A', g ∈ blk A ∨ w.heap.size ≤ g
  no : A' ≠ none

theorem copy_row (w : World) {o : Oper} {a : Act} {K : Act → World → Prop} {Q : Exit → Act → World → Prop} (d s : Operand) (t t' : TypeId)
    (ho : o.op = .call { callee := .builtin .copy, args := #[d, s], argTypes := #[t, t'] }) (v u : Value) (hd : a.eval d = v) (hs : a.eval s = u) {v' : Value} {w' : World} {P : Program}
    (hr : (Builtin.copy_ #[t, t'] o.type #[v, u]).run P w = .ok v' w') (h : K (a.put o.dst v') w') : o.wp P a w K Q := by
  unfold Oper.wp execOp
  simp only [ho, resolve, invoke, builtin, Sem.run_bind, Sem.run_pure, Result.andThen_ok, List.map_toArray, List.map_cons, List.map_nil, hd, hs, hr]
  exact h

theorem wpList_copy (w : World) {ops : Array Oper} {rest : List Oper} {o : Oper} {a : Act} {Q : Exit → Act → World → Prop} {P : Program} (hgd : o.guard = none) (d s : Operand) (t t' : TypeId)
    (ho : o.op = .call { callee := .builtin .copy, args := #[d, s], argTypes := #[t, t'] }) (v u : Value) (hd : a.eval d = v) (hs : a.eval s = u) {v' : Value} {w' : World}
    (hr : (Builtin.copy_ #[t, t'] o.type #[v, u]).run P w = .ok v' w') (h : wpList P ops Q rest (a.put o.dst v') w') : wpList P ops Q (o :: rest) a w :=
  wpList_plain hgd fun _ hK => copy_row w d s t t' ho v u hd hs hr (hK _ _ h)

theorem step_copy {ops : Array Oper} {o : Oper} {a : Act} {w : World} {K : Act → World → Prop} {Q : Exit → Act → World → Prop} {E : Prop} {P : Program}
    (hg : o.guard = none) (d x : Operand) (dT sT : TypeId) (hop : o.op = Op.call { callee := Callee.builtin Builtin.copy, args := #[d, x], argTypes := #[dT, sT] })
    (v u : Value) (hd : a.eval d = v) (hx : a.eval x = u) {v' : Value} {w' : World} (hr : (Builtin.copy_ #[dT, sT] o.type #[v, u]).run P w = .ok v' w') (hK : K (a.put o.dst v') w') :
    if Region.wanted o (yielded ops a.tmps) = true then Oper.wp P o a w K Q else E := by
  have hw : Region.wanted o (yielded ops a.tmps) = true := by simp [Region.wanted, hg]
  rw [if_pos hw]
  exact copy_row w d x dT sT hop v u hd hx hr hK

set_option maxRecDepth 100000 in
set_option maxHeartbeats 1000000 in
/-- at the end -/
theorem ins_end (w : World) (A : Option Addr) (cap n : Nat) (cs : List Value) (h : Sg 2 w 53 A cap n cs) (hn : n ≤ 4194305) (v : Nat) (x0 x1 : Value) (hv : Box w v 53 #[x0, x1]) (h1 : ∀ u ∈ [x0, x1], u.oneCell' = true) :
    Calls Tryd.prog 25 #[.slice A n cap, .int .i64 (n : Nat), .slice (some ⟨v, 0, none⟩) 1 1] w fun e w' => ∃ A' cap', e = .returned (.slice A' (n + 1) cap') ∧ IP w A n (cs ++ [x0, x1]) w' A' cap' := by
  obtain ⟨i0, hi0, hz0, hz1, hz2⟩ := info_parts info_blk
  have Hi := Lib.hid hi0
  have Hz0 := Lib.hid hz0
  have Hz1 := Lib.hid hz1
  have Hz2 := Lib.hid hz2
  clear hi0 hz0 hz1 hz2
  have hle := h.le
  have hmx := h.max
  unfold maxLen at hmx
  have SG := Lib.hid h
  have hcell := Lib.hid (fun (j : Nat) (u : Value) (hu : [x0, x1][j]? = some u) => show w.cell? ((⟨v, 0, none⟩ : Addr).add j) = some u from by
    have e1 : (⟨v, 0, none⟩ : Addr).add j = ⟨v, j, none⟩ := by unfold Addr.add; split <;> simp_all
    rw [e1, hv.cell]
    simpa using hu)
  have H1 := Lib.hid h1
  clear h hv h1
  go_enter Tryd.func25, Tryd.ntmps25
  go_wp2_with (at_builtin
               refine wpList_row (us := [x0, x1]) rfl _ _ _ rfl SG.out Tryd.underlying24 Hi.out Hz0.out Hz1.out Hz2.out rfl rfl rfl rfl hcell.out H1.out (by omega) (by omega) ?_
               intro A5 cap5 w5 hs5 b5 hf5
               have R5 := Lib.hid (And.intro hs5 (And.intro b5 hf5))
               clear hs5 b5 hf5)
  all_goals (
    obtain ⟨r1, r2, r3⟩ := R5.out
    go_ret
    exact ⟨A5, cap5, rfl, r1, r2, fun g hg => (by
      rcases r3 with e | e
      · exact Or.inl (e ▸ hg)
      · rw [e, List.mem_singleton] at hg
        subst hg
        exact Or.inr (Nat.le_refl _)), fun e => (by have a := r1.nil e; have b := r1.le; omega)⟩)

theorem take_two {cs : List Value} {i n : Nat} (hl : cs.length = n * 2) (hi : i ≤ n) : (cs.take (i * 2)).length = i * 2 := by rw [List.length_take]; omega

theorem drop_two {cs : List Value} {i n : Nat} (hl : cs.length = n * 2) (hi : i ≤ n) : (cs.drop (i * 2)).length = (n - i) * 2 := by rw [List.length_drop]; omega

set_option maxRecDepth 100000 in
set_option maxHeartbeats 2000000 in
/-- in place -/
theorem ins_shift (w : World) (b off cap n i : Nat) (cs : List Value) (h : Sg 2 w 53 (some ⟨b, off, none⟩) cap n cs) (hc1 : ∀ u ∈ cs, u.oneCell' = true) (hn : n ≤ 4194305) (hi : i < n) (hroom : n + 1 ≤ cap) (v : Nat) (x0 x1 : Value) (hv : Box w v 53 #[x0, x1]) (hvb : v ≠ b) (h1 : ∀ u ∈ [x0, x1], u.oneCell' = true) :
    Calls Tryd.prog 25 #[.slice (some ⟨b, off, none⟩) n cap, .int .i64 (i : Nat), .slice (some ⟨v, 0, none⟩) 1 1] w fun e w' => ∃ A' cap', e = .returned (.slice A' (n + 1) cap') ∧ IP w (some ⟨b, off, none⟩) n (cs.take (i * 2) ++ [x0, x1] ++ cs.drop (i * 2)) w' A' cap' := by
  obtain ⟨hsp, cur, hcur, hfit, hx⟩ := h.ex _ rfl
  have hcur : w.heap[b]? = some (.cells cur 53 (0, 0)) := hcur
  have hfit : off + cap * 2 ≤ cur.size := hfit
  have hx : ∀ j u, cs[j]? = some u → cur[off + j]? = some u := hx
  have hlen := h.len
  have hmx := h.max
  unfold maxLen at hmx
  have hgt : ∀ j, w.cell? ⟨b, j, none⟩ = cur[j]? := fun j => cell_of_row w b j cur _ (0, 0) hcur
  have hov : ∀ lb cb, (callFunc 43 #[.slice (some ⟨v, 0, none⟩) 1 1, .slice (some ⟨b, off + (i + 1) * 2, none⟩) lb cb]).run Tryd.prog w = .ok (.value (.bool false)) w := fun lb cb => by
    rw [run_callFunc_extern Tryd.func43 (by kernel_rfl) (by kernel_rfl) (by kernel_rfl) (e := Extern.SlicesOverlaps.overlaps #[24, 24] #[4]) (by kernel_rfl),
      Lib.run_overlaps_apart w 24 4 53 Tryd.underlying24 2 sizeOf_blk ⟨v, 0, none⟩ ⟨b, off + (i + 1) * 2, none⟩ 1 1 lb cb hvb 53 53 2 cur.size (by simp [World.shape?, show w.heap[v]? = some _ from hv]) (by simp [World.shape?, hcur]) (by omega) (hv.free 0) (hv.free 2)]
    rfl
  have hsz : (Tryd.prog.info? 53).map (·.size) = some 2 := by
    obtain ⟨i0, hi0, _, h2, _⟩ := info_parts info_blk
    rw [hi0]; simp [h2]
  have hdl := drop_two hlen (Nat.le_of_lt hi)
  have hadd : ∀ x j, (⟨b, x, none⟩ : Addr).add j = ⟨b, x + j, none⟩ := fun x j => by unfold Addr.add; split <;> simp_all
  obtain ⟨W1, hW1⟩ : ∃ W1, W1 = w.drew.setCells b (off + (i + 1) * 2) (cs.drop (i * 2)) := ⟨_, rfl⟩
  have hcd : w.drew.heap[b]? = some (.cells cur 53 (0, 0)) := hcur
  obtain ⟨cur1, p1, p2, p3, p4⟩ := setCells_row b 53 (cs.drop (i * 2)) (off + (i + 1) * 2) w.drew cur hcd (by omega)
  rw [← hW1] at p1
  have hcp1 : ∀ ty dl dc sl sc, Nat.min sl dl = n - i → (Builtin.copy_ #[24, 24] ty #[.slice (some ⟨b, off + (i + 1) * 2, none⟩) dl dc, .slice (some ⟨b, off + i * 2, none⟩) sl sc]).run Tryd.prog w.drew = .ok (goInt (Nat.min sl dl)) W1 := fun ty dl dc sl sc he => by
    rw [hW1]
    refine run_copy_wide w.drew _ _ ty 53 b (off + (i + 1) * 2) dl dc ⟨b, off + i * 2, none⟩ sl sc 2 (cs.drop (i * 2)) Tryd.underlying24 hsz (by rw [he, hdl]) (fun j u hj => ?_) (fun j hj => ?_) (fun j _ => ?_) (fun u hu => hc1 u (List.mem_of_mem_drop hu))
    · rw [hadd]
      show w.cell? _ = _
      rw [hgt, Nat.add_assoc]
      exact hx _ u (by rwa [List.getElem?_drop] at hj)
    · show (w.cell? _).isSome = true
      rw [hgt, Array.getElem?_eq_getElem (by omega)]
      rfl
    · show w.frozen? _ = false
      simp [World.frozen?, hcur]
  have hg1 : ∀ j, W1.cell? ⟨b, j, none⟩ = cur1[j]? := fun j => cell_of_row W1 b j cur1 _ (0, 0) p1
  have hv1 : Box W1 v 53 #[x0, x1] := by
    rw [hW1]
    exact Box.kept (F := [b]) hv ((Fr.refl [] w).drew.trans (setCells_fr b _ _ w.drew) (by simp) (fun q hq => Or.inl hq)) (by simpa using hvb)
  obtain ⟨W2, hW2⟩ : ∃ W2, W2 = W1.setCells b (off + i * 2) [x0, x1] := ⟨_, rfl⟩
  obtain ⟨cur2, q1, q2, q3, q4⟩ := setCells_row b 53 [x0, x1] (off + i * 2) W1 cur1 p1 (by simp; omega)
  rw [← hW2] at q1
  have hcp2 : ∀ ty dl dc, Nat.min 1 dl = 1 → (Builtin.copy_ #[24, 24] ty #[.slice (some ⟨b, off + i * 2, none⟩) dl dc, .slice (some ⟨v, 0, none⟩) 1 1]).run Tryd.prog W1 = .ok (goInt (Nat.min 1 dl)) W2 := fun ty dl dc he => by
    rw [hW2]
    refine run_copy_wide W1 _ _ ty 53 b (off + i * 2) dl dc ⟨v, 0, none⟩ 1 1 2 [x0, x1] Tryd.underlying24 hsz (by rw [he]; rfl) (fun j u hj => ?_) (fun j hj => ?_) (fun j _ => ?_) h1
    · have e1 : (⟨v, 0, none⟩ : Addr).add j = ⟨v, j, none⟩ := by unfold Addr.add; split <;> simp_all
      rw [e1, hv1.cell]
      simpa using hj
    · simp only [List.length_cons, List.length_nil] at hj
      rw [hg1, Array.getElem?_eq_getElem (by omega)]
      rfl
    · simp [World.frozen?, p1]
  have hfr : Fr [b] w W2 := by
    rw [hW2, hW1]
    exact ((Fr.refl [] w).drew.trans (setCells_fr b _ _ w.drew) (by simp) (fun q hq => Or.inl hq)).trans (setCells_fr b _ _ _) (fun q hq => Or.inl hq) (fun q hq => Or.inl hq)
  have hIP : IP w (some ⟨b, off, none⟩) n (cs.take (i * 2) ++ [x0, x1] ++ cs.drop (i * 2)) W2 (some ⟨b, off, none⟩) cap := by
    have htl := take_two hlen (Nat.le_of_lt hi)
    refine ⟨⟨by simp only [List.length_append, htl, hdl, List.length_cons, List.length_nil]; omega, hroom, by unfold maxLen; omega, fun e => (by cases e), fun a ha => ?_⟩, hfr, fun g hg => Or.inl hg, by simp⟩
    cases ha
    refine ⟨rfl, cur2, q1, by show off + cap * 2 ≤ _; omega, fun j u hj => ?_⟩
    show cur2[off + j]? = some u
    have hjl := (List.getElem?_eq_some_iff.1 hj).1
    simp only [List.length_append, htl, hdl, List.length_cons, List.length_nil] at hjl
    rw [List.append_assoc, List.getElem?_append, htl] at hj
    split at hj
    · rename_i hj1
      rw [q4 _ (Or.inl (by omega)), p4 _ (Or.inl (by omega))]
      rw [List.getElem?_take, if_pos hj1] at hj
      exact hx j u hj
    · rename_i hj1
      rw [List.getElem?_append] at hj
      split at hj
      · rename_i hj2
        have := q3 (j - i * 2) u hj
        rwa [show off + i * 2 + (j - i * 2) = off + j by omega] at this
      · rename_i hj2
        simp only [List.length_cons, List.length_nil] at hj hj2
        rw [q4 _ (Or.inr (by simp; omega))]
        have := p3 (j - i * 2 - 2) u hj
        rwa [show off + (i + 1) * 2 + (j - i * 2 - 2) = off + j by omega] at this
  have hc2 := hcp2 3 (n + 1 - i) (cap - i) (by simp only [Nat.min_def]; split <;> omega)
  have HI := Lib.hid hIP
  have hz2 : ¬ ((i : Int) = (n : Int)) := by omega
  have hb2 : ¬ (cap = i + 1) := by omega
  have hb4 : ¬ (cap = i) := by omega
  have hb5 : (i : Int) + 1 ≤ (n : Int) + 1 := by omega
  have hw1 : IntKind.i64.wrap ((i : Int) + 1) = (i : Int) + 1 := by rw [IntWalk.i64_left]; exact IntWalk.wrap64_in _ (by omega)
  have hb1 : (0 : Int) ≤ (i : Int) + 1 := by omega
  have hb3 : (i : Int) ≤ (n : Int) + 1 := by omega
  have hb6 : ¬ ((i : Int) + 1 < 0) := by omega
  have hb7 : ¬ ((n : Int) + 1 < (i : Int)) := by omega
  clear hW1 hW2 hIP hfr q1 q2 q3 q4 p1 p2 p3 p4 hg1 hgt hx hcur hcd hv1 hv h h1 hc1
  go_enter Tryd.func25, Tryd.ntmps25
  go_wp2_with (simp only [hov])
  refine wp_region_held_drew (S := fun _ => True) (by kernel_rfl) trivial (fun hS => ?_)
  refine wpAnyH_take (i := 0) (v := .slice (some ⟨b, off, none⟩) (n + 1) cap) rfl (by kernel_rfl) (by kernel_rfl) (by kernel_rfl) (fun _ _ _ h => h) (Or.inl ⟨by kernel_rfl, ?_⟩) hS ?_
  · intro W' hSw
    go_simp
  change wpAnyH _ _ _ _ _ _ _ (Act.put _ (some 69) _) _
  try simp only [Act.put, List.setIfInBounds_toArray, List.set_cons_zero, List.set_cons_succ]
  refine wpAnyH_take (i := 1) (v := .int .i64 (i : Nat)) rfl (by kernel_rfl) (by kernel_rfl) (by kernel_rfl) (fun _ _ _ h => h) (Or.inl ⟨by kernel_rfl, ?_⟩) hS ?_
  · intro W' hSw
    go_simp
  change wpAnyH _ _ _ _ _ _ _ (Act.put _ (some 70) _) _
  try simp only [Act.put, List.setIfInBounds_toArray, List.set_cons_zero, List.set_cons_succ]
  refine wpAnyH_take (i := 2) (v := .int .i64 1) rfl (by kernel_rfl) (by kernel_rfl) (by kernel_rfl) (fun _ _ _ h => h) (Or.inl ⟨by kernel_rfl, ?_⟩) hS ?_
  · intro W' hSw
    go_simp
  change wpAnyH _ _ _ _ _ _ _ (Act.put _ (some 71) _) _
  try simp only [Act.put, List.setIfInBounds_toArray, List.set_cons_zero, List.set_cons_succ]
  refine wpAnyH_take (i := 3) (v := .int .i64 ((i : Int) + 1)) rfl (by kernel_rfl) (by kernel_rfl) (by kernel_rfl) (fun _ _ _ h => h) (Or.inl ⟨by kernel_rfl, ?_⟩) hS ?_
  · intro W' hSw
    go_simp
  change wpAnyH _ _ _ _ _ _ _ (Act.put _ (some 72) _) _
  try simp only [Act.put, List.setIfInBounds_toArray, List.set_cons_zero, List.set_cons_succ]
  refine wpAnyH_take (i := 4) (v := .slice (some ⟨b, off + (i + 1) * 2, none⟩) (n - i) (cap - (i + 1))) rfl (by kernel_rfl) (by kernel_rfl) (by kernel_rfl) (fun _ _ _ h => h) (Or.inl ⟨by kernel_rfl, ?_⟩) hS ?_
  · intro W' hSw
    go_simp
  change wpAnyH _ _ _ _ _ _ _ (Act.put _ (some 73) _) _
  try simp only [Act.put, List.setIfInBounds_toArray, List.set_cons_zero, List.set_cons_succ]
  refine wpAnyH_take (i := 5) (v := .slice (some ⟨b, off, none⟩) (n + 1) cap) rfl (by kernel_rfl) (by kernel_rfl) (by kernel_rfl) (fun _ _ _ h => h) (Or.inl ⟨by kernel_rfl, ?_⟩) hS ?_
  · intro W' hSw
    go_simp
  change wpAnyH _ _ _ _ _ _ _ (Act.put _ (some 74) _) _
  try simp only [Act.put, List.setIfInBounds_toArray, List.set_cons_zero, List.set_cons_succ]
  refine wpAnyH_take (i := 6) (v := .int .i64 (i : Nat)) rfl (by kernel_rfl) (by kernel_rfl) (by kernel_rfl) (fun _ _ _ h => h) (Or.inl ⟨by kernel_rfl, ?_⟩) hS ?_
  · intro W' hSw
    go_simp
  change wpAnyH _ _ _ _ _ _ _ (Act.put _ (some 75) _) _
  try simp only [Act.put, List.setIfInBounds_toArray, List.set_cons_zero, List.set_cons_succ]
  refine wpAnyH_take (i := 7) (v := .slice (some ⟨b, off + i * 2, none⟩) (n + 1 - i) (cap - i)) rfl (by kernel_rfl) (by kernel_rfl) (by kernel_rfl) (fun _ _ _ h => h) (Or.inl ⟨by kernel_rfl, ?_⟩) hS ?_
  · intro W' hSw
    go_simp
  change wpAnyH _ _ _ _ _ _ _ (Act.put _ (some 76) _) _
  try simp only [Act.put, List.setIfInBounds_toArray, List.set_cons_zero, List.set_cons_succ]
  refine wpAnyH_ready (rs := [8]) (by kernel_rfl) (by simp) ?_
  refine AllReadyH.cons rfl (fun K hK => ?_) AllReadyH.nil
  refine step_copy rfl _ _ _ _ rfl _ _ rfl rfl (hcp1 _ _ _ _ _ ?_) ?_
  · simp only [Nat.min_def]; split <;> omega
  refine hK.out _ _ trivial (fun _ => ?_)
  clear hK K
  try change wpAnyH _ _ _ _ _ _ _ (Act.put _ (some 77) _) _
  try simp only [Act.put, List.setIfInBounds_toArray, List.set_cons_zero, List.set_cons_succ]
  refine wpAnyH_done (by kernel_rfl) ?_ _
  go_wp2_with (simp only [hc2])
  go_ret
  exact ⟨_, _, rfl, HI.out⟩

set_option maxRecDepth 100000 in
set_option maxHeartbeats 2000000 in
/-- where there is no room -/
theorem ins_grow (w : World) (b off cap n i : Nat) (cs : List Value) (h : Sg 2 w 53 (some ⟨b, off, none⟩) cap n cs) (hc1 : ∀ u ∈ cs, u.oneCell' = true) (hn : n ≤ 4194305) (hi : i < n) (hroom : cap < n + 1) (v : Nat) (x0 x1 : Value) (hv : Box w v 53 #[x0, x1]) (h1 : ∀ u ∈ [x0, x1], u.oneCell' = true) :
    Calls Tryd.prog 25 #[.slice (some ⟨b, off, none⟩) n cap, .int .i64 (i : Nat), .slice (some ⟨v, 0, none⟩) 1 1] w fun e w' => ∃ A' cap', e = .returned (.slice A' (n + 1) cap') ∧ IP w (some ⟨b, off, none⟩) n (cs.take (i * 2) ++ [x0, x1] ++ cs.drop (i * 2)) w' A' cap' := by
  obtain ⟨hsp, cur, hcur, hfit, hx⟩ := h.ex _ rfl
  have hcur : w.heap[b]? = some (.cells cur 53 (0, 0)) := hcur
  have hfit : off + cap * 2 ≤ cur.size := hfit
  have hx : ∀ j u, cs[j]? = some u → cur[off + j]? = some u := hx
  have hlen := h.len
  have hle := h.le
  have hmx := h.max
  unfold maxLen at hmx
  have hblt : b < w.heap.size := (Array.getElem?_eq_some_iff.1 hcur).1
  obtain ⟨i0, hi0, hz0, hz1, hz2⟩ := info_parts info_blk
  have hsz : (Tryd.prog.info? 53).map (·.size) = some 2 := by rw [hi0]; simp [hz1]
  have hdl := drop_two hlen (Nat.le_of_lt hi)
  have htl := take_two hlen (Nat.le_of_lt hi)
  have hadd : ∀ a x j, (⟨a, x, none⟩ : Addr).add j = ⟨a, x + j, none⟩ := fun a x j => by unfold Addr.add; split <;> simp_all
  have hold : (Builtin.firstCells i0.size i (.slice (some ⟨b, off, none⟩) i cap)).run Tryd.prog w.drew = .ok (cs.take (i * 2)).toArray w.drew := by
    rw [hz1]
    exact run_firstCells_some w.drew 2 i ⟨b, off, none⟩ i cap (cs.take (i * 2)) htl (fun j u hj => by
      rw [hadd]
      show w.cell? _ = _
      rw [cell_of_row w b (off + j) cur _ (0, 0) hcur]
      rw [List.getElem?_take] at hj
      split at hj
      · exact hx j u hj
      · cases hj)
  obtain ⟨G, hG⟩ : ∃ G, G = grownCap w (n + 1) cap 53 := ⟨_, rfl⟩
  have hGn : n + 1 ≤ G := by rw [hG]; exact grownCap_ge w _ _ _
  have hG63 : G ≤ maxLen := by rw [hG]; exact grownCap_le_maxLen w (n + 1) cap _ (by unfold maxLen; omega)
  have hkk : (n : Int) + 1 - (i : Int) = ((n + 1 - i : Nat) : Int) := by omega
  have hik : i + (n + 1 - i) = n + 1 := by omega
  obtain ⟨ROW, hROW⟩ : ∃ ROW : Array Value, ROW = (cs.take (i * 2)).toArray ++ Builtin.zeroCells (Value.agg #[.int .i64 0, .int .u64 0]).cells (n + 1 - i) ++ Builtin.zeroCells (Value.agg #[.int .i64 0, .int .u64 0]).cells (G - (n + 1)) := ⟨_, rfl⟩
  have hrsz : ROW.size = G * 2 := by
    have hz : (Value.agg #[.int .i64 0, .int .u64 0]).cells.size = 2 := rfl
    rw [hROW]
    simp only [Array.size_append, List.size_toArray, htl, size_zeroCells, hz]
    omega
  obtain ⟨W1, hW1⟩ : ∃ W1, W1 = w.drew.alloc (.cells ROW 53) := ⟨_, rfl⟩
  have hrz : (Builtin.append_ #[24, 3] 24 #[.slice (some ⟨b, off, none⟩) i cap, .int .i64 ((n : Int) + 1 - (i : Int))]).run Tryd.prog w = .ok (.slice (some ⟨w.heap.size, 0, none⟩) (n + 1) G) W1 := by
    have hh := Lib.run_append_grow_zeros w 24 3 24 53 i0 _ .i64 .i64 Tryd.underlying24 Tryd.underlying3 hi0 hz0 (some ⟨b, off, none⟩) i cap (cs.take (i * 2)) hold (n + 1 - i) (by omega) (by omega) (by omega) (by omega) (by rw [hz2]; omega) (by rw [hz2, hik]; exact growslice_fits hroom (by omega))
    rw [hik, ← hG] at hh
    rw [hkk, hW1, hROW]
    exact hh
  have p1 : W1.heap[w.heap.size]? = some (.cells ROW 53 (0, 0)) := by rw [hW1]; exact heap_alloc_new w.drew _
  have hfr1 : Fr [] w W1 := by rw [hW1]; exact (Fr.refl [] w).drew.alloc _
  have hv1 : Box W1 v 53 #[x0, x1] := hv.kept hfr1 (by simp)
  have hvlt := hv.lt
  obtain ⟨W2, hW2⟩ : ∃ W2, W2 = W1.setCells w.heap.size (i * 2) [x0, x1] := ⟨_, rfl⟩
  obtain ⟨cur2, q1, q2, q3, q4⟩ := setCells_row w.heap.size 53 [x0, x1] (i * 2) W1 ROW p1 (by simp; omega)
  rw [← hW2] at q1
  have hcp2 : (Builtin.copy_ #[24, 24] 3 #[.slice (some ⟨w.heap.size, i * 2, none⟩) (n + 1 - i) (G - i), .slice (some ⟨v, 0, none⟩) 1 1]).run Tryd.prog W1 = .ok (goInt (Nat.min 1 (n + 1 - i))) W2 := by
    have he : Nat.min 1 (n + 1 - i) = 1 := by simp only [Nat.min_def]; split <;> omega
    rw [hW2]
    refine run_copy_wide W1 _ _ _ 53 w.heap.size (i * 2) (n + 1 - i) (G - i) ⟨v, 0, none⟩ 1 1 2 [x0, x1] Tryd.underlying24 hsz (by rw [he]; rfl) (fun j u hj => ?_) (fun j hj => ?_) (fun j _ => ?_) h1
    · rw [hadd, hv1.cell]
      simpa using hj
    · simp only [List.length_cons, List.length_nil] at hj
      rw [cell_of_row W1 w.heap.size _ ROW _ (0, 0) p1, Array.getElem?_eq_getElem (by omega)]
      rfl
    · simp [World.frozen?, p1]
  have hfr2 : Fr [w.heap.size] W1 W2 := by rw [hW2]; exact setCells_fr _ _ _ _
  have hcur2 : W2.heap[b]? = some (.cells cur 53 (0, 0)) := (hfr2.block b (Nat.lt_of_lt_of_le hblt hfr1.size) (by simp; omega)).trans ((hfr1.block b hblt (by simp)).trans hcur)
  obtain ⟨W3, hW3⟩ : ∃ W3, W3 = W2.drew.setCells w.heap.size ((i + 1) * 2) (cs.drop (i * 2)) := ⟨_, rfl⟩
  have q1d : W2.drew.heap[w.heap.size]? = some (.cells cur2 53 (0, 0)) := q1
  obtain ⟨cur3, s1, s2, s3, s4⟩ := setCells_row w.heap.size 53 (cs.drop (i * 2)) ((i + 1) * 2) W2.drew cur2 q1d (by rw [hdl]; omega)
  rw [← hW3] at s1
  have hcp3 : ∀ ty dl dc sl sc, Nat.min sl dl = n - i → (Builtin.copy_ #[24, 24] ty #[.slice (some ⟨w.heap.size, (i + 1) * 2, none⟩) dl dc, .slice (some ⟨b, off + i * 2, none⟩) sl sc]).run Tryd.prog W2.drew = .ok (goInt (Nat.min sl dl)) W3 := fun ty dl dc sl sc he => by
    rw [hW3]
    refine run_copy_wide W2.drew _ _ ty 53 w.heap.size ((i + 1) * 2) dl dc ⟨b, off + i * 2, none⟩ sl sc 2 (cs.drop (i * 2)) Tryd.underlying24 hsz (by rw [he, hdl]) (fun j u hj => ?_) (fun j hj => ?_) (fun j _ => ?_) (fun u hu => hc1 u (List.mem_of_mem_drop hu))
    · rw [hadd]
      show W2.cell? _ = _
      rw [cell_of_row W2 b _ cur _ (0, 0) hcur2, Nat.add_assoc]
      exact hx _ u (by rwa [List.getElem?_drop] at hj)
    · show (W2.cell? _).isSome = true
      rw [cell_of_row W2 w.heap.size _ cur2 _ (0, 0) q1, Array.getElem?_eq_getElem (by omega)]
      rfl
    · show W2.frozen? _ = false
      simp [World.frozen?, q1]
  have hfr3 : Fr [w.heap.size] W2 W3 := by rw [hW3]; exact (Fr.refl _ W2).drew.trans (setCells_fr _ _ _ _) (fun q hq => Or.inl hq) (fun q hq => Or.inl hq)
  have hIP : IP w (some ⟨b, off, none⟩) n (cs.take (i * 2) ++ [x0, x1] ++ cs.drop (i * 2)) W3 (some ⟨w.heap.size, 0, none⟩) G := by
    refine ⟨⟨by simp only [List.length_append, htl, hdl, List.length_cons, List.length_nil]; omega, hGn, hG63, fun e => (by cases e), fun a ha => ?_⟩, ?_, fun g hg => Or.inr (by simp only [blk, List.mem_singleton] at hg; omega), by simp⟩
    · cases ha
      refine ⟨rfl, cur3, s1, by show 0 + G * 2 ≤ _; omega, fun j u hj => ?_⟩
      show cur3[0 + j]? = some u
      rw [Nat.zero_add]
      have hjl := (List.getElem?_eq_some_iff.1 hj).1
      simp only [List.length_append, htl, hdl, List.length_cons, List.length_nil] at hjl
      rw [List.append_assoc, List.getElem?_append, htl] at hj
      split at hj
      · rename_i hj1
        rw [s4 _ (Or.inl (by omega)), q4 _ (Or.inl (by omega)), hROW, Array.append_assoc, Array.getElem?_append_left (by rw [List.size_toArray, htl]; exact hj1)]
        simpa using hj
      · rename_i hj1
        rw [List.getElem?_append] at hj
        split at hj
        · rename_i hj2
          simp only [List.length_cons, List.length_nil] at hj2
          rw [s4 _ (Or.inl (by omega))]
          have := q3 (j - i * 2) u hj
          rwa [show i * 2 + (j - i * 2) = j by omega] at this
        · rename_i hj2
          simp only [List.length_cons, List.length_nil] at hj hj2
          have := s3 (j - i * 2 - 2) u hj
          rwa [show (i + 1) * 2 + (j - i * 2 - 2) = j by omega] at this
    · exact (hfr1.trans (hfr2.trans hfr3 (fun q hq => Or.inl hq) (fun q hq => Or.inl hq)) (by simp) (fun q hq => Or.inr (by simp only [List.mem_singleton] at hq; omega)))
  have HI := Lib.hid hIP
  have HZ := Lib.hid hrz
  clear hrz
  have HC3 := Lib.hid hcp3
  have hz2' : ¬ ((i : Int) = (n : Int)) := by omega
  have hb2 : ¬ (G = i + 1) := by omega
  have hb4 : ¬ (G = i) := by omega
  have hb8 : ¬ (cap = i) := by omega
  have hb5 : (i : Int) + 1 ≤ (n : Int) + 1 := by omega
  have hw1 : IntKind.i64.wrap ((i : Int) + 1) = (i : Int) + 1 := by rw [IntWalk.i64_left]; exact IntWalk.wrap64_in _ (by omega)
  have hb1 : (0 : Int) ≤ (i : Int) + 1 := by omega
  have hb3 : (i : Int) ≤ (n : Int) + 1 := by omega
  have hb6 : ¬ ((i : Int) + 1 < 0) := by omega
  have hb7 : ¬ ((n : Int) + 1 < (i : Int)) := by omega
  have hb10 : ¬ (n < i) := by omega
  have hb9 : G ≤ 9223372036854775807 := by unfold maxLen at hG63; omega
  clear hW1 hW2 hW3 hIP hfr1 hfr2 hfr3 q1 q1d q2 q3 q4 p1 s1 s2 s3 s4 hx hcur hcur2 hv1 hv h h1 hc1 hcp3 hold hROW hrsz hG hkk hik hi0 hz0 hz1 hz2 hadd hsz
  go_enter Tryd.func25, Tryd.ntmps25
  go_wp2_with (first
    | (at_builtin; refine Lib.wpList_append_run _ rfl _ _ 24 3 rfl _ _ rfl rfl _ _ HZ.out ?_)
    | simp only [hcp2])
  refine wp_region_held_drew (S := fun _ => True) (by kernel_rfl) trivial (fun hS => ?_)
  refine wpAnyH_take (i := 0) (v := .slice (some ⟨w.heap.size, 0, none⟩) (n + 1) G) rfl (by kernel_rfl) (by kernel_rfl) (by kernel_rfl) (fun _ _ _ h => h) (Or.inl ⟨by kernel_rfl, ?_⟩) hS ?_
  · intro W' hSw
    go_simp
  change wpAnyH _ _ _ _ _ _ _ (Act.put _ (some 46) _) _
  try simp only [Act.put, List.setIfInBounds_toArray, List.set_cons_zero, List.set_cons_succ]
  refine wpAnyH_take (i := 1) (v := .int .i64 (i : Nat)) rfl (by kernel_rfl) (by kernel_rfl) (by kernel_rfl) (fun _ _ _ h => h) (Or.inl ⟨by kernel_rfl, ?_⟩) hS ?_
  · intro W' hSw
    go_simp
  change wpAnyH _ _ _ _ _ _ _ (Act.put _ (some 47) _) _
  try simp only [Act.put, List.setIfInBounds_toArray, List.set_cons_zero, List.set_cons_succ]
  refine wpAnyH_take (i := 2) (v := .int .i64 1) rfl (by kernel_rfl) (by kernel_rfl) (by kernel_rfl) (fun _ _ _ h => h) (Or.inl ⟨by kernel_rfl, ?_⟩) hS ?_
  · intro W' hSw
    go_simp
  change wpAnyH _ _ _ _ _ _ _ (Act.put _ (some 48) _) _
  try simp only [Act.put, List.setIfInBounds_toArray, List.set_cons_zero, List.set_cons_succ]
  refine wpAnyH_take (i := 3) (v := .int .i64 ((i : Int) + 1)) rfl (by kernel_rfl) (by kernel_rfl) (by kernel_rfl) (fun _ _ _ h => h) (Or.inl ⟨by kernel_rfl, ?_⟩) hS ?_
  · intro W' hSw
    go_simp
  change wpAnyH _ _ _ _ _ _ _ (Act.put _ (some 49) _) _
  try simp only [Act.put, List.setIfInBounds_toArray, List.set_cons_zero, List.set_cons_succ]
  refine wpAnyH_take (i := 4) (v := .slice (some ⟨w.heap.size, (i + 1) * 2, none⟩) (n - i) (G - (i + 1))) rfl (by kernel_rfl) (by kernel_rfl) (by kernel_rfl) (fun _ _ _ h => h) (Or.inl ⟨by kernel_rfl, ?_⟩) hS ?_
  · intro W' hSw
    go_simp
  change wpAnyH _ _ _ _ _ _ _ (Act.put _ (some 50) _) _
  try simp only [Act.put, List.setIfInBounds_toArray, List.set_cons_zero, List.set_cons_succ]
  refine wpAnyH_take (i := 5) (v := .slice (some ⟨b, off, none⟩) n cap) rfl (by kernel_rfl) (by kernel_rfl) (by kernel_rfl) (fun _ _ _ h => h) (Or.inl ⟨by kernel_rfl, ?_⟩) hS ?_
  · intro W' hSw
    go_simp
  change wpAnyH _ _ _ _ _ _ _ (Act.put _ (some 51) _) _
  try simp only [Act.put, List.setIfInBounds_toArray, List.set_cons_zero, List.set_cons_succ]
  refine wpAnyH_take (i := 6) (v := .int .i64 (i : Nat)) rfl (by kernel_rfl) (by kernel_rfl) (by kernel_rfl) (fun _ _ _ h => h) (Or.inl ⟨by kernel_rfl, ?_⟩) hS ?_
  · intro W' hSw
    go_simp
  change wpAnyH _ _ _ _ _ _ _ (Act.put _ (some 52) _) _
  try simp only [Act.put, List.setIfInBounds_toArray, List.set_cons_zero, List.set_cons_succ]
  refine wpAnyH_take (i := 7) (v := .slice (some ⟨b, off + i * 2, none⟩) (n - i) (cap - i)) rfl (by kernel_rfl) (by kernel_rfl) (by kernel_rfl) (fun _ _ _ h => h) (Or.inl ⟨by kernel_rfl, ?_⟩) hS ?_
  · intro W' hSw
    go_simp
  change wpAnyH _ _ _ _ _ _ _ (Act.put _ (some 53) _) _
  try simp only [Act.put, List.setIfInBounds_toArray, List.set_cons_zero, List.set_cons_succ]
  refine wpAnyH_ready (rs := [8]) (by kernel_rfl) (by simp) ?_
  refine AllReadyH.cons rfl (fun K hK => ?_) AllReadyH.nil
  refine step_copy rfl _ _ _ _ rfl _ _ rfl rfl (HC3.out _ _ _ _ _ ?_) ?_
  · simp only [Nat.min_def]; split <;> omega
  refine hK.out _ _ trivial (fun _ => ?_)
  clear hK K
  try change wpAnyH _ _ _ _ _ _ _ (Act.put _ (some 54) _) _
  try simp only [Act.put, List.setIfInBounds_toArray, List.set_cons_zero, List.set_cons_succ]
  refine wpAnyH_done (by kernel_rfl) ?_ _
  go_wp2_with fail
  go_ret
  exact ⟨_, _, rfl, HI.out⟩

theorem ip_none {w : World} {A : Option Addr} {n : Nat} {cs : List Value} {w' : World} {A' : Option Addr} {cap' : Nat} (h : IP w A n cs w' A' cap') : A' ≠ none := h.no

/-- a block put in, wherever -/
theorem ins_any (w : World) (A : Option Addr) (cap n i : Nat) (cs : List Value) (h : Sg 2 w 53 A cap n cs) (hc1 : ∀ u ∈ cs, u.oneCell' = true) (hn : n ≤ 4194305) (hi : i ≤ n) (v : Nat) (x0 x1 : Value) (hv : Box w v 53 #[x0, x1]) (hvb : v ∉ blk A) (h1 : ∀ u ∈ [x0, x1], u.oneCell' = true) :
    Calls Tryd.prog 25 #[.slice A n cap, .int .i64 (i : Nat), .slice (some ⟨v, 0, none⟩) 1 1] w fun e w' => ∃ A' cap', e = .returned (.slice A' (n + 1) cap') ∧ IP w A n (cs.take (i * 2) ++ [x0, x1] ++ cs.drop (i * 2)) w' A' cap' := by
  have hlen := h.len
  by_cases hin : i = n
  · subst hin
    rw [List.take_of_length_le (by omega), List.drop_eq_nil_of_le (by omega), List.append_nil]
    exact ins_end w A cap i cs h hn v x0 x1 hv h1
  · have hil : i < n := by omega
    cases A with
    | none =>
      have := h.nil rfl
      have := h.le
      omega
    | some a =>
      obtain ⟨b, off, spot⟩ := a
      obtain ⟨hsp, _⟩ := h.ex _ rfl
      have hsp : spot = none := hsp
      subst hsp
      by_cases hroom : n + 1 ≤ cap
      · exact ins_shift w b off cap n i cs h hc1 hn hil hroom v x0 x1 hv (by simpa [blk] using hvb) h1
      · exact ins_grow w b off cap n i cs h hc1 hn hil (by omega) v x0 x1 hv h1
end Go.Proofs.YtnjaadcbpkbjbaaDoor.bt
