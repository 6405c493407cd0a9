/-
  Memory: append, and what lies anywhere in the block.
-/
import Derived.Test.YtnjaadcbpkbjbaaDoorRow
namespace Go.Proofs.YtnjaadcbpkbjbaaDoor.mem
open Go.RowKit

/-- 'append' of one element: whatever holds of every cell of the block holds again -/
theorem Sg.pushAll {P : Program} (Pr : Value → Prop) {sz : Nat} {w : World} {e t ty : TypeId} {A : Option Addr} {cap n bytes : Nat} {cs us : List Value} {i : TypeInfo} {z : Value} (h : Sg sz w e A cap n cs) (ht : P.underlying t = some (.slice e)) (hi : P.info? e = some i) (hz : i.zero = some z) (hs : i.size = sz) (hb : i.bytes = bytes) (hzs : z.cells.size = sz)
    {ad : Addr} (hl : us.length = sz) (hu : ∀ j v, us[j]? = some v → w.cell? (ad.add j) = some v) (h1 : ∀ u ∈ us, u.oneCell' = true) (h63 : n + 1 ≤ 9223372036854775807) (hby : (n + 1) * bytes ≤ 140737488355328)
    (hall : ∀ a, A = some a → ∀ i u, w.cell? ⟨a.block, i, none⟩ = some u → Pr u) (hcs : ∀ u ∈ cs, Pr u) (hus : ∀ u ∈ us, Pr u) (hzp : ∀ j, j < z.cells.size → Pr z.cells[j]!) :
    ∃ A' cap' w', (Builtin.append_ #[t, t] ty #[.slice A n cap, .slice (some ad) 1 1]).run P w = .ok (.slice A' (n + 1) cap') w' ∧ Sg sz w' e A' cap' (n + 1) (cs ++ us) ∧ Fr (blk A) w w' ∧ (blk A' = blk A ∨ blk A' = [w.heap.size]) ∧ (∀ a, A' = some a → ∀ i u, w'.cell? ⟨a.block, i, none⟩ = some u → Pr u) := by
  have hsrc : Src P i.size t (.slice (some ad) 1 1) 1 us w := Src.ofSlice w ht ad 1 1 us (by rw [hs, hl]; simp) hu h1
  have hcl := h.len
  have hmul : (n + 1) * sz = n * sz + sz := by rw [Nat.add_mul, Nat.one_mul]
  have hlen' : (cs ++ us).length = (n + 1) * sz := by rw [List.length_append, hcl, hl, hmul]
  by_cases hroom : n + 1 ≤ cap
  · rcases A with _ | a
    · have := h.nil rfl; omega
    · obtain ⟨hsp, cur, hc, hle, hx⟩ := h.ex a rfl
      obtain ⟨g, off, spot⟩ := a
      have hsp : spot = none := hsp
      subst hsp
      have hle : off + cap * sz ≤ cur.size := hle
      have hc : w.heap[g]? = some (.cells cur e (0, 0)) := hc
      have hcap : (n + 1) * sz ≤ cap * sz := Nat.mul_le_mul_right _ hroom
      have hr := run_append_room_src (P := P) w t t ty e i ht hi g off n cap _ 1 us hsrc hroom (fun j hj => by
        rw [hs, cell_of_row w g _ cur e (0, 0) hc, Array.getElem?_eq_getElem (by omega)]; rfl) (fun j hj => by simp [World.frozen?, hc])
      rw [hs] at hr
      obtain ⟨cur', k1, k2, k3, k4⟩ := setCells_row g e us (off + n * sz) w cur hc (by omega)
      refine ⟨_, _, _, hr, ⟨hlen', hroom, h.max, fun hn => (by cases hn), fun a ha => ?_⟩, setCells_fr g us _ w, Or.inl rfl, fun a ha i u hu => ?_⟩
      rotate_left
      · cases ha
        have hu : (w.setCells g (off + n * sz) us).cell? ⟨g, i, none⟩ = some u := hu
        rw [cell_of_row _ g i cur' e (0, 0) k1] at hu
        by_cases hi1 : i < off + n * sz ∨ off + n * sz + us.length ≤ i
        · rw [k4 _ hi1] at hu
          exact hall _ rfl i u (by show w.cell? ⟨g, i, none⟩ = some u; rw [cell_of_row w g i cur e (0, 0) hc]; exact hu)
        · have hj : i - (off + n * sz) < us.length := by omega
          have := k3 (i - (off + n * sz)) _ (List.getElem?_eq_getElem hj)
          rw [show off + n * sz + (i - (off + n * sz)) = i by omega, hu] at this
          cases this
          exact hus _ (List.getElem_mem hj)
      cases ha
      refine ⟨rfl, cur', k1, by rw [k2]; exact hle, fun j u hu => ?_⟩
      rcases Nat.lt_or_ge j cs.length with hj | hj
      · rw [List.getElem?_append_left hj] at hu
        show cur'[off + j]? = _
        rw [k4 _ (Or.inl (by omega))]
        exact hx j u hu
      · rw [List.getElem?_append_right hj] at hu
        show cur'[off + j]? = _
        have := k3 _ u hu
        rwa [show off + n * sz + (j - cs.length) = off + j by omega] at this
  · have hold : (Builtin.firstCells i.size n (.slice A n cap)).run P w.drew = .ok cs.toArray w.drew := by
      rcases A with _ | a
      · have h0 := h.nil rfl
        have h2 := h.le
        obtain rfl : n = 0 := by omega
        obtain rfl : cs = [] := List.eq_nil_of_length_eq_zero (by omega)
        exact run_firstCells_none w.drew i.size 0 0 cap
      · obtain ⟨hsp, cur, hc, hle, hx⟩ := h.ex a rfl
        obtain ⟨g, off, spot⟩ := a
        have hsp : spot = none := hsp
        subst hsp
        exact run_firstCells_some w.drew i.size n ⟨g, off, none⟩ n cap cs (by rw [hs]; exact hcl) (fun j v hv => by
          have e1 : (⟨g, off, none⟩ : Addr).add j = ⟨g, off + j, none⟩ := by unfold Addr.add; split <;> simp_all
          rw [e1]
          show w.cell? _ = _
          rw [cell_of_row w g (off + j) cur e (0, 0) hc]
          exact hx j v hv)
    have hlen := h.le
    have hr := run_append_grow_src (P := P) w t t ty e i z ht hi hz A n cap cs hold _ 1 us hsrc (by omega) (by omega) (growslice_fits (by omega) (by rw [hb]; exact hby))
    have hge := grownCap_ge w (n + 1) cap e
    have hcm : grownCap w (n + 1) cap e ≤ maxLen := grownCap_le_maxLen w (n + 1) cap e (by unfold maxLen; omega)
    refine ⟨_, _, _, hr, ?_, (Fr.refl _ w).drew.alloc _, Or.inr rfl, fun a ha i u hu => ?_⟩
    rotate_left
    · cases ha
      have hu2 := (cell_of_row _ w.heap.size i _ e (0, 0) (heap_alloc_new w.drew (.cells ((cs ++ us).toArray ++ Builtin.zeroCells z.cells (grownCap w (n + 1) cap e - (n + 1))) e))).symm.trans hu
      have hm := Array.mem_of_getElem? hu2
      simp only [Array.mem_append, List.mem_toArray, Builtin.zeroCells, Array.mem_map, Array.mem_range] at hm
      rcases hm with hm | ⟨j, hj, rfl⟩
      · rcases List.mem_append.1 hm with h5 | h5
        · exact hcs u h5
        · exact hus u h5
      · exact hzp _ (Nat.mod_lt _ (Nat.pos_of_ne_zero fun h0 => by rw [h0] at hj; simp at hj))
    refine ⟨hlen', hge, hcm, fun hn => (by cases hn), fun a ha => ?_⟩
    cases ha
    refine ⟨rfl, _, heap_alloc_new w.drew _, ?_, fun j v hv => ?_⟩
    · show 0 + _ ≤ _
      simp only [Array.size_append, List.size_toArray, hlen', size_zeroCells, hzs]
      rw [← Nat.add_mul, Nat.zero_add]
      exact Nat.mul_le_mul_right _ (by omega)
    · show (_ : Array Value)[0 + j]? = some v
      have hj := (List.getElem?_eq_some_iff.1 hv).1
      rw [Nat.zero_add, Array.getElem?_append_left (by simpa using hj)]
      simpa using hv

/-- the same at the operation -/
theorem wpList_rowAll (Pr : Value → Prop) {P : Program} {sz : Nat} {w : World} {ops : Array Oper} {rest : List Oper} {o : Oper} {a : Act} {Q : Exit → Act → World → Prop} (hgd : o.guard = none) (s x : Operand) (t : TypeId)
    (ho : o.op = .call { callee := .builtin .append, args := #[s, x], argTypes := #[t, t] }) {e : TypeId} {A : Option Addr} {cap n bytes : Nat} {cs us : List Value} {i : TypeInfo} {z : Value} (h : Sg sz w e A cap n cs) (ht : P.underlying t = some (.slice e)) (hi : P.info? e = some i) (hz : i.zero = some z) (hs : i.size = sz) (hb : i.bytes = bytes) (hzs : z.cells.size = sz)
    {ad : Addr} (hes : a.eval s = .slice A n cap) (hex : a.eval x = .slice (some ad) 1 1) (hl : us.length = sz) (hu : ∀ j v, us[j]? = some v → w.cell? (ad.add j) = some v) (h1 : ∀ u ∈ us, u.oneCell' = true) (h63 : n + 1 ≤ 9223372036854775807) (hby : (n + 1) * bytes ≤ 140737488355328)
    (hall : ∀ a, A = some a → ∀ i u, w.cell? ⟨a.block, i, none⟩ = some u → Pr u) (hcs : ∀ u ∈ cs, Pr u) (hus : ∀ u ∈ us, Pr u) (hzp : ∀ j, j < z.cells.size → Pr z.cells[j]!)
    (hK : ∀ A' cap' w', Sg sz w' e A' cap' (n + 1) (cs ++ us) → Fr (blk A) w w' → (blk A' = blk A ∨ blk A' = [w.heap.size]) → (∀ a, A' = some a → ∀ i u, w'.cell? ⟨a.block, i, none⟩ = some u → Pr u) → wpList P ops Q rest (a.put o.dst (.slice A' (n + 1) cap')) w') : wpList P ops Q (o :: rest) a w := by
  refine wpList_plain hgd fun K hK' => ?_
  obtain ⟨A', cap', w', hr, h2, h3, h4, h5⟩ := h.pushAll Pr (ty := o.type) ht hi hz hs hb hzs hl hu h1 h63 hby hall hcs hus hzp
  unfold Oper.wp execOp
  simp only [ho, resolve, invoke, builtin, Sem.run_bind, Sem.run_pure, Result.andThen_ok, List.map_toArray, List.map_cons, List.map_nil, hes, hex, hr]
  exact hK' _ _ (hK A' cap' w' h2 h3 h4 h5)

/-- the same in a region that draws its order -/
theorem step_rowAll (Pr : Value → Prop) {P : Program} {sz : Nat} {w : World} {ops : Array Oper} {o : Oper} {a : Act} {K : Act → World → Prop} {Q : Exit → Act → World → Prop} {E : Prop} (hgd : o.guard = none) (s x : Operand) (t : TypeId)
    (ho : o.op = .call { callee := .builtin .append, args := #[s, x], argTypes := #[t, t] }) {e : TypeId} {A : Option Addr} {cap n bytes : Nat} {cs us : List Value} {i : TypeInfo} {z : Value} (h : Sg sz w e A cap n cs) (ht : P.underlying t = some (.slice e)) (hi : P.info? e = some i) (hz : i.zero = some z) (hs : i.size = sz) (hb : i.bytes = bytes) (hzs : z.cells.size = sz)
    {ad : Addr} (hes : a.eval s = .slice A n cap) (hex : a.eval x = .slice (some ad) 1 1) (hl : us.length = sz) (hu : ∀ j v, us[j]? = some v → w.cell? (ad.add j) = some v) (h1 : ∀ u ∈ us, u.oneCell' = true) (h63 : n + 1 ≤ 9223372036854775807) (hby : (n + 1) * bytes ≤ 140737488355328)
    (hall : ∀ a, A = some a → ∀ i u, w.cell? ⟨a.block, i, none⟩ = some u → Pr u) (hcs : ∀ u ∈ cs, Pr u) (hus : ∀ u ∈ us, Pr u) (hzp : ∀ j, j < z.cells.size → Pr z.cells[j]!)
    (hK : ∀ A' cap' w', Sg sz w' e A' cap' (n + 1) (cs ++ us) → Fr (blk A) w w' → (blk A' = blk A ∨ blk A' = [w.heap.size]) → (∀ a, A' = some a → ∀ i u, w'.cell? ⟨a.block, i, none⟩ = some u → Pr u) → K (a.put o.dst (.slice A' (n + 1) cap')) w') :
    if Region.wanted o (yielded ops a.tmps) = true then Oper.wp P o a w K Q else E := by
  have hw : Region.wanted o (yielded ops a.tmps) = true := by simp [Region.wanted, hgd]
  rw [if_pos hw]
  obtain ⟨A', cap', w', hr, h2, h3, h4, h5⟩ := h.pushAll Pr (ty := o.type) ht hi hz hs hb hzs hl hu h1 h63 hby hall hcs hus hzp
  unfold Oper.wp execOp
  simp only [ho, resolve, invoke, builtin, Sem.run_bind, Sem.run_pure, Result.andThen_ok, List.map_toArray, List.map_cons, List.map_nil, hes, hex, hr]
  exact hK _ _ _ h2 h3 h4 h5

end Go.Proofs.YtnjaadcbpkbjbaaDoor.mem
