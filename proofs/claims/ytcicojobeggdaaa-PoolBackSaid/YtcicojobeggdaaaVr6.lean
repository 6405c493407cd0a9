/-
  varint: the Writer's Text and Done.
-/
import Derived.Test.YtcicojobeggdaaaVr5
import Derived.Lib.BufferRead
namespace Go.Proofs.Ytcicojobeggdaaa.vr
open Go.RowKit Go.Shelf Go.Proofs.Ytcicojobeggdaaa.mem

/-- 'append(x, s...)' of a string -/
theorem seg_str {P : Program} {w : World} {e t tx ty : TypeId} {A : Option Addr} {cap bytes : Nat} {xs : List Value} {i : TypeInfo} {z : Value} (h : Seg w e A cap xs) (s : ByteArray) (hx : P.underlying tx = some .string) (ht : P.underlying t = some (.slice e)) (hi : P.info? e = some i) (hz : i.zero = some z) (hs : i.size = 1) (hb : i.bytes = bytes) (hzs : z.cells.size = 1)
    (h63 : xs.length + s.size ≤ 9223372036854775807) (hby : (xs.length + s.size) * bytes ≤ 140737488355328) :
    ∃ A' cap' w', (Builtin.append_ #[t, tx] ty #[.slice A xs.length cap, .string s]).run P w = .ok (.slice A' (xs.length + s.size) cap') w' ∧ Seg w' e A' cap' (xs ++ byteCells s) ∧ Fr (blk A) w w' ∧ (blk A' = blk A ∨ blk A' = [w.heap.size]) := by
  have hsrc : Src P i.size tx (.string s) s.size (byteCells s) w := by rw [hs]; exact Src.ofString w hx s
  have hbl : (byteCells s).length = s.size := byteCells_length s
  by_cases hroom : xs.length + s.size ≤ cap
  · rcases A with _ | a
    · obtain ⟨rfl, rfl⟩ := h.empty
      have hs0 : s.size = 0 := by simpa using hroom
      have hy0 : byteCells s = [] := List.eq_nil_of_length_eq_zero (by omega)
      refine ⟨none, 0, w, ?_, by rw [hy0]; exact Seg.nil w e, Fr.refl _ w, Or.inl rfl⟩
      have hfc := hsrc.cells
      rw [hs, hs0, hy0] at hfc
      simp [Builtin.append_, run_underlying ht, run_underlying hx, sizeOf, typeInfo, hi, Builtin.lenOf, hs0, hfc]
      simp [Builtin.firstCells]
    · obtain ⟨hsp, cur, hc, hl, hxx⟩ := h.2.2.2 a rfl
      obtain ⟨g, off, spot⟩ := a
      have hsp : spot = none := hsp
      subst hsp
      have hl : off + cap ≤ cur.size := hl
      have hc : w.heap[g]? = some (.cells cur e (0, 0)) := hc
      have hr := run_append_room_src (P := P) w t tx ty e i ht hi g off xs.length cap _ s.size (byteCells s) hsrc hroom (fun j hj => by
        rw [hs, Nat.mul_one, cell_of_row w g _ cur e (0, 0) hc, Array.getElem?_eq_getElem (by omega)]; rfl) (fun j hj => by simp [World.frozen?, hc])
      rw [hs, Nat.mul_one] at hr
      obtain ⟨cur', k1, k2, k3, k4⟩ := setCells_row g e (byteCells s) (off + xs.length) w cur hc (by omega)
      refine ⟨_, _, _, hr, ⟨by rw [List.length_append, hbl]; exact hroom, h.2.1, fun hn => (by cases hn), fun a ha => ?_⟩, setCells_fr g (byteCells s) _ w, Or.inl rfl⟩
      cases ha
      refine ⟨rfl, cur', k1, by rw [k2]; exact hl, fun j u hu => ?_⟩
      rcases Nat.lt_or_ge j xs.length with hj | hj
      · rw [List.getElem?_append_left hj] at hu
        show cur'[off + j]? = _
        rw [k4 _ (Or.inl (by omega))]
        exact hxx j u hu
      · rw [List.getElem?_append_right hj] at hu
        show cur'[off + j]? = _
        have := k3 _ u hu
        rwa [show off + xs.length + (j - xs.length) = off + j by omega] at this
  · have hold : (Builtin.firstCells i.size xs.length (.slice A xs.length cap)).run P w.drew = .ok xs.toArray w.drew := by
      rcases A with _ | a
      · obtain ⟨rfl, rfl⟩ := h.empty
        exact run_firstCells_none w.drew i.size 0 0 0
      · obtain ⟨hsp, cur, hc, hl, hxx⟩ := h.2.2.2 a rfl
        obtain ⟨g, off, spot⟩ := a
        have hsp : spot = none := hsp
        subst hsp
        exact run_firstCells_some w.drew i.size xs.length ⟨g, off, none⟩ xs.length cap xs (by rw [hs, Nat.mul_one]) (fun j v hv => by
          have e1 : (⟨g, off, none⟩ : Addr).add j = ⟨g, off + j, none⟩ := by unfold Addr.add; split <;> simp_all
          rw [e1]
          show w.cell? _ = _
          rw [cell_of_row w g (off + j) cur e (0, 0) hc]
          exact hxx j v hv)
    have hlen := h.1
    have hr := run_append_grow_src (P := P) w t tx ty e i z ht hi hz A xs.length cap xs hold _ s.size (byteCells s) hsrc (by omega) (by omega) (growslice_fits (by omega) (by rw [hb]; exact hby))
    have hge := grownCap_ge w (xs.length + s.size) cap e
    have hcm : grownCap w (xs.length + s.size) cap e ≤ maxLen := grownCap_le_maxLen w (xs.length + s.size) cap e (by unfold maxLen; omega)
    refine ⟨_, _, _, hr, ?_, (Fr.refl _ w).drew.alloc _, Or.inr rfl⟩
    refine ⟨by rw [List.length_append, hbl]; exact hge, hcm, fun hn => (by cases hn), fun a ha => ?_⟩
    cases ha
    refine ⟨rfl, _, heap_alloc_new w.drew _, ?_, fun j v hv => ?_⟩
    · show 0 + _ ≤ _
      simp only [Array.size_append, List.size_toArray, List.length_append, size_zeroCells, hzs, hbl]
      omega
    · show (_ : Array Value)[0 + j]? = some v
      have hj := (List.getElem?_eq_some_iff.1 hv).1
      rw [Nat.zero_add, Array.getElem?_append_left (by simpa using hj)]
      simpa using hv

theorem wpList_str {P : Program} {w : World} {ops : Array Oper} {rest : List Oper} {o : Oper} {a : Act} {Q : Exit → Act → World → Prop} (hgd : o.guard = none) (s x : Operand) (t tx : TypeId)
    (ho : o.op = .call { callee := .builtin .append, args := #[s, x], argTypes := #[t, tx] }) {e : TypeId} {A : Option Addr} {cap n bytes : Nat} {xs : List Value} {b : ByteArray} {i : TypeInfo} {z : Value} (h : Seg w e A cap xs) (hn : n = xs.length) (hx : P.underlying tx = some .string) (ht : P.underlying t = some (.slice e)) (hi : P.info? e = some i) (hz : i.zero = some z) (hs : i.size = 1) (hb : i.bytes = bytes) (hzs : z.cells.size = 1)
    (hes : a.eval s = .slice A n cap) (hex : a.eval x = .string b) (h63 : n + b.size ≤ 9223372036854775807) (hby : (n + b.size) * bytes ≤ 140737488355328)
    (hK : ∀ A' cap' w', Seg w' e A' cap' (xs ++ byteCells b) → Fr (blk A) w w' → (blk A' = blk A ∨ blk A' = [w.heap.size]) → wpList P ops Q rest (a.put o.dst (.slice A' (n + b.size) cap')) w') : wpList P ops Q (o :: rest) a w := by
  subst hn
  refine wpList_plain hgd fun K hK' => ?_
  obtain ⟨A', cap', w', hr, h2, h3, h4⟩ := seg_str (ty := o.type) h b hx ht hi hz hs hb hzs h63 hby
  unfold Oper.wp execOp
  simp only [ho, resolve, invoke, builtin, Sem.run_bind, Sem.run_pure, Result.andThen_ok, List.map_toArray, List.map_cons, List.map_nil, hes, hex, hr]
  exact hK' _ _ (hK A' cap' w' h2 h3 h4)
end Go.Proofs.Ytcicojobeggdaaa.vr
