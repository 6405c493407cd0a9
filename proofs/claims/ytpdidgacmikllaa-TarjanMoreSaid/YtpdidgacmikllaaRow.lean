/-
  Memory: slices whose elements have several cells each.
-/
import Derived.Test.YtpdidgacmikllaaMem
namespace Go.Proofs.Ytpdidgacmikllaa.mem
open Go.RowKit

/-- a slice of n elements of sz cells each: all its cells in a row -/
structure Sg (sz : Nat) (w : World) (e : TypeId) (A : Option Addr) (cap n : Nat) (cs : List Value) : Prop where
  len : cs.length = n * sz
  le : n ≤ cap
  max : cap ≤ maxLen
  nil : A = none → cap = 0
  ex : ∀ a, A = some a → a.spot = none ∧ ∃ cur, w.heap[a.block]? = some (.cells cur e (0, 0)) ∧ a.off + cap * sz ≤ cur.size ∧ ∀ j u, cs[j]? = some u → cur[a.off + j]? = some u

theorem Sg.new (sz : Nat) (w : World) (e : TypeId) : Sg sz w e none 0 0 [] := ⟨by simp, Nat.le_refl _, Nat.zero_le _, fun _ => rfl, fun a h => (by cases h)⟩

theorem Sg.lt {sz : Nat} {w : World} {e : TypeId} {A : Option Addr} {cap n : Nat} {cs : List Value} (h : Sg sz w e A cap n cs) : ∀ g ∈ blk A, g < w.heap.size := by
  intro g hg
  cases A with
  | none => cases hg
  | some a =>
    obtain ⟨_, cur, hc, _⟩ := h.ex a rfl
    simp only [blk, List.mem_singleton] at hg
    subst hg
    exact (Array.getElem?_eq_some_iff.1 hc).1

theorem Sg.kept {sz : Nat} {F : List Nat} {w w' : World} {e : TypeId} {A : Option Addr} {cap n : Nat} {cs : List Value} (h : Sg sz w e A cap n cs) (hf : Fr F w w') (hd : ∀ g ∈ blk A, g ∉ F) : Sg sz w' e A cap n cs := by
  refine ⟨h.len, h.le, h.max, h.nil, fun a ha => ?_⟩
  subst ha
  obtain ⟨hs, cur, hc, r⟩ := h.ex a rfl
  exact ⟨hs, cur, (hf.block _ (Array.getElem?_eq_some_iff.1 hc).1 (hd _ (by simp [blk]))).trans hc, r⟩

theorem Sg.alloc {sz : Nat} {w : World} {e : TypeId} {A : Option Addr} {cap n : Nat} {cs : List Value} (h : Sg sz w e A cap n cs) (o : Obj) : Sg sz (w.alloc o) e A cap n cs := h.kept ((Fr.refl [] w).alloc o) (by simp)

theorem Sg.rd {sz : Nat} {w : World} {e : TypeId} {A : Option Addr} {cap n : Nat} {cs : List Value} (h : Sg sz w e A cap n cs) (hsz : 0 < sz) : Rd w A cs := fun hz => by
  cases A with
  | none =>
    have h0 := h.nil rfl
    have h1 := h.le
    have h2 := h.len
    obtain rfl : n = 0 := by omega
    omega
  | some a =>
    obtain ⟨hs, cur, hc, hl, hx⟩ := h.ex a rfl
    obtain ⟨g, off, spot⟩ := a
    have hs : spot = none := hs
    subst hs
    refine ⟨g, off, rfl, (Array.getElem?_eq_some_iff.1 hc).1, fun j hj => ?_⟩
    rw [cell_of_row w g (off + j) cur e (0, 0) hc]
    exact hx j _ (List.getElem?_eq_getElem hj)

/-- 'append' of one element -/
theorem Sg.push {P : Program} {sz : Nat} {w : World} {e t ty : TypeId} {A : Option Addr} {cap n bytes : Nat} {cs us : List Value} {i : TypeInfo} {z : Value} (h : Sg sz w e A cap n cs) (ht : P.underlying t = some (.slice e)) (hi : P.info? e = some i) (hz : i.zero = some z) (hs : i.size = sz) (hb : i.bytes = bytes) (hzs : z.cells.size = sz)
    {ad : Addr} (hl : us.length = sz) (hu : ∀ j v, us[j]? = some v → w.cell? (ad.add j) = some v) (h1 : ∀ u ∈ us, u.oneCell' = true) (h63 : n + 1 ≤ 9223372036854775807) (hby : (n + 1) * bytes ≤ 140737488355328) :
    ∃ A' cap' w', (Builtin.append_ #[t, t] ty #[.slice A n cap, .slice (some ad) 1 1]).run P w = .ok (.slice A' (n + 1) cap') w' ∧ Sg sz w' e A' cap' (n + 1) (cs ++ us) ∧ Fr (blk A) w w' ∧ (blk A' = blk A ∨ blk A' = [w.heap.size]) := by
  have hsrc : Src P i.size t (.slice (some ad) 1 1) 1 us w := Src.ofSlice w ht ad 1 1 us (by rw [hs, hl]; simp) hu h1
  have hcl := h.len
  have hmul : (n + 1) * sz = n * sz + sz := by rw [Nat.add_mul, Nat.one_mul]
  have hlen' : (cs ++ us).length = (n + 1) * sz := by rw [List.length_append, hcl, hl, hmul]
  by_cases hroom : n + 1 ≤ cap
  · rcases A with _ | a
    · have := h.nil rfl; omega
    · obtain ⟨hsp, cur, hc, hle, hx⟩ := h.ex a rfl
      obtain ⟨g, off, spot⟩ := a
      have hsp : spot = none := hsp
      subst hsp
      have hle : off + cap * sz ≤ cur.size := hle
      have hc : w.heap[g]? = some (.cells cur e (0, 0)) := hc
      have hcap : (n + 1) * sz ≤ cap * sz := Nat.mul_le_mul_right _ hroom
      have hr := run_append_room_src (P := P) w t t ty e i ht hi g off n cap _ 1 us hsrc hroom (fun j hj => by
        rw [hs, cell_of_row w g _ cur e (0, 0) hc, Array.getElem?_eq_getElem (by omega)]; rfl) (fun j hj => by simp [World.frozen?, hc])
      rw [hs] at hr
      obtain ⟨cur', k1, k2, k3, k4⟩ := setCells_row g e us (off + n * sz) w cur hc (by omega)
      refine ⟨_, _, _, hr, ⟨hlen', hroom, h.max, fun hn => (by cases hn), fun a ha => ?_⟩, setCells_fr g us _ w, Or.inl rfl⟩
      cases ha
      refine ⟨rfl, cur', k1, by rw [k2]; exact hle, fun j u hu => ?_⟩
      rcases Nat.lt_or_ge j cs.length with hj | hj
      · rw [List.getElem?_append_left hj] at hu
        show cur'[off + j]? = _
        rw [k4 _ (Or.inl (by omega))]
        exact hx j u hu
      · rw [List.getElem?_append_right hj] at hu
        show cur'[off + j]? = _
        have := k3 _ u hu
        rwa [show off + n * sz + (j - cs.length) = off + j by omega] at this
  · have hold : (Builtin.firstCells i.size n (.slice A n cap)).run P w.drew = .ok cs.toArray w.drew := by
      rcases A with _ | a
      · have h0 := h.nil rfl
        have h2 := h.le
        obtain rfl : n = 0 := by omega
        obtain rfl : cs = [] := List.eq_nil_of_length_eq_zero (by omega)
        exact run_firstCells_none w.drew i.size 0 0 cap
      · obtain ⟨hsp, cur, hc, hle, hx⟩ := h.ex a rfl
        obtain ⟨g, off, spot⟩ := a
        have hsp : spot = none := hsp
        subst hsp
        exact run_firstCells_some w.drew i.size n ⟨g, off, none⟩ n cap cs (by rw [hs]; exact hcl) (fun j v hv => by
          have e1 : (⟨g, off, none⟩ : Addr).add j = ⟨g, off + j, none⟩ := by unfold Addr.add; split <;> simp_all
          rw [e1]
          show w.cell? _ = _
          rw [cell_of_row w g (off + j) cur e (0, 0) hc]
          exact hx j v hv)
    have hlen := h.le
    have hr := run_append_grow_src (P := P) w t t ty e i z ht hi hz A n cap cs hold _ 1 us hsrc (by omega) (by omega) (growslice_fits (by omega) (by rw [hb]; exact hby))
    have hge := grownCap_ge w (n + 1) cap e
    have hcm : grownCap w (n + 1) cap e ≤ maxLen := grownCap_le_maxLen w (n + 1) cap e (by unfold maxLen; omega)
    refine ⟨_, _, _, hr, ?_, (Fr.refl _ w).drew.alloc _, Or.inr rfl⟩
    refine ⟨hlen', hge, hcm, fun hn => (by cases hn), fun a ha => ?_⟩
    cases ha
    refine ⟨rfl, _, heap_alloc_new w.drew _, ?_, fun j v hv => ?_⟩
    · show 0 + _ ≤ _
      simp only [Array.size_append, List.size_toArray, hlen', size_zeroCells, hzs]
      rw [← Nat.add_mul, Nat.zero_add]
      exact Nat.mul_le_mul_right _ (by omega)
    · show (_ : Array Value)[0 + j]? = some v
      have hj := (List.getElem?_eq_some_iff.1 hv).1
      rw [Nat.zero_add, Array.getElem?_append_left (by simpa using hj)]
      simpa using hv

/-- 'append' of one element, at the operation -/
theorem wpList_row {P : Program} {sz : Nat} {w : World} {ops : Array Oper} {rest : List Oper} {o : Oper} {a : Act} {Q : Exit → Act → World → Prop} (hgd : o.guard = none) (s x : Operand) (t : TypeId)
    (ho : o.op = .call { callee := .builtin .append, args := #[s, x], argTypes := #[t, t] }) {e : TypeId} {A : Option Addr} {cap n bytes : Nat} {cs us : List Value} {i : TypeInfo} {z : Value} (h : Sg sz w e A cap n cs) (ht : P.underlying t = some (.slice e)) (hi : P.info? e = some i) (hz : i.zero = some z) (hs : i.size = sz) (hb : i.bytes = bytes) (hzs : z.cells.size = sz)
    {ad : Addr} (hes : a.eval s = .slice A n cap) (hex : a.eval x = .slice (some ad) 1 1) (hl : us.length = sz) (hu : ∀ j v, us[j]? = some v → w.cell? (ad.add j) = some v) (h1 : ∀ u ∈ us, u.oneCell' = true) (h63 : n + 1 ≤ 9223372036854775807) (hby : (n + 1) * bytes ≤ 140737488355328)
    (hK : ∀ A' cap' w', Sg sz w' e A' cap' (n + 1) (cs ++ us) → Fr (blk A) w w' → (blk A' = blk A ∨ blk A' = [w.heap.size]) → wpList P ops Q rest (a.put o.dst (.slice A' (n + 1) cap')) w') : wpList P ops Q (o :: rest) a w := by
  refine wpList_plain hgd fun K hK' => ?_
  obtain ⟨A', cap', w', hr, h2, h3, h4⟩ := h.push (ty := o.type) ht hi hz hs hb hzs hl hu h1 h63 hby
  unfold Oper.wp execOp
  simp only [ho, resolve, invoke, builtin, Sem.run_bind, Sem.run_pure, Result.andThen_ok, List.map_toArray, List.map_cons, List.map_nil, hes, hex, hr]
  exact hK' _ _ (hK A' cap' w' h2 h3 h4)

/-- three cells of a new block -/
theorem three_cells (w : World) (t : TypeId) (x y z : Value) : ∀ (j : Nat) (v : Value), [x, y, z][j]? = some v → (w.alloc (.cells #[x, y, z] t)).cell? ((⟨w.heap.size, 0, none⟩ : Addr).add j) = some v := by
  intro j v h
  have e1 : (⟨w.heap.size, 0, none⟩ : Addr).add j = ⟨w.heap.size, j, none⟩ := by unfold Addr.add; split <;> simp_all
  rw [e1, (Box.new w t #[x, y, z]).cell j]
  simpa using h
end Go.Proofs.Ytpdidgacmikllaa.mem
