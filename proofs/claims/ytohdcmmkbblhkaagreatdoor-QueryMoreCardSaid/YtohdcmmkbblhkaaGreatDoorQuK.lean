/-
  query: lists of calls appended to one another; facts cut short; what is reached, as it is boxed.
-/
import Derived.Test.YtohdcmmkbblhkaaGreatDoorQuJ
import Derived.Deep.AppendSrc
set_option linter.all false
namespace Go.Proofs.YtohdcmmkbblhkaaGreatDoor.qy
open Go.RowKit Go.Sort Go.Shelf Go.Proofs.YtohdcmmkbblhkaaGreatDoor.mem Go.Proofs.YtohdcmmkbblhkaaGreatDoor.wd
open Go.Proofs.YtohdcmmkbblhkaaGreatDoor.inn (rsS mem_rsS)

/-- calls, as what is appended -/
theorem eds_src {P : Program} {w : World} {e' t : TypeId} {B : Option Addr} {c : Nat} {l : List Ed} (h : EdM w B l) (ht : P.underlying t = some (.slice e')) : Src P 2 t (.slice B l.length c) l.length (fe l) w := by
  have hone : ∀ v ∈ fe l, v.oneCell' = true := fun v hv => by
    unfold fe at hv
    obtain ⟨e, _, he⟩ := List.mem_flatMap.1 hv
    simp only [edRow, List.mem_cons, List.not_mem_nil, or_false] at he
    rcases he with rfl | rfl <;> rfl
  cases B with
  | none =>
    have h0 : l = [] := List.eq_nil_of_length_eq_zero (by
      rcases Nat.eq_zero_or_pos l.length with h0 | h0
      · exact h0
      · obtain ⟨_, _, h, _⟩ := h (by rw [List.length_map]; exact h0); cases h)
    subst h0
    exact Src.ofNil w ht c
  | some a =>
    refine Src.ofSlice w ht _ l.length c (fe l) (by rw [fe_len]) (fun j v hv => ?_) hone
    have hj := (List.getElem?_eq_some_iff.1 hv).1
    rw [fe_len] at hj
    obtain ⟨g, off, ha, _, hc⟩ := h (by rw [List.length_map]; omega)
    cases ha
    have e1 : (⟨g, off, none⟩ : Addr).add j = ⟨g, off + j, none⟩ := by unfold Addr.add; split <;> simp_all
    rw [e1]
    have hq : j / 2 < l.length := by omega
    obtain ⟨u, hu⟩ : ∃ u, (edRow l[j / 2])[j % 2]? = some u := ⟨_, List.getElem?_eq_getElem (l := edRow l[j / 2]) (show j % 2 < 2 by omega)⟩
    have h1 := fe_at l (j / 2) hq (j % 2) u hu
    have e2 : j / 2 * 2 + j % 2 = j := by omega
    rw [e2] at h1
    rw [h1] at hv
    have := hc (j / 2) (by rw [List.length_map]; exact hq) (j % 2) u (by rw [List.getElem_map]; exact hu)
    rwa [Nat.add_assoc, e2, hv] at this

theorem sg_empty (w : World) (e : TypeId) : Sg 2 (w.alloc (.cells #[] e)) e (some ⟨w.heap.size, 0, none⟩) 0 0 [] :=
  ⟨by simp, Nat.le_refl _, Nat.zero_le _, fun h => (by cases h), fun a ha => by
    cases ha
    exact ⟨rfl, #[], heap_alloc_new w _, by simp, fun j u hu => by simp at hu⟩⟩

theorem fe_app (l m : List Ed) : fe (l ++ m) = fe l ++ fe m := by simp [fe]

/-- a list of calls that was appended, as calls -/
theorem sg_eds {w : World} {e : TypeId} {A : Option Addr} {c n : Nat} {l : List Ed} (h : Sg 2 w e A c n (fe l)) (hn : n = l.length) : EdM w A l := fun hz => by
  rw [List.length_map] at hz
  obtain ⟨g, off, e, hl, hc⟩ := h.rd (by omega) (by rw [fe_len]; omega)
  refine ⟨g, off, e, hl, fun j hj i v hv => ?_⟩
  rw [List.length_map] at hj
  rw [List.getElem_map] at hv
  have h1 := fe_at l j hj i v hv
  obtain ⟨h2, h3⟩ := List.getElem?_eq_some_iff.1 h1
  have := hc (j * 2 + i) h2
  rw [h3] at this
  rw [Nat.add_assoc]
  exact this

theorem info_edge3 : (Tryz.prog.info? 46).map (fun i => (i.zero, i.size, i.bytes)) = some (some (.agg #[.string ByteArray.empty, .string ByteArray.empty]), 2, 32) := by kernel_rfl

/-- 'append(x, y...)' -/
theorem sg_app {P : Program} {sz : Nat} {w : World} {e t ty : TypeId} {g off cap n k bytes : Nat} {cs us : List Value} {i : TypeInfo} {z yv : Value} (h : Sg sz w e (some ⟨g, off, none⟩) cap n cs) (ht : P.underlying t = some (.slice e)) (hi : P.info? e = some i) (hz : i.zero = some z) (hs : i.size = sz) (hb : i.bytes = bytes) (hzs : z.cells.size = sz)
    (hsrc : Src P sz t yv k us w) (hl : us.length = k * sz) (h63 : n + k ≤ 9223372036854775807) (hby : (n + k) * bytes ≤ 140737488355328) :
    ∃ A' cap' w', (Builtin.append_ #[t, t] ty #[.slice (some ⟨g, off, none⟩) n cap, yv]).run P w = .ok (.slice (some A') (n + k) cap') w' ∧ A'.spot = none ∧ Sg sz w' e (some A') cap' (n + k) (cs ++ us) ∧ Fr [g] w w' ∧ (A'.block = g ∨ A'.block = w.heap.size) := by
  rw [← hs] at hsrc
  have hcl := h.len
  have hmul : (n + k) * sz = n * sz + k * sz := Nat.add_mul _ _ _
  have hlen' : (cs ++ us).length = (n + k) * sz := by rw [List.length_append, hcl, hl, hmul]
  by_cases hroom : n + k ≤ cap
  · obtain ⟨_, cur, hc, hle, hx⟩ := h.ex _ rfl
    have hle : off + cap * sz ≤ cur.size := hle
    have hc : w.heap[g]? = some (.cells cur e (0, 0)) := hc
    have hcap : (n + k) * sz ≤ cap * sz := Nat.mul_le_mul_right _ hroom
    have hr := run_append_room_src (P := P) w t t ty e i ht hi g off n cap _ k us hsrc hroom (fun j hj => by
      rw [hs, cell_of_row w g _ cur e (0, 0) hc, Array.getElem?_eq_getElem (by omega)]; rfl) (fun j hj => by simp [World.frozen?, hc])
    rw [hs] at hr
    obtain ⟨cur', k1, k2, k3, k4⟩ := setCells_row g e us (off + n * sz) w cur hc (by omega)
    refine ⟨_, _, _, hr, rfl, ⟨hlen', hroom, h.max, fun hn => (by cases hn), fun a ha => ?_⟩, setCells_fr g us _ w, Or.inl rfl⟩
    cases ha
    refine ⟨rfl, cur', k1, by rw [k2]; exact hle, fun j u hu => ?_⟩
    rcases Nat.lt_or_ge j cs.length with hj | hj
    · rw [List.getElem?_append_left hj] at hu
      show cur'[off + j]? = _
      rw [k4 _ (Or.inl (by omega))]
      exact hx j u hu
    · rw [List.getElem?_append_right hj] at hu
      show cur'[off + j]? = _
      have := k3 _ u hu
      rwa [show off + n * sz + (j - cs.length) = off + j by omega] at this
  · have hold : (Builtin.firstCells i.size n (.slice (some ⟨g, off, none⟩) n cap)).run P w.drew = .ok cs.toArray w.drew := by
      obtain ⟨_, cur, hc, hle, hx⟩ := h.ex _ rfl
      exact run_firstCells_some w.drew i.size n ⟨g, off, none⟩ n cap cs (by rw [hs]; exact hcl) (fun j v hv => by
        have e1 : (⟨g, off, none⟩ : Addr).add j = ⟨g, off + j, none⟩ := by unfold Addr.add; split <;> simp_all
        rw [e1]
        show w.cell? _ = _
        rw [cell_of_row w g (off + j) cur e (0, 0) hc]
        exact hx j v hv)
    have hlen := h.le
    have hr := run_append_grow_src (P := P) w t t ty e i z ht hi hz (some ⟨g, off, none⟩) n cap cs hold _ k us hsrc (by omega) (by omega) (growslice_fits (by omega) (by rw [hb]; exact hby))
    have hge := grownCap_ge w (n + k) cap e
    have hcm : grownCap w (n + k) cap e ≤ maxLen := grownCap_le_maxLen w (n + k) cap e (by unfold maxLen; omega)
    refine ⟨_, _, _, hr, rfl, ?_, (Fr.refl _ w).drew.alloc _, Or.inr rfl⟩
    refine ⟨hlen', hge, hcm, fun hn => (by cases hn), fun a ha => ?_⟩
    cases ha
    refine ⟨rfl, _, heap_alloc_new w.drew _, ?_, fun j v hv => ?_⟩
    · show 0 + _ ≤ _
      simp only [Array.size_append, List.size_toArray, hlen', size_zeroCells, hzs]
      rw [← Nat.add_mul, Nat.zero_add]
      exact Nat.mul_le_mul_right _ (by omega)
    · show (_ : Array Value)[0 + j]? = some v
      have hj := (List.getElem?_eq_some_iff.1 hv).1
      rw [Nat.zero_add, Array.getElem?_append_left (by simpa using hj)]
      simpa using hv

/-- the same in a region that draws its order -/
theorem step_app2 {P : Program} {sz : Nat} {w : World} {ops : Array Oper} {o : Oper} {a : Act} {K : Act → World → Prop} {Q : Exit → Act → World → Prop} {E : Prop} (hgd : o.guard = none) (s x : Operand) (t : TypeId)
    (ho : o.op = .call { callee := .builtin .append, args := #[s, x], argTypes := #[t, t] }) {e : TypeId} {g off cap n k m bytes : Nat} {cs us : List Value} {i : TypeInfo} {z yv : Value} (h : Sg sz w e (some ⟨g, off, none⟩) cap n cs) (ht : P.underlying t = some (.slice e)) (hi : P.info? e = some i) (hz : i.zero = some z) (hs : i.size = sz) (hb : i.bytes = bytes) (hzs : z.cells.size = sz)
    (hes : a.eval s = .slice (some ⟨g, off, none⟩) n cap) (hex : a.eval x = yv) (hsrc : Src P sz t yv k us w) (hl : us.length = k * sz) (hm : n + k = m) (h63 : m ≤ 9223372036854775807) (hby : m * bytes ≤ 140737488355328)
    (hK : ∀ g' off' cap' w', Sg sz w' e (some ⟨g', off', none⟩) cap' m (cs ++ us) → Fr [g] w w' → (g' = g ∨ g' = w.heap.size) → K (a.put o.dst (.slice (some ⟨g', off', none⟩) m cap')) w') :
    if Region.wanted o (yielded ops a.tmps) = true then Oper.wp P o a w K Q else E := by
  subst hm
  have hw : Region.wanted o (yielded ops a.tmps) = true := by simp [Region.wanted, hgd]
  rw [if_pos hw]
  obtain ⟨⟨g', off', sp⟩, cap', w', hr, hsp, h2, h3, h4⟩ := sg_app (ty := o.type) h ht hi hz hs hb hzs hsrc hl h63 hby
  have hsp : sp = none := hsp
  subst hsp
  unfold Oper.wp execOp
  simp only [ho, resolve, invoke, builtin, Sem.run_bind, Sem.run_pure, Result.andThen_ok, List.map_toArray, List.map_cons, List.map_nil, hes, hex, hr]
  exact hK g' off' cap' w' h2 h3 h4

/-- facts, the first ones -/
theorem FacM.take {w : World} {A : Option Addr} {l : List MF} (h : FacM w A l) (k : Nat) : FacM w A (l.take k) := by
  have hn := h.n
  refine ⟨fun hz => ?_, fun x hx => h.ok x (List.mem_of_mem_take hx), by rw [List.length_take]; omega⟩
  rw [List.length_map, List.length_take] at hz
  obtain ⟨b, off, e, hl, hc⟩ := h.t (by rw [List.length_map]; omega)
  refine ⟨b, off, e, hl, fun j hj i v hv => ?_⟩
  rw [List.length_map, List.length_take] at hj
  refine hc j (by rw [List.length_map]; omega) i v ?_
  rw [List.getElem_map] at hv ⊢
  rwa [List.getElem_take] at hv
theorem facs_take (l : List MF) (k : Nat) : facs (l.take k) = (facs l).take k := by
  unfold facs
  rw [List.map_take]
set_option maxRecDepth 100000 in
theorem slice_up (W : World) (A : Option Addr) (n cap k : Nat) (hk : k ≤ cap) : (Instr.slice 22 (.slice A n cap) none (some (.int .i64 (k : Int))) none).run Tryz.prog W = .ok (.slice A k cap) W := by
  have hs : (sizeOf 48).run Tryz.prog W = .ok 2 W := by kernel_rfl
  have he : Tryz.prog.elem 22 = 48 := by kernel_rfl
  rw [run_slice_h W 22 A n cap Tryz.underlying22 .i64 (k : Int) (by omega) (by omega), he, hs, Result.andThen_ok]
  unfold sliced
  rw [Int.toNat_natCast, Nat.zero_mul, Nat.sub_zero, Nat.sub_zero]
  have e0 : A.map (·.add 0) = A := by
    cases A with
    | none => rfl
    | some a => obtain ⟨g, o, s⟩ := a; simp [Addr.add]
  rw [e0, ite_self]
end Go.Proofs.YtohdcmmkbblhkaaGreatDoor.qy
