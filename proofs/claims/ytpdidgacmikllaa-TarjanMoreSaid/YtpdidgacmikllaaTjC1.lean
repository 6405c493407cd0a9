/-
  tarjan: more edges; edges turned round: plain. Many elements appended.
-/
import Derived.Test.YtpdidgacmikllaaTjB1
namespace Go.Proofs.Ytpdidgacmikllaa.tj
open Go.RowKit Go.Proofs.Ytpdidgacmikllaa.mem

theorem rk_mono {E E' : List (Nat × Nat)} (h : ∀ x ∈ E, x ∈ E') : ∀ k {i j : Nat}, rk E k i j = true → rk E' k i j = true
  | 0, i, j, h1 => by
    simp only [rk, Bool.or_eq_true, beq_iff_eq, List.contains_iff_mem] at *
    rcases h1 with h1 | h1
    · exact Or.inl h1
    · exact Or.inr (h _ h1)
  | k + 1, i, j, h1 => by
    simp only [rk, Bool.or_eq_true, Bool.and_eq_true] at *
    rcases h1 with h1 | h1
    · exact Or.inl (rk_mono h k h1)
    · exact Or.inr ⟨rk_mono h k h1.1, rk_mono h k h1.2⟩

/-- the second has all edges of the first -/
structure Sub (g g' : G) : Prop where
  n : g.n = g'.n
  e : ∀ x ∈ g.E, x ∈ g'.E
  ok : g.ok
  ok' : g'.ok

theorem Sub.r {g g' : G} (h : Sub g g') {i j : Nat} (hr : g.R i j = true) : g'.R i j = true := by
  unfold G.R at *
  rw [← h.n]
  exact rk_mono h.e _ hr

theorem Sub.len {g g' : G} (h : Sub g g') : g'.parts.length ≤ g.parts.length := by
  have hp := g.parts_parted h.ok
  have hp' := g'.parts_parted h.ok'
  have := nodup_len (m := g.parts.map fun p => g'.cls (gd p 0)) hp'.nd (fun p hpm => by
    obtain ⟨i, hi, rfl⟩ := (hp'.all p).1 hpm
    have hi2 : i < g.n := by rw [h.n]; exact hi
    refine List.mem_map.2 ⟨g.cls i, (hp.all _).2 ⟨i, hi2, rfl⟩, ?_⟩
    have hne : 0 < (g.cls i).length := List.length_pos_of_mem (g.cls_self hi2)
    have hm : gd (g.cls i) 0 ∈ g.cls i := by
      have : gd (g.cls i) 0 = (g.cls i)[0] := by simp [gd, hne]
      rw [this]
      exact List.getElem_mem hne
    obtain ⟨m1, m2⟩ := g.mem_cls.1 hm
    unfold G.Q at m2
    rw [Bool.and_eq_true] at m2
    exact (g'.cls_eq hi (by rw [← h.n]; exact m1) (by unfold G.Q; rw [h.r m2.1, h.r m2.2]; rfl)).symm)
  rwa [List.length_map] at this

theorem Sub.rnd {g g' : G} (h : Sub g g') (hr : g.rnd = true) : g'.rnd = true := by
  unfold G.rnd at *
  simp only [Bool.or_eq_true, decide_eq_true_eq, List.any_eq_true] at *
  rcases hr with ⟨e, h1, h2⟩ | h1
  · exact Or.inl ⟨e, h.e e h1, h2⟩
  · have := h.len
    have := h.n
    exact Or.inr (by omega)

theorem gof_sub (n : Int) (l m : List (Int × Int)) : Sub (gof n l) (gof n (l ++ m)) :=
  ⟨rfl, fun x hx => by
    obtain ⟨a, b⟩ := x
    rw [gof_mem] at *
    exact ⟨hx.1, hx.2.1, List.mem_append_left _ hx.2.2⟩, gof_ok _ _, gof_ok _ _⟩

theorem filter_sub {p q : Nat → Bool} : ∀ l : List Nat, (∀ x ∈ l, p x = true → q x = true) → (l.filter p).Sublist (l.filter q)
  | [], _ => List.Sublist.refl _
  | x :: r, h => by
    have ih := filter_sub r (fun y hy => h y (List.mem_cons_of_mem _ hy))
    by_cases hp : p x = true
    · rw [List.filter_cons_of_pos hp, List.filter_cons_of_pos (h x (by simp) hp)]
      exact ih.cons_cons x
    · rw [List.filter_cons_of_neg hp]
      by_cases hq : q x = true
      · rw [List.filter_cons_of_pos hq]
        exact ih.cons x
      · rw [List.filter_cons_of_neg hq]
        exact ih

theorem Sub.leads {g g' : G} (h : Sub g g') (x : Nat) : ((List.range g.n).filter fun j => g.R x j).Sublist ((List.range g'.n).filter fun j => g'.R x j) := by
  rw [← h.n]
  exact filter_sub _ fun j _ hr => h.r hr

theorem cons_sub {x y : Nat} {s t : List Nat} (h : (x :: s).Sublist (y :: t)) : (x = y → s.Sublist t) ∧ (x ≠ y → (x :: s).Sublist t) := by
  refine ⟨fun _ => ?_, fun e => ?_⟩
  · cases h with
    | cons _ h => exact (List.sublist_cons_self _ _).trans h
    | cons_cons _ h => exact h
  · cases h with
    | cons _ h => exact h
    | cons_cons _ h => exact absurd rfl e

/-- one more is compared -/
theorem sub_step {a b : List Nat} {k j : Nat} (h : (a.drop k).Sublist (b.drop j)) (hk : k < a.length) (hj : j < b.length) : (a[k] = b[j] → (a.drop (k + 1)).Sublist (b.drop (j + 1))) ∧ (a[k] ≠ b[j] → (a.drop k).Sublist (b.drop (j + 1))) := by
  rw [List.drop_eq_getElem_cons hk, List.drop_eq_getElem_cons hj] at h
  obtain ⟨h1, h2⟩ := cons_sub h
  exact ⟨h1, fun e => by rw [List.drop_eq_getElem_cons hk]; exact h2 e⟩

/-- all edges the other way round -/
def swp (l : List (Int × Int)) : List (Int × Int) := l.map fun e => (e.2, e.1)

theorem rk_swap {E E' : List (Nat × Nat)} (h : ∀ a b, (a, b) ∈ E' ↔ (b, a) ∈ E) : ∀ k i j, rk E' k i j = rk E k j i
  | 0, i, j => by
    rw [Bool.eq_iff_iff]
    simp only [rk, Bool.or_eq_true, beq_iff_eq, List.contains_iff_mem, h]
    exact ⟨fun h => h.imp Eq.symm id, fun h => h.imp Eq.symm id⟩
  | k + 1, i, j => by
    simp only [rk, rk_swap h k]
    rw [Bool.and_comm]

theorem swp_mem {n : Int} {l : List (Int × Int)} {a b : Nat} : (a, b) ∈ (gof n (swp l)).E ↔ (b, a) ∈ (gof n l).E := by
  rw [gof_mem, gof_mem]
  unfold swp
  rw [List.mem_map]
  constructor
  · rintro ⟨h1, h2, ⟨x, y⟩, h3, h4⟩
    obtain ⟨rfl, rfl⟩ := Prod.mk.inj h4
    exact ⟨h2, h1, h3⟩
  · rintro ⟨h1, h2, h3⟩
    exact ⟨h2, h1, _, h3, rfl⟩

theorem swp_cls (n : Int) (l : List (Int × Int)) (i : Nat) : (gof n (swp l)).cls i = (gof n l).cls i := by
  unfold G.cls
  refine List.filter_congr fun j _ => ?_
  unfold G.Q G.R
  show (rk (gof n (swp l)).E n.toNat i j && rk (gof n (swp l)).E n.toNat j i) = (rk (gof n l).E n.toNat i j && rk (gof n l).E n.toNat j i)
  rw [rk_swap (E := (gof n l).E) (fun a b => swp_mem) n.toNat i j, rk_swap (E := (gof n l).E) (fun a b => swp_mem) n.toNat j i, Bool.and_comm]

theorem swp_all (n : Int) (l : List (Int × Int)) (p : List Nat) : p ∈ (gof n (swp l)).parts ↔ p ∈ (gof n l).parts := by
  rw [((gof n (swp l)).parts_parted (gof_ok _ _)).all, ((gof n l).parts_parted (gof_ok _ _)).all]
  constructor
  · rintro ⟨i, hi, rfl⟩
    exact ⟨i, hi, swp_cls n l i⟩
  · rintro ⟨i, hi, rfl⟩
    exact ⟨i, hi, (swp_cls n l i).symm⟩

theorem swp_len (n : Int) (l : List (Int × Int)) : (gof n (swp l)).parts.length = (gof n l).parts.length := by
  have h1 := nodup_len (m := (gof n l).parts) ((gof n (swp l)).parts_parted (gof_ok _ _)).nd (fun p hp => (swp_all n l p).1 hp)
  have h2 := nodup_len (m := (gof n (swp l)).parts) ((gof n l).parts_parted (gof_ok _ _)).nd (fun p hp => (swp_all n l p).2 hp)
  omega

theorem swp_rnd (n : Int) (l : List (Int × Int)) : (gof n (swp l)).rnd = (gof n l).rnd := by
  unfold G.rnd
  rw [swp_len]
  congr 1
  rw [Bool.eq_iff_iff, List.any_eq_true, List.any_eq_true]
  constructor
  · rintro ⟨⟨a, b⟩, h, e⟩
    have e : a = b := by simpa using e
    subst e
    exact ⟨_, swp_mem.1 h, by simp⟩
  · rintro ⟨⟨a, b⟩, h, e⟩
    have e : a = b := by simpa using e
    subst e
    exact ⟨_, swp_mem.2 h, by simp⟩

theorem sg_eds {W : World} {e : TypeId} {B : Option Addr} {c k : Nat} {l : List (Int × Int)} (h : Sg 2 W e B c k (fe l)) : Eds W B l := fun hz => by
  obtain ⟨g, off, e, hl, hc⟩ := h.rd (by omega) (by rw [fe_len]; omega)
  refine ⟨g, off, e, hl, fun j hj => ?_⟩
  obtain ⟨h1, h2⟩ := fe_at l j hj
  have l1 : j * 2 < (fe l).length := by rw [fe_len]; omega
  have l2 : j * 2 + 1 < (fe l).length := by rw [fe_len]; omega
  rw [List.getElem?_eq_getElem l1] at h1
  rw [List.getElem?_eq_getElem l2] at h2
  have c1 := hc (j * 2) l1
  have c2 := hc (j * 2 + 1) l2
  rw [Option.some.inj h1] at c1
  rw [Option.some.inj h2] at c2
  exact ⟨c1, by rw [Nat.add_assoc]; exact c2⟩

/-- edges, as what is appended -/
theorem eds_src {P : Program} {w : World} {e' t : TypeId} {B : Option Addr} {c : Nat} {l : List (Int × Int)} (h : Eds w B l) (ht : P.underlying t = some (.slice e')) : Src P 2 t (.slice B l.length c) l.length (fe l) w := by
  have hone : ∀ v ∈ fe l, v.oneCell' = true := fun v hv => by
    unfold fe at hv
    obtain ⟨e, _, he⟩ := List.mem_flatMap.1 hv
    simp only [List.mem_cons, List.not_mem_nil, or_false] at he
    rcases he with rfl | rfl <;> rfl
  cases B with
  | none =>
    have h0 : l = [] := List.eq_nil_of_length_eq_zero (by
      rcases Nat.eq_zero_or_pos l.length with h0 | h0
      · exact h0
      · obtain ⟨_, _, h, _⟩ := h h0; cases h)
    subst h0
    exact Src.ofNil w ht c
  | some a =>
    refine Src.ofSlice w ht _ l.length c (fe l) (by rw [fe_len]) (fun j v hv => ?_) hone
    have hj := (List.getElem?_eq_some_iff.1 hv).1
    rw [fe_len] at hj
    obtain ⟨g, off, ha, _, hc⟩ := h (by omega)
    cases ha
    have e1 : (⟨g, off, none⟩ : Addr).add j = ⟨g, off + j, none⟩ := by unfold Addr.add; split <;> simp_all
    rw [e1]
    have hq : j / 2 < l.length := by omega
    obtain ⟨c1, c2⟩ := hc (j / 2) hq
    obtain ⟨h1, h2⟩ := fe_at l (j / 2) hq
    rcases Nat.mod_two_eq_zero_or_one j with hm | hm
    · have : j = j / 2 * 2 := by omega
      rw [this] at hv ⊢
      rw [h1] at hv
      rw [c1, hv]
    · have : j = j / 2 * 2 + 1 := by omega
      rw [this] at hv ⊢
      rw [h2] at hv
      rw [show off + (j / 2 * 2 + 1) = off + j / 2 * 2 + 1 by omega, c2, hv]

/-- 'append(x, y...)' -/
theorem sg_app {P : Program} {sz : Nat} {w : World} {e t ty : TypeId} {g off cap n k bytes : Nat} {cs us : List Value} {i : TypeInfo} {z yv : Value} (h : Sg sz w e (some ⟨g, off, none⟩) cap n cs) (ht : P.underlying t = some (.slice e)) (hi : P.info? e = some i) (hz : i.zero = some z) (hs : i.size = sz) (hb : i.bytes = bytes) (hzs : z.cells.size = sz)
    (hsrc : Src P sz t yv k us w) (hl : us.length = k * sz) (h63 : n + k ≤ 9223372036854775807) (hby : (n + k) * bytes ≤ 140737488355328) :
    ∃ A' cap' w', (Builtin.append_ #[t, t] ty #[.slice (some ⟨g, off, none⟩) n cap, yv]).run P w = .ok (.slice (some A') (n + k) cap') w' ∧ A'.spot = none ∧ Sg sz w' e (some A') cap' (n + k) (cs ++ us) ∧ Fr [g] w w' ∧ (A'.block = g ∨ A'.block = w.heap.size) := by
  rw [← hs] at hsrc
  have hcl := h.len
  have hmul : (n + k) * sz = n * sz + k * sz := Nat.add_mul _ _ _
  have hlen' : (cs ++ us).length = (n + k) * sz := by rw [List.length_append, hcl, hl, hmul]
  by_cases hroom : n + k ≤ cap
  · obtain ⟨_, cur, hc, hle, hx⟩ := h.ex _ rfl
    have hle : off + cap * sz ≤ cur.size := hle
    have hc : w.heap[g]? = some (.cells cur e (0, 0)) := hc
    have hcap : (n + k) * sz ≤ cap * sz := Nat.mul_le_mul_right _ hroom
    have hr := run_append_room_src (P := P) w t t ty e i ht hi g off n cap _ k us hsrc hroom (fun j hj => by
      rw [hs, cell_of_row w g _ cur e (0, 0) hc, Array.getElem?_eq_getElem (by omega)]; rfl) (fun j hj => by simp [World.frozen?, hc])
    rw [hs] at hr
    obtain ⟨cur', k1, k2, k3, k4⟩ := setCells_row g e us (off + n * sz) w cur hc (by omega)
    refine ⟨_, _, _, hr, rfl, ⟨hlen', hroom, h.max, fun hn => (by cases hn), fun a ha => ?_⟩, setCells_fr g us _ w, Or.inl rfl⟩
    cases ha
    refine ⟨rfl, cur', k1, by rw [k2]; exact hle, fun j u hu => ?_⟩
    rcases Nat.lt_or_ge j cs.length with hj | hj
    · rw [List.getElem?_append_left hj] at hu
      show cur'[off + j]? = _
      rw [k4 _ (Or.inl (by omega))]
      exact hx j u hu
    · rw [List.getElem?_append_right hj] at hu
      show cur'[off + j]? = _
      have := k3 _ u hu
      rwa [show off + n * sz + (j - cs.length) = off + j by omega] at this
  · have hold : (Builtin.firstCells i.size n (.slice (some ⟨g, off, none⟩) n cap)).run P w.drew = .ok cs.toArray w.drew := by
      obtain ⟨_, cur, hc, hle, hx⟩ := h.ex _ rfl
      exact run_firstCells_some w.drew i.size n ⟨g, off, none⟩ n cap cs (by rw [hs]; exact hcl) (fun j v hv => by
        have e1 : (⟨g, off, none⟩ : Addr).add j = ⟨g, off + j, none⟩ := by unfold Addr.add; split <;> simp_all
        rw [e1]
        show w.cell? _ = _
        rw [cell_of_row w g (off + j) cur e (0, 0) hc]
        exact hx j v hv)
    have hlen := h.le
    have hr := run_append_grow_src (P := P) w t t ty e i z ht hi hz (some ⟨g, off, none⟩) n cap cs hold _ k us hsrc (by omega) (by omega) (growslice_fits (by omega) (by rw [hb]; exact hby))
    have hge := grownCap_ge w (n + k) cap e
    have hcm : grownCap w (n + k) cap e ≤ maxLen := grownCap_le_maxLen w (n + k) cap e (by unfold maxLen; omega)
    refine ⟨_, _, _, hr, rfl, ?_, (Fr.refl _ w).drew.alloc _, Or.inr rfl⟩
    refine ⟨hlen', hge, hcm, fun hn => (by cases hn), fun a ha => ?_⟩
    cases ha
    refine ⟨rfl, _, heap_alloc_new w.drew _, ?_, fun j v hv => ?_⟩
    · show 0 + _ ≤ _
      simp only [Array.size_append, List.size_toArray, hlen', size_zeroCells, hzs]
      rw [← Nat.add_mul, Nat.zero_add]
      exact Nat.mul_le_mul_right _ (by omega)
    · show (_ : Array Value)[0 + j]? = some v
      have hj := (List.getElem?_eq_some_iff.1 hv).1
      rw [Nat.zero_add, Array.getElem?_append_left (by simpa using hj)]
      simpa using hv

/-- the same at the operation -/
theorem wpList_app2 {P : Program} {sz : Nat} {w : World} {ops : Array Oper} {rest : List Oper} {o : Oper} {a : Act} {Q : Exit → Act → World → Prop} (hgd : o.guard = none) (s x : Operand) (t : TypeId)
    (ho : o.op = .call { callee := .builtin .append, args := #[s, x], argTypes := #[t, t] }) {e : TypeId} {g off cap n k bytes : Nat} {cs us : List Value} {i : TypeInfo} {z yv : Value} (h : Sg sz w e (some ⟨g, off, none⟩) cap n cs) (ht : P.underlying t = some (.slice e)) (hi : P.info? e = some i) (hz : i.zero = some z) (hs : i.size = sz) (hb : i.bytes = bytes) (hzs : z.cells.size = sz)
    (hes : a.eval s = .slice (some ⟨g, off, none⟩) n cap) (hex : a.eval x = yv) (hsrc : Src P sz t yv k us w) (hl : us.length = k * sz) (h63 : n + k ≤ 9223372036854775807) (hby : (n + k) * bytes ≤ 140737488355328)
    (hK : ∀ g' off' cap' w', Sg sz w' e (some ⟨g', off', none⟩) cap' (n + k) (cs ++ us) → Fr [g] w w' → (g' = g ∨ g' = w.heap.size) → wpList P ops Q rest (a.put o.dst (.slice (some ⟨g', off', none⟩) (n + k) cap')) w') : wpList P ops Q (o :: rest) a w := by
  refine wpList_plain hgd fun K hK' => ?_
  obtain ⟨⟨g', off', sp⟩, cap', w', hr, hsp, h2, h3, h4⟩ := sg_app (ty := o.type) h ht hi hz hs hb hzs hsrc hl h63 hby
  have hsp : sp = none := hsp
  subst hsp
  unfold Oper.wp execOp
  simp only [ho, resolve, invoke, builtin, Sem.run_bind, Sem.run_pure, Result.andThen_ok, List.map_toArray, List.map_cons, List.map_nil, hes, hex, hr]
  exact hK' _ _ (hK g' off' cap' w' h2 h3 h4)
end Go.Proofs.Ytpdidgacmikllaa.tj
