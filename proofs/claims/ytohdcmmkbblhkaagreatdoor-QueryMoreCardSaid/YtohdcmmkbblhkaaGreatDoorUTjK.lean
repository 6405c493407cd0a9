import Derived.Test.YtohdcmmkbblhkaaGreatDoorV13
/-
  tarjan: the parts put in order, plain.
-/
set_option linter.all false
namespace Go.Proofs.YtohdcmmkbblhkaaGreatDoor.tj

/-- a member's part, as an index -/
def TS.pt (T : TS) (v : Nat) : Nat := (T.part v).toNat
/-- a part's least member -/
def TS.lst (T : TS) (q : Nat) : Nat := gd (T.parts.getD q []) 0

theorem Parted2.pt {g : G} {T : TS} (h : Parted2 g T) {v : Nat} (hv : v < g.n) : T.part v = (T.pt v : Int) ∧ T.pt v < T.parts.length ∧ T.parts[T.pt v]? = some (g.cls v) := by
  obtain ⟨k, h1, h2⟩ := h.idx v hv
  have e : T.pt v = k := by unfold TS.pt; omega
  rw [e]
  exact ⟨h1, (List.getElem?_eq_some_iff.1 h2).1, h2⟩

theorem Parted2.same {g : G} {T : TS} (h : Parted2 g T) {v w : Nat} (hv : v < g.n) (hw : w < g.n) : T.pt v = T.pt w ↔ g.Q v w = true := by
  obtain ⟨_, _, a⟩ := h.pt hv
  obtain ⟨_, _, b⟩ := h.pt hw
  constructor
  · intro e
    rw [e, b] at a
    have : g.cls w = g.cls v := Option.some.inj a
    have hm := g.cls_self hw
    rw [this] at hm
    exact (g.mem_cls.1 hm).2
  · intro hq
    rw [g.cls_eq hv hw hq] at a
    exact h.one _ _ _ a b

theorem Parted2.lst {g : G} {T : TS} (h : Parted2 g T) {q : Nat} (hq : q < T.parts.length) : T.lst q < g.n ∧ T.pt (T.lst q) = q ∧ ∀ v, v < g.n → T.pt v = q → T.lst q ≤ v := by
  have hp := List.getElem?_eq_getElem hq
  obtain ⟨i, hi, e⟩ := h.cls _ (List.getElem_mem hq)
  have hne : 0 < (g.cls i).length := List.length_pos_of_mem (g.cls_self hi)
  have el : T.lst q = (g.cls i)[0] := by
    unfold TS.lst gd
    rw [List.getD_eq_getElem?_getD, List.getD_eq_getElem?_getD, hp, Option.getD_some, e, List.getElem?_eq_getElem hne, Option.getD_some]
  have hm := List.getElem_mem hne
  rw [← el] at hm
  obtain ⟨l1, l2⟩ := g.mem_cls.1 hm
  obtain ⟨_, _, a⟩ := h.pt l1
  have hi2 : T.parts[q]? = some (g.cls (T.lst q)) := by rw [hp, e, g.cls_eq hi l1 l2]
  refine ⟨l1, h.one _ _ _ a hi2, fun v hv hvq => ?_⟩
  obtain ⟨_, _, b⟩ := h.pt hv
  rw [hvq, hp, e] at b
  have hvm : v ∈ g.cls i := by rw [Option.some.inj b]; exact g.cls_self hv
  obtain ⟨k, hk, ek⟩ := List.getElem_of_mem hvm
  rw [el, ← ek]
  rcases Nat.eq_zero_or_pos k with h0 | h0
  · subst h0; exact Nat.le_refl _
  · exact Nat.le_of_lt (List.pairwise_iff_getElem.1 (g.cls_srt i) 0 k hne hk h0)

/-- all edges, in the order in which they are gone through -/
def G.all (g : G) (m : Nat) : List (Nat × Nat) := (List.range m).flatMap fun v => (g.out v).map fun t => (v, t)
theorem G.all_succ (g : G) (m : Nat) : g.all (m + 1) = g.all m ++ (g.out m).map fun t => (m, t) := by simp [G.all, List.range_succ]
theorem G.mem_all (g : G) (hg : g.ok) {x : Nat × Nat} : x ∈ g.all g.n ↔ x ∈ g.E := by
  unfold G.all
  rw [List.mem_flatMap]
  constructor
  · rintro ⟨v, _, h⟩
    obtain ⟨t, ht, rfl⟩ := List.mem_map.1 h
    exact g.mem_out.1 ht
  · intro h
    exact ⟨x.1, by simpa using (hg x h).1, List.mem_map.2 ⟨x.2, g.mem_out.2 h, rfl⟩⟩

/-- those between parts, as parts -/
def TS.cross (T : TS) (L : List (Nat × Nat)) : List (Nat × Nat) := (L.filter fun x => !(T.pt x.2 == T.pt x.1)).map fun x => (T.pt x.1, T.pt x.2)
theorem TS.cross_snoc (T : TS) (L : List (Nat × Nat)) (x : Nat × Nat) : T.cross (L ++ [x]) = T.cross L ++ (if T.pt x.2 = T.pt x.1 then [] else [(T.pt x.1, T.pt x.2)]) := by
  unfold TS.cross
  rw [List.filter_append, List.map_append]
  by_cases h : T.pt x.2 = T.pt x.1 <;> simp [h]

def leadN (X : List (Nat × Nat)) (q : Nat) : Nat := (X.filter fun x => x.1 == q).length
def backL (X : List (Nat × Nat)) (q : Nat) : List Nat := (X.filter fun x => x.2 == q).map (·.1)
theorem leadN_snoc (X : List (Nat × Nat)) (a b q : Nat) : leadN (X ++ [(a, b)]) q = leadN X q + (if q = a then 1 else 0) := by
  unfold leadN
  rw [List.filter_append, List.length_append]
  by_cases h : q = a
  · simp [h]
  · simp [h, Ne.symm h]
theorem backL_snoc (X : List (Nat × Nat)) (a b q : Nat) : backL (X ++ [(a, b)]) q = backL X q ++ (if q = b then [a] else []) := by
  unfold backL
  rw [List.filter_append, List.map_append]
  by_cases h : q = b
  · simp [h]
  · simp [h, Ne.symm h]

/-- how many lead from a part to one that does not stand -/
def cntD (X : List (Nat × Nat)) (D : Nat → Bool) (q : Nat) : Nat := (X.filter fun x => x.1 == q && !D x.2).length
theorem cnt_none (X : List (Nat × Nat)) (q : Nat) : cntD X (fun _ => false) q = leadN X q := by simp [cntD, leadN]
theorem cnt_add : ∀ (X : List (Nat × Nat)) (D : Nat → Bool) (p q : Nat), D p = false → cntD X D q = cntD X (fun k => D k || k == p) q + (backL X p).count q
  | [], _, _, _, _ => rfl
  | x :: r, D, p, q, hp => by
    have ih := cnt_add r D p q hp
    unfold cntD backL at *
    obtain ⟨a, b⟩ := x
    simp only [List.filter_cons]
    dsimp only at ih
    by_cases hb : b = p
    · subst hb
      by_cases ha : a = q
      · subst ha
        simp only [hp, beq_self_eq_true, Bool.not_false, Bool.and_self, if_true, Bool.or_true, Bool.not_true, Bool.and_false, Bool.false_eq_true, if_false, List.map_cons, List.count_cons_self, List.length_cons]
        omega
      · have h1 : (a == q) = false := by simpa using ha
        simp only [h1, Bool.false_and, Bool.false_eq_true, if_false, beq_self_eq_true, if_true, List.map_cons]
        rw [List.count_cons_of_ne (by simpa using ha)]
        exact ih
    · have h1 : (b == p) = false := by simpa using hb
      simp only [h1, Bool.or_false, Bool.false_eq_true, if_false]
      split
      · rw [List.length_cons, List.length_cons]; omega
      · exact ih

theorem filter_perm {l : List Nat} {f f' : Nat → Bool} {b : Nat} (hl : l.Nodup) (hb : b ∈ l) (hf : f b = false) (hf' : f' b = true) (hne : ∀ q, q ≠ b → f' q = f q) : (l.filter f').Perm (b :: l.filter f) := by
  induction l with
  | nil => cases hb
  | cons x r ih =>
    have h1 := List.nodup_cons.1 hl
    rcases List.mem_cons.1 hb with rfl | hb
    · rw [List.filter_cons_of_pos hf', List.filter_cons_of_neg (by simp [hf])]
      have e : r.filter f' = r.filter f := List.filter_congr fun q hq => hne q (fun e => h1.1 (e ▸ hq))
      rw [e]
    · have hx : x ≠ b := fun e => h1.1 (e ▸ hb)
      have := ih h1.2 hb
      by_cases hfx : f x = true
      · rw [List.filter_cons_of_pos (by rw [hne x hx]; exact hfx), List.filter_cons_of_pos hfx]
        exact (this.cons x).trans (List.Perm.swap _ _ _)
      · rw [List.filter_cons_of_neg (by rw [hne x hx]; exact hfx), List.filter_cons_of_neg hfx]
        exact this

/-- the least members of the parts that could be next -/
def TS.rdy (T : TS) (f : Nat → Bool) : List Nat := ((List.range T.parts.length).filter f).map T.lst

def dn (g : G) (T : TS) (D : Nat → Bool) (v : Nat) : Bool := decide (v < g.n) && D (T.pt v)

structure KI (g : G) (T : TS) (X : List (Nat × Nat)) (D : Nat → Bool) (lead : Nat → Nat) (xs : List Nat) (l : List (List Nat)) : Prop where
  ld : ∀ q, lead q = cntD X D q
  heap : Hp xs
  perm : xs.Perm (T.rdy fun q => !D q && lead q == 0)
  shut : ∀ a b, (a, b) ∈ X → D a = true → D b = true
  out : l ++ g.rest (dn g T D) = g.parts

/-- in the midst of those that lead to the part that now stands -/
structure KM (g : G) (T : TS) (X : List (Nat × Nat)) (D : Nat → Bool) (p k : Nat) (lead : Nat → Nat) (xs : List Nat) (l : List (List Nat)) : Prop where
  ld : ∀ q, lead q + ((backL X p).take k).count q = cntD X D q
  heap : Hp xs
  perm : xs.Perm (T.rdy fun q => !(D q || q == p) && lead q == 0)
  shut : ∀ a b, (a, b) ∈ X → D a = true → D b = true
  out : l ++ g.rest (dn g T fun k => D k || k == p) = g.parts
  no : D p = false
  zero : cntD X D p = 0
  lt : p < T.parts.length

theorem cross_mem {g : G} (hg : g.ok) {T : TS} {a b : Nat} : (a, b) ∈ T.cross (g.all g.n) ↔ ∃ u v, (u, v) ∈ g.E ∧ T.pt u = a ∧ T.pt v = b ∧ a ≠ b := by
  unfold TS.cross
  rw [List.mem_map]
  constructor
  · rintro ⟨⟨u, v⟩, h, e⟩
    rw [List.mem_filter] at h
    obtain ⟨rfl, rfl⟩ := Prod.mk.inj e
    exact ⟨u, v, (g.mem_all hg).1 h.1, rfl, rfl, by simpa using fun e => h.2 |> fun h2 => by simp [e] at h2⟩
  · rintro ⟨u, v, h, rfl, rfl, hne⟩
    exact ⟨(u, v), List.mem_filter.2 ⟨(g.mem_all hg).2 h, by simpa using fun e => hne e.symm⟩, rfl⟩

theorem ready_iff {g : G} (hg : g.ok) {T : TS} (h : Parted2 g T) {D : Nat → Bool} (shut : ∀ a b, (a, b) ∈ T.cross (g.all g.n) → D a = true → D b = true) {v : Nat} (hv : v < g.n) : cntD (T.cross (g.all g.n)) D (T.pt v) = 0 ↔ g.free (dn g T D) v = true := by
  unfold cntD
  rw [List.length_eq_zero_iff, List.filter_eq_nil_iff, g.free_iff]
  constructor
  · intro h0 j hj h1 h2
    have hX : ∀ a b, (a, b) ∈ g.E → (a < g.n ∧ (g.Q v a = true ∨ D (T.pt a) = true)) → (b < g.n ∧ (g.Q v b = true ∨ D (T.pt b) = true)) := by
      rintro a b hab ⟨ha, hor⟩
      have hb := (hg _ hab).2
      refine ⟨hb, ?_⟩
      by_cases e : T.pt a = T.pt b
      · rcases hor with h1' | h'
        · exact Or.inl (g.q_trans ha h1' ((h.same ha hb).1 e))
        · exact Or.inr (e ▸ h')
      · have hc : (T.pt a, T.pt b) ∈ T.cross (g.all g.n) := (cross_mem hg).2 ⟨a, b, hab, rfl, rfl, e⟩
        rcases hor with hq | h'
        · right
          have := h0 _ hc
          rw [(h.same hv ha).2 hq] at this
          simpa using this
        · exact Or.inr (shut _ _ hc h')
    obtain ⟨_, hor⟩ := g.closed (X := fun a => a < g.n ∧ (g.Q v a = true ∨ D (T.pt a) = true)) hX ⟨hv, Or.inl (g.q_refl v)⟩ h1
    rcases hor with hq | hd
    · unfold G.Q at hq
      rw [h2] at hq
      simp at hq
    · simp [dn, hj, hd]
  · rintro hf ⟨a, b⟩ hc
    obtain ⟨u, w, hE, rfl, rfl, hne⟩ := (cross_mem hg).1 hc
    obtain ⟨hu, hw⟩ := hg _ hE
    intro hh
    simp only [Bool.and_eq_true, beq_iff_eq, Bool.not_eq_true'] at hh
    have hfu : g.free (dn g T D) u = true := by
      have hf2 := g.free_iff.2 hf
      rwa [g.free_cls hv hu ((h.same hv hu).1 hh.1.symm)] at hf2
    have hd : dn g T D w = true := by
      refine g.free_iff.1 hfu w hw (g.edge hE) ?_
      rw [Bool.eq_false_iff]
      intro hwu
      exact hne ((h.same hu hw).2 (by unfold G.Q; rw [g.edge hE, hwu]; rfl))
    unfold dn at hd
    rw [Bool.and_eq_true] at hd
    have hd2 : D (T.pt w) = true := hd.2
    rw [hh.2] at hd2
    cases hd2

theorem ki_start {g : G} (hg : g.ok) {T : TS} {xs : List Nat} (hx : Hp xs) (hp : xs.Perm (T.rdy fun q => leadN (T.cross (g.all g.n)) q == 0)) : KI g T (T.cross (g.all g.n)) (fun _ => false) (leadN (T.cross (g.all g.n))) xs [] :=
  ⟨fun q => (cnt_none _ q).symm, hx, by simpa using hp, fun _ _ _ h => (by cases h), by
    rw [List.nil_append, g.parts_rest]
    congr 1
    funext v
    simp [dn]⟩

/-- nothing could be next: all stand -/
theorem ki_end {g : G} (hg : g.ok) {T : TS} (h : Parted2 g T) {D : Nat → Bool} {lead : Nat → Nat} {l : List (List Nat)} (k : KI g T (T.cross (g.all g.n)) D lead [] l) : l = g.parts := by
  rw [← k.out]
  have hn : g.next (dn g T D) = none := by
    rw [g.next_none]
    intro i hi
    by_cases hd : D (T.pt i) = true
    · exact Or.inl (by simp [dn, hi, hd])
    · right
      rw [Bool.eq_false_iff]
      intro hf
      have h0 := (ready_iff hg h k.shut hi).2 hf
      have : T.lst (T.pt i) ∈ T.rdy fun q => !D q && lead q == 0 := by
        refine List.mem_map.2 ⟨T.pt i, List.mem_filter.2 ⟨by simpa using (h.pt hi).2.1, ?_⟩, rfl⟩
        rw [k.ld, h0]
        simpa using hd
      rw [← k.perm.mem_iff] at this
      cases this
  rw [g.rest_none hn, List.append_nil]

/-- the least one of those that could be next -/
theorem ki_pop {g : G} (hg : g.ok) {T : TS} (h : Parted2 g T) {D : Nat → Bool} {lead : Nat → Nat} {xs ys : List Nat} {x : Nat} {l : List (List Nat)} (k : KI g T (T.cross (g.all g.n)) D lead xs l) (hy : Hp ys) (hp : (x :: ys).Perm xs) (hmin : ∀ y ∈ xs, x ≤ y) :
    x < g.n ∧ KM g T (T.cross (g.all g.n)) D (T.pt x) 0 lead ys (l ++ [g.cls x]) ∧ T.parts[T.pt x]? = some (g.cls x) := by
  have hxm : x ∈ T.rdy fun q => !D q && lead q == 0 := (hp.trans k.perm).mem_iff.1 (by simp)
  obtain ⟨p, hpf, rfl⟩ := List.mem_map.1 hxm
  rw [List.mem_filter] at hpf
  obtain ⟨hpK, hpf⟩ := hpf
  have hpK : p < T.parts.length := by simpa using hpK
  simp only [Bool.and_eq_true, Bool.not_eq_true', beq_iff_eq] at hpf
  obtain ⟨l1, l2, l3⟩ := h.lst hpK
  have hz : cntD (T.cross (g.all g.n)) D p = 0 := by rw [← k.ld]; exact hpf.2
  have hfree : g.free (dn g T D) (T.lst p) = true := (ready_iff hg h k.shut l1).1 (by rw [l2]; exact hz)
  have hnd : dn g T D (T.lst p) = false := by simp [dn, l2, hpf.1]
  have hnext : g.next (dn g T D) = some (T.lst p) := by
    refine g.next_of l1 hnd hfree fun q hq => ?_
    have hqn : q < g.n := by omega
    by_cases hd : D (T.pt q) = true
    · exact Or.inl (by simp [dn, hqn, hd])
    · right
      rw [Bool.eq_false_iff]
      intro hf
      have h0 := (ready_iff hg h k.shut hqn).2 hf
      obtain ⟨_, q2, _⟩ := h.pt hqn
      have hm : T.lst (T.pt q) ∈ T.rdy fun q => !D q && lead q == 0 := by
        refine List.mem_map.2 ⟨T.pt q, List.mem_filter.2 ⟨by simpa using q2, ?_⟩, rfl⟩
        rw [k.ld, h0]
        simpa using hd
      have a := hmin _ (k.perm.mem_iff.2 hm)
      have b := (h.lst q2).2.2 q hqn rfl
      omega
  rw [l2]
  have hcls : T.parts[p]? = some (g.cls (T.lst p)) := by have := (h.pt l1).2.2; rwa [l2] at this
  refine ⟨l1, ⟨fun q => by simp [k.ld], hy, ?_, k.shut, ?_, hpf.1, hz, hpK⟩, hcls⟩
  · have hperm : ((List.range T.parts.length).filter fun q => !D q && lead q == 0).Perm (p :: (List.range T.parts.length).filter fun q => !(D q || q == p) && lead q == 0) :=
      filter_perm List.nodup_range (by simpa using hpK) (by simp) (by simp [hpf.1, hpf.2]) (fun q hq => by have e : (q == p) = false := (by simpa using hq); simp [e])
    have := (hp.trans k.perm).trans (hperm.map T.lst)
    rw [List.map_cons] at this
    exact this.cons_inv
  · rw [← k.out, g.rest_some hnext, List.append_assoc]
    congr 1
    rw [List.singleton_append]
    congr 2
    funext v
    unfold dn G.add
    by_cases hv : v < g.n
    · have e : g.Q (T.lst p) v = (T.pt v == p) := by
        rw [Bool.eq_iff_iff]
        rw [← h.same l1 hv, l2, beq_iff_eq]
        exact eq_comm
      simp [hv, e]
    · have e : g.Q (T.lst p) v = false := by
        rw [Bool.eq_false_iff]
        intro hq
        unfold G.Q at hq
        rw [Bool.and_eq_true] at hq
        exact hv (g.mem hg l1 hq.1)
      simp [hv, e]

/-- one edge more is taken off -/
theorem km_step {g : G} {T : TS} {X : List (Nat × Nat)} (hX : ∀ a b, (a, b) ∈ X → a < T.parts.length ∧ a ≠ b) {D : Nat → Bool} {p k : Nat} {lead : Nat → Nat} {xs : List Nat} {l : List (List Nat)} (h : KM g T X D p k lead xs l) {b : Nat} (hb : (backL X p)[k]? = some b) :
    b < T.parts.length ∧ 0 < lead b ∧ (lead b ≠ 1 → KM g T X D p (k + 1) (upd lead b (lead b - 1)) xs l) ∧ (lead b = 1 → ∀ ys, Hp ys → ys.Perm (T.lst b :: xs) → KM g T X D p (k + 1) (upd lead b (lead b - 1)) ys l) := by
  have hbm : b ∈ backL X p := List.mem_of_getElem? hb
  unfold backL at hbm
  obtain ⟨⟨a', p'⟩, hm, e⟩ := List.mem_map.1 hbm
  have e : a' = b := e
  subst e
  rw [List.mem_filter] at hm
  obtain ⟨hm, e2⟩ := hm
  have e2 : p' = p := by simpa using e2
  subst e2
  obtain ⟨hbK, hne⟩ := hX _ _ hm
  have hDb : D a' = false := by
    cases hd : D a' with
    | false => rfl
    | true => have := h.shut _ _ hm hd; rw [h.no] at this; cases this
  have htk : (backL X p').take (k + 1) = (backL X p').take k ++ [a'] := by
    have hk := (List.getElem?_eq_some_iff.1 hb)
    rw [List.take_succ_eq_append_getElem hk.1, hk.2]
  have hpos : 0 < lead a' := by
    have h1 := h.ld a'
    have h2 := cnt_add X D p' a' h.no
    have h3 : ((backL X p').take (k + 1)).count a' ≤ (backL X p').count a' := List.Sublist.count_le _ (List.take_sublist _ _)
    rw [htk, List.count_append] at h3
    simp at h3
    omega
  have hlead : ∀ q, upd lead a' (lead a' - 1) q + ((backL X p').take (k + 1)).count q = cntD X D q := fun q => by
    rw [htk, List.count_append]
    have := h.ld q
    by_cases e : q = a'
    · subst e
      rw [upd_same]
      simp
      omega
    · rw [upd_ne _ _ e]
      have : [a'].count q = 0 := by simp [List.count_cons, Ne.symm e]
      omega
  refine ⟨hbK, hpos, fun h1 => ⟨hlead, h.heap, ?_, h.shut, h.out, h.no, h.zero, h.lt⟩, fun h1 ys hy hperm => ⟨hlead, hy, ?_, h.shut, h.out, h.no, h.zero, h.lt⟩⟩
  · have e : (fun q => !(D q || q == p') && upd lead a' (lead a' - 1) q == 0) = fun q => !(D q || q == p') && lead q == 0 := by
      funext q
      by_cases e : q = a'
      · subst e
        rw [upd_same]
        have x1 : (lead q - 1 == 0) = false := by simp; omega
        have x2 : (lead q == 0) = false := by simp; omega
        rw [x1, x2]
      · rw [upd_ne _ _ e]
    rw [e]
    exact h.perm
  · refine hperm.trans (((h.perm.cons (T.lst a')).trans ?_))
    have hp2 : ((List.range T.parts.length).filter fun q => !(D q || q == p') && upd lead a' (lead a' - 1) q == 0).Perm (a' :: (List.range T.parts.length).filter fun q => !(D q || q == p') && lead q == 0) :=
      filter_perm List.nodup_range (by simpa using hbK) (by simp [h1]) (by simp [hDb, hne, upd_same, h1]) (fun q hq => by rw [upd_ne _ _ hq])
    have := (hp2.map T.lst).symm
    rw [List.map_cons] at this
    exact this

/-- all edges to it are taken off -/
theorem km_end {g : G} {T : TS} {X : List (Nat × Nat)} {D : Nat → Bool} {p : Nat} {lead : Nat → Nat} {xs : List Nat} {l : List (List Nat)} (h : KM g T X D p (backL X p).length lead xs l) : KI g T X (fun k => D k || k == p) lead xs l := by
  refine ⟨fun q => ?_, h.heap, h.perm, fun a b hab ha => ?_, h.out⟩
  · have h1 := h.ld q
    rw [List.take_length] at h1
    have h2 := cnt_add X D p q h.no
    omega
  · simp only [Bool.or_eq_true, beq_iff_eq] at *
    rcases ha with ha | rfl
    · exact Or.inl (h.shut a b hab ha)
    · have hz := h.zero
      unfold cntD at hz
      rw [List.length_eq_zero_iff, List.filter_eq_nil_iff] at hz
      have := hz _ hab
      left
      simpa using this
end Go.Proofs.YtohdcmmkbblhkaaGreatDoor.tj
