/-
  tarjan: the search, plain: edges tried, members left, parts closed.
-/
import Derived.Test.YtpdidgacmikllaaTjT
namespace Go.Proofs.Ytpdidgacmikllaa.tj

def TS.lower (T : TS) (b x : Nat) : TS := { T with low := upd T.low b (min (T.low b) x) }

/-- a member of the path is known to lead to one on the stack -/
theorem inv_lower {g : G} {T : TS} (h : Inv g T) {y : Nat × List Nat} (hy : y ∈ T.S) {w : Nat} (hw : w ∈ stk T.S) (hR : g.R y.1 w = true) {x : Nat} (hx : x = T.num w) : Inv g (T.lower y.1 x) := by
  have hys : y.1 ∈ stk T.S := mem_stk.2 ⟨y, hy, Or.inl rfl⟩
  have lle : ∀ v, (T.lower y.1 x).low v ≤ T.low v := fun v => by
    show upd _ _ _ v ≤ _
    by_cases e : v = y.1
    · subst e; rw [upd_same]; exact Nat.min_le_left _ _
    · rw [upd_ne _ _ e]; exact Nat.le_refl _
  have lne : ∀ v, v ≠ y.1 → (T.lower y.1 x).low v = T.low v := fun v e => upd_ne _ _ e
  refine ⟨h.rise, h.vis, h.three, h.fin, fun z hz v hv => ?_, fun v hv => ?_, h.chain, fun i z hz => ?_, h.cls, h.idx, h.done, h.cnt, h.rng⟩
  · have hz : z ∈ T.S := hz
    obtain ⟨a, b, c, d⟩ := h.left z hz v hv
    have hvy : v ≠ y.1 := by
      -- a member that is left is not on the path
      intro e
      have hnd := h.nodup
      obtain ⟨s1, s2, e1⟩ := List.append_of_mem hz
      obtain ⟨l1, l2, e2⟩ := List.append_of_mem hv
      have hzs : stk T.S = stk s2 ++ (z.1 :: (l1 ++ v :: l2)) ++ stk s1 := by
        rw [e1]
        simp [stk, ← e2]
      rw [hzs] at hnd
      have hy2 : y ∈ s1 ++ z :: s2 := by rw [← e1]; exact hy
      rw [List.nodup_append, List.nodup_append] at hnd
      obtain ⟨⟨n1, n2, n3⟩, n4, n5⟩ := hnd
      rcases List.mem_append.1 hy2 with hy3 | hy3
      · exact n5 v (by simp) y.1 (mem_stk.2 ⟨y, hy3, Or.inl rfl⟩) e
      · rcases List.mem_cons.1 hy3 with rfl | hy3
        · have := (List.nodup_cons.1 n2).1
          exact this (by rw [← e]; simp)
        · exact n3 y.1 (mem_stk.2 ⟨y, hy3, Or.inl rfl⟩) v (by simp) e.symm
    rw [lne v hvy]
    exact ⟨a, Nat.le_trans (lle _) b, c, d⟩
  · obtain ⟨a, u, hu, b, c⟩ := h.low v hv
    refine ⟨Nat.le_trans (lle v) a, ?_⟩
    by_cases e : v = y.1
    · subst e
      show ∃ w ∈ stk T.S, upd _ _ _ _ = _ ∧ _
      rw [upd_same]
      rcases Nat.le_total (T.low y.1) x with hl | hl
      · rw [Nat.min_eq_left hl]
        exact ⟨u, hu, b, c⟩
      · rw [Nat.min_eq_right hl]
        exact ⟨w, hw, hx, hR⟩
    · rw [lne v e]
      exact ⟨u, hu, b, c⟩
  · obtain ⟨a, b⟩ := h.trd i z hz
    refine ⟨a, fun k u hk hu => ?_⟩
    obtain ⟨c, d⟩ := b k u hk hu
    exact ⟨c, fun hp => (d hp).imp (fun hl => Nat.le_trans (lle _) hl) id⟩

/-- an edge leads to one that was come to -/
theorem inv_skip {g : G} {T : TS} (h : Inv g T) {b : Nat} {ls : List Nat} {rest : List (Nat × List Nat)} (hS : T.S = (b, ls) :: rest) {to : Nat} (hk : (g.out b)[T.tried b]? = some to) (h0 : 0 < T.num to) (hl : T.part to < 0 → T.low b ≤ T.num to) : Inv g (T.try_ b) := by
  have hbs : b ∈ stk T.S := mem_stk.2 ⟨(b, ls), by rw [hS]; simp, Or.inl rfl⟩
  refine ⟨h.rise, h.vis, fun v hv => ?_, h.fin, h.left, h.low, h.chain, fun i x hx => ?_, h.cls, h.idx, h.done, h.cnt, h.rng⟩
  · rcases h.three v hv with a | a | a
    · have : v ≠ b := fun e => by subst e; have := (h.vis v hbs).2.1; omega
      exact Or.inl ⟨a.1, a.2.1, by show upd _ _ _ _ = _; rw [upd_ne _ _ this]; exact a.2.2⟩
    · exact Or.inr (Or.inl a)
    · exact Or.inr (Or.inr a)
  · obtain ⟨t1, t2⟩ := h.trd i x hx
    by_cases e : x.1 = b
    · have ht : (T.try_ b).tried x.1 = T.tried x.1 + 1 := by show upd _ _ _ _ = _; rw [e, upd_same]
      have hkl : T.tried b < (g.out b).length := (List.getElem?_eq_some_iff.1 hk).1
      rw [ht]
      refine ⟨by rw [e]; omega, fun k w hk' hw => ?_⟩
      rcases Nat.lt_or_ge k (T.tried x.1) with hl' | hl'
      · exact t2 k w hl' hw
      · have : k = T.tried x.1 := by omega
        subst this
        rw [e, hk] at hw
        cases hw
        exact ⟨h0, fun hp => Or.inl (by rw [e]; exact hl hp)⟩
    · have ht : (T.try_ b).tried x.1 = T.tried x.1 := by show upd _ _ _ _ = _; rw [upd_ne _ _ e]
      rw [ht]
      exact ⟨t1, t2⟩

def TS.merge (T : TS) (S : List (Nat × List Nat)) : TS := { T with S := S }

/-- a member is left that leads further back -/
theorem inv_merge {g : G} {T : TS} (h : Inv g T) {m b : Nat} {ls ls' : List Nat} {rest : List (Nat × List Nat)} (hS : T.S = (m, ls) :: (b, ls') :: rest) (ht : T.tried m = (g.out m).length) (hl : T.low m < T.num m) (hb : T.low b ≤ T.low m) (hmn : m < g.n) : Inv g (T.merge ((b, ls' ++ m :: ls) :: rest)) := by
  have es : stk ((b, ls' ++ m :: ls) :: rest) = stk T.S := by rw [hS, stk_cons, stk_cons, stk_cons]; simp
  have h0 := h.trd 0 (m, ls) (by rw [hS]; rfl)
  have hRbm : g.R b m = true := h.chain 0 (m, ls) (b, ls') (by rw [hS]; rfl) (by rw [hS]; rfl)
  refine ⟨?_, ?_, ?_, h.fin, fun x hx v hv => ?_, ?_, fun i x y hx hy => ?_, fun i x hx => ?_, h.cls, h.idx, h.done, h.cnt, h.rng⟩
  · show (stk ((b, ls' ++ m :: ls) :: rest)).Pairwise _
    rw [es]; exact h.rise
  · show ∀ v ∈ stk ((b, ls' ++ m :: ls) :: rest), _
    rw [es]; exact h.vis
  · intro v hv
    show _ ∨ v ∈ stk ((b, ls' ++ m :: ls) :: rest) ∨ _
    rw [es]
    exact h.three v hv
  · have hx : x ∈ (b, ls' ++ m :: ls) :: rest := hx
    rcases List.mem_cons.1 hx with rfl | hx
    · have hv : v ∈ ls' ++ m :: ls := hv
      rcases List.mem_append.1 hv with hv | hv
      · exact h.left (b, ls') (by rw [hS]; simp) v hv
      · rcases List.mem_cons.1 hv with rfl | hv
        · refine ⟨hRbm, hb, hl, fun w hw => ?_⟩
          obtain ⟨k, hk, e⟩ := List.getElem_of_mem hw
          obtain ⟨c, d⟩ := h0.2 k w (by show k < T.tried v; omega) (by rw [List.getElem?_eq_getElem hk, e])
          refine ⟨c, fun hp => ?_⟩
          rcases d hp with d | ⟨j, y, e1, _⟩
          · exact d
          · omega
        · obtain ⟨a, b', c, d⟩ := h.left (m, ls) (by rw [hS]; simp) v hv
          exact ⟨g.trans hmn hRbm a, Nat.le_trans hb b', c, d⟩
    · exact h.left x (by rw [hS]; simp [hx]) v hv
  · show ∀ v ∈ stk ((b, ls' ++ m :: ls) :: rest), T.low v ≤ T.num v ∧ ∃ w ∈ stk ((b, ls' ++ m :: ls) :: rest), _
    rw [es]
    exact h.low
  · have hx : ((b, ls' ++ m :: ls) :: rest)[i]? = some x := hx
    have hy : ((b, ls' ++ m :: ls) :: rest)[i + 1]? = some y := hy
    rw [List.getElem?_cons_succ] at hy
    cases i with
    | zero =>
      simp at hx
      subst hx
      exact h.chain 1 (b, ls') y (by rw [hS]; rfl) (by rw [hS]; exact hy)
    | succ i =>
      rw [List.getElem?_cons_succ] at hx
      exact h.chain (i + 2) x y (by rw [hS]; exact hx) (by rw [hS]; exact hy)
  · have hx : ((b, ls' ++ m :: ls) :: rest)[i]? = some x := hx
    cases i with
    | zero =>
      simp at hx
      subst hx
      obtain ⟨a, c⟩ := h.trd 1 (b, ls') (by rw [hS]; rfl)
      refine ⟨a, fun k w hk hw => ?_⟩
      obtain ⟨d, e⟩ := c k w hk hw
      refine ⟨d, fun hp => Or.inl ?_⟩
      rcases e hp with e | ⟨j, y, e1, e2, e3⟩
      · exact e
      · have : j = 0 := by omega
        subst this
        rw [hS] at e2
        simp at e2
        subst e2
        have e3 : m = w := e3
        subst e3
        exact Nat.le_trans hb (Nat.le_of_lt hl)
    | succ i =>
      rw [List.getElem?_cons_succ] at hx
      obtain ⟨a, c⟩ := h.trd (i + 2) x (by rw [hS]; exact hx)
      refine ⟨a, fun k w hk hw => ?_⟩
      obtain ⟨d, e⟩ := c k w hk hw
      refine ⟨d, fun hp => (e hp).imp id fun ⟨j, y, e1, e2, e3⟩ => ?_⟩
      have : j = i + 1 := by omega
      subst this
      rw [hS, List.getElem?_cons_succ] at e2
      cases i with
      | zero =>
        simp at e2
        subst e2
        exact ⟨0, (b, ls' ++ m :: ls), rfl, rfl, e3⟩
      | succ i =>
        rw [List.getElem?_cons_succ] at e2
        exact ⟨i + 1, y, rfl, by show ((b, ls' ++ m :: ls) :: rest)[i + 1]? = _; rw [List.getElem?_cons_succ]; exact e2, e3⟩

/-- what stands on the stack from m on is m's part -/
theorem close_cls {g : G} {T : TS} (hg : g.ok) (h : Inv g T) {m : Nat} {ls : List Nat} {rest : List (Nat × List Nat)} (hS : T.S = (m, ls) :: rest) (ht : T.tried m = (g.out m).length) (hl : ¬ T.low m < T.num m) (v : Nat) : v ∈ m :: ls ↔ v ∈ g.cls m := by
  have es : stk T.S = stk rest ++ (m :: ls) := by rw [hS, stk_cons]
  have hseg : ∀ u, u ∈ m :: ls → u ∈ stk T.S := fun u hu => by rw [es]; exact List.mem_append_right _ hu
  have hmn : m < g.n := (h.vis m (hseg m (by simp))).1
  have hlm : T.low m = T.num m := by have := (h.low m (hseg m (by simp))).1; omega
  have h0 := h.trd 0 (m, ls) (by rw [hS]; rfl)
  have hL := h.left (m, ls) (by rw [hS]; simp)
  -- the numbers from m on
  have hge : ∀ u, u ∈ stk T.S → (u ∈ m :: ls ↔ T.num m ≤ T.num u) := by
    intro u hu
    have hr := h.rise
    rw [es] at hr hu
    rw [List.pairwise_append] at hr
    obtain ⟨_, r2, r3⟩ := hr
    constructor
    · intro hm
      rcases List.mem_cons.1 hm with rfl | hm
      · exact Nat.le_refl _
      · exact Nat.le_of_lt ((List.pairwise_cons.1 r2).1 u hm)
    · intro hle
      rcases List.mem_append.1 hu with hu | hu
      · have := r3 u hu m (by simp)
        omega
      · exact hu
  have hlow : ∀ u, u ∈ m :: ls → T.num m ≤ T.low u := fun u hu => by
    rcases List.mem_cons.1 hu with rfl | hu
    · omega
    · have := (hL u hu).2.1
      show T.num m ≤ T.low u
      have : T.low m ≤ T.low u := this
      omega
  -- m leads to all of them
  have hfrom : ∀ u, u ∈ m :: ls → g.R m u = true := fun u hu => by
    rcases List.mem_cons.1 hu with rfl | hu
    · exact g.refl u
    · exact (hL u hu).1
  -- all of them lead to m
  have hto : ∀ k u, T.num u ≤ k → u ∈ m :: ls → g.R u m = true := by
    intro k
    induction k with
    | zero => intro u hk hu; have := (h.vis u (hseg u hu)).2.1; omega
    | succ k ih =>
      intro u hk hu
      rcases List.mem_cons.1 hu with e | hu'
      · rw [e]; exact g.refl m
      · obtain ⟨_, w, hw, e1, hR⟩ := h.low u (hseg u hu)
        have h1 := hlow u hu
        have h2 : T.low u < T.num u := (hL u hu').2.2.1
        have hws : w ∈ m :: ls := (hge w hw).2 (by omega)
        exact g.trans (h.vis w hw).1 hR (ih w (by omega) hws)
  -- no edge leads out of them but to what is finished
  have hclosed : ∀ a b, (a, b) ∈ g.E → (a ∈ m :: ls ∨ (a < g.n ∧ 0 ≤ T.part a)) → (b ∈ m :: ls ∨ (b < g.n ∧ 0 ≤ T.part b)) := by
    intro a b hab ha
    have hb := (hg _ hab).2
    have hout := g.mem_out.2 hab
    rcases ha with ha | ha
    · have hv : 0 < T.num b ∧ (T.part b < 0 → T.low a ≤ T.num b) := by
        rcases List.mem_cons.1 ha with e | ha'
        · subst e
          obtain ⟨k, hk, e⟩ := List.getElem_of_mem hout
          obtain ⟨c, d⟩ := h0.2 k b (by show k < T.tried a; omega) (by rw [List.getElem?_eq_getElem hk, e])
          refine ⟨c, fun hp => ?_⟩
          rcases d hp with d | ⟨j, y, e1, _⟩
          · exact d
          · omega
        · exact (hL a ha').2.2.2 b hout
      by_cases hp : T.part b < 0
      · have hbs := (h.act hb hv.1).2 hp
        exact Or.inl ((hge b hbs).2 (Nat.le_trans (hlow a ha) (hv.2 hp)))
      · exact Or.inr ⟨hb, by omega⟩
    · exact Or.inr ⟨hb, h.fin a ha.1 ha.2 b hout⟩
  have hfin : ∀ a b, (a, b) ∈ g.E → (a < g.n ∧ 0 ≤ T.part a) → (b < g.n ∧ 0 ≤ T.part b) := fun a b hab ha => ⟨(hg _ hab).2, h.fin a ha.1 ha.2 b (g.mem_out.2 hab)⟩
  rw [g.mem_cls]
  constructor
  · intro hv
    refine ⟨(h.vis v (hseg v hv)).1, ?_⟩
    unfold G.Q
    rw [hfrom v hv, hto _ v (Nat.le_refl _) hv]
    rfl
  · rintro ⟨hvn, hq⟩
    unfold G.Q at hq
    rw [Bool.and_eq_true] at hq
    rcases g.closed (X := fun u => u ∈ m :: ls ∨ (u < g.n ∧ 0 ≤ T.part u)) hclosed (Or.inl (by simp)) hq.1 with h1 | h1
    · exact h1
    · have h2 := g.closed (X := fun u => u < g.n ∧ 0 ≤ T.part u) hfin h1 hq.2
      have h3 := (h.vis m (hseg m (by simp))).2.2.2
      have h4 := h2.2
      omega

def TS.close (g : G) (T : TS) (m : Nat) (rest : List (Nat × List Nat)) : TS := { T with S := rest, part := fun v => if v ∈ g.cls m then (T.parts.length : Int) else T.part v, parts := T.parts ++ [g.cls m] }

theorem inv_close {g : G} {T : TS} (hg : g.ok) (h : Inv g T) {m : Nat} {ls : List Nat} {rest : List (Nat × List Nat)} (hS : T.S = (m, ls) :: rest) (ht : T.tried m = (g.out m).length) (hl : ¬ T.low m < T.num m) : Inv g (T.close g m rest) := by
  have hc := close_cls hg h hS ht hl
  have es : stk T.S = stk rest ++ (m :: ls) := by rw [hS, stk_cons]
  have hmn : m < g.n := (h.vis m (by rw [es]; simp)).1
  have hnd := h.nodup
  rw [es, List.nodup_append] at hnd
  have hno : ∀ v, v ∈ stk rest → v ∉ g.cls m := fun v hv hm => hnd.2.2 v hv v ((hc v).2 hm) rfl
  have hps : ∀ v, v ∉ g.cls m → (T.close g m rest).part v = T.part v := fun v hv => by show (if _ then _ else _) = _; rw [if_neg hv]
  have hpi : ∀ v, v ∈ g.cls m → (T.close g m rest).part v = (T.parts.length : Int) := fun v hv => by show (if _ then _ else _) = _; rw [if_pos hv]
  have hrs : ∀ v, v ∈ stk rest → v ∈ stk T.S := fun v hv => by rw [es]; exact List.mem_append_left _ hv
  have hneg : ∀ v, (T.close g m rest).part v < 0 → T.part v < 0 := fun v hv => by
    by_cases hm : v ∈ g.cls m
    · rw [hpi v hm] at hv; omega
    · rwa [hps v hm] at hv
  have hmseg : ∀ v, v ∈ g.cls m → v < g.n ∧ 0 < T.num v ∧ T.part v < 0 := fun v hv => by
    obtain ⟨a, b, _, d⟩ := h.vis v (by rw [es]; exact List.mem_append_right _ ((hc v).2 hv))
    exact ⟨a, b, d⟩
  refine ⟨?_, fun v hv => ?_, fun v hv => ?_, fun u hu hp w hw => ?_, fun x hx v hv => ?_, fun v hv => ?_, fun i x y hx hy => ?_, fun i x hx => ?_, fun p hp => ?_, fun k p hk v hv => ?_, fun v hv hp => ?_, h.cnt, fun v hv => ?_⟩
  · show (stk rest).Pairwise _
    have := h.rise
    rw [es, List.pairwise_append] at this
    exact this.1
  · obtain ⟨a, b, c, d⟩ := h.vis v (hrs v hv)
    exact ⟨a, b, c, by rw [hps v (hno v hv)]; exact d⟩
  · show _ ∨ v ∈ stk rest ∨ _
    by_cases hm : v ∈ g.cls m
    · exact Or.inr (Or.inr ⟨(hmseg v hm).2.1, by rw [hpi v hm]; omega⟩)
    · rw [hps v hm]
      rcases h.three v hv with a | a | a
      · exact Or.inl a
      · rw [es, List.mem_append] at a
        rcases a with a | a
        · exact Or.inr (Or.inl a)
        · exact absurd ((hc v).1 a) hm
      · exact Or.inr (Or.inr a)
  · have hwn : w < g.n := (hg _ (g.mem_out.1 hw)).2
    by_cases hwm : w ∈ g.cls m
    · rw [hpi w hwm]; omega
    · rw [hps w hwm]
      by_cases hum : u ∈ g.cls m
      · -- an edge out of the part leads to what is finished
        rcases h.three w hwn with a | a | a
        · exfalso
          have hus := (hc u).2 hum
          have hR : 0 < T.num w := by
            rcases List.mem_cons.1 hus with e | hus
            · subst e
              obtain ⟨k, hk, e⟩ := List.getElem_of_mem hw
              exact ((h.trd 0 (u, ls) (by rw [hS]; rfl)).2 k w (by show k < T.tried u; omega) (by rw [List.getElem?_eq_getElem hk, e])).1
            · exact ((h.left (m, ls) (by rw [hS]; simp) u hus).2.2.2 w hw).1
          omega
        · exfalso
          have hus := (hc u).2 hum
          have hwp := (h.vis w a).2.2.2
          -- it stands on the stack ahead of m
          have hlm : T.low m = T.num m := by have := (h.low m (by rw [es]; simp)).1; omega
          have hwr : w ∈ stk rest := by
            rw [es, List.mem_append] at a
            rcases a with a | a
            · exact a
            · exact absurd ((hc w).1 a) hwm
          have hlt : T.num w < T.num m := by
            have := h.rise
            rw [es, List.pairwise_append] at this
            exact this.2.2 w hwr m (by simp)
          have hle : T.num m ≤ T.num w := by
            rcases List.mem_cons.1 hus with e | hus
            · subst e
              obtain ⟨k, hk, e⟩ := List.getElem_of_mem hw
              rcases ((h.trd 0 (u, ls) (by rw [hS]; rfl)).2 k w (by show k < T.tried u; omega) (by rw [List.getElem?_eq_getElem hk, e])).2 hwp with d | ⟨j, y, e1, _⟩
              · have d : T.low u ≤ T.num w := d
                omega
              · omega
            · obtain ⟨_, b1, _, b3⟩ := h.left (m, ls) (by rw [hS]; simp) u hus
              have b1 : T.low m ≤ T.low u := b1
              have := (b3 w hw).2 hwp
              omega
          omega
        · exact a.2
      · rw [hps u hum] at hp
        exact h.fin u hu hp w hw
  · have hx : x ∈ rest := hx
    have hxs : v ∈ stk rest := mem_stk.2 ⟨x, hx, Or.inr hv⟩
    obtain ⟨a, b, c, d⟩ := h.left x (by rw [hS]; simp [hx]) v hv
    exact ⟨a, b, c, fun w hw => ⟨(d w hw).1, fun hp => (d w hw).2 (hneg w hp)⟩⟩
  · have hv : v ∈ stk rest := hv
    obtain ⟨a, w, hw, b, c⟩ := h.low v (hrs v hv)
    refine ⟨a, w, ?_, b, c⟩
    show w ∈ stk rest
    rw [es, List.mem_append] at hw
    rcases hw with hw | hw
    · exact hw
    · exfalso
      have hr := h.rise
      rw [es, List.pairwise_append] at hr
      have h1 := hr.2.2 v hv m (by simp)
      have h2 : T.num m ≤ T.num w := by
        rcases List.mem_cons.1 hw with rfl | hw
        · exact Nat.le_refl _
        · exact Nat.le_of_lt ((List.pairwise_cons.1 hr.2.1).1 w hw)
      omega
  · exact h.chain (i + 1) x y (by rw [hS]; exact hx) (by rw [hS]; exact hy)
  · have hx : rest[i]? = some x := hx
    obtain ⟨a, b⟩ := h.trd (i + 1) x (by rw [hS]; exact hx)
    refine ⟨a, fun k w hk hw => ?_⟩
    obtain ⟨c, d⟩ := b k w hk hw
    refine ⟨c, fun hp => ?_⟩
    rcases d (hneg w hp) with d | ⟨j, y, e1, e2, e3⟩
    · exact Or.inl d
    · right
      have : j = i := by omega
      subst this
      rw [hS] at e2
      cases j with
      | zero =>
        simp at e2
        subst e2
        -- the part that is closed has no part below 0
        have e3 : m = w := e3
        have : w ∈ g.cls m := by rw [← e3]; exact g.cls_self hmn
        rw [hpi w this] at hp
        omega
      | succ j => exact ⟨j, y, rfl, by rw [List.getElem?_cons_succ] at e2; exact e2, e3⟩
  · have hp : p ∈ T.parts ++ [g.cls m] := hp
    rcases List.mem_append.1 hp with hp | hp
    · exact h.cls p hp
    · exact ⟨m, hmn, List.mem_singleton.1 hp⟩
  · have hk : (T.parts ++ [g.cls m])[k]? = some p := hk
    rcases Nat.lt_or_ge k T.parts.length with hlt | hge
    · rw [List.getElem?_append_left hlt] at hk
      have h1 := h.idx k p hk v hv
      have : v ∉ g.cls m := fun hm => by have := (hmseg v hm).2.2; omega
      rw [hps v this]
      exact h1
    · rw [List.getElem?_append_right hge] at hk
      have h1 := (List.getElem?_eq_some_iff.1 hk).1
      simp at h1
      have : k = T.parts.length := by omega
      subst this
      simp at hk
      subst hk
      exact hpi v hv
  · show v ∈ (T.parts ++ [g.cls m]).flatten
    rw [List.flatten_append, List.mem_append]
    by_cases hm : v ∈ g.cls m
    · right
      simpa using hm
    · rw [hps v hm] at hp
      exact Or.inl (h.done v hv hp)
  · show _ < (((T.parts ++ [g.cls m]).length : Nat) : Int)
    rw [List.length_append, List.length_singleton]
    by_cases hm : v ∈ g.cls m
    · rw [hpi v hm]; omega
    · rw [hps v hm]
      have := h.rng v hv
      omega

structure Parted2 (g : G) (T : TS) : Prop where
  cls : ∀ p ∈ T.parts, ∃ i, i < g.n ∧ p = g.cls i
  idx : ∀ i, i < g.n → ∃ k : Nat, T.part i = (k : Int) ∧ T.parts[k]? = some (g.cls i)
  one : ∀ (k k' : Nat) (p : List Nat), T.parts[k]? = some p → T.parts[k']? = some p → k = k'

theorem parted_done {g : G} {T : TS} (h : Inv g T) (hS : T.S = []) (hall : ∀ v, v < g.n → 0 < T.num v) : Parted2 g T := by
  refine ⟨h.cls, fun i hi => ?_, fun k k' p h1 h2 => ?_⟩
  · have hp : 0 ≤ T.part i := by
      rcases h.three i hi with a | a | a
      · have := hall i hi; omega
      · rw [hS] at a; simp [stk] at a
      · exact a.2
    obtain ⟨p, hp2, hip⟩ := List.mem_flatten.1 (h.done i hi hp)
    obtain ⟨k, hk, e⟩ := List.getElem_of_mem hp2
    have hk2 : T.parts[k]? = some p := by rw [List.getElem?_eq_getElem hk, e]
    obtain ⟨j, hj, rfl⟩ := h.cls p hp2
    refine ⟨k, h.idx k _ hk2 i hip, ?_⟩
    rw [hk2, g.cls_eq hj hi (g.mem_cls.1 hip).2]
  · obtain ⟨j, hj, rfl⟩ := h.cls p (List.mem_of_getElem? h1)
    have a := h.idx k _ h1 j (g.cls_self hj)
    have b := h.idx k' _ h2 j (g.cls_self hj)
    omega
end Go.Proofs.Ytpdidgacmikllaa.tj
