/-
  tarjan: the search, plain: its state, what holds between its steps, and that it does.
-/
import Derived.Test.YtpdidgacmikllaaTjO
namespace Go.Proofs.Ytpdidgacmikllaa.tj

/-- the members to which edges lead from one -/
def G.out (g : G) (v : Nat) : List Nat := (g.E.filter fun x => x.1 == v).map (·.2)
theorem G.mem_out (g : G) {v w : Nat} : w ∈ g.out v ↔ (v, w) ∈ g.E := by
  unfold G.out
  rw [List.mem_map]
  constructor
  · rintro ⟨⟨a, b⟩, h, rfl⟩
    rw [List.mem_filter] at h
    have : a = v := by simpa using h.2
    subst this
    exact h.1
  · intro h
    exact ⟨(v, w), List.mem_filter.2 ⟨h, by simp⟩, rfl⟩

structure TS where
  tried : Nat → Nat
  num : Nat → Nat
  low : Nat → Nat
  part : Nat → Int
  S : List (Nat × List Nat)
  parts : List (List Nat)
  count : Nat

def upd {α : Type} (f : Nat → α) (m : Nat) (v : α) : Nat → α := fun i => if i = m then v else f i
theorem upd_same {α : Type} (f : Nat → α) (m : Nat) (v : α) : upd f m v m = v := by simp [upd]
theorem upd_ne {α : Type} (f : Nat → α) {m i : Nat} (v : α) (h : i ≠ m) : upd f m v i = f i := by simp [upd, h]

def stk (S : List (Nat × List Nat)) : List Nat := S.reverse.flatMap fun x => x.1 :: x.2
def pth (S : List (Nat × List Nat)) : List Nat := (S.map (·.1)).reverse

theorem stk_cons (x : Nat × List Nat) (S : List (Nat × List Nat)) : stk (x :: S) = stk S ++ (x.1 :: x.2) := by simp [stk]
theorem pth_cons (x : Nat × List Nat) (S : List (Nat × List Nat)) : pth (x :: S) = pth S ++ [x.1] := by simp [pth]
theorem mem_stk {S : List (Nat × List Nat)} {v : Nat} : v ∈ stk S ↔ ∃ x ∈ S, v = x.1 ∨ v ∈ x.2 := by simp [stk]

structure Inv (g : G) (T : TS) : Prop where
  rise : (stk T.S).Pairwise fun a b => T.num a < T.num b
  vis : ∀ v ∈ stk T.S, v < g.n ∧ 0 < T.num v ∧ T.num v ≤ T.count ∧ T.part v < 0
  three : ∀ v, v < g.n → (T.num v = 0 ∧ T.part v < 0 ∧ T.tried v = 0) ∨ v ∈ stk T.S ∨ (0 < T.num v ∧ 0 ≤ T.part v)
  fin : ∀ u, u < g.n → 0 ≤ T.part u → ∀ w ∈ g.out u, 0 ≤ T.part w
  left : ∀ x ∈ T.S, ∀ v ∈ x.2, g.R x.1 v = true ∧ T.low x.1 ≤ T.low v ∧ T.low v < T.num v ∧ ∀ w ∈ g.out v, 0 < T.num w ∧ (T.part w < 0 → T.low v ≤ T.num w)
  low : ∀ v ∈ stk T.S, T.low v ≤ T.num v ∧ ∃ w ∈ stk T.S, T.low v = T.num w ∧ g.R v w = true
  chain : ∀ (i : Nat) (x y : Nat × List Nat), T.S[i]? = some x → T.S[i + 1]? = some y → g.R y.1 x.1 = true
  trd : ∀ (i : Nat) (x : Nat × List Nat), T.S[i]? = some x → T.tried x.1 ≤ (g.out x.1).length ∧ ∀ k w, k < T.tried x.1 → (g.out x.1)[k]? = some w → 0 < T.num w ∧ (T.part w < 0 → T.low x.1 ≤ T.num w ∨ ∃ j y, i = j + 1 ∧ T.S[j]? = some y ∧ y.1 = w)
  cls : ∀ p ∈ T.parts, ∃ i, i < g.n ∧ p = g.cls i
  idx : ∀ (k : Nat) (p : List Nat), T.parts[k]? = some p → ∀ v ∈ p, T.part v = (k : Int)
  done : ∀ v, v < g.n → 0 ≤ T.part v → v ∈ T.parts.flatten
  cnt : ((List.range g.n).filter fun v => decide (0 < T.num v)).length = T.count
  rng : ∀ v, v < g.n → T.part v < T.parts.length

theorem Inv.nodup {g : G} {T : TS} (h : Inv g T) : (stk T.S).Nodup := h.rise.imp (fun hlt e => by subst e; omega)
theorem Inv.act {g : G} {T : TS} (h : Inv g T) {v : Nat} (hv : v < g.n) (h0 : 0 < T.num v) : v ∈ stk T.S ↔ T.part v < 0 := by
  constructor
  · exact fun hm => (h.vis v hm).2.2.2
  · intro hp
    rcases h.three v hv with a | a | a
    · omega
    · exact a
    · omega
theorem Inv.count_le {g : G} {T : TS} (h : Inv g T) : T.count ≤ g.n := by
  rw [← h.cnt]
  have := List.length_filter_le (fun v => decide (0 < T.num v)) (List.range g.n)
  rwa [List.length_range] at this

theorem nodup_add {l : List Nat} {p : Nat → Bool} {m : Nat} (hl : l.Nodup) (hm : m ∈ l) (h0 : p m = false) : (l.filter fun v => p v || decide (v = m)).length = (l.filter p).length + 1 := by
  induction l with
  | nil => cases hm
  | cons x r ih =>
    have h1 := List.nodup_cons.1 hl
    rcases List.mem_cons.1 hm with rfl | hm
    · have e : (r.filter fun v => p v || decide (v = m)) = r.filter p := List.filter_congr fun v hv => by
        have : v ≠ m := fun e => h1.1 (e ▸ hv)
        simp [this]
      rw [List.filter_cons_of_pos (by simp), List.filter_cons_of_neg (by simp [h0]), e, List.length_cons]
    · have hne : x ≠ m := fun e => h1.1 (e ▸ hm)
      have := ih h1.2 hm
      by_cases hx : p x = true
      · rw [List.filter_cons_of_pos (by simp [hx]), List.filter_cons_of_pos hx, List.length_cons, List.length_cons, this]
      · rw [List.filter_cons_of_neg (by simp [hx, hne]), List.filter_cons_of_neg hx, this]

/-- one is come to -/
def TS.enter (T : TS) (m : Nat) : TS := { T with num := upd T.num m (T.count + 1), low := upd T.low m (T.count + 1), S := (m, []) :: T.S, count := T.count + 1 }
/-- an edge is tried -/
def TS.try_ (T : TS) (m : Nat) : TS := { T with tried := upd T.tried m (T.tried m + 1) }

def T0 : TS := ⟨fun _ => 0, fun _ => 0, fun _ => 0, fun _ => -1, [], [], 0⟩
theorem inv0 (g : G) : Inv g T0 where
  rise := by simp [T0, stk]
  vis := by simp [T0, stk]
  three := fun v _ => Or.inl ⟨rfl, by simp [T0], rfl⟩
  fin := fun u _ h => by simp [T0] at h
  left := by simp [T0]
  low := by simp [T0, stk]
  chain := by simp [T0]
  trd := by simp [T0]
  cls := by simp [T0]
  idx := by simp [T0]
  done := fun v _ h => by simp [T0] at h
  cnt := by simp [T0]
  rng := fun v _ => by simp [T0]

theorem enter_cnt {g : G} {T : TS} (hc : ((List.range g.n).filter fun v => decide (0 < T.num v)).length = T.count) {m : Nat} (hm : m < g.n) (h0 : T.num m = 0) : ((List.range g.n).filter fun v => decide (0 < upd T.num m (T.count + 1) v)).length = T.count + 1 := by
  have h1 := nodup_add (p := fun v => decide (0 < T.num v)) List.nodup_range (m := m) (l := List.range g.n) (by simpa using hm) (by simp [h0])
  rw [hc] at h1
  rw [← h1]
  refine congrArg List.length (List.filter_congr fun v _ => ?_)
  by_cases e : v = m
  · subst e
    simp [upd_same, h1]
  · simp [upd_ne _ _ e, e]

/-- a search begins -/
theorem inv_start {g : G} {T : TS} (h : Inv g T) (hS : T.S = []) {m : Nat} (hm : m < g.n) (h0 : T.num m = 0) : Inv g (T.enter m) := by
  have hp : T.part m < 0 ∧ T.tried m = 0 := by
    rcases h.three m hm with a | a | a
    · exact a.2
    · rw [hS] at a; simp [stk] at a
    · omega
  have es : stk ((m, []) :: T.S) = [m] := by rw [stk_cons, hS]; simp [stk]
  have hne : ∀ v, v < g.n → 0 ≤ T.part v → v ≠ m := fun v _ hv e => by subst e; omega
  refine ⟨?_, ?_, fun v hv => ?_, fun u hu hpu w hw => ?_, ?_, ?_, ?_, ?_, h.cls, h.idx, h.done, enter_cnt h.cnt hm h0, h.rng⟩
  · show (stk ((m, []) :: T.S)).Pairwise _
    rw [es]
    simp
  · intro v hv
    have hv : v ∈ stk ((m, []) :: T.S) := hv
    rw [es] at hv
    obtain rfl := List.mem_singleton.1 hv
    exact ⟨hm, by simp [TS.enter, upd_same], by simp [TS.enter, upd_same], hp.1⟩
  · by_cases e : v = m
    · subst e
      refine Or.inr (Or.inl ?_)
      show v ∈ stk ((v, []) :: T.S)
      rw [es]
      simp
    · rcases h.three v hv with a | a | a
      · exact Or.inl ⟨by simp only [TS.enter]; rw [upd_ne _ _ e]; exact a.1, a.2⟩
      · rw [hS] at a; simp [stk] at a
      · exact Or.inr (Or.inr ⟨by simp only [TS.enter]; rw [upd_ne _ _ e]; exact a.1, a.2⟩)
  · exact h.fin u hu hpu w hw
  · intro x hx v hv
    have hx : x ∈ (m, []) :: T.S := hx
    rw [hS, List.mem_singleton] at hx
    subst hx
    cases hv
  · intro v hv
    have hv : v ∈ stk ((m, []) :: T.S) := hv
    rw [es] at hv
    obtain rfl := List.mem_singleton.1 hv
    refine ⟨by simp [TS.enter, upd_same], v, ?_, by simp [TS.enter, upd_same], g.refl v⟩
    show v ∈ stk ((v, []) :: T.S)
    rw [es]
    simp
  · intro i x y hx hy
    have hy : ((m, []) :: T.S)[i + 1]? = some y := hy
    rw [hS] at hy
    simp at hy
  · intro i x hx
    have hx : ((m, []) :: T.S)[i]? = some x := hx
    rw [hS] at hx
    cases i with
    | succ i => simp at hx
    | zero =>
      simp at hx
      subst hx
      have ht : T.tried m = 0 := hp.2
      exact ⟨by simp [TS.enter, ht], fun k w hk => by simp [TS.enter, ht] at hk⟩

/-- an edge leads to one that was not come to: the search goes deeper -/
theorem inv_deeper {g : G} {T : TS} (hg : g.ok) (h : Inv g T) {b : Nat} {ls : List Nat} {rest : List (Nat × List Nat)} (hS : T.S = (b, ls) :: rest) {to : Nat} (hk : (g.out b)[T.tried b]? = some to) (h0 : T.num to = 0) : Inv g ((T.try_ b).enter to) := by
  have hmem : to ∈ g.out b := List.mem_of_getElem? hk
  have hedge := g.mem_out.1 hmem
  obtain ⟨hb, hto⟩ := hg _ hedge
  have hp : T.part to < 0 ∧ T.tried to = 0 ∧ to ∉ stk T.S := by
    rcases h.three to hto with a | a | a
    · exact ⟨a.2.1, a.2.2, fun hm => by have := (h.vis to hm).2.1; omega⟩
    · have := (h.vis to a).2.1; omega
    · omega
  have hbs : b ∈ stk T.S := mem_stk.2 ⟨(b, ls), by rw [hS]; simp, Or.inl rfl⟩
  have hbne : b ≠ to := fun e => hp.2.2 (e ▸ hbs)
  have hsn : ∀ v ∈ stk T.S, v ≠ to := fun v hv e => hp.2.2 (e ▸ hv)
  have es : stk ((to, []) :: T.S) = stk T.S ++ [to] := by rw [stk_cons]
  have hnum : ∀ v, v ≠ to → ((T.try_ b).enter to).num v = T.num v := fun v hv => by simp only [TS.enter, TS.try_]; exact upd_ne _ _ hv
  have hlow : ∀ v, v ≠ to → ((T.try_ b).enter to).low v = T.low v := fun v hv => by simp only [TS.enter, TS.try_]; exact upd_ne _ _ hv
  have hnt : ((T.try_ b).enter to).num to = T.count + 1 := by simp only [TS.enter, TS.try_]; exact upd_same _ _ _
  have hlt : ((T.try_ b).enter to).low to = T.count + 1 := by simp only [TS.enter, TS.try_]; exact upd_same _ _ _
  have hpart : ((T.try_ b).enter to).part = T.part := rfl
  have hSt : ((T.try_ b).enter to).S = (to, []) :: T.S := rfl
  have hpos : ∀ w, 0 < T.num w → 0 < ((T.try_ b).enter to).num w ∧ ((T.try_ b).enter to).num w = T.num w := fun w hw => by
    have : w ≠ to := fun e => by subst e; omega
    rw [hnum w this]
    exact ⟨hw, rfl⟩
  refine ⟨?_, ?_, fun v hv => ?_, fun u hu hpu w hw => h.fin u hu hpu w hw, ?_, ?_, ?_, ?_, h.cls, h.idx, h.done, enter_cnt (T := T.try_ b) h.cnt hto h0, h.rng⟩
  · rw [hSt, es, List.pairwise_append]
    refine ⟨h.rise.imp_of_mem (fun {x y} hx hy hlt => by rw [hnum x (hsn x hx), hnum y (hsn y hy)]; exact hlt), by simp, fun x hx y hy => ?_⟩
    obtain rfl := List.mem_singleton.1 hy
    rw [hnum x (hsn x hx), hnt]
    have := (h.vis x hx).2.2.1
    omega
  · intro v hv
    rw [hSt, es, List.mem_append, List.mem_singleton] at hv
    rcases hv with hv | rfl
    · rw [hnum v (hsn v hv)]
      obtain ⟨a, b', c, d⟩ := h.vis v hv
      exact ⟨a, b', Nat.le_succ_of_le c, d⟩
    · rw [hnt]
      exact ⟨hto, by omega, Nat.le_refl _, hp.1⟩
  · by_cases e : v = to
    · subst e
      refine Or.inr (Or.inl ?_)
      rw [hSt, es]
      simp
    · rw [hnum v e]
      rcases h.three v hv with a | a | a
      · by_cases e2 : v = b
        · subst e2
          have := (h.vis v hbs).2.1
          omega
        · exact Or.inl ⟨a.1, a.2.1, by simp only [TS.enter, TS.try_]; rw [upd_ne _ _ e2]; exact a.2.2⟩
      · refine Or.inr (Or.inl ?_)
        rw [hSt, es]
        exact List.mem_append_left _ a
      · exact Or.inr (Or.inr a)
  · intro x hx v hv
    rw [hSt] at hx
    rcases List.mem_cons.1 hx with rfl | hx
    · cases hv
    · have hxs : x.1 ∈ stk T.S := mem_stk.2 ⟨x, hx, Or.inl rfl⟩
      have hvs : v ∈ stk T.S := mem_stk.2 ⟨x, hx, Or.inr hv⟩
      obtain ⟨a, b', c, d⟩ := h.left x hx v hv
      rw [hlow x.1 (hsn _ hxs), hlow v (hsn v hvs), hnum v (hsn v hvs)]
      refine ⟨a, b', c, fun w hw => ?_⟩
      obtain ⟨d1, d2⟩ := d w hw
      obtain ⟨p1, p2⟩ := hpos w d1
      rw [p2]
      exact ⟨d1, d2⟩
  · intro v hv
    rw [hSt, es, List.mem_append, List.mem_singleton] at hv
    rcases hv with hv | rfl
    · obtain ⟨a, w, hw, b', c⟩ := h.low v hv
      rw [hnum v (hsn v hv), hlow v (hsn v hv)]
      refine ⟨a, w, ?_, ?_, c⟩
      · rw [hSt, es]
        exact List.mem_append_left _ hw
      · rw [hnum w (hsn w hw)]
        exact b'
    · rw [hnt, hlt]
      refine ⟨Nat.le_refl _, v, ?_, hnt.symm, g.refl v⟩
      rw [hSt, es]
      simp
  · intro i x y hx hy
    rw [hSt] at hx hy
    rw [List.getElem?_cons_succ] at hy
    cases i with
    | succ i =>
      rw [List.getElem?_cons_succ] at hx
      exact h.chain i x y hx hy
    | zero =>
      simp at hx
      subst hx
      rw [hS] at hy
      simp at hy
      subst hy
      exact g.edge hedge
  · intro i x hx
    rw [hSt] at hx
    cases i with
    | zero =>
      simp at hx
      subst hx
      have ht : ((T.try_ b).enter to).tried to = 0 := by simp only [TS.enter, TS.try_]; rw [upd_ne _ _ (Ne.symm hbne)]; exact hp.2.1
      show ((T.try_ b).enter to).tried to ≤ _ ∧ ∀ k w, k < ((T.try_ b).enter to).tried to → _
      rw [ht]
      exact ⟨Nat.zero_le _, fun k w hk => by omega⟩
    | succ i =>
      rw [List.getElem?_cons_succ] at hx
      obtain ⟨t1, t2⟩ := h.trd i x hx
      have hxS : x ∈ T.S := List.mem_of_getElem? hx
      have hxs : x.1 ∈ stk T.S := mem_stk.2 ⟨x, hxS, Or.inl rfl⟩
      have old : ∀ k w, k < T.tried x.1 → (g.out x.1)[k]? = some w → 0 < ((T.try_ b).enter to).num w ∧ (((T.try_ b).enter to).part w < 0 → ((T.try_ b).enter to).low x.1 ≤ ((T.try_ b).enter to).num w ∨ ∃ j y, i + 1 = j + 1 ∧ ((T.try_ b).enter to).S[j]? = some y ∧ y.1 = w) := by
        intro k w hk' hw
        obtain ⟨a, b'⟩ := t2 k w hk' hw
        obtain ⟨p1, p2⟩ := hpos w a
        rw [hlow x.1 (hsn _ hxs), p2]
        refine ⟨a, fun hq => (b' hq).imp id fun ⟨j, y, e1, e2, e3⟩ => ⟨j + 1, y, by omega, ?_, e3⟩⟩
        rw [hSt, List.getElem?_cons_succ]
        exact e2
      by_cases e : x.1 = b
      · have hi : i = 0 := by
          -- the path's members are all different
          rcases Nat.eq_zero_or_pos i with h0 | h0
          · exact h0
          · exfalso
            obtain ⟨i', rfl⟩ : ∃ i', i = i' + 1 := ⟨i - 1, by omega⟩
            have hx2 := hx
            rw [hS, List.getElem?_cons_succ] at hx2
            have hxr : x ∈ rest := List.mem_of_getElem? hx2
            have hnd := h.nodup
            rw [hS, stk_cons, List.nodup_append] at hnd
            exact hnd.2.2 x.1 (mem_stk.2 ⟨x, hxr, Or.inl rfl⟩) b (by simp) e
        subst hi
        have ht : ((T.try_ b).enter to).tried x.1 = T.tried x.1 + 1 := by simp only [TS.enter, TS.try_]; rw [e, upd_same]
        have hkl : T.tried b < (g.out b).length := (List.getElem?_eq_some_iff.1 hk).1
        rw [ht]
        refine ⟨by rw [e]; omega, fun k w hk' hw => ?_⟩
        rcases Nat.lt_or_ge k (T.tried x.1) with hl | hl
        · exact old k w hl hw
        · have : k = T.tried x.1 := by omega
          subst this
          rw [e, hk] at hw
          cases hw
          rw [hnt]
          exact ⟨by omega, fun _ => Or.inr ⟨0, (to, []), rfl, by rw [hSt]; rfl, rfl⟩⟩
      · have ht : ((T.try_ b).enter to).tried x.1 = T.tried x.1 := by simp only [TS.enter, TS.try_]; rw [upd_ne _ _ e]
        rw [ht]
        exact ⟨t1, old⟩
end Go.Proofs.Ytpdidgacmikllaa.tj
