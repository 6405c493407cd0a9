/-
  tarjan: the search from a member, plain: steps on the state in memory, and how much is left.
-/
import Derived.Test.YtpdidgacmikllaaTjQ
namespace Go.Proofs.Ytpdidgacmikllaa.tj
open Go.RowKit Go.Proofs.Ytpdidgacmikllaa.mem

theorem ms_enter (T : TS) (m : Nat) : (T.enter m).ms = T.ms.enter m := by simp [TS.enter, MS.enter, MS.enterK, TS.ms, pth_cons, stk_cons]

theorem Inv.lens {g : G} {T : TS} (h : Inv g T) : (stk T.S).length ≤ g.n ∧ (pth T.S).length ≤ g.n := by
  have h1 := nodup_len (l := stk T.S) (m := List.range g.n) h.nodup (fun x hx => by simpa using (h.vis x hx).1)
  rw [List.length_range] at h1
  refine ⟨h1, ?_⟩
  have h2 : (pth T.S).length ≤ (stk T.S).length := by
    unfold pth stk
    rw [List.length_reverse, List.length_map, List.length_flatMap, ← List.length_reverse]
    generalize T.S.reverse = l
    induction l with
    | nil => simp
    | cons x r ih => simp at ih ⊢; omega
  omega

theorem Inv.parts_le {g : G} {T : TS} (h : Inv g T) : T.parts.length ≤ g.n := by
  have hx : ∀ k, k < T.parts.length → ∃ v, v < g.n ∧ T.part v = (k : Int) := fun k hk => by
    obtain ⟨i, hi, e⟩ := h.cls _ (List.getElem_mem hk)
    exact ⟨i, hi, h.idx k _ (List.getElem?_eq_getElem hk) i (by rw [e]; exact g.cls_self hi)⟩
  have H : ∀ m, m ≤ T.parts.length → ∃ l : List Nat, l.length = m ∧ l.Nodup ∧ ∀ v ∈ l, v < g.n ∧ T.part v < (m : Int) := by
    intro m
    induction m with
    | zero => exact fun _ => ⟨[], rfl, by simp, by simp⟩
    | succ m ih =>
      intro hm
      obtain ⟨l, h1, h2, h3⟩ := ih (by omega)
      obtain ⟨v, v1, v2⟩ := hx m (by omega)
      refine ⟨v :: l, by simp [h1], List.nodup_cons.2 ⟨fun hv => by have := (h3 v hv).2; omega, h2⟩, fun u hu => ?_⟩
      rcases List.mem_cons.1 hu with rfl | hu
      · exact ⟨v1, by omega⟩
      · have := h3 u hu; exact ⟨this.1, by omega⟩
  obtain ⟨l, h1, h2, h3⟩ := H _ (Nat.le_refl _)
  have := nodup_len (l := l) (m := List.range g.n) h2 (fun x hx => by simpa using (h3 x hx).1)
  rw [List.length_range] at this
  omega

/-- how many edges were not tried -/
def rem_ (g : G) (T : TS) : Nat := ((List.range g.n).map fun v => (g.out v).length - T.tried v).sum

theorem sum_upd {f f' : Nat → Nat} {m : Nat} : ∀ {l : List Nat}, l.Nodup → m ∈ l → (∀ v, v ≠ m → f' v = f v) → (l.map f').sum + f m = (l.map f).sum + f' m
  | [], _, h, _ => by cases h
  | x :: r, hn, hm, he => by
    have h1 := List.nodup_cons.1 hn
    rcases List.mem_cons.1 hm with rfl | hm
    · have e : r.map f' = r.map f := List.map_congr_left fun v hv => he v (fun e => h1.1 (e ▸ hv))
      simp only [List.map_cons, List.sum_cons, e]
      omega
    · have ih := sum_upd h1.2 hm he
      have hx : f' x = f x := he x (fun e => h1.1 (e ▸ hm))
      simp only [List.map_cons, List.sum_cons, hx]
      omega

theorem rem_try {g : G} {T : TS} {m : Nat} (hm : m < g.n) (ht : T.tried m < (g.out m).length) : rem_ g (T.try_ m) + 1 = rem_ g T := by
  have := sum_upd (f := fun v => (g.out v).length - T.tried v) (f' := fun v => (g.out v).length - (T.try_ m).tried v) (m := m) (l := List.range g.n) List.nodup_range (by simpa using hm) (fun v hv => by
    show _ - upd _ _ _ _ = _
    rw [upd_ne _ _ hv])
  have e : (T.try_ m).tried m = T.tried m + 1 := upd_same _ _ _
  simp only [e] at this
  unfold rem_
  omega

theorem rem_eq {g : G} {T T' : TS} (h : T'.tried = T.tried) : rem_ g T' = rem_ g T := by unfold rem_; rw [h]

/-- a member is left -/
theorem leave_step {g : G} {T : TS} (hg : g.ok) (h : Inv g T) {m : Nat} {ls : List Nat} {rest : List (Nat × List Nat)} (hS : T.S = (m, ls) :: rest) (ht : T.tried m = (g.out m).length) :
    ∃ T', Inv g T' ∧ pth T'.S = pth rest ∧ T'.tried = T.tried ∧ T'.num = T.num ∧
      ((T.ms.low m < T.ms.num m ∧ T'.ms = T.ms.back (pth rest) m) ∨ (¬ T.ms.low m < T.ms.num m ∧ ((m :: ls).Perm (g.cls m) ∧ (g.cls m).Pairwise (· < ·) ∧ ∀ x ∈ g.cls m, x < g.n) ∧ T'.ms = (T.ms.back (pth rest) m).shut (stk rest) (g.cls m))) := by
  have es : stk T.S = stk rest ++ (m :: ls) := by rw [hS, stk_cons]
  have hmn : m < g.n := (h.vis m (by rw [es]; simp)).1
  have hlow := h.low m (by rw [es]; simp)
  -- where the path goes on, its next member is known to lead as far back
  have hback : ∀ b ls' rest', rest = (b, ls') :: rest' → Inv g (T.lower b (T.low m)) ∧ T.ms.back (pth rest) m = { T.ms with path := pth rest, low := upd T.low b (min (T.low b) (T.low m)) } := by
    intro b ls' rest' e
    obtain ⟨_, w, hw, e1, hR⟩ := hlow
    have hRb : g.R b m = true := h.chain 0 (m, ls) (b, ls') (by rw [hS]; rfl) (by rw [hS, e]; rfl)
    refine ⟨inv_lower h (y := (b, ls')) (by rw [hS, e]; simp) hw (g.trans hmn hRb hR) e1, ?_⟩
    unfold MS.back
    rw [show (pth rest).getLast? = some b by rw [e, pth_cons]; simp]
    rfl
  by_cases hl : T.low m < T.num m
  · obtain ⟨b, ls', rest', e⟩ : ∃ b ls' rest', rest = (b, ls') :: rest' := by
      obtain ⟨_, w, hw, e1, hR⟩ := hlow
      cases rest with
      | cons y r => exact ⟨y.1, y.2, r, rfl⟩
      | nil =>
        exfalso
        have hr := h.rise
        rw [es] at hr hw
        simp only [stk, List.reverse_nil, List.flatMap_nil, List.nil_append] at hr hw
        rcases List.mem_cons.1 hw with rfl | hw
        · omega
        · have := (List.pairwise_cons.1 hr).1 w hw
          omega
    obtain ⟨hI, hb⟩ := hback b ls' rest' e
    have hS2 : (T.lower b (T.low m)).S = (m, ls) :: (b, ls') :: rest' := by show T.S = _; rw [hS, e]
    have hbm : b ≠ m := by
      intro e2
      have := h.nodup
      rw [hS, e, stk_cons, stk_cons, List.nodup_append] at this
      exact this.2.2 b (by simp) m (by simp) e2
    have hlm : (T.lower b (T.low m)).low m = T.low m := upd_ne _ _ (Ne.symm hbm)
    have hM := inv_merge hI hS2 ht (by rw [hlm]; exact hl) (by rw [hlm]; show upd _ _ _ _ ≤ _; rw [upd_same]; exact Nat.min_le_right _ _) hmn
    refine ⟨_, hM, ?_, rfl, rfl, Or.inl ⟨hl, ?_⟩⟩
    · show pth ((b, ls' ++ m :: ls) :: rest') = _
      rw [e, pth_cons, pth_cons]
    · rw [hb]
      show (⟨T.tried, T.num, upd T.low b (min (T.low b) (T.low m)), T.part, pth ((b, ls' ++ m :: ls) :: rest'), stk ((b, ls' ++ m :: ls) :: rest'), T.parts, T.count⟩ : MS) = _
      have e3 : pth ((b, ls' ++ m :: ls) :: rest') = pth rest := by rw [e, pth_cons, pth_cons]
      have e4 : stk ((b, ls' ++ m :: ls) :: rest') = stk T.S := by rw [hS, e, stk_cons, stk_cons, stk_cons]; simp
      rw [e3, e4]
      rfl
  · have hperm : (m :: ls).Perm (g.cls m) ∧ (g.cls m).Pairwise (· < ·) ∧ ∀ x ∈ g.cls m, x < g.n := by
      have hnd := h.nodup
      rw [es, List.nodup_append] at hnd
      refine ⟨(List.perm_ext_iff_of_nodup hnd.2.1 ((g.cls_srt m).imp (fun h => Nat.ne_of_lt h))).2 fun v => close_cls hg h hS ht hl v, g.cls_srt m, fun x hx => (g.mem_cls.1 hx).1⟩
    rcases hr : rest with _ | ⟨⟨b, ls'⟩, rest'⟩
    · have hC := inv_close hg h hS ht hl
      rw [hr] at hC
      refine ⟨_, hC, rfl, rfl, rfl, Or.inr ⟨hl, hperm, ?_⟩⟩
      rfl
    · obtain ⟨hI, hb⟩ := hback b ls' rest' hr
      have hbm : b ≠ m := by
        intro e2
        have := h.nodup
        rw [hS, hr, stk_cons, stk_cons, List.nodup_append] at this
        exact this.2.2 b (by simp) m (by simp) e2
      have hlm : (T.lower b (T.low m)).low m = T.low m := upd_ne _ _ (Ne.symm hbm)
      have hC := inv_close hg hI (m := m) (ls := ls) (rest := rest) hS ht (by rw [hlm]; exact hl)
      rw [← hr]
      refine ⟨_, hC, rfl, rfl, rfl, Or.inr ⟨hl, hperm, ?_⟩⟩
      rw [hb]
      rfl
end Go.Proofs.Ytpdidgacmikllaa.tj
