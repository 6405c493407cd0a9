/-
  query: where a name stands in the order of calls; how many are reached: plain.
-/
import Derived.Test.YtohdcmmkbblhkaaGreatDoorLQuBase
set_option linter.all false
namespace Go.Proofs.YtohdcmmkbblhkaaGreatDoor.qy
open Go.Proofs.YtohdcmmkbblhkaaGreatDoor.inn (rsS mem_rsS)
open Go.Proofs.YtohdcmmkbblhkaaGreatDoor.tj

theorem plR_not {x : T} {r : List T} (p : Nat) (s : Int × Int) (h : x ∉ r) : plR x p r s = s := by
  unfold plR
  induction r generalizing s with
  | nil => rfl
  | cons y r ih =>
    simp only [List.mem_cons, not_or] at h
    simp only [List.foldl_cons]
    rw [if_neg (fun e => h.1 e.symm)]
    exact ih s h.2
theorem plR_one {x : T} {r : List T} (p : Nat) (s : Int × Int) (hn : r.Nodup) (h : x ∈ r) : plR x p r s = ((p : Int), s.2 + 1) := by
  induction r generalizing s with
  | nil => cases h
  | cons y r ih =>
    have h1 := List.nodup_cons.1 hn
    have e : plR x p (y :: r) s = plR x p r (if y = x then ((p : Int), s.2 + 1) else s) := rfl
    rw [e]
    by_cases hy : y = x
    · rw [if_pos hy, plR_not p _ (hy ▸ h1.1)]
    · rw [if_neg hy]
      rcases List.mem_cons.1 h with h | h
      · exact absurd h.symm hy
      · exact ih s h1.2 h

def plG (x : T) (L : List (List T)) (k : Nat) (s : Int × Int) : Int × Int := (L.zipIdx k).foldl (fun s rp => plR x rp.2 rp.1 s) s
theorem plG_cons (x : T) (r : List T) (L : List (List T)) (k : Nat) (s : Int × Int) : plG x (r :: L) k s = plG x L (k + 1) (plR x k r s) := rfl
theorem plG_not {x : T} : ∀ {L : List (List T)} (k : Nat) (s : Int × Int), x ∉ L.flatten → plG x L k s = s
  | [], _, _, _ => rfl
  | r :: L, k, s, h => by
    rw [List.flatten_cons, List.mem_append, not_or] at h
    rw [plG_cons, plR_not k s h.1]
    exact plG_not (k + 1) s h.2
theorem plG_one {x : T} : ∀ {L : List (List T)} (k : Nat) (s : Int × Int), L.flatten.Nodup → ∀ (i : Nat) (r : List T), L[i]? = some r → x ∈ r → plG x L k s = (((k + i : Nat) : Int), s.2 + 1)
  | [], _, _, _, i, _, h, _ => by simp at h
  | q :: L, k, s, hn, i, r, h, hx => by
    rw [List.flatten_cons, List.nodup_append] at hn
    rw [plG_cons]
    cases i with
    | zero =>
      simp only [List.getElem?_cons_zero, Option.some.injEq] at h
      subst h
      rw [plR_one k s hn.1 hx, plG_not _ _ (fun hm => hn.2.2 x hx x hm rfl)]
      rfl
    | succ i =>
      rw [List.getElem?_cons_succ] at h
      have hm : x ∈ L.flatten := List.mem_flatten.2 ⟨r, List.mem_of_getElem? h, hx⟩
      rw [plR_not k s (fun h2 => hn.2.2 x h2 x hm rfl), plG_one (k + 1) s hn.2.1 i r h hx]
      congr 2
      omega
theorem placeV_one {x : T} {L : List (List T)} (hn : L.flatten.Nodup) {i : Nat} {r : List T} (h : L[i]? = some r) (hx : x ∈ r) : placeV L x = (i : Int) := by
  have e : plF x L = plG x L 0 (-1, 0) := rfl
  unfold placeV
  rw [e, plG_one 0 (-1, 0) hn i r h hx]
  simp
theorem placeV_lone {x : T} {r : List T} (hn : r.Nodup) (hx : x ∈ r) : placeV [r] x = 0 :=
  placeV_one (L := [r]) (by simpa using hn) (i := 0) rfl hx

theorem nodup_mapOn {α β : Type} {f : α → β} {l : List α} (hn : l.Nodup) (h : ∀ a ∈ l, ∀ b ∈ l, f a = f b → a = b) : (l.map f).Nodup := by
  unfold List.Nodup at hn ⊢
  rw [List.pairwise_map]
  exact hn.imp_of_mem fun ha hb hab e => hab (h _ ha _ hb e)

section
variable {l : List Ed}
theorem order_nodup (l : List Ed) : (orderL l).flatten.Nodup := by
  have hP := (gr l).parts_parted gr_ok
  unfold orderL
  have e : (List.map (textsP (namesL l)) (gof ((namesL l).length : Nat) (numE (namesL l) l)).parts).flatten = ((gr l).parts.flatten).map fun v => (namesL l).getD v [] := by
    rw [List.map_flatten]
    rfl
  rw [e]
  refine nodup_mapOn hP.nodup fun a ha b hb hab => ?_
  have h1 := ((hP.mem a).1 ha).1
  have h2 := ((hP.mem b).1 hb).1
  rw [gr_n] at h1 h2
  rw [← get_idx h1, ← get_idx h2, hab]

/-- a name's part -/
theorem order_at {x : T} (h : x ∈ namesL l) : ∃ (a : Nat) (p : List Nat), (gr l).parts[a]? = some p ∧ (namesL l).idxOf x ∈ p ∧ placeV (orderL l) x = (a : Int) ∧ a < (orderL l).length := by
  have hP := (gr l).parts_parted gr_ok
  have hm := (hP.mem ((namesL l).idxOf x)).2 ⟨by rw [gr_n]; exact idx_lt h, rfl⟩
  obtain ⟨p, hp, hi⟩ := List.mem_flatten.1 hm
  obtain ⟨a, ha, e⟩ := List.mem_iff_getElem.1 hp
  have hpa : (gr l).parts[a]? = some p := by rw [List.getElem?_eq_getElem ha, e]
  have ho : (orderL l)[a]? = some (textsP (namesL l) p) := by
    show ((gr l).parts.map (textsP (namesL l)))[a]? = _
    rw [List.getElem?_map, hpa]
    rfl
  refine ⟨a, p, hpa, hi, placeV_one (order_nodup l) ho ?_, (List.getElem?_eq_some_iff.1 ho).1⟩
  unfold textsP
  exact List.mem_map.2 ⟨_, hi, idx_get h⟩

/-- who is called stands in the same part, or ahead -/
theorem order_ahead {e : Ed} (he : e ∈ l) : ∃ a b : Nat, placeV (orderL l) e.1 = (a : Int) ∧ placeV (orderL l) e.2 = (b : Int) ∧ b ≤ a ∧ a < (orderL l).length := by
  obtain ⟨a, p, ha, hi, ea, la⟩ := order_at (mem_names.2 ⟨e, he, Or.inl rfl⟩)
  obtain ⟨b, q, hb, hj, eb, _⟩ := order_at (mem_names.2 ⟨e, he, Or.inr rfl⟩)
  refine ⟨a, b, ea, eb, ?_, la⟩
  rcases Nat.lt_or_ge a b with h | h
  · have hP := (gr l).parts_parted gr_ok
    exact absurd (gr_mem.2 ⟨e, he, rfl, rfl⟩) (hP.behind a b p q h ha hb _ hi _ hj)
  · exact h
end

theorem orderL_row2 (l : List Ed) : ∀ p ∈ orderL l, p.length ≤ 2 * l.length := fun p hp => by
  unfold orderL at hp
  obtain ⟨q, hq, rfl⟩ := List.mem_map.1 hp
  have hP := (gr l).parts_parted gr_ok
  obtain ⟨i, hi, _, rfl⟩ := hP.cls q hq
  unfold textsP
  rw [List.length_map]
  have h1 := nodup_len (l := (gr l).cls i) (m := List.range (gr l).n) (((gr l).cls_srt i).imp (fun h => by omega)) (fun x hx => by have := ((gr l).mem_cls.1 hx).1; simpa using this)
  rw [List.length_range, gr_n] at h1
  exact Nat.le_trans h1 (names_len l)
theorem orderL_len2 (l : List Ed) : (orderL l).length ≤ 2 * l.length := by
  have hP := (gr l).parts_parted gr_ok
  have e : (orderL l).length = (gr l).parts.length := by unfold orderL; rw [List.length_map]; rfl
  have h1 := hP.len
  have h2 : ∀ L : List (List Nat), (∀ p ∈ L, p ≠ []) → L.length ≤ L.flatten.length := by
    intro L
    induction L with
    | nil => simp
    | cons p r ih =>
      intro h
      have h3 := ih (fun q hq => h q (List.mem_cons_of_mem _ hq))
      have h4 := List.length_pos_iff.2 (h p List.mem_cons_self)
      rw [List.flatten_cons, List.length_append, List.length_cons]
      omega
  have h3 := h2 _ hP.ne
  rw [h1, gr_n] at h3
  rw [e]
  exact Nat.le_trans h3 (names_len l)

theorem reach_len {l : List Ed} {fr R : List T} (h : RS l fr R) (hp : R.Pairwise (· < ·)) : R.length ≤ fr.length + l.length := by
  have hn : R.Nodup := hp.imp (fun {a b} h e => by subst e; exact List.lt_irrefl _ h)
  have h2 := nodup_len (m := fr ++ l.map (·.2)) hn fun x hx => h.le (· ∈ fr ++ l.map (·.2)) (fun y hy => List.mem_append_left _ hy) (fun e he _ => List.mem_append_right _ (List.mem_map.2 ⟨e, he, rfl⟩)) x hx
  rwa [List.length_append, List.length_map] at h2
theorem rise_nodup {R : List T} (hp : R.Pairwise (· < ·)) : R.Nodup := hp.imp (fun {a b} h e => by subst e; exact List.lt_irrefl _ h)
/-- texts that are reached are no longer than those of the calls, and of the beginning -/
theorem reach_big {l : List Ed} {fr R : List T} {n : Nat} (h : RS l fr R) (hf : ∀ x ∈ fr, x.length ≤ n) (hl : ∀ e ∈ l, e.1.length ≤ n ∧ e.2.length ≤ n) : ∀ x ∈ R, x.length ≤ n :=
  h.le (fun x => x.length ≤ n) hf (fun e he _ => (hl e he).2)
theorem order_text {l : List Ed} {p : List T} (hp : p ∈ orderL l) {x : T} (hx : x ∈ p) : x ∈ namesL l := by
  unfold orderL at hp
  obtain ⟨q, hq, rfl⟩ := List.mem_map.1 hp
  obtain ⟨v, hv, rfl⟩ := List.mem_map.1 hx
  have hP := (gr l).parts_parted gr_ok
  obtain ⟨i, hi, _, rfl⟩ := hP.cls q hq
  have := ((gr l).mem_cls.1 hv).1
  rw [gr_n] at this
  exact get_mem this
theorem order_big {l : List Ed} {n : Nat} (hl : ∀ e ∈ l, e.1.length ≤ n ∧ e.2.length ≤ n) {p : List T} (hp : p ∈ orderL l) : ∀ x ∈ p, x.length ≤ n := fun x hx => by
  obtain ⟨e, he, h⟩ := mem_names.1 (order_text hp hx)
  rcases h with rfl | rfl
  · exact (hl e he).1
  · exact (hl e he).2
end Go.Proofs.YtohdcmmkbblhkaaGreatDoor.qy
