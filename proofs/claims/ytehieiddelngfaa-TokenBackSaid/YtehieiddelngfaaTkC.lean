/-
  token: plain facts: tokens that are joined are the same tokens.
-/
import Derived.Test.YtehieiddelngfaaTk6
namespace Go.Proofs.Ytehieiddelngfaa.tk
open Go.RowKit Go.Proofs.Ytehieiddelngfaa.dg Go.Proofs.Ytehieiddelngfaa.mem

/-- what may stand right behind a token -/
def Gap (r : List UInt8) : Prop := r = [] ∨ ∃ q, r = 32 :: q ∨ r = 9 :: q

theorem Gap.plain {r : List UInt8} (h : Gap r) : letU (r.headD 0) = false ∧ digU (r.headD 0) = false := by
  rcases h with rfl | ⟨q, rfl | rfl⟩
  · decide
  · rw [List.headD_cons]; decide
  · rw [List.headD_cons]; decide

theorem gap_stop {r : List UInt8} (h : Gap r) : (∀ c q, r = c :: q → beh (c.toNat : Int) = false) ∧ (∀ c q, r = c :: q → digB (c.toNat : Int) = false) := by
  obtain ⟨h1, h2⟩ := h.plain
  refine ⟨fun c q e => ?_, fun c q e => ?_⟩
  · subst e
    unfold beh
    rw [show letB (c.toNat : Int) = false from h1, show digB (c.toNat : Int) = false from h2]; rfl
  · subst e; exact h2

/-- a token that stands by itself -/
structure Good (k : Int) (x : List UInt8) : Prop where
  ne : x ≠ []
  head : x.headD 0 ≠ 10 ∧ x.headD 0 ≠ 32 ∧ x.headD 0 ≠ 9 ∧ x.headD 0 ≠ 13 ∧ x.headD 0 ≠ 35
  first : ∀ r, Gap r → fst3 (x ++ r) = (k, x.length, 0)

theorem run_app (cls : Int → Bool) (x r : List UInt8) (hx : ∀ c ∈ x, cls (c.toNat : Int) = true) (hr : ∀ c q, r = c :: q → cls (c.toNat : Int) = false) : dg.runN cls (x ++ r) = x.length := by
  unfold dg.runN
  induction x with
  | nil =>
    rcases r with _ | ⟨c, q⟩
    · rfl
    · rw [List.nil_append, List.takeWhile_cons, if_neg (by rw [hr c q rfl]; simp)]
  | cons c x ih =>
    rw [List.cons_append, List.takeWhile_cons, if_pos (hx c (by simp))]
    simp only [List.length_cons]
    rw [ih (fun d hd => hx d (by simp [hd]))]

theorem run_all (cls : Int → Bool) (l : List UInt8) : ∀ c ∈ l.take (dg.runN cls l), cls (c.toNat : Int) = true := by
  unfold dg.runN
  intro c hc
  have e : l.take (l.takeWhile fun c : UInt8 => cls (c.toNat : Int)).length = l.takeWhile fun c : UInt8 => cls (c.toNat : Int) := by
    conv => lhs; arg 2; rw [← List.takeWhile_append_dropWhile (p := fun c : UInt8 => cls (c.toNat : Int)) (l := l)]
    rw [List.take_left]
  rw [e] at hc
  have := List.all_takeWhile (p := fun c : UInt8 => cls (c.toNat : Int)) (l := l)
  rw [List.all_eq_true] at this
  exact this c hc

theorem take_head {l : List UInt8} {n : Nat} (h : 0 < n) (hl : l ≠ []) : (l.take n).headD 0 = l.headD 0 ∧ l.take n ≠ [] := by
  obtain ⟨m, rfl⟩ : ∃ m, n = m + 1 := ⟨n - 1, by omega⟩
  cases l with
  | nil => exact absurd rfl hl
  | cons c r => exact ⟨rfl, by simp⟩

/-- the first token, if nothing is wrong with it, stands by itself -/
theorem first_good (l : List UInt8) (hl : l ≠ []) (h0 : (fst3 l).2.2 = 0) (hh : l.headD 0 ≠ 10 ∧ l.headD 0 ≠ 32 ∧ l.headD 0 ≠ 9 ∧ l.headD 0 ≠ 13 ∧ l.headD 0 ≠ 35) : Good (fst3 l).1 (l.take (fst3 l).2.1) := by
  have hp := fst3_pos l h0
  obtain ⟨th, tn⟩ := take_head hp hl
  refine ⟨tn, by rw [th]; exact hh, fun r hr => ?_⟩
  obtain ⟨s1, s2⟩ := gap_stop hr
  obtain ⟨p1, p2⟩ := hr.plain
  obtain ⟨c, q, rfl⟩ : ∃ c q, l = c :: q := by cases l with | nil => exact absurd rfl hl | cons c q => exact ⟨c, q, rfl⟩
  by_cases hw : letU c = true ∨ digU c = true
  · have hn0 := spl_pos c q hw
    have hn1 := spl_le (c :: q)
    -- what fst3 says
    have hfs : (fst3 (c :: q)).2.1 = spl (c :: q) := (fst3_word c q hw).2 h0 |>.2
    have hlen : ((c :: q).take (spl (c :: q))).length = spl (c :: q) := by rw [List.length_take]; omega
    have hx0 : ((c :: q).take (spl (c :: q))).headD 0 = c := by
      have := (take_head (n := spl (c :: q)) (by omega) hl).1
      rw [this]; rfl
    have happ : (((c :: q).take (spl (c :: q))) ++ r).headD 0 = c := by
      obtain ⟨m, hm⟩ : ∃ m, spl (c :: q) = m + 1 := ⟨spl (c :: q) - 1, by omega⟩
      rw [hm]; rfl
    have hspl : spl (((c :: q).take (spl (c :: q))) ++ r) = spl (c :: q) := by
      have hsd : spl (c :: q) = if letU c then dg.runN beh (c :: q) else dg.runN digB (c :: q) := by unfold spl; rw [List.headD_cons]
      have key : ∀ X : List UInt8, X = (c :: q).take (spl (c :: q)) → X.length = spl (c :: q) → (X ++ r).headD 0 = c → spl (X ++ r) = spl (c :: q) := by
        intro X hX hXl hXh
        have e : spl (X ++ r) = if letU c then dg.runN beh (X ++ r) else dg.runN digB (X ++ r) := by unfold spl; rw [hXh]
        rw [e, ← hXl]
        by_cases hlc : letU c = true
        · rw [if_pos hlc] at hsd ⊢
          rw [hsd] at hX
          exact run_app beh X r (by rw [hX]; exact run_all beh _) s1
        · rw [if_neg hlc] at hsd ⊢
          rw [hsd] at hX
          exact run_app digB X r (by rw [hX]; exact run_all digB _) s2
      exact key _ rfl hlen happ
    have htk : (((c :: q).take (spl (c :: q))) ++ r).take (spl (c :: q)) = (c :: q).take (spl (c :: q)) := List.take_left' hlen
    have hdr : (((c :: q).take (spl (c :: q))) ++ r).drop (spl (c :: q)) = r := List.drop_left' hlen
    rw [hfs, hlen]
    have hA : fst3 (((c :: q).take (spl (c :: q))) ++ r) = if digU c then (3, spl (c :: q), if behindB r then 3 else (rd (BA ((c :: q).take (spl (c :: q))))).2) else if keyB ((c :: q).take (spl (c :: q))) then (2, spl (c :: q), 0) else if nameB (BA ((c :: q).take (spl (c :: q)))) then (1, spl (c :: q), 0) else (0, 0, 11) := by
      unfold fst3
      rw [hspl, if_neg hn0, happ, htk, hdr]
    have hB : fst3 (c :: q) = if digU c then (3, spl (c :: q), if behindB ((c :: q).drop (spl (c :: q))) then 3 else (rd (BA ((c :: q).take (spl (c :: q))))).2) else if keyB ((c :: q).take (spl (c :: q))) then (2, spl (c :: q), 0) else if nameB (BA ((c :: q).take (spl (c :: q)))) then (1, spl (c :: q), 0) else (0, 0, 11) := by
      unfold fst3
      rw [if_neg hn0]
      rfl
    rw [hA]
    rw [hB] at h0 ⊢
    by_cases hd : digU c = true
    · rw [if_pos hd] at h0 ⊢
      rw [if_pos hd]
      have hbr : behindB r = false := p1
      rw [hbr]
      by_cases hbq : behindB ((c :: q).drop (spl (c :: q))) = true
      · rw [hbq] at h0; simp at h0
      · rw [if_neg hbq] at h0
        show ((3 : Int), spl (c :: q), (rd (BA ((c :: q).take (spl (c :: q))))).2) = _
        rw [show (rd (BA ((c :: q).take (spl (c :: q))))).2 = 0 from h0]
    · rw [if_neg hd] at h0
      simp only [if_neg hd]
      by_cases hk : keyB ((c :: q).take (spl (c :: q))) = true
      · simp only [if_pos hk]
      · rw [if_neg hk] at h0
        simp only [if_neg hk]
        by_cases hnm : nameB (BA ((c :: q).take (spl (c :: q)))) = true
        · simp only [if_pos hnm]
        · rw [if_neg hnm] at h0
          simp at h0
  · have hl0 : letU c = false := by rcases h : letU c with _ | _; rfl; exact absurd (Or.inl h) hw
    have hd0 : digU c = false := by rcases h : digU c with _ | _; rfl; exact absurd (Or.inr h) hw
    rcases hmk : markB c with _ | _
    · rw [fst3_none c q hmk hl0 hd0] at h0; simp at h0
    · rw [fst3_mark c q hmk]
      show fst3 (c :: ([] ++ r)) = _
      rw [fst3_mark c _ hmk]
      rfl

/-- all tokens of a text stand by themselves -/
theorem go_good : ∀ (f : Nat) (l : List UInt8) (line : Nat) (acc ts : List Tok), (∀ t ∈ acc, Good t.1 t.2.1) → go f l line acc = .ok ts → ∀ t ∈ ts, Good t.1 t.2.1
  | f, [], line, acc, ts, ha, h => by
    rw [go_nil] at h
    injection h with h
    subst h
    exact ha
  | 0, c :: r, line, acc, ts, ha, h => by
    have h : Res.ok acc = Res.ok ts := h
    injection h with h
    subst h
    exact ha
  | f + 1, c :: r, line, acc, ts, ha, h => by
    rw [go_cons] at h
    split at h
    · exact go_good f r _ _ _ ha h
    · rename_i h10
      split at h
      · exact go_good f r _ _ _ ha h
      · rename_i hb
        split at h
        · exact go_good f _ _ _ _ ha h
        · rename_i h35
          split at h
          · cases h
          · rename_i hz
            have h0 : (fst3 (c :: r)).2.2 = 0 := by simpa using hz
            refine go_good f _ _ _ _ ?_ h
            intro t ht
            rcases List.mem_append.1 ht with ht | ht
            · exact ha t ht
            · rw [List.mem_singleton] at ht
              subst ht
              refine first_good (c :: r) (by simp) h0 ?_
              simp only [List.headD_cons]
              exact ⟨h10, fun e => hb (Or.inl e), fun e => hb (Or.inr (Or.inl e)), fun e => hb (Or.inr (Or.inr e)), h35⟩

/-- one step over a token -/
theorem go_tok (f : Nat) (k : Int) (x r : List UInt8) (line : Nat) (acc : List Tok) (hg : Good k x) (hr : Gap r) : go (f + 1) (x ++ r) line acc = go f r line (acc ++ [(k, x, line)]) := by
  obtain ⟨c, q, rfl⟩ : ∃ c q, x = c :: q := by cases x with | nil => exact absurd rfl hg.ne | cons c q => exact ⟨c, q, rfl⟩
  obtain ⟨h10, h32, h9, h13, h35⟩ := hg.head
  simp only [List.headD_cons] at h10 h32 h9 h13 h35
  have hf := hg.first r hr
  rw [List.cons_append, go_cons, if_neg h10, if_neg (by rintro (h | h | h); exact h32 h; exact h9 h; exact h13 h), if_neg h35]
  rw [List.cons_append] at hf
  rw [hf, if_neg (by simp)]
  have e : c :: (q ++ r) = (c :: q) ++ r := rfl
  show go f ((c :: (q ++ r)).drop (c :: q).length) line (acc ++ [(k, (c :: (q ++ r)).take (c :: q).length, line)]) = _
  rw [e, List.drop_left, List.take_left]
end Go.Proofs.Ytehieiddelngfaa.tk
