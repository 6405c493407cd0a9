/-
  token: plain facts: what is joined, and what has notes ahead, has the same tokens.
-/
import Derived.Test.YtehieiddelngfaaTkC
import Derived.Test.YtehieiddelngfaaTkB
namespace Go.Proofs.Ytehieiddelngfaa.tk
open Go.RowKit Go.Proofs.Ytehieiddelngfaa.dg Go.Proofs.Ytehieiddelngfaa.mem

theorem join_cons (x y : List UInt8) (r : List (List UInt8)) : Lib.join (x :: y :: r) [32] = x ++ 32 :: Lib.join (y :: r) [32] := by
  simp [Lib.join, List.intercalate]

theorem go_blank (f : Nat) (r : List UInt8) (line : Nat) (acc : List Tok) : go (f + 1) (32 :: r) line acc = go f r line acc := by
  rw [go_cons, if_neg (by decide), if_pos (Or.inl rfl)]

abbrev PK := Int × List UInt8

theorem go_joined : ∀ (ts : List PK) (f line : Nat) (acc : List Tok), (∀ t ∈ ts, Good t.1 t.2) → (Lib.join (ts.map (·.2)) [32]).length ≤ f → go f (Lib.join (ts.map (·.2)) [32]) line acc = .ok (acc ++ ts.map fun t => (t.1, t.2, line))
  | [], f, line, acc, _, _ => by
    rw [show Lib.join (([] : List PK).map (·.2)) [32] = [] from rfl, go_nil]
    simp
  | [t], f, line, acc, hg, hf => by
    have h := hg t (by simp)
    have e : Lib.join ([t].map (·.2)) [32] = t.2 ++ [] := by simp [Lib.join, List.intercalate]
    rw [e] at hf ⊢
    have h1 : 0 < t.2.length := List.length_pos_iff.2 h.ne
    obtain ⟨f', rfl⟩ : ∃ f', f = f' + 1 := ⟨f - 1, by simp at hf; omega⟩
    rw [go_tok f' t.1 t.2 [] line acc h (Or.inl rfl), go_nil]
    simp
  | t :: u :: r, f, line, acc, hg, hf => by
    have h := hg t (by simp)
    have e : Lib.join ((t :: u :: r).map (·.2)) [32] = t.2 ++ 32 :: Lib.join ((u :: r).map (·.2)) [32] := by rw [List.map_cons, List.map_cons]; exact join_cons _ _ _
    rw [e] at hf ⊢
    have h1 : 0 < t.2.length := List.length_pos_iff.2 h.ne
    simp only [List.length_append, List.length_cons] at hf
    obtain ⟨f', rfl⟩ : ∃ f', f = f' + 2 := ⟨f - 2, by omega⟩
    rw [go_tok (f' + 1) t.1 t.2 _ line acc h (Or.inr ⟨_, Or.inl rfl⟩), go_blank, go_joined (u :: r) f' line _ (fun x hx => hg x (by simp [hx])) (by omega)]
    simp

def noted (n : List UInt8) (ts : List PK) : List UInt8 := ts.flatMap fun t => [9, 35] ++ n ++ [10, 32] ++ t.2

def lined : List PK → Nat → List Tok
  | [], _ => []
  | t :: r, line => (t.1, t.2, line + 1) :: lined r (line + 1)

theorem noted_cons (n : List UInt8) (t : PK) (r : List PK) : noted n (t :: r) = 9 :: 35 :: (n ++ 10 :: 32 :: (t.2 ++ noted n r)) := by simp [noted]

theorem noted_gap (n : List UInt8) (r : List PK) : Gap (noted n r) := by
  cases r with
  | nil => exact Or.inl rfl
  | cons t r => exact Or.inr ⟨_, Or.inr (noted_cons n t r)⟩

theorem note_past (n r : List UInt8) (hn : ∀ c ∈ n, c ≠ 10) : note (n ++ 10 :: r) = 10 :: r := by
  unfold note
  induction n with
  | nil => rw [List.nil_append, List.dropWhile_cons, if_neg (by decide)]
  | cons c n ih =>
    rw [List.cons_append, List.dropWhile_cons, if_pos (by simpa using hn c (by simp))]
    exact ih (fun d hd => hn d (by simp [hd]))

theorem go_noted (n : List UInt8) (hn : ∀ c ∈ n, c ≠ 10) : ∀ (ts : List PK) (f line : Nat) (acc : List Tok), (∀ t ∈ ts, Good t.1 t.2) → (noted n ts).length ≤ f → go f (noted n ts) line acc = .ok (acc ++ lined ts line)
  | [], f, line, acc, _, _ => by
    rw [show noted n [] = [] from rfl, go_nil]
    simp [lined]
  | t :: r, f, line, acc, hg, hf => by
    have h := hg t (by simp)
    have h1 : 0 < t.2.length := List.length_pos_iff.2 h.ne
    rw [noted_cons] at hf ⊢
    simp only [List.length_append, List.length_cons] at hf
    obtain ⟨f', rfl⟩ : ∃ f', f = f' + 5 := ⟨f - 5, by omega⟩
    rw [go_cons, if_neg (by decide), if_pos (Or.inr (Or.inl rfl)), go_cons, if_neg (by decide), if_neg (by decide), if_pos rfl]
    rw [show note (35 :: (n ++ 10 :: 32 :: (t.2 ++ noted n r))) = 10 :: 32 :: (t.2 ++ noted n r) from note_past (35 :: n) _ (by
      intro c hc
      rcases List.mem_cons.1 hc with rfl | hc
      · decide
      · exact hn c hc)]
    rw [go_cons, if_pos rfl, go_blank, go_tok f' t.1 t.2 _ (line + 1) acc h (noted_gap n r), go_noted n hn r f' (line + 1) _ (fun x hx => hg x (by simp [hx])) (by omega)]
    simp [lined]

theorem lined_len : ∀ (ts : List PK) (line : Nat), (lined ts line).length = ts.length
  | [], _ => rfl
  | t :: r, line => by simp [lined, lined_len r]

theorem lined_get : ∀ (ts : List PK) (line i : Nat) (h : i < ts.length), (lined ts line)[i]? = some (ts[i].1, ts[i].2, line + i + 1)
  | t :: r, line, 0, _ => by simp [lined]
  | t :: r, line, i + 1, h => by
    have := lined_get r (line + 1) i (by simpa using h)
    simp only [lined, List.getElem?_cons_succ, List.getElem_cons_succ]
    rw [this]
    congr 3
    omega

theorem go_bad : ∀ (f : Nat) (l : List UInt8) (line : Nat) (acc : List Tok) (ln : Nat) (e : Int), go f l line acc = .bad ln e → e ≠ 0
  | f, [], line, acc, ln, e, h => by rw [go_nil] at h; cases h
  | 0, c :: r, line, acc, ln, e, h => by cases h
  | f + 1, c :: r, line, acc, ln, e, h => by
    rw [go_cons] at h
    split at h
    · exact go_bad f _ _ _ _ _ h
    · split at h
      · exact go_bad f _ _ _ _ _ h
      · split at h
        · exact go_bad f _ _ _ _ _ h
        · split at h
          · rename_i hz
            injection h with _ h
            rw [← h]; exact hz
          · exact go_bad f _ _ _ _ _ h

theorem go_small (M : Nat) : ∀ (f : Nat) (l : List UInt8) (line : Nat) (acc ts : List Tok), l.length ≤ M → (∀ t ∈ acc, t.2.1.length ≤ M) → go f l line acc = .ok ts → ∀ t ∈ ts, t.2.1.length ≤ M
  | f, [], line, acc, ts, _, ha, h => by
    rw [go_nil] at h
    injection h with h
    subst h
    exact ha
  | 0, c :: r, line, acc, ts, _, ha, h => by
    have h : Res.ok acc = Res.ok ts := h
    injection h with h
    subst h
    exact ha
  | f + 1, c :: r, line, acc, ts, hl, ha, h => by
    rw [go_cons] at h
    simp only [List.length_cons] at hl
    split at h
    · exact go_small M f r _ _ _ (by omega) ha h
    · rename_i h10
      split at h
      · exact go_small M f r _ _ _ (by omega) ha h
      · split at h
        · have := note_len c r h10
          exact go_small M f _ _ _ _ (by omega) ha h
        · split at h
          · cases h
          · refine go_small M f _ _ _ _ (by rw [List.length_drop, List.length_cons]; omega) ?_ h
            intro t ht
            rcases List.mem_append.1 ht with ht | ht
            · exact ha t ht
            · rw [List.mem_singleton] at ht
              subst ht
              show ((c :: r).take _).length ≤ M
              rw [List.length_take, List.length_cons]
              omega

theorem join_lenM (M : Nat) (xs : List (List UInt8)) (h : ∀ t ∈ xs, t.length ≤ M) : (Lib.join xs [32]).length ≤ (M + 1) * xs.length := by
  induction xs with
  | nil => simp [Lib.join, List.intercalate]
  | cons x xs ih =>
    have h1 := h x (by simp)
    have h2 := ih (fun t ht => h t (by simp [ht]))
    cases xs with
    | nil => simp [Lib.join, List.intercalate]; omega
    | cons y r =>
      rw [join_cons, List.length_append, List.length_cons]
      have e : (M + 1) * (x :: y :: r).length = (M + 1) * (y :: r).length + (M + 1) := by rw [List.length_cons, Nat.mul_add, Nat.mul_one]
      rw [e]
      omega
end Go.Proofs.Ytehieiddelngfaa.tk
