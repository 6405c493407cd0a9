/-
  token: plain facts: words, the first token, all tokens.
-/
import Derived.Test.YtehieiddelngfaaDg6
import Derived.Lib.IndexMore
import Derived.Lib.IndexAny
namespace Go.Proofs.Ytehieiddelngfaa.tk
open Go.RowKit Go.Proofs.Ytehieiddelngfaa.dg

/-- the language's own words -/
def keysL : List (List UInt8) := [[97, 100, 100, 114], [99, 97, 108, 108], [99, 111, 112, 121], [101, 108, 115, 101], [101, 120, 116, 101, 114, 110], [102, 110], [102, 114, 101, 101], [103, 108, 111, 98, 97, 108], [105, 99, 97, 108, 108], [105, 102], [105, 110, 100, 101, 120], [105, 110, 112, 117, 116], [105, 110, 116], [105, 115, 110, 117, 108, 108], [108, 101, 115, 115], [108, 111, 97, 100], [109, 101, 109, 98, 101, 114], [109, 105, 110, 117, 115], [109, 111, 100, 117, 108, 101], [110, 101, 119], [110, 117, 108, 108], [111, 98, 106], [112, 108, 117, 115], [112, 116, 114], [114, 101, 116, 117, 114, 110], [115, 97, 109, 101], [115, 116, 97, 116, 105, 99], [115, 116, 111, 114, 101], [115, 116, 114, 117, 99, 116], [116, 105, 109, 101, 115], [118, 97, 114], [119, 104, 105, 108, 101]]

def blanked (ws : List (List UInt8)) : List UInt8 := 32 :: ws.flatMap fun w => w ++ [32]

theorem contains_infix (s sub : List UInt8) : Lib.contains s sub = true ↔ sub <:+: s := by
  unfold Lib.contains
  rw [decide_eq_true_iff]
  rcases Lib.index_spec s sub with ⟨h1, h2⟩ | ⟨i, h1, h2, h3, _⟩
  · rw [h1]
    refine ⟨fun h => by omega, fun ⟨p, q, h⟩ => ?_⟩
    have h4 := h2 p.length (by rw [← h]; simp)
    unfold Lib.occAt at h4
    rw [← h, List.append_assoc, List.drop_left, List.isPrefixOf_iff_prefix.2 (List.prefix_append _ _)] at h4
    cases h4
  · rw [h1]
    refine ⟨fun _ => ?_, fun _ => by omega⟩
    unfold Lib.occAt at h3
    rw [List.isPrefixOf_iff_prefix] at h3
    obtain ⟨q, hq⟩ := h3
    exact ⟨s.take i, q, by rw [List.append_assoc, hq, List.take_append_drop]⟩

theorem word_eq : ∀ (l w r : List UInt8), (∀ c ∈ l, c ≠ 32) → (∀ c ∈ w, c ≠ 32) → (l ++ [32] <+: w ++ 32 :: r) → l = w
  | [], [], _, _, _, _ => rfl
  | [], c :: w, r, _, hw, h => by
    simp only [List.nil_append, List.cons_append, List.cons_prefix_cons] at h
    exact absurd h.1.symm (hw c (by simp))
  | c :: l, [], r, hl, _, h => by
    simp only [List.nil_append, List.cons_append, List.cons_prefix_cons] at h
    exact absurd h.1 (hl c (by simp))
  | c :: l, d :: w, r, hl, hw, h => by
    simp only [List.cons_append, List.cons_prefix_cons] at h
    rw [h.1, word_eq l w r (fun c hc => hl c (by simp [hc])) (fun c hc => hw c (by simp [hc])) h.2]

theorem infix_past : ∀ (w r sub : List UInt8), (∀ c ∈ w, c ≠ 32) → (32 :: sub <:+: w ++ r) → 32 :: sub <:+: r
  | [], _, _, _, h => h
  | c :: w, r, sub, hw, h => by
    rw [List.cons_append, List.infix_cons_iff] at h
    rcases h with h | h
    · rw [List.cons_prefix_cons] at h
      exact absurd h.1.symm (hw c (by simp))
    · exact infix_past w r sub (fun c hc => hw c (by simp [hc])) h

theorem blanked_cons (w : List UInt8) (ws : List (List UInt8)) : blanked (w :: ws) = 32 :: (w ++ blanked ws) := by
  simp [blanked]

theorem in_blanked (l : List UInt8) (hl : ∀ c ∈ l, c ≠ 32) : ∀ ws : List (List UInt8), (∀ w ∈ ws, ∀ c ∈ w, c ≠ 32) → (32 :: (l ++ [32]) <:+: blanked ws ↔ l ∈ ws)
  | [], _ => by
    refine ⟨fun h => ?_, fun h => by cases h⟩
    have := h.length_le
    simp [blanked] at this
  | w :: ws, hws => by
    have hw : ∀ c ∈ w, c ≠ 32 := hws w (by simp)
    have ih := in_blanked l hl ws (fun x hx => hws x (by simp [hx]))
    rw [blanked_cons, List.infix_cons_iff, List.mem_cons]
    constructor
    · rintro (h | h)
      · rw [List.cons_prefix_cons] at h
        exact Or.inl (word_eq l w _ hl hw h.2)
      · exact Or.inr (ih.1 (infix_past w _ _ hw h))
    · rintro (rfl | h)
      · left
        rw [List.cons_prefix_cons]
        refine ⟨rfl, ?_⟩
        unfold blanked
        exact ⟨ws.flatMap fun w => w ++ [32], by simp⟩
      · right
        obtain ⟨p, q, hq⟩ := ih.2 h
        exact ⟨w ++ p, q, by rw [← hq]; simp⟩

def keyB (l : List UInt8) : Bool := decide (l ∈ keysL)

theorem keys_plain : ∀ w ∈ keysL, ∀ c ∈ w, c ≠ 32 := by decide

theorem key_iff (l : List UInt8) : (!(decide (0 ≤ Lib.indexByte l 32)) && Lib.contains (blanked keysL) (32 :: (l ++ [32]))) = keyB l := by
  have hb : decide (0 ≤ Lib.indexByte l 32) = decide (32 ∈ l) := by
    rw [← Lib.contains_iff_indexByte]
    by_cases h : (32 : UInt8) ∈ l <;> simp [h]
  rw [hb]
  by_cases h : (32 : UInt8) ∈ l
  · have hk : keyB l = false := decide_eq_false fun hm => keys_plain l hm 32 h rfl
    rw [decide_eq_true h, hk]; rfl
  · rw [decide_eq_false h]
    have hl : ∀ c ∈ l, c ≠ 32 := fun c hc e => h (e ▸ hc)
    have := in_blanked l hl keysL keys_plain
    unfold keyB
    rw [Bool.eq_iff_iff, Bool.and_eq_true, contains_infix, this, decide_eq_true_iff]
    simp

def marks : List UInt8 := [123, 125, 40, 41, 91, 93, 59, 61, 44, 45]
def markB (c : UInt8) : Bool := decide (c ∈ marks)

def letU (c : UInt8) : Bool := letB (c.toNat : Int)
def digU (c : UInt8) : Bool := digB (c.toNat : Int)

/-- how far the first word, or number, goes -/
def spl (l : List UInt8) : Nat := if letU (l.headD 0) then dg.runN beh l else dg.runN digB l

theorem spl_eq (s : ByteArray) : splN s = spl s.data.toList := rfl

theorem letU_zero : letU 0 = false := by decide
theorem digU_zero : digU 0 = false := by decide
theorem let_not_dig (c : UInt8) (h : letU c = true) : digU c = false := by
  unfold letU letB at h
  unfold digU digB
  rw [decide_eq_true_iff] at h
  rw [decide_eq_false_iff_not]
  omega

theorem spl_cons (c : UInt8) (r : List UInt8) : spl (c :: r) = if letU c then 1 + dg.runN beh r else if digU c then 1 + dg.runN digB r else 0 := by
  unfold spl
  rw [List.headD_cons]
  unfold dg.runN
  by_cases h : letU c = true
  · rw [if_pos h, if_pos h, List.takeWhile_cons, if_pos (by unfold beh; unfold letU at h; rw [h]; rfl)]
    simp; omega
  · rw [if_neg h, if_neg h, List.takeWhile_cons]
    by_cases h2 : digU c = true
    · rw [if_pos h2, if_pos (by unfold digU at h2; exact h2)]
      simp; omega
    · rw [if_neg h2, if_neg (by unfold digU at h2; exact h2)]
      rfl

theorem spl_nil : spl [] = 0 := by decide

theorem runN_len (cls : Int → Bool) (l : List UInt8) : dg.runN cls l ≤ l.length := runN_le cls l
theorem spl_le (l : List UInt8) : spl l ≤ l.length := by unfold spl; split <;> exact runN_le _ _

theorem run_stop (cls : Int → Bool) (l : List UInt8) (c : UInt8) (h : l[dg.runN cls l]? = some c) : cls (c.toNat : Int) = false := by
  unfold dg.runN at h
  have := List.head?_dropWhile_not (fun c : UInt8 => cls (c.toNat : Int)) l
  have hd : l.drop (l.takeWhile fun c : UInt8 => cls (c.toNat : Int)).length = l.dropWhile fun c : UInt8 => cls (c.toNat : Int) := by
    conv => lhs; arg 2; rw [← List.takeWhile_append_dropWhile (p := fun c : UInt8 => cls (c.toNat : Int)) (l := l)]
    rw [List.drop_left]
  rw [← hd, List.head?_drop, h] at this
  simpa using this

/-- behind a number: a letter there, or none -/
def behindB (l : List UInt8) : Bool := letU (l.headD 0)

theorem behind_eq (l : List UInt8) (h : letU (l.headD 0) = false) : decide (spl (l.drop (spl l)) ≠ 0) = behindB (l.drop (spl l)) := by
  have hs : spl l = dg.runN digB l := by unfold spl; rw [h]; rfl
  unfold behindB
  rcases hd : l.drop (spl l) with _ | ⟨c, r⟩
  · rw [List.headD_nil, letU_zero, spl_nil]; rfl
  · have hc : l[dg.runN digB l]? = some c := by rw [← hs, ← List.head?_drop, hd]; rfl
    have hdig : digU c = false := run_stop digB l c hc
    rw [spl_cons, List.headD_cons]
    by_cases hl : letU c = true
    · rw [if_pos hl, hl, decide_eq_true_iff]; omega
    · rw [if_neg hl, if_neg (by rw [hdig]; simp)]
      simp at hl
      rw [hl]; rfl

abbrev BA (l : List UInt8) : ByteArray := ⟨l.toArray⟩

/-- the first token: its kind, how many bytes, what is wrong -/
def fst3 (l : List UInt8) : Int × Nat × Int :=
  if spl l = 0 then (if markB (l.headD 0) then (4, 1, 0) else (0, 0, 16))
  else if digU (l.headD 0) then (3, spl l, if behindB (l.drop (spl l)) then 3 else (rd (BA (l.take (spl l)))).2)
  else if keyB (l.take (spl l)) then (2, spl l, 0)
  else if nameB (BA (l.take (spl l))) then (1, spl l, 0) else (0, 0, 11)

/-- a token: its kind, its text, its line -/
abbrev Tok := Int × List UInt8 × Nat

inductive Res where
  | ok (l : List Tok)
  | bad (line : Nat) (e : Int)
  deriving DecidableEq

def note (l : List UInt8) : List UInt8 := l.dropWhile fun c => c != 10

/-- all tokens -/
def go : Nat → List UInt8 → Nat → List Tok → Res
  | _, [], _, acc => .ok acc
  | 0, _ :: _, _, acc => .ok acc
  | f + 1, c :: r, line, acc =>
    if c = 10 then go f r (line + 1) acc
    else if c = 32 ∨ c = 9 ∨ c = 13 then go f r line acc
    else if c = 35 then go f (note (c :: r)) line acc
    else if (fst3 (c :: r)).2.2 ≠ 0 then .bad line (fst3 (c :: r)).2.2
    else go f ((c :: r).drop (fst3 (c :: r)).2.1) line (acc ++ [((fst3 (c :: r)).1, (c :: r).take (fst3 (c :: r)).2.1, line)])

theorem fst3_pos (l : List UInt8) (h : (fst3 l).2.2 = 0) : 0 < (fst3 l).2.1 := by
  unfold fst3 at h ⊢
  split at h
  · split at h
    · simp_all
    · simp at h
  · rename_i hn
    rw [if_neg hn]
    split
    · show 0 < spl l; omega
    · split at h
      · simp_all
      · rename_i hd
        split
        · show 0 < spl l; omega
        · split
          · show 0 < spl l; omega
          · simp_all

theorem note_len (c : UInt8) (r : List UInt8) (h : c ≠ 10) : (note (c :: r)).length ≤ r.length := by
  unfold note
  rw [List.dropWhile_cons, if_pos (by simpa using h)]
  exact (List.dropWhile_suffix _).length_le

/-- the cells of tokens -/
def encT (t : Tok) : List Value := [.int .i64 t.1, .string (BA t.2.1), .int .i64 (t.2.2 : Int)]
def cellsT (l : List Tok) : List Value := l.flatMap encT
theorem cellsT_snoc (l : List Tok) (t : Tok) : cellsT l ++ encT t = cellsT (l ++ [t]) := by simp [cellsT]
theorem cellsT_len (l : List Tok) : (cellsT l).length = l.length * 3 := by
  induction l with
  | nil => rfl
  | cons t l ih => simp only [cellsT, List.flatMap_cons, List.length_append, List.length_cons] at ih ⊢; rw [ih]; simp [encT]; omega
theorem cellsT_get (l : List Tok) (k : Nat) (hk : k < l.length) : (cellsT l)[k * 3]? = some (.int .i64 l[k].1) ∧ (cellsT l)[k * 3 + 1]? = some (.string (BA l[k].2.1)) ∧ (cellsT l)[k * 3 + 2]? = some (.int .i64 (l[k].2.2 : Int)) := by
  induction l generalizing k with
  | nil => simp at hk
  | cons t l ih =>
    have hc : cellsT (t :: l) = encT t ++ cellsT l := by simp [cellsT]
    cases k with
    | zero => rw [hc]; simp [encT]
    | succ k =>
      have := ih k (by simpa using hk)
      rw [hc]
      have hl : (encT t).length = 3 := rfl
      refine ⟨?_, ?_, ?_⟩
      · rw [List.getElem?_append_right (by rw [hl]; omega), hl, show (k + 1) * 3 - 3 = k * 3 by omega]; exact this.1
      · rw [List.getElem?_append_right (by rw [hl]; omega), hl, show (k + 1) * 3 + 1 - 3 = k * 3 + 1 by omega]; exact this.2.1
      · rw [List.getElem?_append_right (by rw [hl]; omega), hl, show (k + 1) * 3 + 2 - 3 = k * 3 + 2 by omega]; exact this.2.2
end Go.Proofs.Ytehieiddelngfaa.tk
