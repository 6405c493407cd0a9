/-
  token: plain facts on the language's own words.
-/
import Derived.Test.YtehieiddelngfaaDoorMem
import Derived.Lib.IndexMore
import Derived.Lib.IndexAny
namespace Go.Proofs.YtehieiddelngfaaDoor.ky
open Go.RowKit

/-- the language's own words -/
def keysL : List (List UInt8) := [[97, 100, 100, 114], [99, 97, 108, 108], [99, 111, 112, 121], [101, 108, 115, 101], [101, 120, 116, 101, 114, 110], [102, 110], [102, 114, 101, 101], [103, 108, 111, 98, 97, 108], [105, 99, 97, 108, 108], [105, 102], [105, 110, 100, 101, 120], [105, 110, 112, 117, 116], [105, 110, 116], [105, 115, 110, 117, 108, 108], [108, 101, 115, 115], [108, 111, 97, 100], [109, 101, 109, 98, 101, 114], [109, 105, 110, 117, 115], [109, 111, 100, 117, 108, 101], [110, 101, 119], [110, 117, 108, 108], [111, 98, 106], [112, 108, 117, 115], [112, 116, 114], [114, 101, 116, 117, 114, 110], [115, 97, 109, 101], [115, 116, 97, 116, 105, 99], [115, 116, 111, 114, 101], [115, 116, 114, 117, 99, 116], [116, 105, 109, 101, 115], [118, 97, 114], [119, 104, 105, 108, 101]]

def blanked (ws : List (List UInt8)) : List UInt8 := 32 :: ws.flatMap fun w => w ++ [32]

theorem contains_infix (s sub : List UInt8) : Lib.contains s sub = true ↔ sub <:+: s := by
  unfold Lib.contains
  rw [decide_eq_true_iff]
  rcases Lib.index_spec s sub with ⟨h1, h2⟩ | ⟨i, h1, h2, h3, _⟩
  · rw [h1]
    refine ⟨fun h => by omega, fun ⟨p, q, h⟩ => ?_⟩
    have h4 := h2 p.length (by rw [← h]; simp)
    unfold Lib.occAt at h4
    rw [← h, List.append_assoc, List.drop_left, List.isPrefixOf_iff_prefix.2 (List.prefix_append _ _)] at h4
    cases h4
  · rw [h1]
    refine ⟨fun _ => ?_, fun _ => by omega⟩
    unfold Lib.occAt at h3
    rw [List.isPrefixOf_iff_prefix] at h3
    obtain ⟨q, hq⟩ := h3
    exact ⟨s.take i, q, by rw [List.append_assoc, hq, List.take_append_drop]⟩

theorem word_eq : ∀ (l w r : List UInt8), (∀ c ∈ l, c ≠ 32) → (∀ c ∈ w, c ≠ 32) → (l ++ [32] <+: w ++ 32 :: r) → l = w
  | [], [], _, _, _, _ => rfl
  | [], c :: w, r, _, hw, h => by
    simp only [List.nil_append, List.cons_append, List.cons_prefix_cons] at h
    exact absurd h.1.symm (hw c (by simp))
  | c :: l, [], r, hl, _, h => by
    simp only [List.nil_append, List.cons_append, List.cons_prefix_cons] at h
    exact absurd h.1 (hl c (by simp))
  | c :: l, d :: w, r, hl, hw, h => by
    simp only [List.cons_append, List.cons_prefix_cons] at h
    rw [h.1, word_eq l w r (fun c hc => hl c (by simp [hc])) (fun c hc => hw c (by simp [hc])) h.2]

theorem infix_past : ∀ (w r sub : List UInt8), (∀ c ∈ w, c ≠ 32) → (32 :: sub <:+: w ++ r) → 32 :: sub <:+: r
  | [], _, _, _, h => h
  | c :: w, r, sub, hw, h => by
    rw [List.cons_append, List.infix_cons_iff] at h
    rcases h with h | h
    · rw [List.cons_prefix_cons] at h
      exact absurd h.1.symm (hw c (by simp))
    · exact infix_past w r sub (fun c hc => hw c (by simp [hc])) h

theorem blanked_cons (w : List UInt8) (ws : List (List UInt8)) : blanked (w :: ws) = 32 :: (w ++ blanked ws) := by
  simp [blanked]

theorem in_blanked (l : List UInt8) (hl : ∀ c ∈ l, c ≠ 32) : ∀ ws : List (List UInt8), (∀ w ∈ ws, ∀ c ∈ w, c ≠ 32) → (32 :: (l ++ [32]) <:+: blanked ws ↔ l ∈ ws)
  | [], _ => by
    refine ⟨fun h => ?_, fun h => by cases h⟩
    have := h.length_le
    simp [blanked] at this
  | w :: ws, hws => by
    have hw : ∀ c ∈ w, c ≠ 32 := hws w (by simp)
    have ih := in_blanked l hl ws (fun x hx => hws x (by simp [hx]))
    rw [blanked_cons, List.infix_cons_iff, List.mem_cons]
    constructor
    · rintro (h | h)
      · rw [List.cons_prefix_cons] at h
        exact Or.inl (word_eq l w _ hl hw h.2)
      · exact Or.inr (ih.1 (infix_past w _ _ hw h))
    · rintro (rfl | h)
      · left
        rw [List.cons_prefix_cons]
        refine ⟨rfl, ?_⟩
        unfold blanked
        exact ⟨ws.flatMap fun w => w ++ [32], by simp⟩
      · right
        obtain ⟨p, q, hq⟩ := ih.2 h
        exact ⟨w ++ p, q, by rw [← hq]; simp⟩

def keyB (l : List UInt8) : Bool := decide (l ∈ keysL)

theorem keys_plain : ∀ w ∈ keysL, ∀ c ∈ w, c ≠ 32 := by decide

theorem key_iff (l : List UInt8) : (!(decide (0 ≤ Lib.indexByte l 32)) && Lib.contains (blanked keysL) (32 :: (l ++ [32]))) = keyB l := by
  have hb : decide (0 ≤ Lib.indexByte l 32) = decide (32 ∈ l) := by
    rw [← Lib.contains_iff_indexByte]
    by_cases h : (32 : UInt8) ∈ l <;> simp [h]
  rw [hb]
  by_cases h : (32 : UInt8) ∈ l
  · have hk : keyB l = false := decide_eq_false fun hm => keys_plain l hm 32 h rfl
    rw [decide_eq_true h, hk]; rfl
  · rw [decide_eq_false h]
    have hl : ∀ c ∈ l, c ≠ 32 := fun c hc e => h (e ▸ hc)
    have := in_blanked l hl keysL keys_plain
    unfold keyB
    rw [Bool.eq_iff_iff, Bool.and_eq_true, contains_infix, this, decide_eq_true_iff]
    simp

abbrev BA (l : List UInt8) : ByteArray := ⟨l.toArray⟩
theorem ba_eq (s : ByteArray) : BA s.data.toList = s := by
  cases s
  simp [BA]
end Go.Proofs.YtehieiddelngfaaDoor.ky
