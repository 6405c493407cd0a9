/-
  Bits: sets as sorted lists, and as blocks of sixty-four: plain facts.
-/
import Derived.Test.YtnjaadcbpkbjbaaDoorMem
namespace Go.Proofs.YtnjaadcbpkbjbaaDoor.bt

abbrev Srt (l : List Nat) : Prop := l.Pairwise (· < ·)

theorem srt_ext : ∀ {l m : List Nat}, Srt l → Srt m → (∀ x, x ∈ l ↔ x ∈ m) → l = m
  | [], [], _, _, _ => rfl
  | [], y :: m, _, _, h => by have := (h y).2 (by simp); simp at this
  | x :: l, [], _, _, h => by have := (h x).1 (by simp); simp at this
  | x :: l, y :: m, hl, hm, h => by
    have h1 := List.pairwise_cons.1 hl
    have h2 := List.pairwise_cons.1 hm
    have hxy : x = y := by
      have a := (h x).1 (by simp)
      have b := (h y).2 (by simp)
      rcases List.mem_cons.1 a with a | a
      · exact a
      · rcases List.mem_cons.1 b with b | b
        · exact b.symm
        · have := h1.1 y b
          have := h2.1 x a
          omega
    subst hxy
    congr 1
    refine srt_ext h1.2 h2.2 fun z => ⟨fun hz => ?_, fun hz => ?_⟩
    · rcases List.mem_cons.1 ((h z).1 (List.mem_cons_of_mem _ hz)) with e | e
      · have := h1.1 z hz; omega
      · exact e
    · rcases List.mem_cons.1 ((h z).2 (List.mem_cons_of_mem _ hz)) with e | e
      · have := h2.1 z hz; omega
      · exact e

/-- the numbers of the bits of a word, f of them, from o on -/
def bitsF : Nat → Nat → Nat → List Nat
  | 0, _, _ => []
  | f + 1, h, o => (if h % 2 = 1 then [o] else []) ++ bitsF f (h / 2) (o + 1)

theorem mem_bitsF : ∀ (f h o i : Nat), i ∈ bitsF f h o ↔ o ≤ i ∧ i < o + f ∧ h.testBit (i - o) = true
  | 0, h, o, i => by simp [bitsF]; omega
  | f + 1, h, o, i => by
    unfold bitsF
    rw [List.mem_append, mem_bitsF f (h / 2) (o + 1) i]
    by_cases hi : i = o
    · subst hi
      have : h.testBit (i - i) = decide (h % 2 = 1) := by rw [Nat.sub_self, Nat.testBit_zero]
      rw [this]
      by_cases h1 : h % 2 = 1
      · simp [h1]
      · simp only [h1, if_false, decide_false, Bool.false_eq_true, and_false, List.not_mem_nil, false_or, iff_false]
        omega
    · have hn : i ∉ (if h % 2 = 1 then [o] else []) := by split <;> simp [hi]
      constructor
      · rintro (h1 | ⟨h1, h2, h3⟩)
        · exact absurd h1 hn
        · refine ⟨by omega, by omega, ?_⟩
          rw [show i - o = (i - (o + 1)) + 1 by omega, Nat.testBit_succ]
          exact h3
      · rintro ⟨h1, h2, h3⟩
        refine Or.inr ⟨by omega, by omega, ?_⟩
        rw [show i - o = (i - (o + 1)) + 1 by omega, Nat.testBit_succ] at h3
        exact h3

theorem srt_bitsF : ∀ (f h o : Nat), Srt (bitsF f h o)
  | 0, _, _ => List.Pairwise.nil
  | f + 1, h, o => by
    unfold bitsF
    have ih := srt_bitsF f (h / 2) (o + 1)
    split
    · refine List.pairwise_cons.2 ⟨fun x hx => ?_, ih⟩
      have := ((mem_bitsF f (h / 2) (o + 1) x).1 (by simpa using hx)).1
      omega
    · simpa using ih

/-- all numbers of a block -/
def bitsB (a h : Nat) : List Nat := bitsF 64 h (a * 64)

theorem mem_bitsB {a h i : Nat} : i ∈ bitsB a h ↔ i / 64 = a ∧ h.testBit (i % 64) = true := by
  unfold bitsB
  rw [mem_bitsF]
  constructor
  · rintro ⟨h1, h2, h3⟩
    have e : i / 64 = a := by omega
    have e2 : i - a * 64 = i % 64 := by omega
    rw [e2] at h3
    exact ⟨e, h3⟩
  · rintro ⟨rfl, h3⟩
    have e2 : i - i / 64 * 64 = i % 64 := by omega
    rw [e2]
    exact ⟨by omega, by omega, h3⟩

abbrev Blk := Nat × Nat

/-- blocks as they have to be: rising, none without a number -/
structure Ok (B : List Blk) : Prop where
  rise : B.Pairwise (fun x y => x.1 < y.1)
  has : ∀ b ∈ B, 0 < b.2 ∧ b.2 < 2 ^ 64

def flat (B : List Blk) : List Nat := B.flatMap fun b => bitsB b.1 b.2

theorem mem_flat {B : List Blk} {i : Nat} : i ∈ flat B ↔ ∃ b ∈ B, b.1 = i / 64 ∧ b.2.testBit (i % 64) = true := by
  unfold flat
  rw [List.mem_flatMap]
  constructor
  · rintro ⟨b, hb, hi⟩
    obtain ⟨h1, h2⟩ := mem_bitsB.1 hi
    exact ⟨b, hb, h1.symm, h2⟩
  · rintro ⟨b, hb, h1, h2⟩
    exact ⟨b, hb, mem_bitsB.2 ⟨h1.symm, h2⟩⟩

theorem Ok.tail {b : Blk} {r : List Blk} (h : Ok (b :: r)) : Ok r := ⟨(List.pairwise_cons.1 h.rise).2, fun x hx => h.has x (List.mem_cons_of_mem _ hx)⟩

theorem srt_flat : ∀ {B : List Blk}, B.Pairwise (fun x y => x.1 < y.1) → Srt (flat B)
  | [], _ => List.Pairwise.nil
  | b :: r, h => by
    have h1 := List.pairwise_cons.1 h
    show Srt (bitsB b.1 b.2 ++ flat r)
    refine List.pairwise_append.2 ⟨srt_bitsF _ _ _, srt_flat h1.2, fun x hx y hy => ?_⟩
    obtain ⟨e1, _⟩ := mem_bitsB.1 hx
    obtain ⟨c, hc, e2, _⟩ := mem_flat.1 hy
    have := h1.1 c hc
    omega

/-- of a block's number there is one block -/
theorem one_blk : ∀ {B : List Blk}, B.Pairwise (fun x y => x.1 < y.1) → ∀ {b c : Blk}, b ∈ B → c ∈ B → b.1 = c.1 → b = c
  | [], _, b, c, hb, _, _ => by cases hb
  | x :: r, h, b, c, hb, hc, e => by
    have h1 := List.pairwise_cons.1 h
    rcases List.mem_cons.1 hb with hb' | hb'
    · rcases List.mem_cons.1 hc with hc' | hc'
      · rw [hb', hc']
      · have := h1.1 c hc'
        rw [hb'] at e
        omega
    · rcases List.mem_cons.1 hc with hc' | hc'
      · have := h1.1 b hb'
        rw [hc'] at e
        omega
      · exact one_blk h1.2 hb' hc' e

theorem bit_of {h : Nat} (h0 : 0 < h) (h1 : h < 2 ^ 64) : ∃ i, i < 64 ∧ h.testBit i = true := by
  obtain ⟨i, hi⟩ := Nat.exists_testBit_of_ne_zero (x := h) (by omega)
  refine ⟨i, ?_, hi⟩
  rcases Nat.lt_or_ge i 64 with h2 | h2
  · exact h2
  · have := Nat.testBit_lt_two_pow (x := h) (i := i) (Nat.lt_of_lt_of_le h1 (Nat.pow_le_pow_right (by omega) h2))
    rw [this] at hi
    cases hi

/-- blocks that are as they have to be are the same if their numbers are -/
theorem flat_inj {B C : List Blk} (hB : Ok B) (hC : Ok C) (h : flat B = flat C) : B = C := by
  have key : ∀ {B C : List Blk}, Ok B → Ok C → flat B = flat C → ∀ b ∈ B, b ∈ C := by
    intro B C hB hC h b hb
    obtain ⟨p0, p1⟩ := hB.has b hb
    obtain ⟨i, hi, ht⟩ := bit_of p0 p1
    have hm : b.1 * 64 + i ∈ flat B := mem_flat.2 ⟨b, hb, by omega, by rw [show (b.1 * 64 + i) % 64 = i by omega]; exact ht⟩
    rw [h] at hm
    obtain ⟨c, hc, e1, _⟩ := mem_flat.1 hm
    have e1 : c.1 = b.1 := by omega
    have e2 : b.2 = c.2 := by
      apply Nat.eq_of_testBit_eq
      intro j
      rcases Nat.lt_or_ge j 64 with hj | hj
      · have e : (b.2.testBit j = true) ↔ (c.2.testBit j = true) := by
          constructor
          · intro hj1
            have hm : b.1 * 64 + j ∈ flat C := by rw [← h]; exact mem_flat.2 ⟨b, hb, by omega, by rw [show (b.1 * 64 + j) % 64 = j by omega]; exact hj1⟩
            obtain ⟨d, hd, f1, f2⟩ := mem_flat.1 hm
            rw [show (b.1 * 64 + j) % 64 = j by omega] at f2
            rw [one_blk hC.rise hc hd (by omega)]
            exact f2
          · intro hj1
            have hm : b.1 * 64 + j ∈ flat B := by rw [h]; exact mem_flat.2 ⟨c, hc, by omega, by rw [show (b.1 * 64 + j) % 64 = j by omega]; exact hj1⟩
            obtain ⟨d, hd, f1, f2⟩ := mem_flat.1 hm
            rw [show (b.1 * 64 + j) % 64 = j by omega] at f2
            rw [one_blk hB.rise hb hd (by omega)]
            exact f2
        exact Bool.eq_iff_iff.2 e
      · rw [Nat.testBit_lt_two_pow (Nat.lt_of_lt_of_le p1 (Nat.pow_le_pow_right (by omega) hj)), Nat.testBit_lt_two_pow (Nat.lt_of_lt_of_le (hC.has c hc).2 (Nat.pow_le_pow_right (by omega) hj))]
    have : b = c := Prod.ext e1.symm e2
    rw [this]
    exact hc
  have ext : ∀ {B C : List Blk}, B.Pairwise (fun x y => x.1 < y.1) → C.Pairwise (fun x y => x.1 < y.1) → (∀ b, b ∈ B ↔ b ∈ C) → B = C := by
    intro B
    induction B with
    | nil =>
      intro C _ _ h
      cases C with
      | nil => rfl
      | cons c r => have := (h c).2 (by simp); simp at this
    | cons b r ih =>
      intro C hB hC h
      cases C with
      | nil => have := (h b).1 (by simp); simp at this
      | cons c s =>
        have h1 := List.pairwise_cons.1 hB
        have h2 := List.pairwise_cons.1 hC
        have hbc : b = c := by
          rcases List.mem_cons.1 ((h b).1 (by simp)) with e | e
          · exact e
          · rcases List.mem_cons.1 ((h c).2 (by simp)) with e' | e'
            · exact e'.symm
            · have := h1.1 c e'
              have := h2.1 b e
              omega
        subst hbc
        congr 1
        refine ih h1.2 h2.2 fun z => ⟨fun hz => ?_, fun hz => ?_⟩
        · rcases List.mem_cons.1 ((h z).1 (List.mem_cons_of_mem _ hz)) with e | e
          · have := h1.1 z hz; subst e; omega
          · exact e
        · rcases List.mem_cons.1 ((h z).2 (List.mem_cons_of_mem _ hz)) with e | e
          · have := h2.1 z hz; subst e; omega
          · exact e
  exact ext hB.rise hC.rise fun b => ⟨key hB hC h b, key hC hB h.symm b⟩

/-- how many ones a word has -/
def pop (h : Nat) : Nat := (bitsF 64 h 0).length

theorem len_bitsF : ∀ (f h o p : Nat), (bitsF f h o).length = (bitsF f h p).length
  | 0, _, _, _ => rfl
  | f + 1, h, o, p => by
    unfold bitsF
    rw [List.length_append, List.length_append, len_bitsF f (h / 2) (o + 1) (p + 1)]
    split <;> rfl

theorem len_flat (B : List Blk) : (flat B).length = (B.map fun b => pop b.2).sum := by
  induction B with
  | nil => rfl
  | cons b r ih =>
    show (bitsB b.1 b.2 ++ flat r).length = _
    rw [List.length_append, ih, List.map_cons, List.sum_cons]
    congr 1
    exact len_bitsF 64 b.2 (b.1 * 64) 0

/-- a number among rising ones -/
def ins (n : Nat) : List Nat → List Nat
  | [] => [n]
  | x :: r => if x < n then x :: ins n r else n :: x :: r

theorem mem_ins {n i : Nat} : ∀ {l : List Nat}, i ∈ ins n l ↔ i = n ∨ i ∈ l
  | [] => by simp [ins]
  | x :: r => by
    unfold ins
    split
    · rw [List.mem_cons, mem_ins (l := r), List.mem_cons]
      constructor
      · rintro (h | h | h) <;> simp [h]
      · rintro (h | h | h) <;> simp [h]
    · rw [List.mem_cons]

theorem srt_ins {n : Nat} : ∀ {l : List Nat}, Srt l → n ∉ l → Srt (ins n l)
  | [], _, _ => by simp [ins]
  | x :: r, h, hn => by
    have h1 := List.pairwise_cons.1 h
    unfold ins
    split
    · refine List.pairwise_cons.2 ⟨fun y hy => ?_, srt_ins h1.2 (fun hm => hn (List.mem_cons_of_mem _ hm))⟩
      rcases mem_ins.1 hy with rfl | hy
      · assumption
      · exact h1.1 y hy
    · have hx : n < x := by
        have : n ≠ x := fun e => hn (by simp [e])
        omega
      refine List.pairwise_cons.2 ⟨fun y hy => ?_, h⟩
      rcases List.mem_cons.1 hy with rfl | hy
      · exact hx
      · have := h1.1 y hy; omega

/-- a number put into blocks -/
def insB (n : Nat) : List Blk → List Blk
  | [] => [(n / 64, 2 ^ (n % 64))]
  | b :: r => if b.1 < n / 64 then b :: insB n r else if b.1 = n / 64 then (b.1, b.2 ||| 2 ^ (n % 64)) :: r else (n / 64, 2 ^ (n % 64)) :: b :: r

theorem pow_bit (k j : Nat) : (2 ^ k).testBit j = decide (k = j) := Nat.testBit_two_pow

theorem mem_insB {n : Nat} : ∀ {B : List Blk}, Ok B → Ok (insB n B) ∧ (∀ i, i ∈ flat (insB n B) ↔ i = n ∨ i ∈ flat B) ∧ ∀ a, (∀ b ∈ B, a < b.1) → a < n / 64 → ∀ b ∈ insB n B, a < b.1
  | [], _ => by
    have hp : 2 ^ (n % 64) < 2 ^ 64 := Nat.pow_lt_pow_right (by omega) (Nat.mod_lt _ (by omega))
    have hq : 0 < 2 ^ (n % 64) := Nat.two_pow_pos _
    refine ⟨⟨by simp [insB], fun b hb => ?_⟩, fun i => ?_, fun a _ ha b hb => ?_⟩
    · simp only [insB, List.mem_singleton] at hb
      subst hb
      exact ⟨hq, hp⟩
    · have e0 : i ∉ flat [] := by simp [flat]
      simp only [insB, e0, or_false]
      rw [mem_flat]
      simp only [List.mem_singleton, exists_eq_left, pow_bit, decide_eq_true_eq]
      omega
    · simp only [insB, List.mem_singleton] at hb
      subst hb
      exact ha
  | b :: r, h => by
    have hp : 2 ^ (n % 64) < 2 ^ 64 := Nat.pow_lt_pow_right (by omega) (Nat.mod_lt _ (by omega))
    have hq : 0 < 2 ^ (n % 64) := Nat.two_pow_pos _
    have h1 := List.pairwise_cons.1 h.rise
    obtain ⟨i1, i2, i3⟩ := mem_insB (n := n) h.tail
    unfold insB
    split
    · rename_i hlt
      refine ⟨⟨List.pairwise_cons.2 ⟨i3 b.1 h1.1 hlt, i1.rise⟩, fun c hc => ?_⟩, fun i => ?_, fun a ha ha2 c hc => ?_⟩
      · rcases List.mem_cons.1 hc with rfl | hc
        · exact h.has c (by simp)
        · exact i1.has c hc
      · show i ∈ bitsB b.1 b.2 ++ flat (insB n r) ↔ i = n ∨ i ∈ bitsB b.1 b.2 ++ flat r
        rw [List.mem_append, List.mem_append, i2]
        constructor
        · rintro (h | h | h) <;> simp [h]
        · rintro (h | h | h) <;> simp [h]
      · rcases List.mem_cons.1 hc with rfl | hc
        · exact ha c (by simp)
        · exact i3 a (fun d hd => ha d (List.mem_cons_of_mem _ hd)) ha2 c hc
    · rename_i hlt
      split
      · rename_i heq
        refine ⟨⟨List.pairwise_cons.2 ⟨h1.1, h1.2⟩, fun c hc => ?_⟩, fun i => ?_, fun a ha ha2 c hc => ?_⟩
        · rcases List.mem_cons.1 hc with rfl | hc
          · obtain ⟨p0, p1⟩ := h.has b (by simp)
            exact ⟨Nat.lt_of_lt_of_le p0 Nat.left_le_or, Nat.or_lt_two_pow p1 hp⟩
          · exact h.has c (List.mem_cons_of_mem _ hc)
        · show i ∈ bitsB b.1 (b.2 ||| 2 ^ (n % 64)) ++ flat r ↔ i = n ∨ i ∈ bitsB b.1 b.2 ++ flat r
          rw [List.mem_append, List.mem_append, mem_bitsB, mem_bitsB, Nat.testBit_or, pow_bit, Bool.or_eq_true, decide_eq_true_eq]
          constructor
          · rintro (⟨e, e2 | e2⟩ | h)
            · exact Or.inr (Or.inl ⟨e, e2⟩)
            · exact Or.inl (by omega)
            · exact Or.inr (Or.inr h)
          · rintro (rfl | ⟨e, e2⟩ | h)
            · exact Or.inl ⟨heq.symm, Or.inr rfl⟩
            · exact Or.inl ⟨e, Or.inl e2⟩
            · exact Or.inr h
        · rcases List.mem_cons.1 hc with rfl | hc
          · exact ha b (by simp)
          · exact ha c (List.mem_cons_of_mem _ hc)
      · rename_i hne
        refine ⟨⟨List.pairwise_cons.2 ⟨fun c hc => ?_, h.rise⟩, fun c hc => ?_⟩, fun i => ?_, fun a ha ha2 c hc => ?_⟩
        · rcases List.mem_cons.1 hc with rfl | hc
          · show n / 64 < c.1; omega
          · have := h1.1 c hc; show n / 64 < c.1; omega
        · rcases List.mem_cons.1 hc with rfl | hc
          · exact ⟨hq, hp⟩
          · exact h.has c hc
        · show i ∈ bitsB (n / 64) (2 ^ (n % 64)) ++ flat (b :: r) ↔ i = n ∨ i ∈ flat (b :: r)
          rw [List.mem_append, mem_bitsB, pow_bit, decide_eq_true_eq]
          constructor
          · rintro (⟨e, e2⟩ | h)
            · exact Or.inl (by omega)
            · exact Or.inr h
          · rintro (rfl | h)
            · exact Or.inl ⟨rfl, rfl⟩
            · exact Or.inr h
        · rcases List.mem_cons.1 hc with rfl | hc
          · exact ha2
          · exact ha c hc

theorem flat_insB {n : Nat} {B : List Blk} (h : Ok B) (hn : n ∉ flat B) : flat (insB n B) = ins n (flat B) := by
  obtain ⟨h1, h2, _⟩ := mem_insB (n := n) h
  exact srt_ext (srt_flat h1.rise) (srt_ins (srt_flat h.rise) hn) fun x => by rw [h2, mem_ins]
end Go.Proofs.YtnjaadcbpkbjbaaDoor.bt
