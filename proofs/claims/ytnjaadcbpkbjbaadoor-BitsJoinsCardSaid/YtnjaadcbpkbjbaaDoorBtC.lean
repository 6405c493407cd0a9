/-
  Bits: blocks and lists say the same: Add, Blocks, Same, Has.
-/
import Derived.Test.YtnjaadcbpkbjbaaDoorBtB
namespace Go.Proofs.YtnjaadcbpkbjbaaDoor.bt
open Go.RowKit Go.Sort Go.Proofs.YtnjaadcbpkbjbaaDoor.mem

theorem flat_addB {n : Int} {B : List Blk} (h : Ok B) : flat (addB n B) = addL n (flat B) := by
  unfold addB addL addR
  split
  · rename_i hc
    simp only [Bool.and_eq_true, Bool.not_eq_true', decide_eq_false_iff_not] at hc
    exact flat_insB h hc.2
  · rfl

/-- how often the block changes along a list, p the block ahead of it -/
def cg : Option Nat → List Nat → Nat
  | _, [] => 0
  | p, x :: r => (if p = some (x / 64) then 0 else 1) + cg (some (x / 64)) r
def lq : Option Nat → List Nat → Option Nat
  | p, [] => p
  | _, x :: r => lq (some (x / 64)) r

theorem cg_app : ∀ (L M : List Nat) (p : Option Nat), cg p (L ++ M) = cg p L + cg (lq p L) M
  | [], M, p => by simp [cg, lq]
  | x :: r, M, p => by
    show _ + cg _ (r ++ M) = _ + cg _ r + cg (lq _ r) M
    rw [cg_app r M, Nat.add_assoc]
theorem lq_app : ∀ (L M : List Nat) (p : Option Nat), lq p (L ++ M) = lq (lq p L) M
  | [], _, _ => rfl
  | _ :: r, M, _ => lq_app r M _

theorem lq_take {L : List Nat} : ∀ {j : Nat}, j ≤ L.length → lq none (L.take j) = if j = 0 then none else some (L[j - 1]?.getD 0 / 64)
  | 0, _ => rfl
  | j + 1, h => by
    rw [List.take_succ_eq_append_getElem (by omega), lq_app, if_neg (by omega)]
    simp [lq, List.getElem?_eq_getElem (show j < L.length by omega)]

theorem nbL_cg {L : List Nat} : ∀ {j : Nat}, j ≤ L.length → nbL L j = cg none (L.take j)
  | 0, _ => rfl
  | j + 1, h => by
    rw [List.take_succ_eq_append_getElem (by omega), cg_app, lq_take (by omega), ← nbL_cg (by omega)]
    show nbL L j + (if j = 0 ∨ L[j]?.getD 0 / 64 ≠ L[j - 1]?.getD 0 / 64 then 1 else 0) = nbL L j + _
    congr 1
    have e : L[j]?.getD 0 = L[j] := by simp [List.getElem?_eq_getElem (show j < L.length by omega)]
    rw [e]
    by_cases hj : j = 0
    · simp [hj, cg]
    · simp only [hj, if_false, false_or, cg, Nat.add_zero]
      by_cases hq : L[j] / 64 = L[j - 1]?.getD 0 / 64
      · simp [hq]
      · have : ¬ (L[j - 1]?.getD 0 / 64 = L[j] / 64) := fun h => hq h.symm
        simp [hq, this]

theorem cg_same {a : Nat} : ∀ {X : List Nat}, (∀ x ∈ X, x / 64 = a) → cg (some a) X = 0 ∧ lq (some a) X = some a
  | [], _ => ⟨rfl, rfl⟩
  | x :: r, h => by
    have e := h x (by simp)
    obtain ⟨h1, h2⟩ := cg_same (a := a) (X := r) fun y hy => h y (List.mem_cons_of_mem _ hy)
    simp [cg, lq, e, h1, h2]
theorem cg_block {a : Nat} {p : Option Nat} {X : List Nat} (h : ∀ x ∈ X, x / 64 = a) (hX : X ≠ []) (hp : p ≠ some a) : cg p X = 1 ∧ lq p X = some a := by
  cases X with
  | nil => exact absurd rfl hX
  | cons x r =>
    have e := h x (by simp)
    obtain ⟨h1, h2⟩ := cg_same (a := a) (X := r) fun y hy => h y (List.mem_cons_of_mem _ hy)
    simp [cg, lq, e, h1, h2, hp]

theorem bitsB_ne {a h : Nat} (h0 : 0 < h) (h1 : h < 2 ^ 64) : bitsB a h ≠ [] := by
  obtain ⟨i, hi, ht⟩ := bit_of h0 h1
  have hm : a * 64 + i ∈ bitsB a h := mem_bitsB.2 ⟨by omega, by rw [show (a * 64 + i) % 64 = i by omega]; exact ht⟩
  intro e
  rw [e] at hm
  cases hm

theorem cg_flat : ∀ {B : List Blk} {p : Option Nat}, Ok B → (∀ b ∈ B, p ≠ some b.1) → cg p (flat B) = B.length
  | [], _, _, _ => rfl
  | b :: r, p, h, hp => by
    show cg p (bitsB b.1 b.2 ++ flat r) = _
    obtain ⟨h0, h1⟩ := h.has b (by simp)
    obtain ⟨e1, e2⟩ := cg_block (a := b.1) (p := p) (X := bitsB b.1 b.2) (fun x hx => (mem_bitsB.1 hx).1) (bitsB_ne h0 h1) (hp b (by simp))
    have hr := (List.pairwise_cons.1 h.rise).1
    rw [cg_app, e1, e2, cg_flat h.tail (fun c hc e => by have := hr c hc; simp at e; omega), List.length_cons, Nat.add_comm]

theorem blocks_flat {B : List Blk} (h : Ok B) : nbL (flat B) (flat B).length = B.length := by
  rw [nbL_cg (Nat.le_refl _), List.take_length]
  exact cg_flat h (by simp)

theorem same_flat {B C : List Blk} (hB : Ok B) (hC : Ok C) : decide (B = C) = decide (flat B = flat C) := by
  by_cases h : B = C
  · subst h; simp
  · rw [decide_eq_false h, decide_eq_false (fun e => h (flat_inj hB hC e))]

theorem small_flat {B : List Blk} (hx : ∀ x ∈ flat B, x ≤ 268435456) {n : Int} (hn : ¬ mayB n = true) : ∀ x ∈ flat B, (x : Int) ≠ n := by
  intro x hm e
  have := hx x hm
  unfold mayB at hn
  simp only [Bool.and_eq_true, decide_eq_true_eq] at hn
  omega

/-! what a Join comes to -/
theorem addL_mem {n : Int} {L : List Nat} {x : Nat} (hn : mayB n = true) : x ∈ addL n L ↔ x = n.toNat ∨ x ∈ L := by
  unfold addL addR
  rw [hn]
  by_cases h : n.toNat ∈ L
  · simp only [h, decide_true, Bool.not_true, Bool.and_false, Bool.false_eq_true, if_false]
    constructor
    · exact Or.inr
    · rintro (rfl | h') <;> assumption
  · simp [h, mem_ins]
theorem addL_srt {n : Int} {L : List Nat} (h : Srt L) : Srt (addL n L) := by
  unfold addL addR
  split
  · rename_i hc
    simp only [Bool.and_eq_true, Bool.not_eq_true', decide_eq_false_iff_not] at hc
    exact srt_ins h hc.2
  · exact h
theorem ins_len (n : Nat) : ∀ L : List Nat, (ins n L).length = L.length + 1
  | [] => rfl
  | x :: r => by
    unfold ins
    split <;> simp [ins_len n r]
theorem addL_count (n : Int) (L : List Nat) : (addL n L).length = L.length + (if addR n L = true then 1 else 0) := by
  unfold addL
  split
  · rw [ins_len]
  · rfl
theorem joinS_srt : ∀ {M L : List Nat}, Srt L → Srt (joinS L M)
  | [], _, h => h
  | _ :: r, _, h => joinS_srt (M := r) (addL_srt h)
theorem joinS_mem : ∀ {M L : List Nat} {x : Nat}, (∀ y ∈ M, y ≤ 268435456) → (x ∈ joinS L M ↔ x ∈ L ∨ x ∈ M)
  | [], L, x, _ => by simp [joinS]
  | y :: r, L, x, h => by
    have hy : mayB (y : Int) = true := by
      have := h y (by simp)
      unfold mayB
      simp only [Bool.and_eq_true, decide_eq_true_eq]
      omega
    show x ∈ joinS (addL (y : Nat) L) r ↔ _
    rw [joinS_mem (M := r) (fun z hz => h z (List.mem_cons_of_mem _ hz)), addL_mem hy, List.mem_cons, Int.toNat_natCast]
    constructor
    · rintro ((h | h) | h) <;> simp [h]
    · rintro (h | h | h) <;> simp [h]
theorem joinN_count : ∀ (M L : List Nat), (joinS L M).length = L.length + joinN L M
  | [], L => rfl
  | y :: r, L => by
    show (joinS (addL (y : Nat) L) r).length = L.length + (_ + joinN (addL (y : Nat) L) r)
    rw [joinN_count r, addL_count, Nat.add_assoc]

/-! blocks two by two -/
/-- what pairs tells -/
def prs : List Blk → List Blk → List (Blk × Blk)
  | [], [] => []
  | x :: r, [] => (x, (x.1, 0)) :: prs r []
  | [], y :: s => ((y.1, 0), y) :: prs [] s
  | x :: r, y :: s => if x.1 < y.1 then (x, (x.1, 0)) :: prs r (y :: s) else if x.1 = y.1 then (x, y) :: prs r s else ((y.1, 0), y) :: prs (x :: r) s
termination_by B C => B.length + C.length

/-- one step of it -/
def prS : List Blk → List Blk → Option ((Blk × Blk) × List Blk × List Blk)
  | [], [] => none
  | x :: r, [] => some ((x, (x.1, 0)), r, [])
  | [], y :: s => some (((y.1, 0), y), [], s)
  | x :: r, y :: s => if x.1 < y.1 then some ((x, (x.1, 0)), r, y :: s) else if x.1 = y.1 then some ((x, y), r, s) else some (((y.1, 0), y), x :: r, s)

theorem prs_eq (B C : List Blk) : prs B C = match prS B C with | none => [] | some (p, B', C') => p :: prs B' C' := by
  cases B with
  | nil => cases C <;> simp [prs, prS]
  | cons x r =>
    cases C with
    | nil => simp [prs, prS]
    | cons y s =>
      rw [prs]
      by_cases h1 : x.1 < y.1
      · simp only [prS, h1, if_true]
      · by_cases h2 : x.1 = y.1
        · simp only [prS, h1, h2, if_true, if_false, Nat.lt_irrefl]
        · simp only [prS, h1, h2, if_false]

/-- what pairs tells: of each number of a block what both have -/
theorem prs_mem : ∀ (B C : List Blk), Ok B → Ok C → (prs B C).Pairwise (fun p q => p.1.1 < q.1.1) ∧ (∀ p ∈ prs B C, p.1.1 = p.2.1 ∧ p.1.2 < 2 ^ 64 ∧ p.2.2 < 2 ^ 64) ∧
    (∀ a, (∀ b ∈ B, a < b.1) → (∀ c ∈ C, a < c.1) → ∀ p ∈ prs B C, a < p.1.1) ∧ (prs B C).flatMap (fun p => bitsB p.1.1 p.1.2) = flat B ∧ (prs B C).flatMap (fun p => bitsB p.2.1 p.2.2) = flat C := by
  have z : ∀ a, bitsB a 0 = [] := fun a => by
    rw [List.eq_nil_iff_forall_not_mem]
    intro i hi
    simpa using (mem_bitsB.1 hi).2
  suffices H : ∀ (n : Nat) (B C : List Blk), B.length + C.length ≤ n → Ok B → Ok C → (prs B C).Pairwise (fun p q => p.1.1 < q.1.1) ∧ (∀ p ∈ prs B C, p.1.1 = p.2.1 ∧ p.1.2 < 2 ^ 64 ∧ p.2.2 < 2 ^ 64) ∧
    (∀ a, (∀ b ∈ B, a < b.1) → (∀ c ∈ C, a < c.1) → ∀ p ∈ prs B C, a < p.1.1) ∧ (prs B C).flatMap (fun p => bitsB p.1.1 p.1.2) = flat B ∧ (prs B C).flatMap (fun p => bitsB p.2.1 p.2.2) = flat C from fun B C => H _ B C (Nat.le_refl _)
  intro n
  induction n with
  | zero =>
    intro B C h _ _
    obtain ⟨rfl, rfl⟩ : B = [] ∧ C = [] := ⟨List.length_eq_zero_iff.1 (by omega), List.length_eq_zero_iff.1 (by omega)⟩
    simp [prs, flat]
  | succ n ih =>
    intro B C h hB hC
    match B, C, h, hB, hC with
    | x :: r, [], h, hB, hC =>
      obtain ⟨i1, i2, i3, i4, i5⟩ := ih r [] (by simp at h ⊢; omega) hB.tail hC
      have hx := hB.has x (by simp)
      have hr := (List.pairwise_cons.1 hB.rise).1
      simp only [prs, List.pairwise_cons, List.forall_mem_cons, List.flatMap_cons, z, List.nil_append]
      refine ⟨⟨fun p hp => i3 x.1 hr (by simp) p hp, i1⟩, ⟨⟨trivial, hx.2, by omega⟩, i2⟩, fun a h1 h2 => ⟨h1.1, i3 a h1.2 (by simp)⟩, ?_, i5⟩
      rw [i4]; rfl
    | [], y :: s, h, hB, hC =>
      obtain ⟨i1, i2, i3, i4, i5⟩ := ih [] s (by simp at h ⊢; omega) hB hC.tail
      have hy := hC.has y (by simp)
      have hr := (List.pairwise_cons.1 hC.rise).1
      simp only [prs, List.pairwise_cons, List.forall_mem_cons, List.flatMap_cons, z, List.nil_append]
      refine ⟨⟨fun p hp => i3 y.1 (by simp) hr p hp, i1⟩, ⟨⟨trivial, by omega, hy.2⟩, i2⟩, fun a h1 h2 => ⟨h2.1, i3 a (by simp) h2.2⟩, i4, ?_⟩
      rw [i5]; rfl
    | x :: r, y :: s, h, hB, hC =>
      have hx := hB.has x (by simp)
      have hy := hC.has y (by simp)
      have hr := (List.pairwise_cons.1 hB.rise).1
      have hs := (List.pairwise_cons.1 hC.rise).1
      rw [prs]
      split
      · rename_i hlt
        obtain ⟨i1, i2, i3, i4, i5⟩ := ih r (y :: s) (by simp at h ⊢; omega) hB.tail hC
        simp only [List.pairwise_cons, List.forall_mem_cons, List.flatMap_cons, z, List.nil_append]
        refine ⟨⟨fun p hp => i3 x.1 hr (fun c hc => ?_) p hp, i1⟩, ⟨⟨trivial, hx.2, by omega⟩, i2⟩, fun a h1 h2 => ⟨h1.1, i3 a h1.2 (by simpa using h2)⟩, ?_, i5⟩
        · rcases List.mem_cons.1 hc with rfl | hc
          · exact hlt
          · have := hs c hc; omega
        · rw [i4]; rfl
      · split
        · rename_i heq
          obtain ⟨i1, i2, i3, i4, i5⟩ := ih r s (by simp at h ⊢; omega) hB.tail hC.tail
          simp only [List.pairwise_cons, List.forall_mem_cons, List.flatMap_cons]
          refine ⟨⟨fun p hp => i3 x.1 hr (fun c hc => by have := hs c hc; omega) p hp, i1⟩, ⟨⟨heq, hx.2, hy.2⟩, i2⟩, fun a h1 h2 => ⟨h1.1, i3 a h1.2 h2.2⟩, ?_, ?_⟩
          · rw [i4]; rfl
          · rw [i5]; rfl
        · rename_i hlt hne
          obtain ⟨i1, i2, i3, i4, i5⟩ := ih (x :: r) s (by simp at h ⊢; omega) hB hC.tail
          simp only [List.pairwise_cons, List.forall_mem_cons, List.flatMap_cons, z, List.nil_append]
          refine ⟨⟨fun p hp => i3 y.1 (fun c hc => ?_) hs p hp, i1⟩, ⟨⟨trivial, by omega, hy.2⟩, i2⟩, fun a h1 h2 => ⟨h2.1, i3 a (by simpa using h1) h2.2⟩, i4, ?_⟩
          · rcases List.mem_cons.1 hc with rfl | hc
            · omega
            · have := hr c hc; omega
          · rw [i5]; rfl
    | [], [], h, _, _ => simp [prs, flat]

/-! what Join makes of them -/
def mrg (f : Nat → Nat → Nat) (P : List (Blk × Blk)) : List Blk := P.filterMap fun p => if f p.1.2 p.2.2 = 0 then none else some (p.1.1, f p.1.2 p.2.2)

theorem mem_mrg {f : Nat → Nat → Nat} {P : List (Blk × Blk)} {b : Blk} : b ∈ mrg f P ↔ ∃ p ∈ P, b = (p.1.1, f p.1.2 p.2.2) ∧ f p.1.2 p.2.2 ≠ 0 := by
  unfold mrg
  rw [List.mem_filterMap]
  constructor
  · rintro ⟨p, hp, h⟩
    by_cases h0 : f p.1.2 p.2.2 = 0
    · rw [if_pos h0] at h; cases h
    · rw [if_neg h0] at h
      exact ⟨p, hp, (Option.some.inj h).symm, h0⟩
  · rintro ⟨p, hp, rfl, h0⟩
    exact ⟨p, hp, if_neg h0⟩

theorem mrg_rise {f : Nat → Nat → Nat} : ∀ {P : List (Blk × Blk)}, P.Pairwise (fun p q => p.1.1 < q.1.1) → (mrg f P).Pairwise (fun x y => x.1 < y.1)
  | [], _ => List.Pairwise.nil
  | p :: r, h => by
    have h1 := List.pairwise_cons.1 h
    have ih := mrg_rise (f := f) h1.2
    unfold mrg at ih ⊢
    rw [List.filterMap_cons]
    by_cases h0 : f p.1.2 p.2.2 = 0
    · simpa [h0] using ih
    · simp only [h0, if_false, List.pairwise_cons]
      refine ⟨fun b hb => ?_, ih⟩
      obtain ⟨q, hq, rfl, _⟩ := mem_mrg.1 hb
      exact h1.1 q hq

theorem one_pr : ∀ {P : List (Blk × Blk)}, P.Pairwise (fun p q => p.1.1 < q.1.1) → ∀ {p q : Blk × Blk}, p ∈ P → q ∈ P → p.1.1 = q.1.1 → p = q
  | [], _, p, q, hb, _, _ => by cases hb
  | x :: r, h, b, c, hb, hc, e => by
    have h1 := List.pairwise_cons.1 h
    rcases List.mem_cons.1 hb with hb' | hb'
    · rcases List.mem_cons.1 hc with hc' | hc'
      · rw [hb', hc']
      · have := h1.1 c hc'
        rw [hb'] at e
        omega
    · rcases List.mem_cons.1 hc with hc' | hc'
      · have := h1.1 b hb'
        rw [hc'] at e
        omega
      · exact one_pr h1.2 hb' hc' e

/-- a merge of good blocks is good, and has the numbers that it has to have -/
theorem mrg_ok {f : Nat → Nat → Nat} {g : Bool → Bool → Bool} (hf : ∀ a b i, (f a b).testBit i = g (a.testBit i) (b.testBit i)) (hlt : ∀ a b, a < 2 ^ 64 → b < 2 ^ 64 → f a b < 2 ^ 64) {B C : List Blk} (hB : Ok B) (hC : Ok C) (hg : g false false = false) :
    Ok (mrg f (prs B C)) ∧ ∀ n, n ∈ flat (mrg f (prs B C)) ↔ g (decide (n ∈ flat B)) (decide (n ∈ flat C)) = true := by
  obtain ⟨i1, i2, _, i4, i5⟩ := prs_mem B C hB hC
  refine ⟨⟨mrg_rise i1, fun b hb => ?_⟩, fun n => ?_⟩
  · obtain ⟨p, hp, rfl, h0⟩ := mem_mrg.1 hb
    obtain ⟨_, h1, h2⟩ := i2 p hp
    exact ⟨by show 0 < f p.1.2 p.2.2; omega, hlt _ _ h1 h2⟩
  · have eB : ∀ p ∈ prs B C, p.1.1 = n / 64 → decide (n ∈ flat B) = p.1.2.testBit (n % 64) := by
      intro p hp e
      rw [← i4]
      by_cases h : p.1.2.testBit (n % 64) = true
      · rw [h]
        exact decide_eq_true (List.mem_flatMap.2 ⟨p, hp, mem_bitsB.2 ⟨e.symm, h⟩⟩)
      · rw [Bool.eq_false_iff.2 h]
        refine decide_eq_false fun hm => ?_
        obtain ⟨q, hq, hm⟩ := List.mem_flatMap.1 hm
        obtain ⟨e2, h2⟩ := mem_bitsB.1 hm
        have : q = p := one_pr i1 hq hp (by omega)
        rw [this] at h2
        exact h h2
    have eC : ∀ p ∈ prs B C, p.1.1 = n / 64 → decide (n ∈ flat C) = p.2.2.testBit (n % 64) := by
      intro p hp e
      rw [← i5]
      have e12 := (i2 p hp).1
      by_cases h : p.2.2.testBit (n % 64) = true
      · rw [h]
        exact decide_eq_true (List.mem_flatMap.2 ⟨p, hp, mem_bitsB.2 ⟨by omega, h⟩⟩)
      · rw [Bool.eq_false_iff.2 h]
        refine decide_eq_false fun hm => ?_
        obtain ⟨q, hq, hm⟩ := List.mem_flatMap.1 hm
        obtain ⟨e2, h2⟩ := mem_bitsB.1 hm
        have q12 := (i2 q hq).1
        have : q = p := one_pr i1 hq hp (by omega)
        rw [this] at h2
        exact h h2
    rw [mem_flat]
    constructor
    · rintro ⟨b, hb, e, ht⟩
      obtain ⟨p, hp, rfl, h0⟩ := mem_mrg.1 hb
      rw [eB p hp e, eC p hp e, ← hf]
      exact ht
    · intro h
      by_cases hex : ∃ p ∈ prs B C, p.1.1 = n / 64
      · obtain ⟨p, hp, e⟩ := hex
        rw [eB p hp e, eC p hp e, ← hf] at h
        have h0 : f p.1.2 p.2.2 ≠ 0 := fun h0 => by rw [h0] at h; simp at h
        exact ⟨_, mem_mrg.2 ⟨p, hp, rfl, h0⟩, e, h⟩
      · have n1 : n ∉ flat B := fun hm => by
          rw [← i4] at hm
          obtain ⟨q, hq, hm⟩ := List.mem_flatMap.1 hm
          exact hex ⟨q, hq, (mem_bitsB.1 hm).1.symm⟩
        have n2 : n ∉ flat C := fun hm => by
          rw [← i5] at hm
          obtain ⟨q, hq, hm⟩ := List.mem_flatMap.1 hm
          have := (mem_bitsB.1 hm).1
          exact hex ⟨q, hq, by rw [(i2 q hq).1]; exact this.symm⟩
        rw [decide_eq_false n1, decide_eq_false n2, hg] at h
        cases h

/-! Join -/
theorem or_lt {a b : Nat} (ha : a < 2 ^ 64) (hb : b < 2 ^ 64) : a ||| b < 2 ^ 64 := Nat.or_lt_two_pow ha hb
def orB (B C : List Blk) : List Blk := mrg (· ||| ·) (prs B C)

theorem orB_ok {B C : List Blk} (hB : Ok B) (hC : Ok C) : Ok (orB B C) ∧ ∀ n, n ∈ flat (orB B C) ↔ n ∈ flat B ∨ n ∈ flat C := by
  obtain ⟨h1, h2⟩ := mrg_ok (f := (· ||| ·)) (g := (· || ·)) (fun a b i => Nat.testBit_or a b i) (fun a b ha hb => or_lt ha hb) hB hC rfl
  exact ⟨h1, fun n => by rw [show n ∈ flat (orB B C) ↔ _ from h2 n]; simp⟩

theorem flat_orB {B C : List Blk} (hB : Ok B) (hC : Ok C) (hs : ∀ y ∈ flat C, y ≤ 268435456) : flat (orB B C) = joinS (flat B) (flat C) := by
  obtain ⟨h1, h2⟩ := orB_ok hB hC
  exact srt_ext (srt_flat h1.rise) (joinS_srt (srt_flat hB.rise)) fun x => by rw [h2, joinS_mem hs]

/-- how many the other one has more: what missing counts -/
def misN (P : List (Blk × Blk)) : Nat := (P.map fun p => pop (p.2.2 &&& (18446744073709551615 - p.1.2))).sum
end Go.Proofs.YtnjaadcbpkbjbaaDoor.bt
