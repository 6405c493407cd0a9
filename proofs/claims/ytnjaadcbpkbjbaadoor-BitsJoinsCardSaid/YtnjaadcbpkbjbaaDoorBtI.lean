/-
  Bits: Join by numbers: what missing counts is what the reference counts.
-/
import Derived.Test.YtnjaadcbpkbjbaaDoorBtC
import Derived.Test.YtnjaadcbpkbjbaaDoorBt4
import Derived.Test.YtnjaadcbpkbjbaaDoorBtD
namespace Go.Proofs.YtnjaadcbpkbjbaaDoor.bt
open Go.RowKit Go.Sort Go.Proofs.YtnjaadcbpkbjbaaDoor.mem

theorem popF_or : ∀ (f x y z : Nat), (∀ i, i < f → z.testBit i = (y.testBit i && !x.testBit i)) → popF f (x ||| y) = popF f x + popF f z
  | 0, _, _, _, _ => rfl
  | f + 1, x, y, z, h => by
    have h0 := h 0 (by omega)
    have ih := popF_or f (x / 2) (y / 2) (z / 2) fun i hi => by
      have := h (i + 1) (by omega)
      rw [Nat.testBit_succ, Nat.testBit_succ, Nat.testBit_succ] at this
      exact this
    have hor : (x ||| y).testBit 0 = (x.testBit 0 || y.testBit 0) := Nat.testBit_or x y 0
    rw [Nat.testBit_zero, Nat.testBit_zero, Nat.testBit_zero] at h0 hor
    show (x ||| y) % 2 + popF f ((x ||| y) / 2) = x % 2 + popF f (x / 2) + (z % 2 + popF f (z / 2))
    rw [Nat.or_div_two, ih]
    have a := Nat.mod_two_eq_zero_or_one (x ||| y)
    have b := Nat.mod_two_eq_zero_or_one x
    have c := Nat.mod_two_eq_zero_or_one y
    have d := Nat.mod_two_eq_zero_or_one z
    rcases a with a | a <;> rcases b with b | b <;> rcases c with c | c <;> rcases d with d | d <;> simp [a, b, c, d] at h0 hor <;> omega

theorem pop_or {x y : Nat} (hx : x < 2 ^ 64) : pop (x ||| y) = pop x + pop (y &&& (18446744073709551615 - x)) := by
  rw [pop_eq, pop_eq, pop_eq]
  refine popF_or 64 x y _ fun i hi => ?_
  rw [Nat.testBit_and, not_bit hx hi]

theorem pop_zero : pop 0 = 0 := by decide

theorem len_prs {P : List (Blk × Blk)} (f : Blk × Blk → Blk) : (P.flatMap fun p => bitsB (f p).1 (f p).2).length = (P.map fun p => pop (f p).2).sum := by
  induction P with
  | nil => rfl
  | cons p r ih =>
    rw [List.flatMap_cons, List.length_append, ih, List.map_cons, List.sum_cons]
    congr 1
    exact len_bitsF 64 (f p).2 ((f p).1 * 64) 0

theorem len_mrg (f : Nat → Nat → Nat) : ∀ P : List (Blk × Blk), (flat (mrg f P)).length = (P.map fun p => pop (f p.1.2 p.2.2)).sum
  | [] => rfl
  | p :: r => by
    have ih := len_mrg f r
    unfold mrg at ih ⊢
    rw [List.filterMap_cons, List.map_cons, List.sum_cons, ← ih]
    by_cases h : f p.1.2 p.2.2 = 0
    · simp only [h, if_true, pop_zero, Nat.zero_add]
    · simp only [h, if_false]
      show (bitsB p.1.1 (f p.1.2 p.2.2) ++ flat _).length = _
      rw [List.length_append]
      congr 1
      exact len_bitsF 64 _ _ 0

theorem sum_add : ∀ (P : List (Blk × Blk)) (f g h : Blk × Blk → Nat), (∀ p ∈ P, f p = g p + h p) → (P.map f).sum = (P.map g).sum + (P.map h).sum
  | [], _, _, _, _ => rfl
  | p :: r, f, g, h, hh => by
    have ih := sum_add r f g h fun q hq => hh q (List.mem_cons_of_mem _ hq)
    rw [List.map_cons, List.map_cons, List.map_cons, List.sum_cons, List.sum_cons, List.sum_cons, ih, hh p (by simp)]
    omega

theorem len_orB {B C : List Blk} (hB : Ok B) (hC : Ok C) : (flat (orB B C)).length = (flat B).length + misN (prs B C) := by
  obtain ⟨_, i2, _, i4, _⟩ := prs_mem B C hB hC
  have e1 : (flat B).length = ((prs B C).map fun p => pop p.1.2).sum := by rw [← i4]; exact len_prs (fun p => p.1)
  rw [e1]
  unfold orB misN
  rw [len_mrg]
  exact sum_add _ _ _ _ fun p hp => pop_or (i2 p hp).2.1

theorem misN_join {B C : List Blk} (hB : Ok B) (hC : Ok C) (hs : ∀ y ∈ flat C, y ≤ 268435456) : misN (prs B C) = joinN (flat B) (flat C) := by
  have h1 := len_orB hB hC
  have h2 := joinN_count (flat C) (flat B)
  rw [flat_orB hB hC hs] at h1
  omega

/-- rising ones within rising ones, as many: the same -/
theorem srt_sub : ∀ {l m : List Nat}, Srt l → Srt m → (∀ x ∈ l, x ∈ m) → m.length = l.length → l = m
  | [], [], _, _, _, _ => rfl
  | [], y :: m, _, _, _, h => by simp at h
  | x :: l, [], _, _, _, h => by simp at h
  | x :: l, y :: m, hl, hm, hs, h => by
    have h1 := List.pairwise_cons.1 hl
    have h2 := List.pairwise_cons.1 hm
    have hsub : ∀ z ∈ l, z ∈ m := fun z hz => by
      rcases List.mem_cons.1 (hs z (List.mem_cons_of_mem _ hz)) with e | e
      · have a := h1.1 z hz
        rcases List.mem_cons.1 (hs x (by simp)) with e2 | e2
        · omega
        · have := h2.1 x e2
          omega
      · exact e
    have e := srt_sub h1.2 h2.2 hsub (by simpa using h)
    have hxy : x = y := by
      rcases List.mem_cons.1 (hs x (by simp)) with e2 | e2
      · exact e2
      · rw [← e] at e2
        have := h1.1 x e2
        omega
    rw [hxy, e]

/-- none is missing: none comes to it -/
theorem orB_none {B C : List Blk} (hB : Ok B) (hC : Ok C) (h : misN (prs B C) = 0) : orB B C = B := by
  obtain ⟨hO, hm⟩ := orB_ok hB hC
  have hl := len_orB hB hC
  rw [h, Nat.add_zero] at hl
  refine flat_inj hO hB ?_
  exact (srt_sub (srt_flat hB.rise) (srt_flat hO.rise) (fun x hx => (hm x).2 (Or.inl hx)) hl).symm

/-- what Join leaves -/
theorem join_eq {B C : List Blk} (hB : Ok B) (hC : Ok C) : (if 0 < misN (prs B C) then orB B C else B) = orB B C := by
  by_cases h : 0 < misN (prs B C)
  · rw [if_pos h]
  · rw [if_neg h, orB_none hB hC (by omega)]
end Go.Proofs.YtnjaadcbpkbjbaaDoor.bt
