/-
  Bits: what one set has alone, and what both have: plain.
-/
import Derived.Test.YtnjaadcbpkbjbaaDoorBtG
import Derived.Test.YtnjaadcbpkbjbaaDoorBtI
namespace Go.Proofs.YtnjaadcbpkbjbaaDoor.bt
open Go.RowKit Go.Sort Go.Proofs.YtnjaadcbpkbjbaaDoor.mem

def lessB (B C : List Blk) : List Blk := mrg (fun a b => a ^^^ (a &&& b)) (prs B C)
def bothB (B C : List Blk) : List Blk := mrg (· &&& ·) (prs B C)

theorem and_not_xor {a b : Nat} (ha : a < 2 ^ 64) (hb : b < 2 ^ 64) : a &&& (18446744073709551615 - b) = a ^^^ (a &&& b) := by
  apply Nat.eq_of_testBit_eq
  intro i
  rw [Nat.testBit_and, Nat.testBit_xor, Nat.testBit_and]
  rcases Nat.lt_or_ge i 64 with hi | hi
  · rw [not_bit hb hi]
    cases a.testBit i <;> cases b.testBit i <;> rfl
  · rw [Nat.testBit_lt_two_pow (Nat.lt_of_lt_of_le ha (Nat.pow_le_pow_right (by omega) hi))]
    rfl

theorem lessB_ok {B C : List Blk} (hB : Ok B) (hC : Ok C) : Ok (lessB B C) ∧ ∀ n, n ∈ flat (lessB B C) ↔ n ∈ flat B ∧ n ∉ flat C := by
  obtain ⟨h1, h2⟩ := mrg_ok (f := fun a b => a ^^^ (a &&& b)) (g := fun x y => x ^^ (x && y)) (fun a b i => by rw [Nat.testBit_xor, Nat.testBit_and]) (fun a b ha hb => Nat.xor_lt_two_pow ha (Nat.and_lt_two_pow _ hb)) hB hC rfl
  exact ⟨h1, fun n => by rw [show n ∈ flat (lessB B C) ↔ _ from h2 n]; by_cases x : n ∈ flat B <;> by_cases y : n ∈ flat C <;> simp [x, y]⟩
theorem bothB_ok {B C : List Blk} (hB : Ok B) (hC : Ok C) : Ok (bothB B C) ∧ ∀ n, n ∈ flat (bothB B C) ↔ n ∈ flat B ∧ n ∈ flat C := by
  obtain ⟨h1, h2⟩ := mrg_ok (f := (· &&& ·)) (g := (· && ·)) (fun a b i => Nat.testBit_and a b i) (fun a b ha hb => Nat.and_lt_two_pow _ hb) hB hC rfl
  exact ⟨h1, fun n => by rw [show n ∈ flat (bothB B C) ↔ _ from h2 n]; simp⟩

theorem pop_parted (a b : Nat) : pop (a ^^^ (a &&& b)) + pop (a &&& b) = pop a := by
  have h := popF_or 64 (a &&& b) a (a ^^^ (a &&& b)) (fun i _ => by
    rw [Nat.testBit_xor, Nat.testBit_and]
    cases a.testBit i <;> cases b.testBit i <;> rfl)
  have e : (a &&& b) ||| a = a := by
    apply Nat.eq_of_testBit_eq
    intro i
    rw [Nat.testBit_or, Nat.testBit_and]
    cases a.testBit i <;> cases b.testBit i <;> rfl
  rw [e] at h
  rw [pop_eq, pop_eq, pop_eq]
  omega

/-- parted, none is lost and none is twice -/
theorem len_parted {B C : List Blk} (hB : Ok B) (hC : Ok C) : (flat (lessB B C)).length + (flat (bothB B C)).length = (flat B).length := by
  obtain ⟨_, _, _, i4, _⟩ := prs_mem B C hB hC
  have e1 : (flat B).length = ((prs B C).map fun p => pop p.1.2).sum := by rw [← i4]; exact len_prs (fun p => p.1)
  rw [e1]
  unfold lessB bothB
  rw [len_mrg, len_mrg]
  exact (sum_add _ _ _ _ fun p _ => (pop_parted p.1.2 p.2.2).symm).symm

theorem flat_nil_of {B : List Blk} (h : ∀ n, n ∉ flat B) : (flat B).length = 0 := by
  rw [List.eq_nil_iff_forall_not_mem.2 h]
  rfl

theorem none_both {B C : List Blk} (hB : Ok B) (hC : Ok C) : (flat (bothB (lessB B C) (bothB B C))).length = 0 := by
  refine flat_nil_of fun n hn => ?_
  have h1 := ((bothB_ok (lessB_ok hB hC).1 (bothB_ok hB hC).1).2 n).1 hn
  exact (((lessB_ok hB hC).2 n).1 h1.1).2 (((bothB_ok hB hC).2 n).1 h1.2).2

theorem eq_of_mem {B C : List Blk} (hB : Ok B) (hC : Ok C) (h : ∀ n, n ∈ flat B ↔ n ∈ flat C) : B = C :=
  flat_inj hB hC (srt_ext (srt_flat hB.rise) (srt_flat hC.rise) h)

theorem or_parted {B C : List Blk} (hB : Ok B) (hC : Ok C) : orB (lessB B C) (bothB B C) = B :=
  eq_of_mem (orB_ok (lessB_ok hB hC).1 (bothB_ok hB hC).1).1 hB fun n => by
    rw [(orB_ok (lessB_ok hB hC).1 (bothB_ok hB hC).1).2, (lessB_ok hB hC).2, (bothB_ok hB hC).2]
    by_cases x : n ∈ flat C <;> simp [x]

theorem or_swap {B C : List Blk} (hB : Ok B) (hC : Ok C) : orB B C = orB C B :=
  eq_of_mem (orB_ok hB hC).1 (orB_ok hC hB).1 fun n => by rw [(orB_ok hB hC).2, (orB_ok hC hB).2]; exact Or.comm
end Go.Proofs.YtnjaadcbpkbjbaaDoor.bt
