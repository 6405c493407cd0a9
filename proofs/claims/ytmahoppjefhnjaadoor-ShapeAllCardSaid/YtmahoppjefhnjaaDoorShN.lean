/-
  Shape: what the closure of Cells has captured.
-/
import Derived.Test.YtmahoppjefhnjaaDoorShL
import Derived.Test.YtmahoppjefhnjaaDoorRow2
namespace Go.Proofs.YtmahoppjefhnjaaDoor.sh
open Go.RowKit Go.Sort Go.Proofs.YtmahoppjefhnjaaDoor.mem

/-- the marks' cells in a row -/
def marksV (m : List (Int × List UInt8)) : List Value := m.flatMap fun x => [.int .i64 x.1, .string ⟨x.2.toArray⟩]

theorem marksV_snoc (m : List (Int × List UInt8)) (p : Int) (t : List UInt8) : marksV (m ++ [(p, t)]) = marksV m ++ [.int .i64 p, .string ⟨t.toArray⟩] := by simp [marksV]

def NotSl (u : Value) : Prop := ∀ A n c, u ≠ .slice A n c

theorem notSl_marks (m : List (Int × List UInt8)) : ∀ u ∈ marksV m, NotSl u := by
  intro u hu
  unfold marksV at hu
  obtain ⟨x, _, hx⟩ := List.mem_flatMap.1 hu
  simp only [List.mem_cons, List.not_mem_nil, or_false] at hx
  rcases hx with rfl | rfl
  · intro A n c h; cases h
  · intro A n c h; cases h

/-- what it has captured: the kinds, the marks, the structs, and itself -/
structure LC (w : World) (A : Option Addr) (cap : Nat) (ss : List St) (g1 g2 g0 gp : Nat) (x : Pk) (M : Option Addr) (mc : Nat) : Prop where
  b1 : Box w g1 9 #[.string ⟨x.1.toArray⟩]
  b2 : Box w g2 56 #[.slice M x.2.length mc]
  b0 : Box w g0 55 #[.slice A ss.length cap]
  bp : ∃ t, Box w gp t #[.func (.func 57) #[] #[.pointer (some ⟨g1, 0, none⟩), .pointer (some ⟨g2, 0, none⟩), .pointer (some ⟨g0, 0, none⟩), .pointer (some ⟨gp, 0, none⟩)]]
  sg : Sg 2 w 64 M mc x.2.length (marksV x.2)
  ns : ∀ a, M = some a → ∀ i u, w.cell? ⟨a.block, i, none⟩ = some u → NotSl u
  ap : ∀ g ∈ blk M, g ≠ g1 ∧ g ≠ g2 ∧ g ≠ g0 ∧ g ≠ gp
  ne : g1 ≠ g2 ∧ g1 ≠ g0 ∧ g1 ≠ gp ∧ g2 ≠ g0 ∧ g2 ≠ gp

theorem LC.kept {w w' : World} {A : Option Addr} {cap : Nat} {ss : List St} {g1 g2 g0 gp : Nat} {x : Pk} {M : Option Addr} {mc : Nat} (h : LC w A cap ss g1 g2 g0 gp x M mc) (hb : Below w.heap.size w w') : LC w' A cap ss g1 g2 g0 gp x M mc := by
  have hf := Fr.of_below hb []
  obtain ⟨t, ht⟩ := h.bp
  refine ⟨h.b1.kept hf (by simp), h.b2.kept hf (by simp), h.b0.kept hf (by simp), ⟨t, ht.kept hf (by simp)⟩, h.sg.kept hf (by simp), fun a ha i u hu => ?_, h.ap, h.ne⟩
  have hl : a.block < w.heap.size := h.sg.lt _ (by rw [ha]; simp [blk])
  exact h.ns a ha i u ((hb.cell (p := ⟨a.block, i, none⟩) hl).symm.trans hu)

theorem LC.noSl {w : World} {A : Option Addr} {cap : Nat} {ss : List St} {g1 g2 g0 gp : Nat} {x : Pk} {M : Option Addr} {mc : Nat} (h : LC w A cap ss g1 g2 g0 gp x M mc) : NoSl (g1 :: g2 :: blk M) w := by
  have h1 := (NoSl.box h.b1).app (NoSl.box h.b2)
  have h2 : NoSl (blk M) w := by
    intro g hg i B n c _ k
    cases hM : M with
    | none => rw [hM] at hg; cases hg
    | some a =>
      rw [hM] at hg
      simp only [blk, List.mem_singleton] at hg
      subst hg
      exact h.ns a hM i _ k B n c rfl
  exact h1.app h2

/-- a kind more -/
theorem LC.kind {w : World} {A : Option Addr} {cap : Nat} {ss : List St} {g1 g2 g0 gp : Nat} {x : Pk} {M : Option Addr} {mc : Nat} (h : LC w A cap ss g1 g2 g0 gp x M mc) (k : List UInt8) : LC (w.setCell ⟨g1, 0, none⟩ (.string ⟨k.toArray⟩)) A cap ss g1 g2 g0 gp (k, x.2) M mc := by
  have hs : Fr [g1] w (w.setCell ⟨g1, 0, none⟩ (.string ⟨k.toArray⟩)) := (Fr.refl [g1] w).setCell (p := ⟨g1, 0, none⟩) (Or.inl (by simp)) _
  obtain ⟨t, ht⟩ := h.bp
  obtain ⟨n1, n2, n3, n4, n5⟩ := h.ne
  have hM : ∀ g ∈ blk M, g ∉ [g1] := fun g hg => by simpa using (h.ap g hg).1
  refine ⟨h.b1.put 0 _, h.b2.kept hs (by simpa using Ne.symm n1), h.b0.kept hs (by simpa using Ne.symm n2), ⟨t, ht.kept hs (by simpa using Ne.symm n3)⟩, h.sg.kept hs hM, fun a ha i u hu => ?_, h.ap, h.ne⟩
  have hg : a.block ∈ blk M := by rw [ha]; simp [blk]
  exact h.ns a ha i u ((cell_frs hs (h.sg.lt _ hg) (hM _ hg)).symm.trans hu)
end Go.Proofs.YtmahoppjefhnjaaDoor.sh
