/-
  Shape: a mark more.
-/
import Derived.Test.YtmahoppjefhnjaaDoorShO
namespace Go.Proofs.YtmahoppjefhnjaaDoor.sh
open Go.RowKit Go.Sort Go.Proofs.YtmahoppjefhnjaaDoor.mem

theorem LC.mark {w w2 : World} {A : Option Addr} {cap : Nat} {ss : List St} {g1 g2 g0 gp : Nat} {x : Pk} {M M' : Option Addr} {mc mc' : Nat} (h : LC w A cap ss g1 g2 g0 gp x M mc) (p : Int) (t : List UInt8)
    (hsg : Sg 2 w2 64 M' mc' (x.2.length + 1) (marksV x.2 ++ [.int .i64 p, .string ⟨t.toArray⟩])) (hf : Fr (blk M) w w2) (hb : blk M' = blk M ∨ blk M' = [w.heap.size]) (hall : ∀ a, M' = some a → ∀ i u, w2.cell? ⟨a.block, i, none⟩ = some u → NotSl u) :
    LC (w2.setCell ⟨g2, 0, none⟩ (.slice M' (x.2.length + 1) mc')) A cap ss g1 g2 g0 gp (x.1, x.2 ++ [(p, t)]) M' mc' := by
  obtain ⟨tt, ht⟩ := h.bp
  obtain ⟨n1, n2, n3, n4, n5⟩ := h.ne
  have a1 : g1 ∉ blk M := fun hg => (h.ap g1 hg).1 rfl
  have a2 : g2 ∉ blk M := fun hg => (h.ap g2 hg).2.1 rfl
  have a3 : g0 ∉ blk M := fun hg => (h.ap g0 hg).2.2.1 rfl
  have a4 : gp ∉ blk M := fun hg => (h.ap gp hg).2.2.2 rfl
  have l1 := h.b1.lt
  have l2 := h.b2.lt
  have l3 := h.b0.lt
  have l4 := ht.lt
  have hap : ∀ g ∈ blk M', g ≠ g1 ∧ g ≠ g2 ∧ g ≠ g0 ∧ g ≠ gp := by
    intro g hg
    rcases hb with hb | hb
    · rw [hb] at hg
      exact h.ap g hg
    · rw [hb, List.mem_singleton] at hg
      subst hg
      exact ⟨by omega, by omega, by omega, by omega⟩
  have hs : Fr [g2] w2 (w2.setCell ⟨g2, 0, none⟩ (.slice M' (x.2.length + 1) mc')) := (Fr.refl [g2] w2).setCell (p := ⟨g2, 0, none⟩) (Or.inl (by simp)) _
  have hM : ∀ g ∈ blk M', g ∉ [g2] := fun g hg => by simpa using (hap g hg).2.1
  refine ⟨(h.b1.kept hf a1).kept hs (by simpa using n1), ?_, (h.b0.kept hf a3).kept hs (by simpa using Ne.symm n4), ⟨tt, (ht.kept hf a4).kept hs (by simpa using Ne.symm n5)⟩, ?_, fun a ha i u hu => ?_, hap, h.ne⟩
  · have := (h.b2.kept hf a2).put 0 (.slice M' (x.2.length + 1) mc')
    simpa using this
  · have := hsg.kept hs hM
    rw [marksV_snoc]
    simpa using this
  · have hg : a.block ∈ blk M' := by rw [ha]; simp [blk]
    exact hall a ha i u ((cell_frs hs (hsg.lt _ hg) (hM _ hg)).symm.trans hu)

theorem cxpost_mark {w w2 : World} {A : Option Addr} {cap : Nat} {ss : List St} {g1 g2 g0 gp : Nat} {x : Pk} {M M' : Option Addr} (hf : Fr (blk M) w w2) (v : Value) (hb : blk M' = blk M ∨ blk M' = [w.heap.size]) : Fr (g1 :: g2 :: blk M) w (w2.setCell ⟨g2, 0, none⟩ v) ∧ ∀ b ∈ blk M', b ∈ blk M ∨ w.heap.size ≤ b := by
  have hs : Fr [g2] w2 (w2.setCell ⟨g2, 0, none⟩ v) := (Fr.refl [g2] w2).setCell (p := ⟨g2, 0, none⟩) (Or.inl (by simp)) _
  refine ⟨hf.trans hs (fun q hq => Or.inl (by simp [hq])) (fun q hq => Or.inl (by simp only [List.mem_singleton] at hq; subst hq; simp)), fun b hb' => ?_⟩
  rcases hb with hb | hb
  · exact Or.inl (hb ▸ hb')
  · rw [hb, List.mem_singleton] at hb'
    subst hb'
    exact Or.inr (Nat.le_refl _)
end Go.Proofs.YtmahoppjefhnjaaDoor.sh
