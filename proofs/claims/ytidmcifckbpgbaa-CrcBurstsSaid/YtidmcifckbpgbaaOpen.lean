/-
  What arguments of some types are in memory, as a walk takes them: slices of texts, of numbers.
-/
import Derived.Test.YtidmcifckbpgbaaRows
import Derived.WalkKit
import Derived.ProofKit
import Derived.OpenShut
import Derived.SliceStrings
import Derived.Below
import Derived.Lib.Hide
namespace Go.Proofs.Ytidmcifckbpgbaa.opn
open Go.RowKit Go.ChangeShapes Go.WideShapes

/-- The slice v holds the texts ss. -/
def StrsAt (w : World) (v : Value) (ss : List ByteArray) : Prop :=
  (∀ s ∈ ss, s.size ≤ maxLen) ∧ ss.length ≤ maxLen ∧
  ((∃ a cap, v = .slice a 0 cap ∧ ss = []) ∨
   (0 < ss.length ∧ ∃ b off cap, v = .slice (some ⟨b, off, none⟩) ss.length cap ∧ b < w.heap.size ∧ ∀ i, i < ss.length → w.cell? ⟨b, off + i, none⟩ = some (.string (ss.getD i ByteArray.empty))))

theorem lt_of_cell {w : World} {a : Addr} {v : Value} (h : w.cell? a = some v) : a.block < w.heap.size := by
  unfold World.cell? at h
  rcases Nat.lt_or_ge a.block w.heap.size with h1 | h1
  · exact h1
  · rw [Array.getElem?_eq_none h1] at h; cases h

theorem strs_of {P : Program} {t e : TypeId} {H : Type} {enc : TypeId × Value → H} {W : World} {v : Value} {d : DataW H} {ps : List MemPlace} {base : Nat}
    (ht : P.underlying t = some (.slice e)) (he : P.underlying e = some .string) (hc : P.cellsOf e = 1)
    (k : DataW.Trod enc P W 0 (fun _ => true) true t v d ps) (o : Value.okWide P W .any base t v) : ∃ ss, StrsAt W v ss := by
  obtain ⟨a0, len, cap, rfl⟩ := okWide_slice ht o
  obtain ⟨fuel, hf⟩ := k
  rcases open_strings ht he hc hf with ⟨hcs, _⟩ | ⟨a, l, c, ss, hcs, _, hl, hm, hz, _, hcell, hws⟩
  · simp [Value.cells] at hcs
    obtain ⟨rfl, rfl, rfl⟩ := hcs
    exact ⟨[], fun s hs => by simp at hs, by simp, Or.inl ⟨none, 0, rfl, rfl⟩⟩
  · simp [Value.cells] at hcs
    obtain ⟨rfl, rfl, rfl⟩ := hcs
    simp only [if_true] at hz
    have hlen : (ss.take len).length = len := by rw [List.length_take]; omega
    refine ⟨ss.take len, fun s hs => hws s (List.mem_of_mem_take hs), by omega, ?_⟩
    rcases Nat.eq_zero_or_pos len with h0 | hp
    · subst h0
      exact Or.inl ⟨some a, cap, rfl, by simp⟩
    · right
      have h0 := hcell 0 (by omega)
      obtain ⟨b, off, spot⟩ := a
      have hspot : spot = none := by simpa [Addr.add] using World.cell?_spot h0
      subst hspot
      refine ⟨by omega, b, off, cap, by rw [hlen], by have := lt_of_cell h0; simpa [Addr.add] using this, fun i hi => ?_⟩
      have := hcell i (by omega)
      rw [Go.WideShapes.add_plain] at this
      rw [this]
      have e : (ss.take len).getD i ByteArray.empty = ss.getD i ByteArray.empty := by
        simp only [List.getD_eq_getElem?_getD]
        rw [List.getElem?_take_of_lt (by omega)]
      rw [e]
end Go.Proofs.Ytidmcifckbpgbaa.opn
