/-
  tarjan: arguments as they come in.
-/
import Derived.Test.YtpdidgacmikllaaTjA8
import Derived.Test.YtpdidgacmikllaaPar
namespace Go.Proofs.Ytpdidgacmikllaa.tj
open Go.RowKit Go.Proofs.Ytpdidgacmikllaa.mem

theorem cEdge : Try.prog.cellsOf 38 = 2 := by kernel_rfl
theorem cIntT : Try.prog.cellsOf 3 = 1 := by kernel_rfl
theorem edFields : (Try.prog.fieldsOf 38).toList.map (fun f => (f.type, f.offset)) = [(3, 0), (3, 1)] := by kernel_rfl
theorem edUnder : Try.prog.underlying 38 = some (.struct (Try.prog.fieldsOf 38)) := by kernel_rfl

theorem edge_of {H : Type} {enc : TypeId × Value → H} {W : World} (n : Nat) (u v : Value) (y : DataW H × List MemPlace) (h : DataW.trod enc Try.prog W 0 (fun _ => true) true n 38 [u, v] = some y) : ∃ x : Int × Int, u = .int .i64 x.1 ∧ v = .int .i64 x.2 ∧ True := by
  obtain ⟨ys, m, _, _, _, hl, hf⟩ := DataW.trod_struct edUnder h
  have hq := edFields
  have hs : (Try.prog.fieldsOf 38).size = 2 := by rw [← Array.length_toList, ← List.length_map (f := fun f : Field => (f.type, f.offset)), hq]; rfl
  have f0 : ∃ f, (Try.prog.fieldsOf 38)[0]? = some f ∧ f.type = 3 ∧ f.offset = 0 := by
    have := congrArg (fun l => l[0]?) hq
    simp [List.getElem?_map] at this
    exact this
  have f1 : ∃ f, (Try.prog.fieldsOf 38)[1]? = some f ∧ f.type = 3 ∧ f.offset = 1 := by
    have := congrArg (fun l => l[1]?) hq
    simp [List.getElem?_map] at this
    exact this
  obtain ⟨g0, a0, b0, c0⟩ := f0
  obtain ⟨g1, a1, b1, c1⟩ := f1
  have h0 := hf 0 g0 a0
  have h1 := hf 1 g1 a1
  rw [b0, c0, cIntT] at h0
  rw [b1, c1, cIntT] at h1
  have h0 : DataW.trod enc Try.prog W 0 (fun _ => true) true m 3 [u] = ys[0]? := h0
  have h1 : DataW.trod enc Try.prog W 0 (fun _ => true) true m 3 [v] = ys[1]? := h1
  rw [List.getElem?_eq_getElem (by omega)] at h0 h1
  obtain ⟨x0, e0, _, _⟩ := DataW.trod_int Try.underlying3 h0
  obtain ⟨x1, e1, _, _⟩ := DataW.trod_int Try.underlying3 h1
  simp only [List.cons.injEq, and_true] at e0 e1
  exact ⟨(x0, x1), e0, e1, trivial⟩

theorem edges_of {H : Type} {enc : TypeId × Value → H} {W : World} {base : Nat} (v : Value) (d : DataW H) (p : List MemPlace) (k : DataW.Trod enc Try.prog W 0 (fun _ => true) true 22 v d p) (o : Value.okWide Try.prog W .any base 22 v) :
    ∃ (A : Option Addr) (cap : Nat) (l : List (Int × Int)), v = .slice A l.length cap ∧ Eds W A l ∧ l.length ≤ 9223372036854775807 := by
  obtain ⟨A, cap, l, rfl, hr, _, hm⟩ := Go.Proofs.Ytpdidgacmikllaa.mem.row2_of (fun x : Int × Int => .int .i64 x.1) (fun x => .int .i64 x.2) (fun _ => True) Try.underlying22 cEdge edge_of k o
  refine ⟨A, cap, l, rfl, fun hz => ?_, hm⟩
  obtain ⟨b, off, h1, h2, h3⟩ := hr hz
  exact ⟨b, off, h1, h2, fun j hj => ⟨(h3 j hj).1, (h3 j hj).2⟩⟩
end Go.Proofs.Ytpdidgacmikllaa.tj
