/-
  agenda: the laws, of arguments as they come in.
-/
import Derived.Test.YtenohenkedofkaaAg9
namespace Go.Proofs.Ytenohenkedofkaa.ag
open Go.RowKit Go.Proofs.Ytenohenkedofkaa.mem

theorem opFields : (Try.prog.fieldsOf 44).toList.map (fun f => (f.type, f.offset)) = [(3, 0), (3, 1)] := by kernel_rfl
theorem opUnder : Try.prog.underlying 44 = some (.struct (Try.prog.fieldsOf 44)) := by kernel_rfl

theorem op_of {H : Type} {enc : TypeId × Value → H} {W : World} (n : Nat) (u v : Value) (y : DataW H × List MemPlace) (h : DataW.trod enc Try.prog W 0 (fun _ => true) true n 44 [u, v] = some y) : ∃ x : Int × Int, u = .int .i64 x.1 ∧ v = .int .i64 x.2 ∧ WF x.2 := by
  obtain ⟨ys, m, _, _, _, hl, hf⟩ := DataW.trod_struct opUnder h
  have hq := opFields
  have hs : (Try.prog.fieldsOf 44).size = 2 := by rw [← Array.length_toList, ← List.length_map (f := fun f : Field => (f.type, f.offset)), hq]; rfl
  have f0 : ∃ f, (Try.prog.fieldsOf 44)[0]? = some f ∧ f.type = 3 ∧ f.offset = 0 := by
    have := congrArg (fun l => l[0]?) hq
    simp [List.getElem?_map] at this
    exact this
  have f1 : ∃ f, (Try.prog.fieldsOf 44)[1]? = some f ∧ f.type = 3 ∧ f.offset = 1 := by
    have := congrArg (fun l => l[1]?) hq
    simp [List.getElem?_map] at this
    exact this
  obtain ⟨g0, a0, b0, c0⟩ := f0
  obtain ⟨g1, a1, b1, c1⟩ := f1
  have h0 := hf 0 g0 a0
  have h1 := hf 1 g1 a1
  have hc : Try.prog.cellsOf 3 = 1 := by kernel_rfl
  rw [b0, c0, hc] at h0
  rw [b1, c1, hc] at h1
  have h0 : DataW.trod enc Try.prog W 0 (fun _ => true) true m 3 [u] = ys[0]? := h0
  have h1 : DataW.trod enc Try.prog W 0 (fun _ => true) true m 3 [v] = ys[1]? := h1
  rw [List.getElem?_eq_getElem (by omega)] at h0 h1
  obtain ⟨x0, e0, _, _⟩ := DataW.trod_int Try.underlying3 h0
  obtain ⟨x1, e1, _, w1⟩ := DataW.trod_int Try.underlying3 h1
  simp only [List.cons.injEq, and_true] at e0 e1
  exact ⟨(x0, x1), e0, e1, w1⟩

theorem cInt : Try.prog.cellsOf 3 = 1 := by kernel_rfl
theorem cStr : Try.prog.cellsOf 9 = 1 := by kernel_rfl
theorem cOp : Try.prog.cellsOf 44 = 2 := by kernel_rfl

set_option maxRecDepth 100000 in
theorem pf_does (H : Type) (enc : TypeId × Value → H) (W : World) {base : Nat} (v : Value) (d : DataW H) (p : List MemPlace) (k : DataW.Trod enc Try.prog W 0 (fun _ => true) true 38 v d p) (o : Value.okWide Try.prog W .any base 38 v) :
    Calls Try.prog 6 #[v] W (WorksPost W) := by
  obtain ⟨A, cap, l, rfl, hr, hq, hm⟩ := row2_of (fun x : Int × Int => .int .i64 x.1) (fun x => .int .i64 x.2) (fun x => WF x.2) Try.underlying38 cOp op_of k o
  exact law_does A cap l W hr hq hm

set_option maxRecDepth 100000 in
theorem pf_picks (H : Type) (enc : TypeId × Value → H) (W : World) {base : Nat} (v : Value) (d : DataW H) (p : List MemPlace) (k : DataW.Trod enc Try.prog W 0 (fun _ => true) true 25 v d p) (o : Value.okWide Try.prog W .any base 25 v) :
    Calls Try.prog 7 #[v] W (WorksPost W) := by
  obtain ⟨A, cap, l, rfl, hr, _, hm⟩ := ints_of Try.underlying25 Try.underlying3 cInt k o
  exact law_picks A cap l W hr hm

set_option maxRecDepth 100000 in
theorem pf_once (H : Type) (enc : TypeId × Value → H) (W : World) {base base' : Nat} (v : Value) (d : DataW H) (p : List MemPlace) (k : DataW.Trod enc Try.prog W 0 (fun _ => true) true 58 v d p) (o : Value.okWide Try.prog W .any base 58 v)
    (v' : Value) (d' : DataW H) (p' : List MemPlace) (k' : DataW.Trod enc Try.prog W 0 (fun _ => true) true 25 v' d' p') (o' : Value.okWide Try.prog W .any base' 25 v') :
    Calls Try.prog 8 #[v, v'] W (WorksPost W) := by
  obtain ⟨A, cap, l, rfl, hr, hw, hm⟩ := texts_of Try.underlying58 Try.underlying9 cStr k o
  obtain ⟨A', cap', l', rfl, hr', _, hm'⟩ := ints_of Try.underlying25 Try.underlying3 cInt k' o'
  exact law_once A A' cap cap' l l' W hr hw hm hr' hm'
end Go.Proofs.Ytenohenkedofkaa.ag
