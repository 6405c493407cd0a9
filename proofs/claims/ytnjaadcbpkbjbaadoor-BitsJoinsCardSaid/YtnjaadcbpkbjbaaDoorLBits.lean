/-
  Bits: the law of operations, of arguments as they come in.
-/
import Derived.Test.YtnjaadcbpkbjbaaDoorBtU
import Derived.Test.YtnjaadcbpkbjbaaDoorPar
import Derived.Lib.LaidTab
namespace Go.Proofs.YtnjaadcbpkbjbaaDoor.bt
open Go.RowKit Go.Proofs.YtnjaadcbpkbjbaaDoor.mem

theorem cInt : Tryd.prog.cellsOf 3 = 1 := by kernel_rfl
theorem cOp : Tryd.prog.cellsOf 30 = 2 := by kernel_rfl
theorem opFields : (Tryd.prog.fieldsOf 30).toList.map (fun f => (f.type, f.offset)) = [(3, 0), (3, 1)] := by kernel_rfl
theorem opUnder : Tryd.prog.underlying 30 = some (.struct (Tryd.prog.fieldsOf 30)) := by kernel_rfl

theorem tab_of {w : World} (h : Lib.TabIs Tryd.prog w "math/bits.deBruijn64tab" .u8 (Lib.deBruijn64tab.map Int.ofNat)) : TabB w := fun j hj => by
  have hc := h.cell (g := 0) (by kernel_rfl) j (by simpa using hj)
  rw [hc]
  simp [List.getD, hj]

theorem op_of {H : Type} {enc : TypeId × Value → H} {W : World} (n : Nat) (u v : Value) (y : DataW H × List MemPlace) (h : DataW.trod enc Tryd.prog W 0 (fun _ => true) true n 30 [u, v] = some y) : ∃ x : Int × Int, u = .int .i64 x.1 ∧ v = .int .i64 x.2 ∧ True := by
  obtain ⟨ys, m, _, _, _, hl, hf⟩ := DataW.trod_struct opUnder h
  have hq := opFields
  have hs : (Tryd.prog.fieldsOf 30).size = 2 := by rw [← Array.length_toList, ← List.length_map (f := fun f : Field => (f.type, f.offset)), hq]; rfl
  have f0 : ∃ f, (Tryd.prog.fieldsOf 30)[0]? = some f ∧ f.type = 3 ∧ f.offset = 0 := by
    have := congrArg (fun l => l[0]?) hq
    simp [List.getElem?_map] at this
    exact this
  have f1 : ∃ f, (Tryd.prog.fieldsOf 30)[1]? = some f ∧ f.type = 3 ∧ f.offset = 1 := by
    have := congrArg (fun l => l[1]?) hq
    simp [List.getElem?_map] at this
    exact this
  obtain ⟨g0, a0, b0, c0⟩ := f0
  obtain ⟨g1, a1, b1, c1⟩ := f1
  have h0 := hf 0 g0 a0
  have h1 := hf 1 g1 a1
  have hc : Tryd.prog.cellsOf 3 = 1 := by kernel_rfl
  rw [b0, c0, hc] at h0
  rw [b1, c1, hc] at h1
  have h0 : DataW.trod enc Tryd.prog W 0 (fun _ => true) true m 3 [u] = ys[0]? := h0
  have h1 : DataW.trod enc Tryd.prog W 0 (fun _ => true) true m 3 [v] = ys[1]? := h1
  rw [List.getElem?_eq_getElem (by omega)] at h0 h1
  obtain ⟨x0, e0, _, _⟩ := DataW.trod_int Tryd.underlying3 h0
  obtain ⟨x1, e1, _, _⟩ := DataW.trod_int Tryd.underlying3 h1
  simp only [List.cons.injEq, and_true] at e0 e1
  exact ⟨(x0, x1), e0, e1, trivial⟩

set_option maxRecDepth 100000 in
theorem pf_does (H : Type) (enc : TypeId × Value → H) (W : World) {base : Nat} (v : Value) (d : DataW H) (p : List MemPlace) (k : DataW.Trod enc Tryd.prog W 0 (fun _ => true) true 22 v d p) (o : Value.okWide Tryd.prog W .any base 22 v) (ht : Lib.TabIs Tryd.prog W "math/bits.deBruijn64tab" .u8 (Lib.deBruijn64tab.map Int.ofNat)) :
    Calls Tryd.prog 3 #[v] W (DoesPost W) := by
  obtain ⟨A, cap, l, rfl, hr, _, hm⟩ := row2_of (fun x : Int × Int => .int .i64 x.1) (fun x => .int .i64 x.2) (fun _ => True) Tryd.underlying22 cOp op_of k o
  have hT := tab_of ht
  have h0 : 0 < W.heap.size := lt_of_cell (hT 0 (by decide))
  exact law_does A cap l W (fun hz => by
    obtain ⟨b, off, h1, h2, h3⟩ := hr hz
    exact ⟨b, off, h1, h2, fun j hj => ⟨(h3 j hj).1, (h3 j hj).2⟩⟩) hm hT h0
end Go.Proofs.YtnjaadcbpkbjbaaDoor.bt
