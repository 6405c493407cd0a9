/-
  varint: arguments as they come in: a slice of structs of a bool, a number, a text.
-/
import Derived.Test.YtidmcifckbpgbaaVr9
import Derived.Test.YtidmcifckbpgbaaPar
namespace Go.Proofs.Ytidmcifckbpgbaa.vr
open Go.RowKit Go.ChangeShapes Go.WideShapes Go.Proofs.Ytidmcifckbpgbaa.mem

/-- a slice whose elements have three cells each -/
theorem row3_of {P : Program} {t e : TypeId} {H : Type} {enc : TypeId × Value → H} {W : World} {v : Value} {d : DataW H} {ps : List MemPlace} {base : Nat} {α : Type} [Inhabited α] (f g k' : α → Value)
    (ht : P.underlying t = some (.slice e)) (hc : P.cellsOf e = 3) (hf : ∀ (n : Nat) (u v z : Value) (y : DataW H × List MemPlace), DataW.trod enc P W 0 (fun _ => true) true n e [u, v, z] = some y → ∃ x, u = f x ∧ v = g x ∧ z = k' x)
    (k : DataW.Trod enc P W 0 (fun _ => true) true t v d ps) (o : Value.okWide P W .any base t v) : ∃ (A : Option Addr) (cap : Nat) (xs : List α), v = .slice A xs.length cap ∧ (0 < xs.length → ∃ b off, A = some ⟨b, off, none⟩ ∧ b < W.heap.size ∧ ∀ j (hj : j < xs.length), W.cell? ⟨b, off + j * 3, none⟩ = some (f xs[j]) ∧ W.cell? ⟨b, off + j * 3 + 1, none⟩ = some (g xs[j]) ∧ W.cell? ⟨b, off + j * 3 + 2, none⟩ = some (k' xs[j])) ∧ xs.length ≤ 9223372036854775807 := by
  obtain ⟨a0, len, cap, rfl⟩ := okWide_slice ht o
  obtain ⟨fuel, hk⟩ := k
  rcases Go.Deep.open_slice ht hk with ⟨hcs, _⟩ | ⟨a, l, c, m, n, D, Pl, hcs, _, hl, hm, hmm, _, hx⟩
  · simp [Value.cells] at hcs
    obtain ⟨rfl, rfl, rfl⟩ := hcs
    exact ⟨none, 0, [], rfl, fun h => by simp at h, by simp⟩
  · simp [Value.cells] at hcs
    obtain ⟨rfl, rfl, rfl⟩ := hcs
    simp only [if_true] at hmm
    subst hmm
    rw [hc] at hx
    obtain ⟨X, hX⟩ := Go.Deep.choose_lt (α := α) (p := fun i x => W.cell? (a.add (i * 3)) = some (f x) ∧ W.cell? (a.add (i * 3 + 1)) = some (g x) ∧ W.cell? (a.add (i * 3 + 2)) = some (k' x)) (n := m) (fun i hi => by
      obtain ⟨cs', h1, h2⟩ := hx i hi
      obtain ⟨_, hcl, hat⟩ := World.cells?_some h1
      match cs', hcl with
      | [u, v, z], _ =>
        obtain ⟨x, rfl, rfl, rfl⟩ := hf n _ _ _ _ h2
        have h0 := hat 0 (by omega)
        have h1 := hat 1 (by omega)
        have h2 := hat 2 (by omega)
        rw [Go.Deep.add_add] at h0 h1 h2
        exact ⟨x, by simpa using h0, by simpa using h1, by simpa using h2⟩)
    refine ⟨some a, m, (List.range len).map X, by simp, fun hz => ?_, by simp; unfold maxLen at hm; omega⟩
    simp only [List.length_map, List.length_range] at hz
    have h0 := (hX 0 (by omega)).1
    obtain ⟨b, off, spot⟩ := a
    have hs : spot = none := by simpa [Addr.add] using World.cell?_spot h0
    subst hs
    refine ⟨b, off, rfl, by have := lt_of_cell h0; simpa [Addr.add] using this, fun j hj => ?_⟩
    simp only [List.length_map, List.length_range] at hj
    obtain ⟨h1, h2, h3⟩ := hX j (by omega)
    rw [Go.WideShapes.add_plain] at h1 h2 h3
    rw [Nat.add_assoc, Nat.add_assoc]
    simpa using ⟨h1, h2, h3⟩

theorem putFields : (Try.prog.fieldsOf 34).toList.map (fun f => (f.type, f.offset)) = [(4, 0), (3, 1), (9, 2)] := by kernel_rfl
theorem putUnder : Try.prog.underlying 34 = some (.struct (Try.prog.fieldsOf 34)) := by kernel_rfl
theorem cInt : Try.prog.cellsOf 3 = 1 := by kernel_rfl
theorem cStr : Try.prog.cellsOf 9 = 1 := by kernel_rfl
theorem cBool : Try.prog.cellsOf 4 = 1 := by kernel_rfl
theorem cPut : Try.prog.cellsOf 34 = 3 := by kernel_rfl

theorem put_of {H : Type} {enc : TypeId × Value → H} {W : World} (n : Nat) (u v z : Value) (y : DataW H × List MemPlace) (h : DataW.trod enc Try.prog W 0 (fun _ => true) true n 34 [u, v, z] = some y) : ∃ x : PutT, u = .bool x.1 ∧ v = .int .i64 x.2.1 ∧ z = .string x.2.2 := by
  obtain ⟨ys, m, _, _, _, hl, hf⟩ := DataW.trod_struct putUnder h
  have hq := putFields
  have hs : (Try.prog.fieldsOf 34).size = 3 := by rw [← Array.length_toList, ← List.length_map (f := fun f : Field => (f.type, f.offset)), hq]; rfl
  have f0 : ∃ f, (Try.prog.fieldsOf 34)[0]? = some f ∧ f.type = 4 ∧ f.offset = 0 := by
    have := congrArg (fun l => l[0]?) hq
    simp [List.getElem?_map] at this
    exact this
  have f1 : ∃ f, (Try.prog.fieldsOf 34)[1]? = some f ∧ f.type = 3 ∧ f.offset = 1 := by
    have := congrArg (fun l => l[1]?) hq
    simp [List.getElem?_map] at this
    exact this
  have f2 : ∃ f, (Try.prog.fieldsOf 34)[2]? = some f ∧ f.type = 9 ∧ f.offset = 2 := by
    have := congrArg (fun l => l[2]?) hq
    simp [List.getElem?_map] at this
    exact this
  obtain ⟨g0, a0, b0, c0⟩ := f0
  obtain ⟨g1, a1, b1, c1⟩ := f1
  obtain ⟨g2, a2, b2, c2⟩ := f2
  have h0 := hf 0 g0 a0
  have h1 := hf 1 g1 a1
  have h2 := hf 2 g2 a2
  rw [b0, c0, cBool] at h0
  rw [b1, c1, cInt] at h1
  rw [b2, c2, cStr] at h2
  have h0 : DataW.trod enc Try.prog W 0 (fun _ => true) true m 4 [u] = ys[0]? := h0
  have h1 : DataW.trod enc Try.prog W 0 (fun _ => true) true m 3 [v] = ys[1]? := h1
  have h2 : DataW.trod enc Try.prog W 0 (fun _ => true) true m 9 [z] = ys[2]? := h2
  rw [List.getElem?_eq_getElem (by omega)] at h0 h1 h2
  obtain ⟨x0, e0, _⟩ := DataW.trod_bool Try.underlying4 h0
  obtain ⟨x1, e1, _, _⟩ := DataW.trod_int Try.underlying3 h1
  obtain ⟨x2, e2, _, _⟩ := DataW.trod_string Try.underlying9 h2
  simp only [List.cons.injEq, and_true] at e0 e1 e2
  exact ⟨(x0, x1, x2), e0, e1, e2⟩

set_option maxRecDepth 100000 in
theorem puts_of {H : Type} {enc : TypeId × Value → H} {W : World} {base : Nat} (v : Value) (d : DataW H) (p : List MemPlace) (k : DataW.Trod enc Try.prog W 0 (fun _ => true) true 28 v d p) (o : Value.okWide Try.prog W .any base 28 v) :
    ∃ (A : Option Addr) (cap : Nat) (l : List PutT), v = .slice A l.length cap ∧ Puts W A l ∧ l.length ≤ 9223372036854775807 := by
  have : Inhabited PutT := ⟨(false, 0, ⟨#[]⟩)⟩
  obtain ⟨A, cap, l, rfl, hr, hm⟩ := row3_of (fun x : PutT => .bool x.1) (fun x => .int .i64 x.2.1) (fun x => .string x.2.2) Try.underlying28 cPut put_of k o
  exact ⟨A, cap, l, rfl, hr, hm⟩
end Go.Proofs.Ytidmcifckbpgbaa.vr
