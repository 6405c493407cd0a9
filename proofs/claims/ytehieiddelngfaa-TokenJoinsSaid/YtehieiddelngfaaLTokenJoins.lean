/-
  token: the law on tokens that are joined, of an argument as it comes in.
-/
import Derived.Test.YtehieiddelngfaaTkB
import Derived.Test.YtehieiddelngfaaPar
import Derived.Test.YtehieiddelngfaaLTokenAll
namespace Go.Proofs.Ytehieiddelngfaa.tk
open Go.RowKit Go.ChangeShapes Go.WideShapes Go.Proofs.Ytehieiddelngfaa.dg Go.Proofs.Ytehieiddelngfaa.mem

/-- a slice whose elements have three cells each -/
theorem row3_of {P : Program} {t e : TypeId} {H : Type} {enc : TypeId × Value → H} {W : World} {v : Value} {d : DataW H} {ps : List MemPlace} {base : Nat} {α : Type} [Inhabited α] (f g k' : α → Value) (Q : α → Prop)
    (ht : P.underlying t = some (.slice e)) (hc : P.cellsOf e = 3) (hf : ∀ (n : Nat) (u v z : Value) (y : DataW H × List MemPlace), DataW.trod enc P W 0 (fun _ => true) true n e [u, v, z] = some y → ∃ x, u = f x ∧ v = g x ∧ z = k' x ∧ Q x)
    (k : DataW.Trod enc P W 0 (fun _ => true) true t v d ps) (o : Value.okWide P W .any base t v) : ∃ (A : Option Addr) (cap : Nat) (xs : List α), v = .slice A xs.length cap ∧ (0 < xs.length → ∃ b off, A = some ⟨b, off, none⟩ ∧ b < W.heap.size ∧ ∀ j (hj : j < xs.length), W.cell? ⟨b, off + j * 3, none⟩ = some (f xs[j]) ∧ W.cell? ⟨b, off + j * 3 + 1, none⟩ = some (g xs[j]) ∧ W.cell? ⟨b, off + j * 3 + 2, none⟩ = some (k' xs[j])) ∧ (∀ x ∈ xs, Q x) ∧ xs.length ≤ 9223372036854775807 := by
  obtain ⟨a0, len, cap, rfl⟩ := okWide_slice ht o
  obtain ⟨fuel, hk⟩ := k
  rcases Go.Deep.open_slice ht hk with ⟨hcs, _⟩ | ⟨a, l, c, m, n, D, Pl, hcs, _, hl, hm, hmm, _, hx⟩
  · simp [Value.cells] at hcs
    obtain ⟨rfl, rfl, rfl⟩ := hcs
    exact ⟨none, 0, [], rfl, fun h => by simp at h, by simp, by simp⟩
  · simp [Value.cells] at hcs
    obtain ⟨rfl, rfl, rfl⟩ := hcs
    simp only [if_true] at hmm
    subst hmm
    rw [hc] at hx
    obtain ⟨X, hX⟩ := Go.Deep.choose_lt (α := α) (p := fun i x => W.cell? (a.add (i * 3)) = some (f x) ∧ W.cell? (a.add (i * 3 + 1)) = some (g x) ∧ W.cell? (a.add (i * 3 + 2)) = some (k' x) ∧ Q x) (n := m) (fun i hi => by
      obtain ⟨cs', h1, h2⟩ := hx i hi
      obtain ⟨_, hcl, hat⟩ := World.cells?_some h1
      match cs', hcl with
      | [u, v, z], _ =>
        obtain ⟨x, rfl, rfl, rfl, hq⟩ := hf n _ _ _ _ h2
        have h0 := hat 0 (by omega)
        have h1 := hat 1 (by omega)
        have h2 := hat 2 (by omega)
        rw [Go.Deep.add_add] at h0 h1 h2
        exact ⟨x, by simpa using h0, by simpa using h1, by simpa using h2, hq⟩)
    refine ⟨some a, m, (List.range len).map X, by simp, fun hz => ?_, fun x hx' => ?_, by simp; unfold maxLen at hm; omega⟩
    rotate_left
    · obtain ⟨i, hi, rfl⟩ := List.mem_map.1 hx'
      exact (hX i (by have := List.mem_range.1 hi; omega)).2.2.2
    simp only [List.length_map, List.length_range] at hz
    have h0 := (hX 0 (by omega)).1
    obtain ⟨b, off, spot⟩ := a
    have hs : spot = none := by simpa [Addr.add] using World.cell?_spot h0
    subst hs
    refine ⟨b, off, rfl, by have := lt_of_cell h0; simpa [Addr.add] using this, fun j hj => ?_⟩
    simp only [List.length_map, List.length_range] at hj
    obtain ⟨h1, h2, h3, _⟩ := hX j (by omega)
    rw [Go.WideShapes.add_plain] at h1 h2 h3
    rw [Nat.add_assoc, Nat.add_assoc]
    simpa using ⟨h1, h2, h3⟩

theorem rtFields : (Try.prog.fieldsOf 60).toList.map (fun f => (f.type, f.offset)) = [(3, 0), (9, 1), (3, 2)] := by kernel_rfl
theorem rtUnder : Try.prog.underlying 60 = some (.struct (Try.prog.fieldsOf 60)) := by kernel_rfl
theorem cInt : Try.prog.cellsOf 3 = 1 := by kernel_rfl
theorem cStr : Try.prog.cellsOf 9 = 1 := by kernel_rfl
theorem cTok : Try.prog.cellsOf 60 = 3 := by kernel_rfl

theorem rt_of {H : Type} {enc : TypeId × Value → H} {W : World} (n : Nat) (u v z : Value) (y : DataW H × List MemPlace) (h : DataW.trod enc Try.prog W 0 (fun _ => true) true n 60 [u, v, z] = some y) : ∃ x : GT, u = .int .i64 x.1 ∧ v = .string x.2.1 ∧ z = .int .i64 x.2.2 ∧ x.2.1.size ≤ maxLen := by
  obtain ⟨ys, m, _, _, _, hl, hf⟩ := DataW.trod_struct rtUnder h
  have hq := rtFields
  have hs : (Try.prog.fieldsOf 60).size = 3 := by rw [← Array.length_toList, ← List.length_map (f := fun f : Field => (f.type, f.offset)), hq]; rfl
  have f0 : ∃ f, (Try.prog.fieldsOf 60)[0]? = some f ∧ f.type = 3 ∧ f.offset = 0 := by
    have := congrArg (fun l => l[0]?) hq
    simp [List.getElem?_map] at this
    exact this
  have f1 : ∃ f, (Try.prog.fieldsOf 60)[1]? = some f ∧ f.type = 9 ∧ f.offset = 1 := by
    have := congrArg (fun l => l[1]?) hq
    simp [List.getElem?_map] at this
    exact this
  have f2 : ∃ f, (Try.prog.fieldsOf 60)[2]? = some f ∧ f.type = 3 ∧ f.offset = 2 := by
    have := congrArg (fun l => l[2]?) hq
    simp [List.getElem?_map] at this
    exact this
  obtain ⟨g0, a0, b0, c0⟩ := f0
  obtain ⟨g1, a1, b1, c1⟩ := f1
  obtain ⟨g2, a2, b2, c2⟩ := f2
  have h0 := hf 0 g0 a0
  have h1 := hf 1 g1 a1
  have h2 := hf 2 g2 a2
  rw [b0, c0, cInt] at h0
  rw [b1, c1, cStr] at h1
  rw [b2, c2, cInt] at h2
  have h0 : DataW.trod enc Try.prog W 0 (fun _ => true) true m 3 [u] = ys[0]? := h0
  have h1 : DataW.trod enc Try.prog W 0 (fun _ => true) true m 9 [v] = ys[1]? := h1
  have h2 : DataW.trod enc Try.prog W 0 (fun _ => true) true m 3 [z] = ys[2]? := h2
  rw [List.getElem?_eq_getElem (by omega)] at h0 h1 h2
  obtain ⟨x0, e0, _, _⟩ := DataW.trod_int Try.underlying3 h0
  obtain ⟨x1, e1, _, w1⟩ := DataW.trod_string Try.underlying9 h1
  obtain ⟨x2, e2, _, _⟩ := DataW.trod_int Try.underlying3 h2
  simp only [List.cons.injEq, and_true] at e0 e1 e2
  exact ⟨(x0, x1, x2), e0, e1, e2, w1⟩

set_option maxRecDepth 100000 in
theorem pf_joins (H : Type) (enc : TypeId × Value → H) (W : World) {base : Nat} (v : Value) (d : DataW H) (p : List MemPlace) (k : DataW.Trod enc Try.prog W 0 (fun _ => true) true 54 v d p) (o : Value.okWide Try.prog W .any base 54 v) (hsh : W.ShapedOpen Try.prog) :
    Calls Try.prog 7 #[v] W (WorksPost W) := by
  have : Inhabited GT := ⟨(0, ⟨#[]⟩, 0)⟩
  obtain ⟨A, cap, l, rfl, hr, hq, hm⟩ := row3_of (fun x : GT => .int .i64 x.1) (fun x => .string x.2.1) (fun x => .int .i64 x.2.2) (fun x => x.2.1.size ≤ maxLen) Try.underlying54 cTok rt_of k o
  exact law_joins W A cap l hr hm hq (max_of hsh)
end Go.Proofs.Ytehieiddelngfaa.tk
