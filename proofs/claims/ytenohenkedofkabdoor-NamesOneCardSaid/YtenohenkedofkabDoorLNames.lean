/-
  names: the statements' arguments as they come in.
-/
import Derived.Test.YtenohenkedofkabDoorNm3
import Derived.Test.YtenohenkedofkabDoorNmE
import Derived.Test.YtenohenkedofkabDoorLNamesTexts
import Derived.OpenShut
namespace Go.Proofs.YtenohenkedofkabDoor.nm
open Go.RowKit Go.Sort Go.ChangeShapes Go.WideShapes

theorem rFields : (Tryd.prog.fieldsOf 23).toList.map (fun f => (f.type, f.offset)) = [(3, 0), (9, 1), (3, 2), (9, 3), (3, 4), (3, 5)] := by kernel_rfl
theorem rUnder : Tryd.prog.underlying 23 = some (.struct (Tryd.prog.fieldsOf 23)) := by kernel_rfl
theorem rCells : Tryd.prog.cellsOf 23 = 6 := by kernel_rfl
theorem iCells : Tryd.prog.cellsOf 3 = 1 := by kernel_rfl
theorem sCells : Tryd.prog.cellsOf 9 = 1 := by kernel_rfl

theorem field_at {fs : Array Field} {l : List (TypeId × Nat)} (h : fs.toList.map (fun f => (f.type, f.offset)) = l) (j : Nat) {t : TypeId} {o : Nat} (hj : l[j]? = some (t, o)) : ∃ f, fs[j]? = some f ∧ f.type = t ∧ f.offset = o := by
  rw [← h, List.getElem?_map] at hj
  obtain ⟨f, hf, e⟩ := Option.map_eq_some_iff.1 hj
  simp only [Prod.mk.injEq] at e
  exact ⟨f, by simpa using hf, e.1, e.2⟩

set_option maxRecDepth 100000 in
/-- a node that came in -/
theorem nd_of {H : Type} {enc : TypeId × Value → H} {W : World} {base : Nat} {v : Value} {d : DataW H} {p : List MemPlace} (k : DataW.Trod enc Tryd.prog W 0 (fun _ => true) true 23 v d p) (o : Value.okWide Tryd.prog W .any base 23 v) :
    ∃ nd : Nd, v = nd.val ∧ nd.fn.size ≤ maxLen ∧ nd.name.size ≤ maxLen := by
  obtain ⟨cs, rfl, hsz⟩ := okWide_struct rUnder o
  rw [rCells] at hsz
  obtain ⟨n, hk⟩ := k
  obtain ⟨ys, m, _, _, _, hl, hf⟩ := DataW.trod_struct rUnder hk
  have hfs : (Tryd.prog.fieldsOf 23).size = 6 := by rw [← Array.length_toList, ← List.length_map (f := fun f : Field => (f.type, f.offset)), rFields]; rfl
  obtain ⟨l⟩ := cs
  match l, hsz with
  | [c0, c1, c2, c3, c4, c5], _ =>
    obtain ⟨g0, a0, b0, o0⟩ := field_at rFields 0 rfl
    obtain ⟨g1, a1, b1, o1⟩ := field_at rFields 1 rfl
    obtain ⟨g2, a2, b2, o2⟩ := field_at rFields 2 rfl
    obtain ⟨g3, a3, b3, o3⟩ := field_at rFields 3 rfl
    obtain ⟨g4, a4, b4, o4⟩ := field_at rFields 4 rfl
    obtain ⟨g5, a5, b5, o5⟩ := field_at rFields 5 rfl
    have h0 := hf 0 g0 a0
    have h1 := hf 1 g1 a1
    have h2 := hf 2 g2 a2
    have h3 := hf 3 g3 a3
    have h4 := hf 4 g4 a4
    have h5 := hf 5 g5 a5
    rw [b0, o0, iCells] at h0
    rw [b1, o1, sCells] at h1
    rw [b2, o2, iCells] at h2
    rw [b3, o3, sCells] at h3
    rw [b4, o4, iCells] at h4
    rw [b5, o5, iCells] at h5
    have h0 : DataW.trod enc Tryd.prog W 0 (fun _ => true) true m 3 [c0] = ys[0]? := h0
    have h1 : DataW.trod enc Tryd.prog W 0 (fun _ => true) true m 9 [c1] = ys[1]? := h1
    have h2 : DataW.trod enc Tryd.prog W 0 (fun _ => true) true m 3 [c2] = ys[2]? := h2
    have h3 : DataW.trod enc Tryd.prog W 0 (fun _ => true) true m 9 [c3] = ys[3]? := h3
    have h4 : DataW.trod enc Tryd.prog W 0 (fun _ => true) true m 3 [c4] = ys[4]? := h4
    have h5 : DataW.trod enc Tryd.prog W 0 (fun _ => true) true m 3 [c5] = ys[5]? := h5
    rw [List.getElem?_eq_getElem (by omega)] at h0 h1 h2 h3 h4 h5
    obtain ⟨x0, e0, _, _⟩ := DataW.trod_int Tryd.underlying3 h0
    obtain ⟨x1, e1, _, w1⟩ := DataW.trod_string Tryd.underlying9 h1
    obtain ⟨x2, e2, _, _⟩ := DataW.trod_int Tryd.underlying3 h2
    obtain ⟨x3, e3, _, w3⟩ := DataW.trod_string Tryd.underlying9 h3
    obtain ⟨x4, e4, _, _⟩ := DataW.trod_int Tryd.underlying3 h4
    obtain ⟨x5, e5, _, _⟩ := DataW.trod_int Tryd.underlying3 h5
    simp only [List.cons.injEq, and_true] at e0 e1 e2 e3 e4 e5
    subst e0 e1 e2 e3 e4 e5
    exact ⟨⟨x0, x1, x2, x3, x4, x5⟩, rfl, w1, w3⟩

set_option maxRecDepth 100000 in
theorem pf_texts (H : Type) (enc : TypeId × Value → H) (W : World) {base : Nat} (v : Value) (d : DataW H) (p : List MemPlace) (k : DataW.Trod enc Tryd.prog W 0 (fun _ => true) true 23 v d p) (o : Value.okWide Tryd.prog W .any base 23 v) (htab : Tab W) :
    Calls Tryd.prog 3 #[v] W (WorksPost W) := by
  obtain ⟨nd, rfl, h1, h2⟩ := nd_of k o
  exact law_texts held heldE nd W h1 h2 htab
end Go.Proofs.YtenohenkedofkabDoor.nm
