/-
  forest: the laws, of arguments as they come in.
-/
import Derived.Test.YtenohenkedofkaaFo15
import Derived.Test.YtenohenkedofkaaFo13
import Derived.Test.YtenohenkedofkaaPar
namespace Go.Proofs.Ytenohenkedofkaa.fo
open Go.RowKit Go.Proofs.Ytenohenkedofkaa.mem

theorem cInt : Try.prog.cellsOf 3 = 1 := by kernel_rfl
theorem cPair : Try.prog.cellsOf 29 = 2 := by kernel_rfl
theorem uPair : Try.prog.underlying 29 = some (.array 2 3) := by kernel_rfl

theorem pair_of {H : Type} {enc : TypeId × Value → H} {W : World} (n : Nat) (u v : Value) (y : DataW H × List MemPlace) (h : DataW.trod enc Try.prog W 0 (fun _ => true) true n 29 [u, v] = some y) : ∃ x : Int × Int, u = .int .i64 x.1 ∧ v = .int .i64 x.2 ∧ True := by
  obtain ⟨ys, m, _, _, _, hl, hf⟩ := DataW.trod_array uPair h
  have h0 := hf 0 (by omega)
  have h1 := hf 1 (by omega)
  rw [cInt] at h0 h1
  have h0 : DataW.trod enc Try.prog W 0 (fun _ => true) true m 3 [u] = ys[0]? := h0
  have h1 : DataW.trod enc Try.prog W 0 (fun _ => true) true m 3 [v] = ys[1]? := h1
  rw [List.getElem?_eq_getElem (by omega)] at h0 h1
  obtain ⟨x0, e0, _, _⟩ := DataW.trod_int Try.underlying3 h0
  obtain ⟨x1, e1, _, _⟩ := DataW.trod_int Try.underlying3 h1
  simp only [List.cons.injEq, and_true] at e0 e1
  exact ⟨(x0, x1), e0, e1, trivial⟩

set_option maxRecDepth 100000 in
theorem pairs_of {H : Type} {enc : TypeId × Value → H} {W : World} {base : Nat} (v : Value) (d : DataW H) (p : List MemPlace) (k : DataW.Trod enc Try.prog W 0 (fun _ => true) true 22 v d p) (o : Value.okWide Try.prog W .any base 22 v) :
    ∃ (A : Option Addr) (cap : Nat) (l : List (Int × Int)), v = .slice A l.length cap ∧ Prs W A l ∧ l.length ≤ 9223372036854775807 := by
  obtain ⟨A, cap, l, rfl, hr, _, hm⟩ := row2_of (fun x : Int × Int => .int .i64 x.1) (fun x => .int .i64 x.2) (fun _ => True) Try.underlying22 cPair pair_of k o
  refine ⟨A, cap, l, rfl, fun hz => ?_, hm⟩
  obtain ⟨b, off, h1, h2, h3⟩ := hr hz
  exact ⟨b, off, h1, h2, fun j hj => ⟨(h3 j hj).1, (h3 j hj).2⟩⟩

theorem pf_nil (a : Int) (wa : (Lit.int .i64 a).wf = true) (b : Int) (wb : (Lit.int .i64 b).wf = true) (W : World) : Calls Try.prog 4 #[.int .i64 a, .int .i64 b] W (WorksPost W) := law_nil a b W

set_option maxRecDepth 100000 in
theorem pf_order (H : Type) (enc : TypeId × Value → H) (W : World) {base : Nat} (n : Int) (wn : (Lit.int .i64 n).wf = true) (v : Value) (d : DataW H) (p : List MemPlace) (k : DataW.Trod enc Try.prog W 0 (fun _ => true) true 22 v d p) (o : Value.okWide Try.prog W .any base 22 v) :
    Calls Try.prog 5 #[.int .i64 n, v] W (WorksPost W) := by
  obtain ⟨A, cap, l, rfl, hr, hm⟩ := pairs_of v d p k o
  exact law_order n A cap l W hr hm

set_option maxRecDepth 100000 in
theorem pf_does (H : Type) (enc : TypeId × Value → H) (W : World) {base : Nat} (n : Int) (wn : (Lit.int .i64 n).wf = true) (v : Value) (d : DataW H) (p : List MemPlace) (k : DataW.Trod enc Try.prog W 0 (fun _ => true) true 22 v d p) (o : Value.okWide Try.prog W .any base 22 v) (ask : Int) (wa : (Lit.int .i64 ask).wf = true) :
    Calls Try.prog 3 #[.int .i64 n, v, .int .i64 ask] W (WorksPost W) := by
  obtain ⟨A, cap, l, rfl, hr, hm⟩ := pairs_of v d p k o
  exact law_does n A cap l ask W hr hm
end Go.Proofs.Ytenohenkedofkaa.fo
