/-
  Types of the shape package, as they lie in memory: a kind, a name, a number, a slice of types.
-/
import Derived.Test.YtmahoppjefhnjaaDoorMem
import Derived.OpenShut
import Derived.Deep.Slices
import Derived.SliceStrings
import Derived.Lib.SmallJoins
namespace Go.Proofs.YtmahoppjefhnjaaDoor.sh
open Go.RowKit Go.ChangeShapes Go.WideShapes

/-- a type -/
inductive Ty where
  | mk (kind : Int) (name : ByteArray) (n : Int) (of : List Ty)

instance : Inhabited Ty := ⟨.mk 0 ByteArray.empty 0 []⟩

def Ty.kind : Ty → Int | .mk k _ _ _ => k
def Ty.name : Ty → ByteArray | .mk _ s _ _ => s
def Ty.num : Ty → Int | .mk _ _ n _ => n
def Ty.of : Ty → List Ty | .mk _ _ _ l => l

/-- four values are a type's, whatever lies behind its slice at most so deep -/
def TyAt (W : World) : Nat → Ty → Value → Value → Value → Value → Prop
  | 0, _, _, _, _, _ => False
  | f + 1, T, v0, v1, v2, v3 => v0 = .int .i64 T.kind ∧ (Lit.int .i64 T.kind).wf = true ∧ v1 = .string T.name ∧ T.name.size ≤ maxLen ∧ v2 = .int .i64 T.num ∧ (Lit.int .i64 T.num).wf = true ∧
      ∃ A cap, v3 = .slice A T.of.length cap ∧ T.of.length ≤ 9223372036854775807 ∧ (0 < T.of.length → ∃ b off, A = some ⟨b, off, none⟩ ∧ b < W.heap.size) ∧
        ∀ j (hj : j < T.of.length) b off, A = some ⟨b, off, none⟩ → ∃ c0 c1 c2 c3, W.cell? ⟨b, off + j * 4, none⟩ = some c0 ∧ W.cell? ⟨b, off + j * 4 + 1, none⟩ = some c1 ∧
          W.cell? ⟨b, off + j * 4 + 2, none⟩ = some c2 ∧ W.cell? ⟨b, off + j * 4 + 3, none⟩ = some c3 ∧ TyAt W f T.of[j] c0 c1 c2 c3

theorem TyAt.kept {W W' : World} (h : Below W.heap.size W W') : ∀ (f : Nat) (T : Ty) (v0 v1 v2 v3 : Value), TyAt W f T v0 v1 v2 v3 → TyAt W' f T v0 v1 v2 v3
  | 0, _, _, _, _, _, ht => ht.elim
  | f + 1, T, v0, v1, v2, v3, ht => by
    obtain ⟨h0, h1, h2, h3, h4, h5, A, cap, h6, h7, h8, h9⟩ := ht
    refine ⟨h0, h1, h2, h3, h4, h5, A, cap, h6, h7, fun hz => ?_, fun j hj b off hA => ?_⟩
    · obtain ⟨b, off, hA, hb⟩ := h8 hz
      exact ⟨b, off, hA, Nat.lt_of_lt_of_le hb h.size⟩
    · obtain ⟨c0, c1, c2, c3, k0, k1, k2, k3, k4⟩ := h9 j hj b off hA
      obtain ⟨b', off', hA', hb⟩ := h8 (by omega)
      have : b < W.heap.size := by rw [hA] at hA'; cases hA'; exact hb
      exact ⟨c0, c1, c2, c3, by rw [h.cell this]; exact k0, by rw [h.cell this]; exact k1, by rw [h.cell this]; exact k2, by rw [h.cell this]; exact k3, TyAt.kept h f _ _ _ _ _ k4⟩

/-- what is read so deep is read deeper -/
theorem TyAt.more {W : World} : ∀ (f : Nat) (T : Ty) (v0 v1 v2 v3 : Value), TyAt W f T v0 v1 v2 v3 → ∀ g, f ≤ g → TyAt W g T v0 v1 v2 v3
  | 0, _, _, _, _, _, ht, _, _ => ht.elim
  | f + 1, T, v0, v1, v2, v3, ht, g, hg => by
    obtain ⟨g, rfl⟩ : ∃ g', g = g' + 1 := ⟨g - 1, by omega⟩
    obtain ⟨h0, h1, h2, h3, h4, h5, A, cap, h6, h7, h8, h9⟩ := ht
    refine ⟨h0, h1, h2, h3, h4, h5, A, cap, h6, h7, h8, fun j hj b off hA => ?_⟩
    obtain ⟨c0, c1, c2, c3, k0, k1, k2, k3, k4⟩ := h9 j hj b off hA
    exact ⟨c0, c1, c2, c3, k0, k1, k2, k3, TyAt.more f _ _ _ _ _ k4 g (by omega)⟩

/-- which types of the program's are a type's: its struct's four fields, and the slice of it -/
structure IsTy (P : Program) (t : TypeId) (f0 f1 f2 f3 : Field) : Prop where
  und : P.underlying t = some (.struct #[f0, f1, f2, f3])
  cells : P.cellsOf t = 4
  o0 : f0.offset = 0
  o1 : f1.offset = 1
  o2 : f2.offset = 2
  o3 : f3.offset = 3
  c0 : P.cellsOf f0.type = 1
  c1 : P.cellsOf f1.type = 1
  c2 : P.cellsOf f2.type = 1
  c3 : P.cellsOf f3.type = 1
  u0 : P.underlying f0.type = some (.int .i64)
  u1 : P.underlying f1.type = some .string
  u2 : P.underlying f2.type = some (.int .i64)
  u3 : P.underlying f3.type = some (.slice t)

theorem cell_lt {w : World} {a : Addr} {v : Value} (h : w.cell? a = some v) : a.block < w.heap.size := by
  unfold World.cell? at h
  rcases Nat.lt_or_ge a.block w.heap.size with h1 | h1
  · exact h1
  · rw [Array.getElem?_eq_none h1] at h; cases h

theorem ty_of {P : Program} {t : TypeId} {f0 f1 f2 f3 : Field} {H : Type} {enc : TypeId × Value → H} {W : World} (I : IsTy P t f0 f1 f2 f3) :
    ∀ (n : Nat) (cs : List Value) (y : DataW H × List MemPlace), DataW.trod enc P W 0 (fun _ => true) true n t cs = some y → ∃ T v0 v1 v2 v3, cs = [v0, v1, v2, v3] ∧ TyAt W n T v0 v1 v2 v3 := by
  intro n
  induction n using Nat.strongRecOn with
  | _ n ih =>
  intro cs y h
  obtain ⟨xs, m, hm, _, hl, hlen, hf⟩ := DataW.trod_struct I.und h
  rw [I.cells] at hl
  match cs, hl with
  | [v0, v1, v2, v3], _ =>
  match xs, hlen with
  | [y0, y1, y2, y3], _ =>
  have e0 := hf 0 f0 rfl
  have e1 := hf 1 f1 rfl
  have e2 := hf 2 f2 rfl
  have e3 := hf 3 f3 rfl
  rw [I.o0, I.c0] at e0
  rw [I.o1, I.c1] at e1
  rw [I.o2, I.c2] at e2
  rw [I.o3, I.c3] at e3
  obtain ⟨k, hk, _, wk⟩ := DataW.trod_int I.u0 e0
  obtain ⟨s, hs, _, ws⟩ := DataW.trod_string I.u1 e1
  obtain ⟨z, hz, _, wz⟩ := DataW.trod_int I.u2 e2
  simp only [List.drop_zero, List.drop_succ_cons, List.take_succ_cons, List.take_zero, List.cons.injEq, and_true] at hk hs hz
  subst hk hs hz
  rcases DataW.trod_slice I.u3 e3 with ⟨hc, _⟩ | ⟨a, len, cap, elems, rest, q, hq, hc, _, _, hle, hcap, hel, hat, _⟩
  · simp only [List.drop_zero, List.drop_succ_cons, List.take_succ_cons, List.take_zero, List.cons.injEq, and_true] at hc
    subst hc hm
    exact ⟨.mk k s z [], _, _, _, _, rfl, rfl, wk, rfl, ws, rfl, wz, none, 0, rfl, by simp [Ty.of], fun hz => by simp [Ty.of] at hz, fun j hj => by simp [Ty.of] at hj⟩
  · simp only [List.drop_zero, List.drop_succ_cons, List.take_succ_cons, List.take_zero, List.cons.injEq, and_true] at hc
    subst hc hm hq
    have each : ∀ i, i < len → ∃ T : Ty, ∃ c0 c1 c2 c3, W.cell? (a.add (i * 4)) = some c0 ∧ W.cell? (a.add (i * 4 + 1)) = some c1 ∧ W.cell? (a.add (i * 4 + 2)) = some c2 ∧ W.cell? (a.add (i * 4 + 3)) = some c3 ∧ TyAt W q T c0 c1 c2 c3 := by
      intro i hi
      have hh := hat i hi
      rw [I.cells, List.getElem?_eq_getElem (by omega)] at hh
      obtain ⟨cs', h1, h2⟩ := Option.bind_eq_some_iff.1 hh
      obtain ⟨T, c0, c1, c2, c3, rfl, hT⟩ := ih q (by omega) _ _ h2
      obtain ⟨_, _, hcl⟩ := World.cells?_some h1
      have g0 := hcl 0 (by omega)
      have g1 := hcl 1 (by omega)
      have g2 := hcl 2 (by omega)
      have g3 := hcl 3 (by omega)
      rw [Go.Deep.add_add] at g0 g1 g2 g3
      exact ⟨T, c0, c1, c2, c3, by simpa using g0, by simpa using g1, by simpa using g2, by simpa using g3, hT⟩
    obtain ⟨X, hX⟩ := Go.Deep.choose_lt each
    refine ⟨.mk k s z ((List.range len).map X), _, _, _, _, rfl, rfl, wk, rfl, ws, rfl, wz, some a, cap, by simp [Ty.of], by simp only [Ty.of, List.length_map, List.length_range]; unfold maxLen at hcap; omega, fun hz => ?_, fun j hj b off hA => ?_⟩
    · simp only [Ty.of, List.length_map, List.length_range] at hz
      obtain ⟨c0, _, _, _, h0, _⟩ := hX 0 hz
      obtain ⟨b, off, spot⟩ := a
      have hs : spot = none := by simpa [Addr.add] using World.cell?_spot h0
      subst hs
      exact ⟨b, off, rfl, by have := cell_lt h0; simpa [Addr.add] using this⟩
    · simp only [Ty.of, List.length_map, List.length_range] at hj
      cases hA
      obtain ⟨c0, c1, c2, c3, h0, h1, h2, h3, h4⟩ := hX j hj
      rw [Go.WideShapes.add_plain] at h0 h1 h2 h3
      refine ⟨c0, c1, c2, c3, h0, by rw [Nat.add_assoc]; exact h1, by rw [Nat.add_assoc]; exact h2, by rw [Nat.add_assoc]; exact h3, ?_⟩
      have h5 := TyAt.more _ _ _ _ _ _ h4 (q + 1) (by omega)
      simpa [Ty.of] using h5

/-- an argument that is a type -/
theorem ty_arg {P : Program} {t : TypeId} {f0 f1 f2 f3 : Field} {H : Type} {enc : TypeId × Value → H} {W : World} {v : Value} {d : DataW H} {ps : List MemPlace} (I : IsTy P t f0 f1 f2 f3)
    (k : DataW.Trod enc P W 0 (fun _ => true) true t v d ps) : ∃ n T v0 v1 v2 v3, v.cells.toList = [v0, v1, v2, v3] ∧ TyAt W n T v0 v1 v2 v3 := by
  obtain ⟨n, hn⟩ := k
  obtain ⟨T, v0, v1, v2, v3, h1, h2⟩ := ty_of I n _ _ hn
  exact ⟨n, T, v0, v1, v2, v3, h1, h2⟩
end Go.Proofs.YtmahoppjefhnjaaDoor.sh
