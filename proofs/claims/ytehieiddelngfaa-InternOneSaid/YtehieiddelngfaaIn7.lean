/-
  intern: a table of numbers in memory; Len, Put.
-/
import Derived.Test.YtehieiddelngfaaIn6
import Derived.Maps.OwnSet
import Derived.Maps.Views
import Derived.Outline
import Derived.WalkSpells
namespace Go.Proofs.Ytehieiddelngfaa.inn
open Go.RowKit Go.Proofs.Ytehieiddelngfaa.mem

def WF (x : Int) : Prop := (Lit.int .i64 x).wf = true
def vals (xs : List Int) : List Value := xs.map (Value.int .i64)
theorem vals_len (xs : List Int) : (vals xs).length = xs.length := by simp [vals]

/-- the number that a map answers -/
def noOf (xs : List Int) (x : Int) : Nat := if x ∈ xs then xs.idxOf x else 0

def Reads (D : DataW Unit) (xs : List Int) : Prop := ∀ x, WF x → Maps.has D (.int .i64 x) = decide (x ∈ xs) ∧ D.atKey (.int .i64 x) (.lit (.int .i64 0)) = .lit (.int .i64 (noOf xs x : Nat))

def Held (w : World) (m : Option Nat) (N : Nat) (xs : List Int) : Prop :=
  (m = none ∧ xs = []) ∨ ∃ b D, m = some b ∧ w.ownsMap (H := Unit) Try.prog 3 (plainElem Try.prog 3) b N D ∧ Reads D xs

/-- a table in a block -/
structure Tb (w : World) (b : Nat) (A : Option Addr) (cap : Nat) (m : Option Nat) (N : Nat) (xs : List Int) : Prop where
  box : Box w b 43 #[.map m, .slice A xs.length cap]
  seg : Seg w 3 A cap (vals xs)
  set : Held w m N xs
  nod : xs.Nodup
  wf : ∀ x ∈ xs, WF x
  len : xs.length ≤ N

def foot (b : Nat) (A : Option Addr) (m : Option Nat) : List Nat := b :: (blk A ++ m.toList)

theorem Held.lt {w : World} {m : Option Nat} {N : Nat} {xs : List Int} (h : Held w m N xs) : ∀ g ∈ m.toList, g < w.heap.size := by
  intro g hg
  rcases h with ⟨rfl, _⟩ | ⟨b, D, rfl, ho, _⟩
  · simp at hg
  · simp at hg; subst hg; exact ho.lt

theorem Held.kept {F : List Nat} {w w' : World} {m : Option Nat} {N : Nat} {xs : List Int} (h : Held w m N xs) (hf : Fr F w w') (hd : ∀ g ∈ m.toList, g ∉ F) : Held w' m N xs := by
  rcases h with ⟨rfl, h⟩ | ⟨b, D, rfl, ho, h⟩
  · exact Or.inl ⟨rfl, h⟩
  · right
    obtain ⟨es, clock, hb, r⟩ := ho
    exact ⟨b, D, rfl, ⟨es, clock, (hf.block b (Array.getElem?_eq_some_iff.1 hb).1 (hd b (by simp))).trans hb, r⟩, h⟩

theorem Held.mono {w : World} {m : Option Nat} {N N' : Nat} {xs : List Int} (h : Held w m N xs) (hN : N ≤ N') : Held w m N' xs := by
  rcases h with h | ⟨b, D, rfl, ho, h⟩
  · exact Or.inl h
  · exact Or.inr ⟨b, D, rfl, ho.mono hN, h⟩

theorem Tb.lt {w : World} {b : Nat} {A : Option Addr} {cap : Nat} {m : Option Nat} {N : Nat} {xs : List Int} (h : Tb w b A cap m N xs) : ∀ g ∈ foot b A m, g < w.heap.size := by
  intro g hg
  simp only [foot, List.mem_cons, List.mem_append] at hg
  rcases hg with rfl | hg | hg
  · exact h.box.lt
  · exact h.seg.lt g hg
  · exact h.set.lt g hg

theorem Tb.kept {F : List Nat} {w w' : World} {b : Nat} {A : Option Addr} {cap : Nat} {m : Option Nat} {N : Nat} {xs : List Int} (h : Tb w b A cap m N xs) (hf : Fr F w w') (hd : ∀ g ∈ foot b A m, g ∉ F) : Tb w' b A cap m N xs :=
  ⟨h.box.kept hf (hd b (by simp [foot])), h.seg.kept hf (fun g hg => hd g (by simp [foot, hg])), h.set.kept hf (fun g hg => hd g (by simp only [foot, List.mem_cons, List.mem_append]; exact Or.inr (Or.inr hg))), h.nod, h.wf, h.len⟩

theorem box_ne_map {w : World} {b mb n : Nat} {t k : TypeId} {cs : Array Value} {D : DataW Unit} {P : Program} {R : Value → Option (DataW Unit × List MemPlace)} (h : Box w b t cs) (ho : w.ownsMap P k R mb n D) : b ≠ mb := by
  rintro rfl
  obtain ⟨es, clock, hb, _⟩ := ho
  unfold Box at h
  rw [h] at hb
  cases hb

theorem seg_ne_map {w : World} {e : TypeId} {A : Option Addr} {cap mb n : Nat} {xs : List Value} {k : TypeId} {D : DataW Unit} {P : Program} {R : Value → Option (DataW Unit × List MemPlace)} (h : Seg w e A cap xs) (ho : w.ownsMap P k R mb n D) : mb ∉ blk A := by
  intro hm
  obtain ⟨es, clock, hb, _⟩ := ho
  cases A with
  | none => cases hm
  | some a =>
    simp only [blk, List.mem_singleton] at hm
    subst hm
    obtain ⟨_, cur, hc, _⟩ := h.2.2.2 a rfl
    rw [hc] at hb
    cases hb

theorem map_kept {F : List Nat} {w w' : World} {mb n : Nat} {k : TypeId} {D : DataW Unit} {P : Program} {R : Value → Option (DataW Unit × List MemPlace)} (ho : w.ownsMap P k R mb n D) (hf : Fr F w w') (hm : mb ∉ F) : w'.ownsMap P k R mb n D := by
  obtain ⟨es, clock, hb, r⟩ := ho
  exact ⟨es, clock, (hf.block mb (Array.getElem?_eq_some_iff.1 hb).1 hm).trans hb, r⟩

theorem tlen_any (w : World) (b : Nat) (A : Option Addr) (cap n : Nat) (v : Value) (h : Box w b 43 #[v, .slice A n cap]) :
    Calls Try.prog 23 #[.pointer (some ⟨b, 0, none⟩)] w fun e w' => e = .returned (.int .i64 n) ∧ w = w' := by
  have c0 : w.cell? ⟨b, 1, none⟩ = some (.slice A n cap) := h.cell 1
  clear h
  go_enter Try.func23, Try.ntmps23
  go_wp2
  go_ret
  exact ⟨rfl, rfl⟩

set_option maxRecDepth 100000 in
/-- 'n, ok := m[k]', as the walk takes it -/
theorem Held.look {w : World} {m : Option Nat} {N : Nat} {xs : List Int} (h : Held w m N xs) (x : Int) (hx : WF x) :
    (Instr.lookup 41 (.map m) (.int .i64 x) true).run Try.prog w = .ok (.tuple #[.int .i64 (noOf xs x : Nat), .bool (decide (x ∈ xs))]) w := by
  have hz : (zeroValue 3).run Try.prog w = .ok (.int .i64 0) w := by kernel_rfl
  rcases h with ⟨rfl, rfl⟩ | ⟨b, D, rfl, ho, hh⟩
  · exact Maps.look_nil (w := w) true (Maps.int_keyed Try.underlying3) Try.underlying41 hz (Maps.keyOf_int_mk Try.underlying3 hx)
  · obtain ⟨v, ps, hrun, hv⟩ := ho.look_ok (Maps.int_keyed Try.underlying3) Try.underlying41 hz (zd := .lit (.int .i64 0)) (zp := []) (plainElem_int Try.underlying3 rfl) (Maps.keyOf_int_mk Try.underlying3 hx)
    obtain ⟨c, rfl, hc, _⟩ := plainElem_int_inv Try.underlying3 hv
    obtain ⟨h1, h2⟩ := hh x hx
    rw [h2] at hc
    injection hc with hc _
    injection hc with hc
    injection hc with _ hc
    rw [hrun, h1, hc]

theorem noOf_snoc_old {xs : List Int} {x y : Int} (h : y ≠ x) : noOf (xs ++ [x]) y = noOf xs y := by
  unfold noOf
  by_cases hy : y ∈ xs
  · rw [if_pos hy, if_pos (by simp [hy]), List.idxOf_append, if_pos hy]
  · rw [if_neg hy, if_neg (by simp [hy, h])]

theorem noOf_snoc_new {xs : List Int} {x : Int} (h : x ∉ xs) : noOf (xs ++ [x]) x = xs.length := by
  unfold noOf
  rw [if_pos (by simp), List.idxOf_append, if_neg h]
  simp

theorem reads_put {D : DataW Unit} (hD : Maps.IsMap D) {xs : List Int} {x : Int} (hin : x ∉ xs) (h : Reads D xs) : Reads (D.put (.int .i64 x) (.lit (.int .i64 (xs.length : Nat)))) (xs ++ [x]) := by
  intro y hy
  obtain ⟨h1, h2⟩ := h y hy
  by_cases e : y = x
  · subst e
    rw [Maps.has_put_same hD (show WideAt.IsKeyLit (.int .i64 y) from trivial), Maps.atKey_put_same hD (show WideAt.IsKeyLit (.int .i64 y) from trivial), noOf_snoc_new hin]
    simp
  · have hne : (Lit.int .i64 y) ≠ .int .i64 x := fun h => e (by injection h)
    rw [Maps.has_put_other hne, Maps.atKey_put_other hne, h1, h2, noOf_snoc_old e]
    simp [e]

theorem vals_snoc (xs : List Int) (x : Int) : vals xs ++ [Value.int .i64 x] = vals (xs ++ [x]) := by simp [vals]

theorem wf_len {n : Nat} (h : n ≤ 1000000) : WF (n : Nat) := by
  unfold WF Lit.wf
  simp [IntKind.min, IntKind.max, IntKind.signed, IntKind.bits]
  omega

theorem put_old (w : World) (b : Nat) (A : Option Addr) (cap : Nat) (m : Option Nat) (N : Nat) (xs : List Int) (x : Int) (h : Tb w b A cap m N xs) (hx : WF x) (hin : x ∈ xs) :
    Calls Try.prog 20 #[.pointer (some ⟨b, 0, none⟩), .int .i64 x] w fun e w' => e = .returned (.tuple #[.int .i64 (noOf xs x : Nat), .bool false]) ∧ Below w.heap.size w w' := by
  have hl := h.set.look x hx
  rw [decide_eq_true hin] at hl
  have c0 : w.cell? ⟨b, 0, none⟩ = some (.map m) := h.box.cell 0
  generalize noOf xs x = r at *
  clear h hx hin
  go_enter Try.func20, Try.ntmps20
  go_wp2_with fail
  go_ret2
  exact ⟨rfl, (Below.refl _ _)⟩

end Go.Proofs.Ytehieiddelngfaa.inn
