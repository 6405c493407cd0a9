/-
  intern: a table of texts in memory; Len, Put.
-/
import Derived.Test.YtehieiddelngfaaInB
import Derived.Maps.OwnSet
import Derived.Maps.Views
import Derived.StringKeys
import Derived.Outline
import Derived.WalkSpells
namespace Go.Proofs.Ytehieiddelngfaa.ins
open Go.RowKit Go.Shelf Go.Proofs.Ytehieiddelngfaa.mem Go.Proofs.Ytehieiddelngfaa.inn

def WF (x : List UInt8) : Prop := x.length ≤ maxLen
theorem key_s {x : List UInt8} (hx : WF x) : keyOf Try.prog 9 (encStr x) = some (.string x) := WideMaps.keyOf_string_mk (s := ⟨x.toArray⟩) Try.underlying9 (by simpa [WF, ByteArray.size] using hx)
def vals (xs : List (List UInt8)) : List Value := xs.map (encStr)
theorem vals_len (xs : List (List UInt8)) : (vals xs).length = xs.length := by simp [vals]

/-- the number that a map answers -/
def noOf (xs : List (List UInt8)) (x : List UInt8) : Nat := if x ∈ xs then xs.idxOf x else 0

def Reads (D : DataW Unit) (xs : List (List UInt8)) : Prop := ∀ x, WF x → Maps.has D (.string x) = decide (x ∈ xs) ∧ D.atKey (.string x) (.lit (.int .i64 0)) = .lit (.int .i64 (noOf xs x : Nat))

def Held (w : World) (m : Option Nat) (N : Nat) (xs : List (List UInt8)) : Prop :=
  (m = none ∧ xs = []) ∨ ∃ b D, m = some b ∧ w.ownsMap (H := Unit) Try.prog 9 (plainElem Try.prog 3) b N D ∧ Reads D xs

/-- a table in a block -/
structure Tb (w : World) (b : Nat) (A : Option Addr) (cap : Nat) (m : Option Nat) (N : Nat) (xs : List (List UInt8)) : Prop where
  box : Box w b 27 #[.map m, .slice A xs.length cap]
  seg : Seg w 9 A cap (vals xs)
  set : Held w m N xs
  nod : xs.Nodup
  wf : ∀ x ∈ xs, WF x
  len : xs.length ≤ N

def foot (b : Nat) (A : Option Addr) (m : Option Nat) : List Nat := b :: (blk A ++ m.toList)

theorem Held.lt {w : World} {m : Option Nat} {N : Nat} {xs : List (List UInt8)} (h : Held w m N xs) : ∀ g ∈ m.toList, g < w.heap.size := by
  intro g hg
  rcases h with ⟨rfl, _⟩ | ⟨b, D, rfl, ho, _⟩
  · simp at hg
  · simp at hg; subst hg; exact ho.lt

theorem Held.kept {F : List Nat} {w w' : World} {m : Option Nat} {N : Nat} {xs : List (List UInt8)} (h : Held w m N xs) (hf : Fr F w w') (hd : ∀ g ∈ m.toList, g ∉ F) : Held w' m N xs := by
  rcases h with ⟨rfl, h⟩ | ⟨b, D, rfl, ho, h⟩
  · exact Or.inl ⟨rfl, h⟩
  · right
    obtain ⟨es, clock, hb, r⟩ := ho
    exact ⟨b, D, rfl, ⟨es, clock, (hf.block b (Array.getElem?_eq_some_iff.1 hb).1 (hd b (by simp))).trans hb, r⟩, h⟩

theorem Held.mono {w : World} {m : Option Nat} {N N' : Nat} {xs : List (List UInt8)} (h : Held w m N xs) (hN : N ≤ N') : Held w m N' xs := by
  rcases h with h | ⟨b, D, rfl, ho, h⟩
  · exact Or.inl h
  · exact Or.inr ⟨b, D, rfl, ho.mono hN, h⟩

theorem Tb.lt {w : World} {b : Nat} {A : Option Addr} {cap : Nat} {m : Option Nat} {N : Nat} {xs : List (List UInt8)} (h : Tb w b A cap m N xs) : ∀ g ∈ foot b A m, g < w.heap.size := by
  intro g hg
  simp only [foot, List.mem_cons, List.mem_append] at hg
  rcases hg with rfl | hg | hg
  · exact h.box.lt
  · exact h.seg.lt g hg
  · exact h.set.lt g hg

theorem Tb.kept {F : List Nat} {w w' : World} {b : Nat} {A : Option Addr} {cap : Nat} {m : Option Nat} {N : Nat} {xs : List (List UInt8)} (h : Tb w b A cap m N xs) (hf : Fr F w w') (hd : ∀ g ∈ foot b A m, g ∉ F) : Tb w' b A cap m N xs :=
  ⟨h.box.kept hf (hd b (by simp [foot])), h.seg.kept hf (fun g hg => hd g (by simp [foot, hg])), h.set.kept hf (fun g hg => hd g (by simp only [foot, List.mem_cons, List.mem_append]; exact Or.inr (Or.inr hg))), h.nod, h.wf, h.len⟩

theorem box_ne_map {w : World} {b mb n : Nat} {t k : TypeId} {cs : Array Value} {D : DataW Unit} {P : Program} {R : Value → Option (DataW Unit × List MemPlace)} (h : Box w b t cs) (ho : w.ownsMap P k R mb n D) : b ≠ mb := by
  rintro rfl
  obtain ⟨es, clock, hb, _⟩ := ho
  unfold Box at h
  rw [h] at hb
  cases hb

theorem seg_ne_map {w : World} {e : TypeId} {A : Option Addr} {cap mb n : Nat} {xs : List Value} {k : TypeId} {D : DataW Unit} {P : Program} {R : Value → Option (DataW Unit × List MemPlace)} (h : Seg w e A cap xs) (ho : w.ownsMap P k R mb n D) : mb ∉ blk A := by
  intro hm
  obtain ⟨es, clock, hb, _⟩ := ho
  cases A with
  | none => cases hm
  | some a =>
    simp only [blk, List.mem_singleton] at hm
    subst hm
    obtain ⟨_, cur, hc, _⟩ := h.2.2.2 a rfl
    rw [hc] at hb
    cases hb

theorem map_kept {F : List Nat} {w w' : World} {mb n : Nat} {k : TypeId} {D : DataW Unit} {P : Program} {R : Value → Option (DataW Unit × List MemPlace)} (ho : w.ownsMap P k R mb n D) (hf : Fr F w w') (hm : mb ∉ F) : w'.ownsMap P k R mb n D := by
  obtain ⟨es, clock, hb, r⟩ := ho
  exact ⟨es, clock, (hf.block mb (Array.getElem?_eq_some_iff.1 hb).1 hm).trans hb, r⟩

theorem tlen_any (w : World) (b : Nat) (A : Option Addr) (cap n : Nat) (v : Value) (h : Box w b 27 #[v, .slice A n cap]) :
    Calls Try.prog 12 #[.pointer (some ⟨b, 0, none⟩)] w fun e w' => e = .returned (.int .i64 n) ∧ w = w' := by
  have c0 : w.cell? ⟨b, 1, none⟩ = some (.slice A n cap) := h.cell 1
  clear h
  go_enter Try.func12, Try.ntmps12
  go_wp2
  go_ret
  exact ⟨rfl, rfl⟩

set_option maxRecDepth 100000 in
/-- 'n, ok := m[k]', as the walk takes it -/
theorem Held.look {w : World} {m : Option Nat} {N : Nat} {xs : List (List UInt8)} (h : Held w m N xs) (x : List UInt8) (hx : WF x) :
    (Instr.lookup 25 (.map m) (encStr x) true).run Try.prog w = .ok (.tuple #[.int .i64 (noOf xs x : Nat), .bool (decide (x ∈ xs))]) w := by
  have hz : (zeroValue 3).run Try.prog w = .ok (.int .i64 0) w := by kernel_rfl
  rcases h with ⟨rfl, rfl⟩ | ⟨b, D, rfl, ho, hh⟩
  · exact Maps.look_nil (w := w) true (Maps.string_keyed Try.underlying9) Try.underlying25 hz (key_s hx)
  · obtain ⟨v, ps, hrun, hv⟩ := ho.look_ok (Maps.string_keyed Try.underlying9) Try.underlying25 hz (zd := .lit (.int .i64 0)) (zp := []) (plainElem_int Try.underlying3 rfl) (key_s hx)
    obtain ⟨c, rfl, hc, _⟩ := plainElem_int_inv Try.underlying3 hv
    obtain ⟨h1, h2⟩ := hh x hx
    rw [h2] at hc
    injection hc with hc _
    injection hc with hc
    injection hc with _ hc
    rw [hrun, h1, hc]

theorem noOf_snoc_old {xs : List (List UInt8)} {x y : List UInt8} (h : y ≠ x) : noOf (xs ++ [x]) y = noOf xs y := by
  unfold noOf
  by_cases hy : y ∈ xs
  · rw [if_pos hy, if_pos (by simp [hy]), List.idxOf_append, if_pos hy]
  · rw [if_neg hy, if_neg (by simp [hy, h])]

theorem noOf_snoc_new {xs : List (List UInt8)} {x : List UInt8} (h : x ∉ xs) : noOf (xs ++ [x]) x = xs.length := by
  unfold noOf
  rw [if_pos (by simp), List.idxOf_append, if_neg h]
  simp

theorem reads_put {D : DataW Unit} (hD : Maps.IsMap D) {xs : List (List UInt8)} {x : List UInt8} (hin : x ∉ xs) (h : Reads D xs) : Reads (D.put (.string x) (.lit (.int .i64 (xs.length : Nat)))) (xs ++ [x]) := by
  intro y hy
  obtain ⟨h1, h2⟩ := h y hy
  by_cases e : y = x
  · subst e
    rw [Maps.has_put_same hD (show WideAt.IsKeyLit (.string y) from trivial), Maps.atKey_put_same hD (show WideAt.IsKeyLit (.string y) from trivial), noOf_snoc_new hin]
    simp
  · have hne : (Lit.string y) ≠ .string x := fun h => e (by injection h)
    rw [Maps.has_put_other hne, Maps.atKey_put_other hne, h1, h2, noOf_snoc_old e]
    simp [e]

theorem vals_snoc (xs : List (List UInt8)) (x : List UInt8) : vals xs ++ [encStr x] = vals (xs ++ [x]) := by simp [vals]

theorem wf_len {n : Nat} (h : n ≤ 1000000) : (Lit.int .i64 (n : Nat)).wf = true := by
  unfold Lit.wf
  simp [IntKind.min, IntKind.max, IntKind.signed, IntKind.bits]
  omega

theorem put_old (w : World) (b : Nat) (A : Option Addr) (cap : Nat) (m : Option Nat) (N : Nat) (xs : List (List UInt8)) (x : List UInt8) (h : Tb w b A cap m N xs) (hx : WF x) (hin : x ∈ xs) :
    Calls Try.prog 11 #[.pointer (some ⟨b, 0, none⟩), encStr x] w fun e w' => e = .returned (.tuple #[.int .i64 (noOf xs x : Nat), .bool false]) ∧ Below w.heap.size w w' := by
  have hl := h.set.look x hx
  rw [decide_eq_true hin] at hl
  have c0 : w.cell? ⟨b, 0, none⟩ = some (.map m) := h.box.cell 0
  generalize noOf xs x = r at *
  clear h hx hin
  go_enter Try.func11, Try.ntmps11
  go_wp2_with fail
  go_ret2
  exact ⟨rfl, (Below.refl _ _)⟩

end Go.Proofs.Ytehieiddelngfaa.ins
