import Derived.Test.YtdmmkjijgoiecaaV14
import Derived.Maps.OwnSet
import Derived.Maps.Views
import Derived.Outline
import Derived.WalkSpells
import Derived.StringKeys
/-
  intern: a table of numbers in memory; Len, Put.
-/
set_option linter.all false
namespace Go.Proofs.Ytdmmkjijgoiecaa.inn
open Go.RowKit Go.Proofs.Ytdmmkjijgoiecaa.mem

def WF (x : Int) : Prop := (Lit.int .i64 x).wf = true
def vals (xs : List Int) : List Value := xs.map (Value.int .i64)
theorem vals_len (xs : List Int) : (vals xs).length = xs.length := by simp [vals]

/-- the number that a map answers -/
def noOf (xs : List Int) (x : Int) : Nat := if x ∈ xs then xs.idxOf x else 0

def Reads (D : DataW Unit) (xs : List Int) : Prop := ∀ x, WF x → Maps.has D (.int .i64 x) = decide (x ∈ xs) ∧ D.atKey (.int .i64 x) (.lit (.int .i64 0)) = .lit (.int .i64 (noOf xs x : Nat))

def foot (b : Nat) (A : Option Addr) (m : Option Nat) : List Nat := b :: (blk A ++ m.toList)

theorem box_ne_map {w : World} {b mb n : Nat} {t k : TypeId} {cs : Array Value} {D : DataW Unit} {P : Program} {R : Value → Option (DataW Unit × List MemPlace)} (h : Box w b t cs) (ho : w.ownsMap P k R mb n D) : b ≠ mb := by
  rintro rfl
  obtain ⟨es, clock, hb, _⟩ := ho
  unfold Box at h
  rw [h] at hb
  cases hb

theorem seg_ne_map {w : World} {e : TypeId} {A : Option Addr} {cap mb n : Nat} {xs : List Value} {k : TypeId} {D : DataW Unit} {P : Program} {R : Value → Option (DataW Unit × List MemPlace)} (h : Seg w e A cap xs) (ho : w.ownsMap P k R mb n D) : mb ∉ blk A := by
  intro hm
  obtain ⟨es, clock, hb, _⟩ := ho
  cases A with
  | none => cases hm
  | some a =>
    simp only [blk, List.mem_singleton] at hm
    subst hm
    obtain ⟨_, cur, hc, _⟩ := h.2.2.2 a rfl
    rw [hc] at hb
    cases hb

theorem map_kept {F : List Nat} {w w' : World} {mb n : Nat} {k : TypeId} {D : DataW Unit} {P : Program} {R : Value → Option (DataW Unit × List MemPlace)} (ho : w.ownsMap P k R mb n D) (hf : Fr F w w') (hm : mb ∉ F) : w'.ownsMap P k R mb n D := by
  obtain ⟨es, clock, hb, r⟩ := ho
  exact ⟨es, clock, (hf.block mb (Array.getElem?_eq_some_iff.1 hb).1 hm).trans hb, r⟩

theorem noOf_snoc_old {xs : List Int} {x y : Int} (h : y ≠ x) : noOf (xs ++ [x]) y = noOf xs y := by
  unfold noOf
  by_cases hy : y ∈ xs
  · rw [if_pos hy, if_pos (by simp [hy]), List.idxOf_append, if_pos hy]
  · rw [if_neg hy, if_neg (by simp [hy, h])]

theorem noOf_snoc_new {xs : List Int} {x : Int} (h : x ∉ xs) : noOf (xs ++ [x]) x = xs.length := by
  unfold noOf
  rw [if_pos (by simp), List.idxOf_append, if_neg h]
  simp

theorem reads_put {D : DataW Unit} (hD : Maps.IsMap D) {xs : List Int} {x : Int} (hin : x ∉ xs) (h : Reads D xs) : Reads (D.put (.int .i64 x) (.lit (.int .i64 (xs.length : Nat)))) (xs ++ [x]) := by
  intro y hy
  obtain ⟨h1, h2⟩ := h y hy
  by_cases e : y = x
  · subst e
    rw [Maps.has_put_same hD (show WideAt.IsKeyLit (.int .i64 y) from trivial), Maps.atKey_put_same hD (show WideAt.IsKeyLit (.int .i64 y) from trivial), noOf_snoc_new hin]
    simp
  · have hne : (Lit.int .i64 y) ≠ .int .i64 x := fun h => e (by injection h)
    rw [Maps.has_put_other hne, Maps.atKey_put_other hne, h1, h2, noOf_snoc_old e]
    simp [e]

theorem vals_snoc (xs : List Int) (x : Int) : vals xs ++ [Value.int .i64 x] = vals (xs ++ [x]) := by simp [vals]

theorem wf_len {n : Nat} (h : n ≤ 1000000) : WF (n : Nat) := by
  unfold WF Lit.wf
  simp [IntKind.min, IntKind.max, IntKind.signed, IntKind.bits]
  omega

end Go.Proofs.Ytdmmkjijgoiecaa.inn

/-
  intern: Put of what is new.
-/
set_option linter.all false
namespace Go.Proofs.Ytdmmkjijgoiecaa.inn
open Go.RowKit Go.Proofs.Ytdmmkjijgoiecaa.mem

end Go.Proofs.Ytdmmkjijgoiecaa.inn

/-
  intern: the reference's Sorted; the law's own works.
-/
set_option linter.all false
namespace Go.Proofs.Ytdmmkjijgoiecaa.inn
open Go.RowKit Go.Shelf Go.Sort Go.Proofs.Ytdmmkjijgoiecaa.mem

theorem rsS_snoc (l : List (List UInt8)) (k : Nat) (hk : k < l.length) : rsS (l.take (k + 1)) = intoS (rsS (l.take k)) l[k] := by
  rw [List.take_succ_eq_append_getElem hk]
  exact intoAll_snoc _ _ _

set_option maxRecDepth 100000 in
theorem rsorted_any (w : World) (A : Option Addr) (cap : Nat) (l : List (List UInt8)) (h : Rd w A (l.map encStr)) (hm : l.length ≤ 1000000) :
    Calls Try.prog 22 #[.slice A l.length cap] w (IPost w (rsS l)) := by
  have Hh := Lib.hid h
  clear h
  go_enter Try.func22, Try.ntmps22
  go_wp2_with fail
  go_loopw [3, 4] (fun o i wr => ∃ (k : Nat) (B : Option Addr) (c : Nat), k ≤ l.length ∧ i = .int .i64 k ∧ o = .slice B (rsS (l.take k)).length c ∧ Hid (Seg wr 9 B c ((rsS (l.take k)).map encStr)) ∧ Hid (Below w.heap.size w wr)) (fun _ i _ => l.length - (intOf i).toNat)
  case atStart => exact ⟨0, none, 0, by omega, rfl, rfl, Lib.hid (Seg.nil _ _), Lib.hid (Below.refl _ _)⟩
  case round =>
    obtain ⟨k, B, c, hk, rfl, rfl, hs, hb⟩ := hrel
    rename_i wr _
    by_cases hkl : k < l.length
    · have e1 : decide ((k : Int) < (l.length : Int)) = true := decide_eq_true (by omega)
      obtain ⟨b, off, rfl, hlt, hcell⟩ := rd_str Hh.out (by omega)
      have c2 : wr.cell? ⟨b, off + k, none⟩ = some (encStr l[k]) := (hb.out.cell (p := ⟨b, off + k, none⟩) hlt).trans (hcell k hkl)
      have H := Lib.hid (into_any wr B c (rsS (l.take k)) l[k] hs.out (by have := rs_len (l.take k); rw [List.length_take] at this; omega))
      rw [← rsS_snoc l k hkl] at H
      clear hcell
      generalize rsS (l.take k) = M at *
      unfold encStr at c2 H
      generalize (ByteArray.mk l[k].toArray) = z at *
      go_wp2_with fail
      refine H.out.mono ?_
      rintro e w2 ⟨B2, c2', rfl, hs2, hb2⟩
      have hb3 := Lib.hid (hb.out.trans (hb2.mono hb.out.size))
      have hs3 := Lib.hid hs2
      clear hb hb2 hs hs2
      go_wp2_with fail
      go_roundw
      case rel => exact ⟨k + 1, B2, c2', by omega, by go_num, rfl, hs3, hb3⟩
      case measure => simp [intOf]; omega
    · obtain rfl : k = l.length := by omega
      have e1 : decide ((l.length : Int) < (l.length : Int)) = false := decide_eq_false (by omega)
      rw [List.take_length] at hs ⊢
      go_wp2_with fail
      go_ret
      exact ⟨B, c, rfl, hs.out, hb.out⟩
end Go.Proofs.Ytdmmkjijgoiecaa.inn

/-
  intern: a table of texts in memory; Len, Put.
-/
set_option linter.all false
namespace Go.Proofs.Ytdmmkjijgoiecaa.ins
open Go.RowKit Go.Shelf Go.Proofs.Ytdmmkjijgoiecaa.mem Go.Proofs.Ytdmmkjijgoiecaa.inn

def WF (x : List UInt8) : Prop := x.length ≤ maxLen
theorem key_s {x : List UInt8} (hx : WF x) : keyOf Try.prog 9 (encStr x) = some (.string x) := WideMaps.keyOf_string_mk (s := ⟨x.toArray⟩) Try.underlying9 (by simpa [WF, ByteArray.size] using hx)
def vals (xs : List (List UInt8)) : List Value := xs.map (encStr)
theorem vals_len (xs : List (List UInt8)) : (vals xs).length = xs.length := by simp [vals]

/-- the number that a map answers -/
def noOf (xs : List (List UInt8)) (x : List UInt8) : Nat := if x ∈ xs then xs.idxOf x else 0

def Reads (D : DataW Unit) (xs : List (List UInt8)) : Prop := ∀ x, WF x → Maps.has D (.string x) = decide (x ∈ xs) ∧ D.atKey (.string x) (.lit (.int .i64 0)) = .lit (.int .i64 (noOf xs x : Nat))

def foot (b : Nat) (A : Option Addr) (m : Option Nat) : List Nat := b :: (blk A ++ m.toList)

theorem box_ne_map {w : World} {b mb n : Nat} {t k : TypeId} {cs : Array Value} {D : DataW Unit} {P : Program} {R : Value → Option (DataW Unit × List MemPlace)} (h : Box w b t cs) (ho : w.ownsMap P k R mb n D) : b ≠ mb := by
  rintro rfl
  obtain ⟨es, clock, hb, _⟩ := ho
  unfold Box at h
  rw [h] at hb
  cases hb

theorem seg_ne_map {w : World} {e : TypeId} {A : Option Addr} {cap mb n : Nat} {xs : List Value} {k : TypeId} {D : DataW Unit} {P : Program} {R : Value → Option (DataW Unit × List MemPlace)} (h : Seg w e A cap xs) (ho : w.ownsMap P k R mb n D) : mb ∉ blk A := by
  intro hm
  obtain ⟨es, clock, hb, _⟩ := ho
  cases A with
  | none => cases hm
  | some a =>
    simp only [blk, List.mem_singleton] at hm
    subst hm
    obtain ⟨_, cur, hc, _⟩ := h.2.2.2 a rfl
    rw [hc] at hb
    cases hb

theorem map_kept {F : List Nat} {w w' : World} {mb n : Nat} {k : TypeId} {D : DataW Unit} {P : Program} {R : Value → Option (DataW Unit × List MemPlace)} (ho : w.ownsMap P k R mb n D) (hf : Fr F w w') (hm : mb ∉ F) : w'.ownsMap P k R mb n D := by
  obtain ⟨es, clock, hb, r⟩ := ho
  exact ⟨es, clock, (hf.block mb (Array.getElem?_eq_some_iff.1 hb).1 hm).trans hb, r⟩

theorem noOf_snoc_old {xs : List (List UInt8)} {x y : List UInt8} (h : y ≠ x) : noOf (xs ++ [x]) y = noOf xs y := by
  unfold noOf
  by_cases hy : y ∈ xs
  · rw [if_pos hy, if_pos (by simp [hy]), List.idxOf_append, if_pos hy]
  · rw [if_neg hy, if_neg (by simp [hy, h])]

theorem noOf_snoc_new {xs : List (List UInt8)} {x : List UInt8} (h : x ∉ xs) : noOf (xs ++ [x]) x = xs.length := by
  unfold noOf
  rw [if_pos (by simp), List.idxOf_append, if_neg h]
  simp

theorem reads_put {D : DataW Unit} (hD : Maps.IsMap D) {xs : List (List UInt8)} {x : List UInt8} (hin : x ∉ xs) (h : Reads D xs) : Reads (D.put (.string x) (.lit (.int .i64 (xs.length : Nat)))) (xs ++ [x]) := by
  intro y hy
  obtain ⟨h1, h2⟩ := h y hy
  by_cases e : y = x
  · subst e
    rw [Maps.has_put_same hD (show WideAt.IsKeyLit (.string y) from trivial), Maps.atKey_put_same hD (show WideAt.IsKeyLit (.string y) from trivial), noOf_snoc_new hin]
    simp
  · have hne : (Lit.string y) ≠ .string x := fun h => e (by injection h)
    rw [Maps.has_put_other hne, Maps.atKey_put_other hne, h1, h2, noOf_snoc_old e]
    simp [e]

theorem vals_snoc (xs : List (List UInt8)) (x : List UInt8) : vals xs ++ [encStr x] = vals (xs ++ [x]) := by simp [vals]

theorem wf_len {n : Nat} (h : n ≤ 1000000) : (Lit.int .i64 (n : Nat)).wf = true := by
  unfold Lit.wf
  simp [IntKind.min, IntKind.max, IntKind.signed, IntKind.bits]
  omega

end Go.Proofs.Ytdmmkjijgoiecaa.ins

/-
  intern: Put of what is new.
-/
set_option linter.all false
namespace Go.Proofs.Ytdmmkjijgoiecaa.ins
open Go.RowKit Go.Shelf Go.Proofs.Ytdmmkjijgoiecaa.mem Go.Proofs.Ytdmmkjijgoiecaa.inn

end Go.Proofs.Ytdmmkjijgoiecaa.ins

/-
  intern: Find, At of a table of texts; the reference's Number.
-/
set_option linter.all false
namespace Go.Proofs.Ytdmmkjijgoiecaa.ins
open Go.RowKit Go.Shelf Go.Proofs.Ytdmmkjijgoiecaa.mem Go.Proofs.Ytdmmkjijgoiecaa.inn

/-- what At answers -/
def atV (xs : List (List UInt8)) (n : Int) : Value := if h : 0 ≤ n ∧ n < xs.length then .tuple #[encStr (xs[n.toNat]'(by omega)), .bool true] else .tuple #[.string ⟨#[]⟩, .bool false]

end Go.Proofs.Ytdmmkjijgoiecaa.ins

/-
  intern: the reference's Number.
-/
set_option linter.all false
namespace Go.Proofs.Ytdmmkjijgoiecaa.ins
open Go.RowKit Go.Shelf Go.Proofs.Ytdmmkjijgoiecaa.mem Go.Proofs.Ytdmmkjijgoiecaa.inn

def numV (xs : List (List UInt8)) (x : List UInt8) : Int := if x ∈ xs then (noOf xs x : Nat) else -1

theorem numV_here {xs : List (List UInt8)} {x : List UInt8} {k : Nat} (hk : k < xs.length) (hx : xs[k] = x) (hn : x ∉ xs.take k) : numV xs x = (k : Nat) := by
  have hm : x ∈ xs := hx ▸ List.getElem_mem hk
  unfold numV noOf
  rw [if_pos hm, if_pos hm]
  have e : xs = xs.take k ++ x :: xs.drop (k + 1) := by
    rw [← hx, ← List.drop_eq_getElem_cons hk, List.take_append_drop]
  have : xs.idxOf x = k := by
    rw [e, List.idxOf_append, if_neg hn]
    simp; omega
  rw [this]

theorem numV_none {xs : List (List UInt8)} {x : List UInt8} (hn : x ∉ xs) : numV xs x = -1 := by unfold numV; rw [if_neg hn]

set_option maxRecDepth 100000 in
theorem number_any (w : World) (A : Option Addr) (cap : Nat) (xs : List (List UInt8)) (x : List UInt8) (h : Rd w A (xs.map encStr)) (hm : xs.length ≤ 1000000) :
    Calls Try.prog 67 #[.slice A xs.length cap, encStr x] w fun e w' => e = .returned (.int .i64 (numV xs x)) ∧ w = w' := by
  have Hh := Lib.hid h
  have Hv : Hid (∀ (k : Nat) (hk : k < xs.length), xs[k] = x → x ∉ xs.take k → numV xs x = (k : Nat)) := Lib.hid (fun k hk h1 h2 => numV_here hk h1 h2)
  have Hn : Hid (x ∉ xs → numV xs x = -1) := Lib.hid numV_none
  clear h
  generalize numV xs x = r at *
  go_enter Try.func67, Try.ntmps67
  go_wp2_with fail
  go_loopw [5] (fun i wr => ∃ k : Nat, k ≤ xs.length ∧ i = .int .i64 k ∧ Hid (x ∉ xs.take k) ∧ w = wr) (fun i _ => xs.length - (intOf i).toNat)
  case atStart => exact ⟨0, by omega, rfl, Lib.hid (by simp), rfl⟩
  case round =>
    obtain ⟨k, hk, rfl, hnot, rfl⟩ := hrel
    by_cases hkl : k < xs.length
    · have e1 : decide ((k : Int) < (xs.length : Int)) = true := decide_eq_true (by omega)
      obtain ⟨g, off, rfl, hlt, hc⟩ := rd_str Hh.out (by omega)
      have c2 := hc k hkl
      clear hc
      rcases heq : (xs[k] == x) with _ | _
      · unfold encStr at c2 ⊢
        go_wp2_with fail
        go_roundw
        case rel =>
          refine ⟨k + 1, by omega, by go_num, Lib.hid ?_, trivial⟩
          rw [List.take_succ_eq_append_getElem hkl, List.mem_append, List.mem_singleton]
          rintro (h | h)
          · exact hnot.out h
          · rw [← h] at heq; simp at heq
        case measure => simp [intOf]; omega
      · have hr := Hv.out k hkl (eq_of_beq heq) hnot.out
        unfold encStr at c2 ⊢
        go_wp2_with fail
        go_ret
        exact ⟨by rw [hr]; rfl, rfl⟩
    · obtain rfl : k = xs.length := by omega
      have e1 : decide ((xs.length : Int) < (xs.length : Int)) = false := decide_eq_false (by omega)
      have hr := Hn.out (by have := hnot.out; rwa [List.take_length] at this)
      unfold encStr
      go_wp2_with fail
      go_ret
      exact ⟨by rw [hr]; rfl, rfl⟩
end Go.Proofs.Ytdmmkjijgoiecaa.ins
