import Derived.Test.YtohdcmmkbblhkaaGreatDoorV19
import Derived.Maps.OwnSet
import Derived.Maps.Views
import Derived.Outline
import Derived.WalkSpells
import Derived.StringKeys
import Derived.RangeFuncBox
import Derived.Test.YtohdcmmkbblhkaaGreatDoorURng
import Derived.Test.YtohdcmmkbblhkaaGreatDoorV05
import Derived.Test.YtohdcmmkbblhkaaGreatDoorV18
/-
  intern: a table of numbers in memory; Len, Put.
-/
set_option linter.all false
namespace Go.Proofs.YtohdcmmkbblhkaaGreatDoor.inn
open Go.RowKit Go.Proofs.YtohdcmmkbblhkaaGreatDoor.mem

def WF (x : Int) : Prop := (Lit.int .i64 x).wf = true
def vals (xs : List Int) : List Value := xs.map (Value.int .i64)
theorem vals_len (xs : List Int) : (vals xs).length = xs.length := by simp [vals]

/-- the number that a map answers -/
def noOf (xs : List Int) (x : Int) : Nat := if x ∈ xs then xs.idxOf x else 0

def Reads (D : DataW Unit) (xs : List Int) : Prop := ∀ x, WF x → Maps.has D (.int .i64 x) = decide (x ∈ xs) ∧ D.atKey (.int .i64 x) (.lit (.int .i64 0)) = .lit (.int .i64 (noOf xs x : Nat))

def Held (w : World) (m : Option Nat) (N : Nat) (xs : List Int) : Prop :=
  (m = none ∧ xs = []) ∨ ∃ b D, m = some b ∧ w.ownsMap (H := Unit) Tryz.prog 3 (plainElem Tryz.prog 3) b N D ∧ Reads D xs

def foot (b : Nat) (A : Option Addr) (m : Option Nat) : List Nat := b :: (blk A ++ m.toList)

theorem Held.lt {w : World} {m : Option Nat} {N : Nat} {xs : List Int} (h : Held w m N xs) : ∀ g ∈ m.toList, g < w.heap.size := by
  intro g hg
  rcases h with ⟨rfl, _⟩ | ⟨b, D, rfl, ho, _⟩
  · simp at hg
  · simp at hg; subst hg; exact ho.lt

theorem Held.kept {F : List Nat} {w w' : World} {m : Option Nat} {N : Nat} {xs : List Int} (h : Held w m N xs) (hf : Fr F w w') (hd : ∀ g ∈ m.toList, g ∉ F) : Held w' m N xs := by
  rcases h with ⟨rfl, h⟩ | ⟨b, D, rfl, ho, h⟩
  · exact Or.inl ⟨rfl, h⟩
  · right
    obtain ⟨es, clock, hb, r⟩ := ho
    exact ⟨b, D, rfl, ⟨es, clock, (hf.block b (Array.getElem?_eq_some_iff.1 hb).1 (hd b (by simp))).trans hb, r⟩, h⟩

theorem Held.mono {w : World} {m : Option Nat} {N N' : Nat} {xs : List Int} (h : Held w m N xs) (hN : N ≤ N') : Held w m N' xs := by
  rcases h with h | ⟨b, D, rfl, ho, h⟩
  · exact Or.inl h
  · exact Or.inr ⟨b, D, rfl, ho.mono hN, h⟩

theorem box_ne_map {w : World} {b mb n : Nat} {t k : TypeId} {cs : Array Value} {D : DataW Unit} {P : Program} {R : Value → Option (DataW Unit × List MemPlace)} (h : Box w b t cs) (ho : w.ownsMap P k R mb n D) : b ≠ mb := by
  rintro rfl
  obtain ⟨es, clock, hb, _⟩ := ho
  unfold Box at h
  rw [h] at hb
  cases hb

theorem seg_ne_map {w : World} {e : TypeId} {A : Option Addr} {cap mb n : Nat} {xs : List Value} {k : TypeId} {D : DataW Unit} {P : Program} {R : Value → Option (DataW Unit × List MemPlace)} (h : Seg w e A cap xs) (ho : w.ownsMap P k R mb n D) : mb ∉ blk A := by
  intro hm
  obtain ⟨es, clock, hb, _⟩ := ho
  cases A with
  | none => cases hm
  | some a =>
    simp only [blk, List.mem_singleton] at hm
    subst hm
    obtain ⟨_, cur, hc, _⟩ := h.2.2.2 a rfl
    rw [hc] at hb
    cases hb

theorem noOf_snoc_old {xs : List Int} {x y : Int} (h : y ≠ x) : noOf (xs ++ [x]) y = noOf xs y := by
  unfold noOf
  by_cases hy : y ∈ xs
  · rw [if_pos hy, if_pos (by simp [hy]), List.idxOf_append, if_pos hy]
  · rw [if_neg hy, if_neg (by simp [hy, h])]

theorem noOf_snoc_new {xs : List Int} {x : Int} (h : x ∉ xs) : noOf (xs ++ [x]) x = xs.length := by
  unfold noOf
  rw [if_pos (by simp), List.idxOf_append, if_neg h]
  simp

theorem reads_put {D : DataW Unit} (hD : Maps.IsMap D) {xs : List Int} {x : Int} (hin : x ∉ xs) (h : Reads D xs) : Reads (D.put (.int .i64 x) (.lit (.int .i64 (xs.length : Nat)))) (xs ++ [x]) := by
  intro y hy
  obtain ⟨h1, h2⟩ := h y hy
  by_cases e : y = x
  · subst e
    rw [Maps.has_put_same hD (show WideAt.IsKeyLit (.int .i64 y) from trivial), Maps.atKey_put_same hD (show WideAt.IsKeyLit (.int .i64 y) from trivial), noOf_snoc_new hin]
    simp
  · have hne : (Lit.int .i64 y) ≠ .int .i64 x := fun h => e (by injection h)
    rw [Maps.has_put_other hne, Maps.atKey_put_other hne, h1, h2, noOf_snoc_old e]
    simp [e]

theorem vals_snoc (xs : List Int) (x : Int) : vals xs ++ [Value.int .i64 x] = vals (xs ++ [x]) := by simp [vals]

theorem wf_len {n : Nat} (h : n ≤ 1000000) : WF (n : Nat) := by
  unfold WF Lit.wf
  simp [IntKind.min, IntKind.max, IntKind.signed, IntKind.bits]
  omega

end Go.Proofs.YtohdcmmkbblhkaaGreatDoor.inn

/-
  intern: Put of what is new.
-/
set_option linter.all false
namespace Go.Proofs.YtohdcmmkbblhkaaGreatDoor.inn
open Go.RowKit Go.Proofs.YtohdcmmkbblhkaaGreatDoor.mem

end Go.Proofs.YtohdcmmkbblhkaaGreatDoor.inn

/-
  intern: the reference's Sorted; the law's own works.
-/
set_option linter.all false
namespace Go.Proofs.YtohdcmmkbblhkaaGreatDoor.inn
open Go.RowKit Go.Shelf Go.Sort Go.Proofs.YtohdcmmkbblhkaaGreatDoor.mem

theorem rsS_snoc (l : List (List UInt8)) (k : Nat) (hk : k < l.length) : rsS (l.take (k + 1)) = intoS (rsS (l.take k)) l[k] := by
  rw [List.take_succ_eq_append_getElem hk]
  exact intoAll_snoc _ _ _

set_option maxRecDepth 100000 in
theorem rsorted_any (w : World) (A : Option Addr) (cap : Nat) (l : List (List UInt8)) (h : Rd w A (l.map encStr)) (hm : l.length ≤ 1000000) :
    Calls Tryz.prog 42 #[.slice A l.length cap] w (IPost w (rsS l)) := by
  have Hh := Lib.hid h
  clear h
  go_enter Tryz.func42, Tryz.ntmps42
  go_wp2_with fail
  go_loopw [3, 4] (fun o i wr => ∃ (k : Nat) (B : Option Addr) (c : Nat), k ≤ l.length ∧ i = .int .i64 k ∧ o = .slice B (rsS (l.take k)).length c ∧ Hid (Seg wr 9 B c ((rsS (l.take k)).map encStr)) ∧ Hid (Below w.heap.size w wr)) (fun _ i _ => l.length - (intOf i).toNat)
  case atStart => exact ⟨0, none, 0, by omega, rfl, rfl, Lib.hid (Seg.nil _ _), Lib.hid (Below.refl _ _)⟩
  case round =>
    obtain ⟨k, B, c, hk, rfl, rfl, hs, hb⟩ := hrel
    rename_i wr _
    by_cases hkl : k < l.length
    · have e1 : decide ((k : Int) < (l.length : Int)) = true := decide_eq_true (by omega)
      obtain ⟨b, off, rfl, hlt, hcell⟩ := rd_str Hh.out (by omega)
      have c2 : wr.cell? ⟨b, off + k, none⟩ = some (encStr l[k]) := (hb.out.cell (p := ⟨b, off + k, none⟩) hlt).trans (hcell k hkl)
      have H := Lib.hid (into_any wr B c (rsS (l.take k)) l[k] hs.out (by have := rs_len (l.take k); rw [List.length_take] at this; omega))
      rw [← rsS_snoc l k hkl] at H
      clear hcell
      generalize rsS (l.take k) = M at *
      unfold encStr at c2 H
      generalize (ByteArray.mk l[k].toArray) = z at *
      go_wp2_with fail
      refine H.out.mono ?_
      rintro e w2 ⟨B2, c2', rfl, hs2, hb2⟩
      have hb3 := Lib.hid (hb.out.trans (hb2.mono hb.out.size))
      have hs3 := Lib.hid hs2
      clear hb hb2 hs hs2
      go_wp2_with fail
      go_roundw
      case rel => exact ⟨k + 1, B2, c2', by omega, by go_num, rfl, hs3, hb3⟩
      case measure => simp [intOf]; omega
    · obtain rfl : k = l.length := by omega
      have e1 : decide ((l.length : Int) < (l.length : Int)) = false := decide_eq_false (by omega)
      rw [List.take_length] at hs ⊢
      go_wp2_with fail
      go_ret
      exact ⟨B, c, rfl, hs.out, hb.out⟩
end Go.Proofs.YtohdcmmkbblhkaaGreatDoor.inn

/-
  intern: a table of texts in memory; Len, Put.
-/
set_option linter.all false
namespace Go.Proofs.YtohdcmmkbblhkaaGreatDoor.ins
open Go.RowKit Go.Shelf Go.Proofs.YtohdcmmkbblhkaaGreatDoor.mem Go.Proofs.YtohdcmmkbblhkaaGreatDoor.inn

def WF (x : List UInt8) : Prop := x.length ≤ maxLen
theorem key_s {x : List UInt8} (hx : WF x) : keyOf Tryz.prog 9 (encStr x) = some (.string x) := WideMaps.keyOf_string_mk (s := ⟨x.toArray⟩) Tryz.underlying9 (by simpa [WF, ByteArray.size] using hx)
def vals (xs : List (List UInt8)) : List Value := xs.map (encStr)
theorem vals_len (xs : List (List UInt8)) : (vals xs).length = xs.length := by simp [vals]

/-- the number that a map answers -/
def noOf (xs : List (List UInt8)) (x : List UInt8) : Nat := if x ∈ xs then xs.idxOf x else 0

def Reads (D : DataW Unit) (xs : List (List UInt8)) : Prop := ∀ x, WF x → Maps.has D (.string x) = decide (x ∈ xs) ∧ D.atKey (.string x) (.lit (.int .i64 0)) = .lit (.int .i64 (noOf xs x : Nat))

def Held (w : World) (m : Option Nat) (N : Nat) (xs : List (List UInt8)) : Prop :=
  (m = none ∧ xs = []) ∨ ∃ b D, m = some b ∧ w.ownsMap (H := Unit) Tryz.prog 9 (plainElem Tryz.prog 3) b N D ∧ Reads D xs

/-- a table in a block -/
structure Tb (w : World) (b : Nat) (A : Option Addr) (cap : Nat) (m : Option Nat) (N : Nat) (xs : List (List UInt8)) : Prop where
  box : Box w b 78 #[.map m, .slice A xs.length cap]
  seg : Seg w 9 A cap (vals xs)
  set : Held w m N xs
  nod : xs.Nodup
  wf : ∀ x ∈ xs, WF x
  len : xs.length ≤ N

def foot (b : Nat) (A : Option Addr) (m : Option Nat) : List Nat := b :: (blk A ++ m.toList)

theorem Held.lt {w : World} {m : Option Nat} {N : Nat} {xs : List (List UInt8)} (h : Held w m N xs) : ∀ g ∈ m.toList, g < w.heap.size := by
  intro g hg
  rcases h with ⟨rfl, _⟩ | ⟨b, D, rfl, ho, _⟩
  · simp at hg
  · simp at hg; subst hg; exact ho.lt

theorem Held.kept {F : List Nat} {w w' : World} {m : Option Nat} {N : Nat} {xs : List (List UInt8)} (h : Held w m N xs) (hf : Fr F w w') (hd : ∀ g ∈ m.toList, g ∉ F) : Held w' m N xs := by
  rcases h with ⟨rfl, h⟩ | ⟨b, D, rfl, ho, h⟩
  · exact Or.inl ⟨rfl, h⟩
  · right
    obtain ⟨es, clock, hb, r⟩ := ho
    exact ⟨b, D, rfl, ⟨es, clock, (hf.block b (Array.getElem?_eq_some_iff.1 hb).1 (hd b (by simp))).trans hb, r⟩, h⟩

theorem Held.mono {w : World} {m : Option Nat} {N N' : Nat} {xs : List (List UInt8)} (h : Held w m N xs) (hN : N ≤ N') : Held w m N' xs := by
  rcases h with h | ⟨b, D, rfl, ho, h⟩
  · exact Or.inl h
  · exact Or.inr ⟨b, D, rfl, ho.mono hN, h⟩

theorem Tb.lt {w : World} {b : Nat} {A : Option Addr} {cap : Nat} {m : Option Nat} {N : Nat} {xs : List (List UInt8)} (h : Tb w b A cap m N xs) : ∀ g ∈ foot b A m, g < w.heap.size := by
  intro g hg
  simp only [foot, List.mem_cons, List.mem_append] at hg
  rcases hg with rfl | hg | hg
  · exact h.box.lt
  · exact h.seg.lt g hg
  · exact h.set.lt g hg

theorem Tb.kept {F : List Nat} {w w' : World} {b : Nat} {A : Option Addr} {cap : Nat} {m : Option Nat} {N : Nat} {xs : List (List UInt8)} (h : Tb w b A cap m N xs) (hf : Fr F w w') (hd : ∀ g ∈ foot b A m, g ∉ F) : Tb w' b A cap m N xs :=
  ⟨h.box.kept hf (hd b (by simp [foot])), h.seg.kept hf (fun g hg => hd g (by simp [foot, hg])), h.set.kept hf (fun g hg => hd g (by simp only [foot, List.mem_cons, List.mem_append]; exact Or.inr (Or.inr hg))), h.nod, h.wf, h.len⟩

theorem box_ne_map {w : World} {b mb n : Nat} {t k : TypeId} {cs : Array Value} {D : DataW Unit} {P : Program} {R : Value → Option (DataW Unit × List MemPlace)} (h : Box w b t cs) (ho : w.ownsMap P k R mb n D) : b ≠ mb := by
  rintro rfl
  obtain ⟨es, clock, hb, _⟩ := ho
  unfold Box at h
  rw [h] at hb
  cases hb

theorem seg_ne_map {w : World} {e : TypeId} {A : Option Addr} {cap mb n : Nat} {xs : List Value} {k : TypeId} {D : DataW Unit} {P : Program} {R : Value → Option (DataW Unit × List MemPlace)} (h : Seg w e A cap xs) (ho : w.ownsMap P k R mb n D) : mb ∉ blk A := by
  intro hm
  obtain ⟨es, clock, hb, _⟩ := ho
  cases A with
  | none => cases hm
  | some a =>
    simp only [blk, List.mem_singleton] at hm
    subst hm
    obtain ⟨_, cur, hc, _⟩ := h.2.2.2 a rfl
    rw [hc] at hb
    cases hb

theorem tlen_any (w : World) (b : Nat) (A : Option Addr) (cap n : Nat) (v : Value) (h : Box w b 78 #[v, .slice A n cap]) :
    Calls Tryz.prog 39 #[.pointer (some ⟨b, 0, none⟩)] w fun e w' => e = .returned (.int .i64 n) ∧ w = w' := by
  have c0 : w.cell? ⟨b, 1, none⟩ = some (.slice A n cap) := h.cell 1
  clear h
  go_enter Tryz.func39, Tryz.ntmps39
  go_wp2
  go_ret
  exact ⟨rfl, rfl⟩

set_option maxRecDepth 100000 in
/-- 'n, ok := m[k]', as the walk takes it -/
theorem Held.look {w : World} {m : Option Nat} {N : Nat} {xs : List (List UInt8)} (h : Held w m N xs) (x : List UInt8) (hx : WF x) :
    (Instr.lookup 76 (.map m) (encStr x) true).run Tryz.prog w = .ok (.tuple #[.int .i64 (noOf xs x : Nat), .bool (decide (x ∈ xs))]) w := by
  have hz : (zeroValue 3).run Tryz.prog w = .ok (.int .i64 0) w := by kernel_rfl
  rcases h with ⟨rfl, rfl⟩ | ⟨b, D, rfl, ho, hh⟩
  · exact Maps.look_nil (w := w) true (Maps.string_keyed Tryz.underlying9) Tryz.underlying76 hz (key_s hx)
  · obtain ⟨v, ps, hrun, hv⟩ := ho.look_ok (Maps.string_keyed Tryz.underlying9) Tryz.underlying76 hz (zd := .lit (.int .i64 0)) (zp := []) (plainElem_int Tryz.underlying3 rfl) (key_s hx)
    obtain ⟨c, rfl, hc, _⟩ := plainElem_int_inv Tryz.underlying3 hv
    obtain ⟨h1, h2⟩ := hh x hx
    rw [h2] at hc
    injection hc with hc _
    injection hc with hc
    injection hc with _ hc
    rw [hrun, h1, hc]

theorem noOf_snoc_old {xs : List (List UInt8)} {x y : List UInt8} (h : y ≠ x) : noOf (xs ++ [x]) y = noOf xs y := by
  unfold noOf
  by_cases hy : y ∈ xs
  · rw [if_pos hy, if_pos (by simp [hy]), List.idxOf_append, if_pos hy]
  · rw [if_neg hy, if_neg (by simp [hy, h])]

theorem noOf_snoc_new {xs : List (List UInt8)} {x : List UInt8} (h : x ∉ xs) : noOf (xs ++ [x]) x = xs.length := by
  unfold noOf
  rw [if_pos (by simp), List.idxOf_append, if_neg h]
  simp

theorem reads_put {D : DataW Unit} (hD : Maps.IsMap D) {xs : List (List UInt8)} {x : List UInt8} (hin : x ∉ xs) (h : Reads D xs) : Reads (D.put (.string x) (.lit (.int .i64 (xs.length : Nat)))) (xs ++ [x]) := by
  intro y hy
  obtain ⟨h1, h2⟩ := h y hy
  by_cases e : y = x
  · subst e
    rw [Maps.has_put_same hD (show WideAt.IsKeyLit (.string y) from trivial), Maps.atKey_put_same hD (show WideAt.IsKeyLit (.string y) from trivial), noOf_snoc_new hin]
    simp
  · have hne : (Lit.string y) ≠ .string x := fun h => e (by injection h)
    rw [Maps.has_put_other hne, Maps.atKey_put_other hne, h1, h2, noOf_snoc_old e]
    simp [e]

theorem vals_snoc (xs : List (List UInt8)) (x : List UInt8) : vals xs ++ [encStr x] = vals (xs ++ [x]) := by simp [vals]

theorem wf_len {n : Nat} (h : n ≤ 1000000) : (Lit.int .i64 (n : Nat)).wf = true := by
  unfold Lit.wf
  simp [IntKind.min, IntKind.max, IntKind.signed, IntKind.bits]
  omega

theorem put_old (w : World) (b : Nat) (A : Option Addr) (cap : Nat) (m : Option Nat) (N : Nat) (xs : List (List UInt8)) (x : List UInt8) (h : Tb w b A cap m N xs) (hx : WF x) (hin : x ∈ xs) :
    Calls Tryz.prog 38 #[.pointer (some ⟨b, 0, none⟩), encStr x] w fun e w' => e = .returned (.tuple #[.int .i64 (noOf xs x : Nat), .bool false]) ∧ Below w.heap.size w w' := by
  have hl := h.set.look x hx
  rw [decide_eq_true hin] at hl
  have c0 : w.cell? ⟨b, 0, none⟩ = some (.map m) := h.box.cell 0
  generalize noOf xs x = r at *
  clear h hx hin
  go_enter Tryz.func38, Tryz.ntmps38
  go_wp2_with fail
  go_ret2
  exact ⟨rfl, (Below.refl _ _)⟩

end Go.Proofs.YtohdcmmkbblhkaaGreatDoor.ins

/-
  intern: Put of what is new.
-/
set_option linter.all false
namespace Go.Proofs.YtohdcmmkbblhkaaGreatDoor.ins
open Go.RowKit Go.Shelf Go.Proofs.YtohdcmmkbblhkaaGreatDoor.mem Go.Proofs.YtohdcmmkbblhkaaGreatDoor.inn

def PutPost (w : World) (b : Nat) (A : Option Addr) (m : Option Nat) (N : Nat) (xs : List (List UInt8)) (x : List UInt8) (e : Ending) (w' : World) : Prop :=
  e = .returned (.tuple #[.int .i64 (xs.length : Nat), .bool true]) ∧ Fr (foot b A m) w w' ∧ ∃ A' cap' m', Tb w' b A' cap' m' (N + 1) (xs ++ [x]) ∧ ∀ g ∈ foot b A' m', g ∈ foot b A m ∨ w.heap.size ≤ g

/-- the table behind Put -/
theorem put_end {w w2 w3 : World} {b : Nat} {A A' : Option Addr} {cap cap' mb N : Nat} {m : Option Nat} {xs : List (List UInt8)} {x : List UInt8} {D : DataW Unit} {o : Obj} (hwf : ∀ y ∈ xs, WF y) (hx : WF x) (hin : x ∉ xs) (hnod : xs.Nodup) (hlen : xs.length ≤ N) (hbA : b ∈ foot b A m)
    (f2 : Fr (foot b A m) w w2) (hb2 : Box w2 b 78 #[.map (some mb), .slice A xs.length cap]) (ho2 : w2.ownsMap (H := Unit) Tryz.prog 9 (plainElem Tryz.prog 3) mb (N + 1) (D.put (.string x) (.lit (.int .i64 (xs.length : Nat))))) (hD : Maps.IsMap D) (hh : Reads D xs) (hmb : mb ∈ foot b A m ∨ w.heap.size ≤ mb)
    (hbl : b ∉ blk A) (hml : mb ∉ blk A) (hs3 : Seg w3 9 A' cap' (vals xs ++ [encStr x])) (f3 : Fr (blk A) (w2.alloc o) w3) (hf3 : blk A' = blk A ∨ blk A' = [(w2.alloc o).heap.size]) :
    PutPost w b A m N xs x (.returned (.tuple #[.int .i64 (xs.length : Nat), .bool true])) (w3.setCell ⟨b, 1, none⟩ (.slice A' (xs.length + 1) cap')) := by
  have hb3 : Box w3 b 78 #[.map (some mb), .slice A xs.length cap] := (hb2.kept ((Fr.refl [] w2).alloc o) (by simp)).kept f3 hbl
  have fall : Fr (blk A) w2 w3 := ((Fr.refl (blk A) w2).alloc o).trans f3 (fun g hg => Or.inl hg) (fun g hg => Or.inl hg)
  obtain ⟨es, clock, hmh, hr⟩ := ho2
  have hmh3 : w3.heap[mb]? = some (.map es clock) := (fall.block mb (Array.getElem?_eq_some_iff.1 hmh).1 hml).trans hmh
  have hmlt : mb < w2.heap.size := (Array.getElem?_eq_some_iff.1 hmh).1
  have hne : mb ≠ b := fun e => by
    subst e
    unfold Box at hb2
    rw [hb2] at hmh
    cases hmh
  have fw : Fr (foot b A m) w w3 := f2.trans fall (fun g hg => Or.inl hg) (fun g hg => Or.inl (by simp only [foot, List.mem_cons, List.mem_append]; exact Or.inr (Or.inl hg)))
  have hfb : ∀ g ∈ blk A', g ∈ blk A ∨ w2.heap.size ≤ g := by
    intro g hg
    rcases hf3 with e | e
    · exact Or.inl (e ▸ hg)
    · right
      rw [e, List.mem_singleton] at hg
      subst hg
      simp
  have hb4 : b ∉ blk A' := by
    intro hm
    rcases hfb b hm with h | h
    · exact hbl h
    · have := hb2.lt; omega
  refine ⟨rfl, fw.setCell (Or.inl hbA) _, A', cap', some mb, ⟨?_, ?_, ?_, ?_, ?_, by simpa using hlen⟩, ?_⟩
  · have := hb3.put 1 (.slice A' (xs.length + 1) cap')
    simpa using this
  · rw [← vals_snoc]
    exact hs3.kept ((Fr.refl [b] w3).setCell (Or.inl (by simp)) _) (fun g hg he => by rw [List.mem_singleton] at he; subst he; exact hb4 hg)
  · refine Or.inr ⟨mb, _, rfl, ⟨es, clock, ?_, hr⟩, reads_put hD hin hh⟩
    exact (Below.heap_setCell w3 _ _ mb hne).trans hmh3
  · rw [List.nodup_append]
    refine ⟨hnod, by simp, ?_⟩
    intro a ha c hc
    rw [List.mem_singleton] at hc
    subst hc
    exact fun e => hin (e ▸ ha)
  · intro y hy
    rcases List.mem_append.1 hy with h | h
    · exact hwf y h
    · rw [List.mem_singleton] at h; subst h; exact hx
  · intro g hg
    simp only [foot, List.mem_cons, List.mem_append, Option.toList_some, List.not_mem_nil, or_false] at hg
    rcases hg with rfl | hg | rfl
    · exact Or.inl hbA
    · rcases hfb g hg with h | h
      · left; simp only [foot, List.mem_cons, List.mem_append]; exact Or.inr (Or.inl h)
      · right; exact Nat.le_trans f2.size h
    · exact hmb

set_option maxRecDepth 100000 in
theorem put_yes (w : World) (b : Nat) (A : Option Addr) (cap : Nat) (mb N : Nat) (xs : List (List UInt8)) (x : List UInt8) (h : Tb w b A cap (some mb) N xs) (hx : WF x) (hin : x ∉ xs) (hN : N < 1000000) :
    Calls Tryz.prog 38 #[.pointer (some ⟨b, 0, none⟩), encStr x] w (PutPost w b A (some mb) N xs x) := by
  have hl := h.set.look x hx
  rw [decide_eq_false hin] at hl
  have Hh := Lib.hid h
  have Hx := Lib.hid hx
  have Hin := Lib.hid hin
  have hlen := h.len
  have Hln := Lib.hid (wf_len (n := xs.length) (by omega))
  obtain ⟨i0, hi0, hz0, hz1, hz2⟩ := info_parts info_str
  have Hi := Lib.hid hi0
  have Hz0 := Lib.hid hz0
  have Hz1 := Lib.hid hz1
  have Hz2 := Lib.hid hz2
  have hmn : ∀ (w : World), (binOp .eql 76 (.map (some mb)) (.map none)).run Tryz.prog w = .ok (.bool false) w := fun w => by rw [run_eql_map_nil w _ _ _ _ Tryz.underlying76]; rfl
  have c0 : w.cell? ⟨b, 0, none⟩ = some (.map (some mb)) := h.box.cell 0
  have c1 : w.cell? ⟨b, 1, none⟩ = some (.slice A xs.length cap) := h.box.cell 1
  have hset := h.set
  rcases hset with ⟨h0, _⟩ | ⟨mb', D, h0, ho, hD⟩
  · cases h0
  injection h0 with h0
  subst h0
  have HD := Lib.hid hD
  have hne := box_ne_map h.box ho
  generalize noOf xs x = r at *
  clear h hx hin hi0 hz0 hz1 hz2 hD
  go_enter Tryz.func38, Tryz.ntmps38
  go_wp2_with (first
    | (at_mapUpdate
       refine wpList_mapUpdate_own _ rfl _ _ _ 76 rfl 9 3 (Maps.string_keyed Tryz.underlying9) Tryz.underlying76 (plainElem Tryz.prog 3) mb N D rfl ho (by unfold maxLen; omega) _ _ (.string x) rfl rfl (key_s Hx.out) (.lit (.int .i64 (xs.length : Nat))) [] (plainElem_int Tryz.underlying3 Hln.out) ?_
       intro w2 ho2 hg2
       have b2 : Fr [mb] w w2 := (Fr.refl _ w).grown hg2 (fun k hk => (by cases hk; exact Or.inl (by simp)))
       have Hb2 : Hid (Box w2 b 78 #[.map (some mb), .slice A xs.length cap]) := Lib.hid ((hg2.block b Hh.out.box.lt (fun e => hne (by injection e))).trans Hh.out.box)
       have Hs2 : Hid (Seg w2 9 A cap (vals xs)) := Lib.hid (Hh.out.seg.kept b2 (by intro g hg he; rw [List.mem_singleton] at he; subst he; exact seg_ne_map Hh.out.seg ho hg))
       have c2 : w2.cell? ⟨b, 1, none⟩ = some (.slice A xs.length cap) := Hb2.out.cell 1
       have f2 : w2.frozen? ⟨b, 1, none⟩ = false := Hb2.out.free 1
       have l2 := Hb2.out.lt)
    | (at_builtin
       refine wpList_push rfl _ _ _ rfl (Hs2.out.alloc _) (vals_len xs).symm Tryz.underlying26 Hi.out Hz0.out Hz1.out Hz2.out rfl rfl rfl (new_cell _ _ _) rfl (by omega) (by omega) ?_
       intro A' cap' w3 hs3 b3 hf3
       have Hb3 : Hid (Box w3 b 78 #[.map (some mb), .slice A xs.length cap]) := Lib.hid ((Hb2.out.kept ((Fr.refl [] w2).alloc _) (by simp)).kept b3 (Hs2.out.ne_box Hb2.out (by decide)))
       have c3 : w3.cell? ⟨b, 1, none⟩ = some (.slice A xs.length cap) := Hb3.out.cell 1
       have f3 : w3.frozen? ⟨b, 1, none⟩ = false := Hb3.out.free 1))
  go_ret2
  exact put_end Hh.out.wf Hx.out Hin.out Hh.out.nod hlen (by simp [foot]) ((Fr.refl _ _).trans b2 (fun g hg => Or.inl hg) (fun g hg => Or.inl (by rw [List.mem_singleton] at hg; subst hg; simp [foot]))) Hb2.out ho2 ho.isMap HD.out (Or.inl (by simp [foot])) (Hs2.out.ne_box Hb2.out (by decide)) (seg_ne_map Hs2.out ho2) hs3 b3 hf3

set_option maxRecDepth 100000 in
theorem put_new (w : World) (b : Nat) (A : Option Addr) (cap N : Nat) (x : List UInt8) (h : Tb w b A cap none N []) (hx : WF x) :
    Calls Tryz.prog 38 #[.pointer (some ⟨b, 0, none⟩), encStr x] w (PutPost w b A none N [] x) := by
  have hl := h.set.look x hx
  rw [decide_eq_false (by simp)] at hl
  have Hh := Lib.hid h
  have Hx := Lib.hid hx
  have Hln := Lib.hid (wf_len (n := 0) (by omega))
  obtain ⟨i0, hi0, hz0, hz1, hz2⟩ := info_parts info_str
  have Hi := Lib.hid hi0
  have Hz0 := Lib.hid hz0
  have Hz1 := Lib.hid hz1
  have Hz2 := Lib.hid hz2
  have hmn : ∀ (w : World), (binOp .eql 76 (.map none) (.map none)).run Tryz.prog w = .ok (.bool true) w := fun w => by rw [run_eql_map_nil w _ _ _ _ Tryz.underlying76]; rfl
  have hmm := @run_makeMap Tryz.prog
  have c0 : w.cell? ⟨b, 0, none⟩ = some (.map none) := h.box.cell 0
  have c1 : w.cell? ⟨b, 1, none⟩ = some (.slice A 0 cap) := h.box.cell 1
  have f1 : w.frozen? ⟨b, 0, none⟩ = false := h.box.free 0
  have l1 := h.box.lt
  have Hbm : Hid (Box ((w.setCell ⟨b, 0, none⟩ (.map (some w.heap.size))).alloc (.map #[] 0)) b 78 #[.map (some w.heap.size), .slice A 0 cap]) := Lib.hid ((h.box.put 0 _).kept ((Fr.refl [] _).alloc _) (by simp))
  have Ho : Hid (World.ownsMap (H := Unit) ((w.setCell ⟨b, 0, none⟩ (.map (some w.heap.size))).alloc (.map #[] 0)) Tryz.prog 9 (plainElem Tryz.prog 3) w.heap.size 0 (.map [])) := Lib.hid (by have h := World.ownsMap_made (H := Unit) (w.setCell ⟨b, 0, none⟩ (.map (some w.heap.size))) Tryz.prog 9 (plainElem Tryz.prog 3); rw [show (w.setCell ⟨b, 0, none⟩ (.map (some w.heap.size))).heap.size = w.heap.size by simp [World.setCell]] at h; exact h)
  have Hsm : Hid (Seg ((w.setCell ⟨b, 0, none⟩ (.map (some w.heap.size))).alloc (.map #[] 0)) 9 A cap (vals [])) := Lib.hid ((h.seg.kept ((Fr.refl [b] _).setCell (Or.inl (by simp)) _) (fun g hg he => by rw [List.mem_singleton] at he; subst he; exact h.seg.ne_box h.box (by decide) hg)).alloc _)
  have Fm : Hid (Fr (foot b A none) w ((w.setCell ⟨b, 0, none⟩ (.map (some w.heap.size))).alloc (.map #[] 0))) := Lib.hid (((Fr.refl _ _).setCell (Or.inl (by simp [foot])) _).alloc _)
  have cm : ((w.setCell ⟨b, 0, none⟩ (.map (some w.heap.size))).alloc (.map #[] 0)).cell? ⟨b, 1, none⟩ = some (.slice A 0 cap) := Hbm.out.cell 1
  have cm0 : ((w.setCell ⟨b, 0, none⟩ (.map (some w.heap.size))).alloc (.map #[] 0)).cell? ⟨b, 0, none⟩ = some (.map (some w.heap.size)) := Hbm.out.cell 0
  clear h hx hi0 hz0 hz1 hz2
  have e0 : noOf [] x = 0 := rfl
  rw [e0] at hl
  go_enter Tryz.func38, Tryz.ntmps38
  go_wp2_with (first
    | (at_mapUpdate
       refine wpList_mapUpdate_own _ rfl _ _ _ 76 rfl 9 3 (Maps.string_keyed Tryz.underlying9) Tryz.underlying76 (plainElem Tryz.prog 3) w.heap.size 0 (.map []) rfl Ho.out (by unfold maxLen; omega) _ _ (.string x) rfl rfl (key_s Hx.out) (.lit (.int .i64 (0 : Nat))) [] (plainElem_int Tryz.underlying3 Hln.out) ?_
       intro w2 ho2 hg2
       have b2 : Fr [w.heap.size] ((w.setCell ⟨b, 0, none⟩ (.map (some w.heap.size))).alloc (.map #[] 0)) w2 := (Fr.refl _ _).grown hg2 (fun k hk => (by cases hk; exact Or.inl (by simp)))
       have Hb2 : Hid (Box w2 b 78 #[.map (some w.heap.size), .slice A 0 cap]) := Lib.hid (Hbm.out.kept b2 (by simp; omega))
       have Hs2 : Hid (Seg w2 9 A cap (vals [])) := Lib.hid (Hsm.out.kept b2 (by intro g hg he; rw [List.mem_singleton] at he; subst he; exact seg_ne_map Hsm.out Ho.out hg))
       have c2 : w2.cell? ⟨b, 1, none⟩ = some (.slice A 0 cap) := Hb2.out.cell 1
       have f2 : w2.frozen? ⟨b, 1, none⟩ = false := Hb2.out.free 1
       have l2 := Hb2.out.lt)
    | (at_builtin
       refine wpList_push (n := 0) rfl _ _ _ rfl (Hs2.out.alloc _) rfl Tryz.underlying26 Hi.out Hz0.out Hz1.out Hz2.out rfl rfl rfl (new_cell _ _ _) rfl (by omega) (by omega) ?_
       intro A' cap' w3 hs3 b3 hf3
       have Hb3 : Hid (Box w3 b 78 #[.map (some w.heap.size), .slice A 0 cap]) := Lib.hid ((Hb2.out.kept ((Fr.refl [] w2).alloc _) (by simp)).kept b3 (Hs2.out.ne_box Hb2.out (by decide)))
       have c3 : w3.cell? ⟨b, 1, none⟩ = some (.slice A 0 cap) := Hb3.out.cell 1
       have f3 : w3.frozen? ⟨b, 1, none⟩ = false := Hb3.out.free 1))
  go_ret2
  exact put_end (mb := w.heap.size) (xs := []) (by simp) Hx.out (by simp) (by simp) (by simp) (by simp [foot]) (Fm.out.trans b2 (fun g hg => Or.inl hg) (fun g hg => Or.inr (by rw [List.mem_singleton] at hg; subst hg; exact Nat.le_refl _))) Hb2.out (ho2.mono (by omega)) ⟨[], rfl⟩ (by intro y _; exact ⟨rfl, rfl⟩) (Or.inr (Nat.le_refl _)) (Hs2.out.ne_box Hb2.out (by decide)) (seg_ne_map Hs2.out ho2) hs3 b3 hf3

theorem put_any (w : World) (b : Nat) (A : Option Addr) (cap : Nat) (m : Option Nat) (N : Nat) (xs : List (List UInt8)) (x : List UInt8) (h : Tb w b A cap m N xs) (hx : WF x) (hin : x ∉ xs) (hN : N < 1000000) :
    Calls Tryz.prog 38 #[.pointer (some ⟨b, 0, none⟩), encStr x] w (PutPost w b A m N xs x) := by
  cases m with
  | some mb => exact put_yes w b A cap mb N xs x h hx hin hN
  | none =>
    rcases h.set with ⟨_, rfl⟩ | ⟨_, _, h0, _⟩
    · exact put_new w b A cap N x h hx
    · cases h0
end Go.Proofs.YtohdcmmkbblhkaaGreatDoor.ins

/-
  intern: Find, At of a table of texts; the reference's Number.
-/
set_option linter.all false
namespace Go.Proofs.YtohdcmmkbblhkaaGreatDoor.ins
open Go.RowKit Go.Shelf Go.Proofs.YtohdcmmkbblhkaaGreatDoor.mem Go.Proofs.YtohdcmmkbblhkaaGreatDoor.inn

/-- what At answers -/
def atV (xs : List (List UInt8)) (n : Int) : Value := if h : 0 ≤ n ∧ n < xs.length then .tuple #[encStr (xs[n.toNat]'(by omega)), .bool true] else .tuple #[.string ⟨#[]⟩, .bool false]

set_option maxRecDepth 100000 in
theorem at_any (w : World) (b : Nat) (A : Option Addr) (cap : Nat) (xs : List (List UInt8)) (n : Int) (v : Value) (hb : Box w b 78 #[v, .slice A xs.length cap]) (hs : Rd w A (xs.map encStr)) :
    Calls Tryz.prog 40 #[.pointer (some ⟨b, 0, none⟩), .int .i64 n] w fun e w' => e = .returned (atV xs n) ∧ w = w' := by
  have H := Lib.hid (tlen_any w b A cap xs.length v hb)
  have c1 : w.cell? ⟨b, 1, none⟩ = some (.slice A xs.length cap) := hb.cell 1
  clear hb
  by_cases h0 : n < 0
  · have d0 : decide (n < 0) = true := decide_eq_true h0
    have hv : atV xs n = .tuple #[.string ⟨#[]⟩, .bool false] := by unfold atV; rw [dif_neg (by omega)]
    rw [hv]
    clear hv
    go_enter Tryz.func40, Tryz.ntmps40
    go_wp2_with fail
    go_ret2
    exact ⟨rfl, rfl⟩
  have d0 : decide (n < 0) = false := decide_eq_false h0
  by_cases h1 : (xs.length : Int) ≤ n
  · have d1 : decide ((xs.length : Int) ≤ n) = true := decide_eq_true h1
    have hv : atV xs n = .tuple #[.string ⟨#[]⟩, .bool false] := by unfold atV; rw [dif_neg (by omega)]
    rw [hv]
    clear hv
    go_enter Tryz.func40, Tryz.ntmps40
    go_wp2_with fail
    refine H.out.mono ?_
    rintro e w1 ⟨rfl, rfl⟩
    go_wp2_with fail
    go_ret2
    exact ⟨rfl, rfl⟩
  · have d1 : decide ((xs.length : Int) ≤ n) = false := decide_eq_false h1
    obtain ⟨k, rfl⟩ : ∃ k : Nat, n = k := ⟨n.toNat, by omega⟩
    have hk : k < xs.length := by omega
    have hv : atV xs k = .tuple #[encStr xs[k], .bool true] := by unfold atV; rw [dif_pos (by omega)]; simp
    obtain ⟨g, off, rfl, hlt, hc⟩ := rd_str hs (by omega)
    have c2 := hc k hk
    rw [hv]
    clear hv hs hc
    generalize encStr xs[k] = z at *
    go_enter Tryz.func40, Tryz.ntmps40
    go_wp2_with fail
    refine H.out.mono ?_
    rintro e w1 ⟨rfl, rfl⟩
    go_wp2_with fail
    go_ret2
    exact ⟨rfl, rfl⟩
end Go.Proofs.YtohdcmmkbblhkaaGreatDoor.ins

/-
  intern: the reference's Number.
-/
set_option linter.all false
namespace Go.Proofs.YtohdcmmkbblhkaaGreatDoor.ins
open Go.RowKit Go.Shelf Go.Proofs.YtohdcmmkbblhkaaGreatDoor.mem Go.Proofs.YtohdcmmkbblhkaaGreatDoor.inn

def numV (xs : List (List UInt8)) (x : List UInt8) : Int := if x ∈ xs then (noOf xs x : Nat) else -1

theorem numV_here {xs : List (List UInt8)} {x : List UInt8} {k : Nat} (hk : k < xs.length) (hx : xs[k] = x) (hn : x ∉ xs.take k) : numV xs x = (k : Nat) := by
  have hm : x ∈ xs := hx ▸ List.getElem_mem hk
  unfold numV noOf
  rw [if_pos hm, if_pos hm]
  have e : xs = xs.take k ++ x :: xs.drop (k + 1) := by
    rw [← hx, ← List.drop_eq_getElem_cons hk, List.take_append_drop]
  have : xs.idxOf x = k := by
    rw [e, List.idxOf_append, if_neg hn]
    simp; omega
  rw [this]

theorem numV_none {xs : List (List UInt8)} {x : List UInt8} (hn : x ∉ xs) : numV xs x = -1 := by unfold numV; rw [if_neg hn]

set_option maxRecDepth 100000 in
theorem number_any (w : World) (A : Option Addr) (cap : Nat) (xs : List (List UInt8)) (x : List UInt8) (h : Rd w A (xs.map encStr)) (hm : xs.length ≤ 1000000) :
    Calls Tryz.prog 23 #[.slice A xs.length cap, encStr x] w fun e w' => e = .returned (.int .i64 (numV xs x)) ∧ w = w' := by
  have Hh := Lib.hid h
  have Hv : Hid (∀ (k : Nat) (hk : k < xs.length), xs[k] = x → x ∉ xs.take k → numV xs x = (k : Nat)) := Lib.hid (fun k hk h1 h2 => numV_here hk h1 h2)
  have Hn : Hid (x ∉ xs → numV xs x = -1) := Lib.hid numV_none
  clear h
  generalize numV xs x = r at *
  go_enter Tryz.func23, Tryz.ntmps23
  go_wp2_with fail
  go_loopw [5] (fun i wr => ∃ k : Nat, k ≤ xs.length ∧ i = .int .i64 k ∧ Hid (x ∉ xs.take k) ∧ w = wr) (fun i _ => xs.length - (intOf i).toNat)
  case atStart => exact ⟨0, by omega, rfl, Lib.hid (by simp), rfl⟩
  case round =>
    obtain ⟨k, hk, rfl, hnot, rfl⟩ := hrel
    by_cases hkl : k < xs.length
    · have e1 : decide ((k : Int) < (xs.length : Int)) = true := decide_eq_true (by omega)
      obtain ⟨g, off, rfl, hlt, hc⟩ := rd_str Hh.out (by omega)
      have c2 := hc k hkl
      clear hc
      rcases heq : (xs[k] == x) with _ | _
      · unfold encStr at c2 ⊢
        go_wp2_with fail
        go_roundw
        case rel =>
          refine ⟨k + 1, by omega, by go_num, Lib.hid ?_, trivial⟩
          rw [List.take_succ_eq_append_getElem hkl, List.mem_append, List.mem_singleton]
          rintro (h | h)
          · exact hnot.out h
          · rw [← h] at heq; simp at heq
        case measure => simp [intOf]; omega
      · have hr := Hv.out k hkl (eq_of_beq heq) hnot.out
        unfold encStr at c2 ⊢
        go_wp2_with fail
        go_ret
        exact ⟨by rw [hr]; rfl, rfl⟩
    · obtain rfl : k = xs.length := by omega
      have e1 : decide ((xs.length : Int) < (xs.length : Int)) = false := decide_eq_false (by omega)
      have hr := Hn.out (by have := hnot.out; rwa [List.take_length] at this)
      unfold encStr
      go_wp2_with fail
      go_ret
      exact ⟨by rw [hr]; rfl, rfl⟩
end Go.Proofs.YtohdcmmkbblhkaaGreatDoor.ins

/-
  intern: the law's own closure: a thing as it should be.
-/
set_option linter.all false
namespace Go.Proofs.YtohdcmmkbblhkaaGreatDoor.ins
open Go.RowKit Go.Shelf Go.Proofs.YtohdcmmkbblhkaaGreatDoor.mem Go.Proofs.YtohdcmmkbblhkaaGreatDoor.inn

end Go.Proofs.YtohdcmmkbblhkaaGreatDoor.ins

/-
  intern: the law's own works.
-/
set_option linter.all false
namespace Go.Proofs.YtohdcmmkbblhkaaGreatDoor.inn
open Go.RowKit Go.Shelf Go.Sort Go.Proofs.YtohdcmmkbblhkaaGreatDoor.mem

theorem on_fr {B : Nat} {w0 w w' : World} {F : List Nat} (h : Below B w0 w) (f : Fr F w w') (hF : ∀ g ∈ F, B ≤ g) (hB : B ≤ w.heap.size) : Below B w0 w' := h.trans (f.below hF hB)

end Go.Proofs.YtohdcmmkbblhkaaGreatDoor.inn

/-
  intern: a table of texts that is the law's own; its iterator's making.
-/
set_option linter.all false
namespace Go.Proofs.YtohdcmmkbblhkaaGreatDoor.ins
open Go.RowKit Go.Shelf Go.Proofs.YtohdcmmkbblhkaaGreatDoor.mem Go.Proofs.YtohdcmmkbblhkaaGreatDoor.inn

theorem ts_new (w : World) : Tb (w.alloc (.cells #[.map none, .slice none 0 0] 78)) w.heap.size none 0 none 0 [] :=
  ⟨Box.new w _ _, Seg.nil _ _, Or.inl ⟨rfl, rfl⟩, by simp, by simp, Nat.le_refl _⟩

/-- a table all of whose blocks are new since a world -/
def TS (w0 w : World) (b N : Nat) (xs : List (List UInt8)) : Prop := ∃ A cap m, Tb w b A cap m N xs ∧ Below w0.heap.size w0 w ∧ (∀ g ∈ foot b A m, w0.heap.size ≤ g) ∧ w0.heap.size ≤ w.heap.size

theorem TS.below {w0 w w' : World} {b N : Nat} {xs : List (List UInt8)} (h : TS w0 w b N xs) (f : Below w.heap.size w w') : TS w0 w' b N xs := by
  obtain ⟨A, cap, m, ha, hb, hf, hB⟩ := h
  exact ⟨A, cap, m, ha.kept (Fr.of_below f []) (by simp), hb.trans (f.mono hB), hf, Nat.le_trans hB f.size⟩
end Go.Proofs.YtohdcmmkbblhkaaGreatDoor.ins

/-
  intern: a table's Rising: its iterator, called with whatever closure.
-/
set_option linter.all false
namespace Go.Proofs.YtohdcmmkbblhkaaGreatDoor.ins
open Go.RowKit Go.Shelf Go.Proofs.YtohdcmmkbblhkaaGreatDoor.mem Go.Proofs.YtohdcmmkbblhkaaGreatDoor.inn

attribute [local go_sem] Oper.semAt_some

theorem rising_new (w : World) (b : Nat) : Calls Tryz.prog 41 #[.pointer (some ⟨b, 0, none⟩)] w fun e w' => e = .returned (.func (.func 61) #[] #[.pointer (some ⟨w.heap.size, 0, none⟩)]) ∧ w' = w.alloc (.cells #[.pointer (some ⟨b, 0, none⟩)] 111) := by
  go_enter Tryz.func41, Tryz.ntmps41
  go_wp2_with fail
  go_ret
  exact ⟨rfl, rfl⟩

/-- what the iterator looks at -/
structure RI (W : World) (tb yb b : Nat) (m : Option Nat) (N : Nat) (xs : List (List UInt8)) (fv v : Value) : Prop where
  tb : Box W tb 111 #[.pointer (some ⟨b, 0, none⟩)]
  yb : Box W yb 112 #[fv]
  bx : Box W b 78 #[.map m, v]
  set : Held W m N xs

theorem RI.kept {F : List Nat} {W W' : World} {tb yb b : Nat} {m : Option Nat} {N : Nat} {xs : List (List UInt8)} {fv v : Value} (h : RI W tb yb b m N xs fv v) (hf : Fr F W W') (h1 : tb ∉ F) (h2 : yb ∉ F) (h3 : b ∉ F) (h4 : ∀ g ∈ m.toList, g ∉ F) : RI W' tb yb b m N xs fv v :=
  ⟨h.tb.kept hf h1, h.yb.kept hf h2, h.bx.kept hf h3, h.set.kept hf h4⟩

theorem RI.grown {W W' : World} {tb yb b : Nat} {m : Option Nat} {N B : Nat} {xs : List (List UInt8)} {fv v : Value} {row : Option Nat} (h : RI W tb yb b m N xs fv v) (hm : ∀ g ∈ m.toList, g < B) (hg : W.grownBy W' row) (hr : ∀ r, row = some r → B ≤ r ∧ ∃ o : Obj, W.heap[r]? = some o ∧ o.isCells = false) : RI W' tb yb b m N xs fv v := by
  have hr2 : ∀ r, row = some r → ∃ o : Obj, W.heap[r]? = some o ∧ o.isCells = false := fun r e => (hr r e).2
  refine ⟨box_grown h.tb hg hr2, box_grown h.yb hg hr2, box_grown h.bx hg hr2, ?_⟩
  rcases h.set with ⟨rfl, h0⟩ | ⟨mb, D, rfl, ho, hh⟩
  · exact Or.inl ⟨rfl, h0⟩
  · right
    obtain ⟨es, clock, hb, r⟩ := ho
    refine ⟨mb, D, rfl, ⟨es, clock, (hg.block mb (Array.getElem?_eq_some_iff.1 hb).1 (fun e => ?_)).trans hb, r⟩, hh⟩
    have h1 := (hr mb e.symm).1
    have h2 := hm mb (by simp)
    omega

set_option maxRecDepth 100000 in
theorem Held.look1 {w : World} {m : Option Nat} {N : Nat} {xs : List (List UInt8)} (h : Held w m N xs) (x : List UInt8) (hx : WF x) :
    (Instr.lookup 76 (.map m) (encStr x) false).run Tryz.prog w = .ok (.int .i64 (noOf xs x : Nat)) w := by
  have hz : (zeroValue 3).run Tryz.prog w = .ok (.int .i64 0) w := by kernel_rfl
  rcases h with ⟨rfl, rfl⟩ | ⟨b, D, rfl, ho, hh⟩
  · exact Maps.look_nil (w := w) false (Maps.string_keyed Tryz.underlying9) Tryz.underlying76 hz (key_s hx)
  · obtain ⟨_, h2⟩ := hh x hx
    obtain ⟨es, clock, hb, F, _, rfl⟩ := ho
    rcases Maps.fit_look false (Maps.string_keyed Tryz.underlying9) Tryz.underlying76 hz hb F (key_s hx) with ⟨hrun, _, hat⟩ | ⟨e0, y, _, _, hrun, hRv, hat, _⟩
    · rw [hat] at h2
      injection h2 with h2
      injection h2 with _ h2
      rw [← h2]
      exact hrun
    · obtain ⟨c, hv, hc, _⟩ := plainElem_int_inv Tryz.underlying3 hRv
      rw [hat, hc] at h2
      injection h2 with h2
      injection h2 with _ h2
      rw [← h2, ← hv]
      exact hrun

end Go.Proofs.YtohdcmmkbblhkaaGreatDoor.ins

/-
  intern: the law's own closure, whatever it is told.
-/
set_option linter.all false
namespace Go.Proofs.YtohdcmmkbblhkaaGreatDoor.ins
open Go.RowKit Go.Shelf Go.Proofs.YtohdcmmkbblhkaaGreatDoor.mem Go.Proofs.YtohdcmmkbblhkaaGreatDoor.inn

end Go.Proofs.YtohdcmmkbblhkaaGreatDoor.ins

/-
  intern: the law's rising: a table tells all its texts in order.
-/
set_option linter.all false
namespace Go.Proofs.YtohdcmmkbblhkaaGreatDoor.ins
open Go.RowKit Go.Shelf Go.Proofs.YtohdcmmkbblhkaaGreatDoor.mem Go.Proofs.YtohdcmmkbblhkaaGreatDoor.inn

end Go.Proofs.YtohdcmmkbblhkaaGreatDoor.ins

/-
  intern: the law on texts: a table and a list beside it.
-/
set_option linter.all false
namespace Go.Proofs.YtohdcmmkbblhkaaGreatDoor.ins
open Go.RowKit Go.Shelf Go.Proofs.YtohdcmmkbblhkaaGreatDoor.mem Go.Proofs.YtohdcmmkbblhkaaGreatDoor.inn

theorem Tb.mono {w : World} {b : Nat} {A : Option Addr} {cap : Nat} {m : Option Nat} {N N' : Nat} {xs : List (List UInt8)} (h : Tb w b A cap m N xs) (hN : N ≤ N') : Tb w b A cap m N' xs :=
  ⟨h.box, h.seg, h.set.mono hN, h.nod, h.wf, Nat.le_trans h.len hN⟩

/-- a table of the call's own, and a list of its own beside it -/
structure TM (w0 w : World) (b N : Nat) (xs ys : List (List UInt8)) (B : Option Addr) (c : Nat) : Prop where
  ex : ∃ A cap m, Tb w b A cap m N xs ∧ (∀ g ∈ foot b A m, w0.heap.size ≤ g) ∧ (∀ g ∈ foot b A m, g ∉ blk B)
  on : Below w0.heap.size w0 w
  seg : Seg w 9 B c (vals ys)
  own : ∀ g ∈ blk B, w0.heap.size ≤ g

theorem TM.new (w : World) : TM w (w.alloc (.cells #[.map none, .slice none 0 0] 78)) w.heap.size 0 [] [] none 0 :=
  ⟨⟨none, 0, none, ts_new w, by simp [foot, blk], by simp [blk]⟩, (Below.refl _ w).alloc (Nat.le_refl _) _, Seg.nil _ _, by simp [blk]⟩

theorem TM.rd {w0 w : World} {b N : Nat} {xs ys : List (List UInt8)} {B : Option Addr} {c : Nat} (h : TM w0 w b N xs ys B c) : Rd w B (ys.map encStr) := h.seg.rd

theorem tm_new {w0 w : World} {b N : Nat} {xs ys : List (List UInt8)} {B : Option Addr} {c : Nat} (h : TM w0 w b N xs ys B c) (x : List UInt8) (hx : WF x) (hin : x ∉ xs) (hN : N < 1000000) :
    Calls Tryz.prog 38 #[.pointer (some ⟨b, 0, none⟩), encStr x] w fun e w' => e = .returned (.tuple #[.int .i64 (xs.length : Nat), .bool true]) ∧ TM w0 w' b (N + 1) (xs ++ [x]) ys B c := by
  obtain ⟨A, cap, m, ha, hf, hd⟩ := h.ex
  refine (put_any w b A cap m N xs x ha hx hin hN).mono ?_
  rintro e w' ⟨rfl, f, A', cap', m', ha', hf'⟩
  refine ⟨rfl, ⟨A', cap', m', ha', fun g hg => ?_, fun g hg hB => ?_⟩, on_fr h.on f hf h.on.size, h.seg.kept f (fun g hg hm => hd g hm hg), h.own⟩
  · rcases hf' g hg with h1 | h1
    · exact hf g h1
    · have := h.on.size; omega
  · rcases hf' g hg with h1 | h1
    · exact hd g h1 hB
    · have := h.seg.lt g hB; omega

theorem tm_old {w0 w : World} {b N : Nat} {xs ys : List (List UInt8)} {B : Option Addr} {c : Nat} (h : TM w0 w b N xs ys B c) (x : List UInt8) (hx : WF x) (hin : x ∈ xs) :
    Calls Tryz.prog 38 #[.pointer (some ⟨b, 0, none⟩), encStr x] w fun e w' => e = .returned (.tuple #[.int .i64 (noOf xs x : Nat), .bool false]) ∧ TM w0 w' b (N + 1) xs ys B c := by
  obtain ⟨A, cap, m, ha, hf, hd⟩ := h.ex
  refine (put_old w b A cap m N xs x ha hx hin).mono ?_
  rintro e w' ⟨rfl, f⟩
  exact ⟨rfl, ⟨A, cap, m, (ha.kept (Fr.of_below f []) (by simp)).mono (by omega), hf, hd⟩, h.on.trans (f.mono h.on.size), h.seg.kept (Fr.of_below f []) (by simp), h.own⟩

theorem tm_len {w0 w : World} {b N : Nat} {xs ys : List (List UInt8)} {B : Option Addr} {c : Nat} (h : TM w0 w b N xs ys B c) :
    Calls Tryz.prog 39 #[.pointer (some ⟨b, 0, none⟩)] w fun e w' => e = .returned (.int .i64 xs.length) ∧ w = w' := by
  obtain ⟨A, cap, m, ha, _⟩ := h.ex
  exact tlen_any w b A cap xs.length (.map m) ha.box

theorem tm_at {w0 w : World} {b N : Nat} {xs ys : List (List UInt8)} {B : Option Addr} {c : Nat} (h : TM w0 w b N xs ys B c) (n : Int) :
    Calls Tryz.prog 40 #[.pointer (some ⟨b, 0, none⟩), .int .i64 n] w fun e w' => e = .returned (atV xs n) ∧ w = w' := by
  obtain ⟨A, cap, m, ha, _⟩ := h.ex
  exact at_any w b A cap xs n _ ha.box ha.seg.rd

end Go.Proofs.YtohdcmmkbblhkaaGreatDoor.ins

/-
  intern: what is told rising, to a body that writes blocks of its own.
-/
set_option linter.all false
namespace Go.Proofs.YtohdcmmkbblhkaaGreatDoor.rng
open Go.RowKit Go.Sort Go.Shelf Go.Proofs.YtohdcmmkbblhkaaGreatDoor.mem
open Go.Proofs.YtohdcmmkbblhkaaGreatDoor.inn (rsS mem_rsS clone_s sort_s compact_s clone0_s CB rs_len grown_of below_fr sorted_s intoAll rising_in_s)
attribute [local go_sem] Oper.semAt_some

theorem ownF_b {β : Type} {B : Nat} {I : β → World → Prop} (h : OwnFrom B I) {s : β} {W W' : World} (hs : I s W) (hb : Below W.heap.size W W') : I s W' :=
  h s W W' none hs (grown_of hb) fun r e => by cases e
theorem OwnS.below {B : Nat} {Own : World → Nat → Prop} (h : OwnS B Own) {k : Nat} {W W' : World} (hB : B ≤ W.heap.size) (hk : Own W' k) (hb : Below W.heap.size W W') : Own W k :=
  h k W W' none hB hk (grown_of hb) fun r e => by cases e
theorem cb_ko {α : Type} {enc : α → Value} {e : TypeId} {Own : World → Nat → Prop} {w w' : World} {g cap : Nat} {xs : List α} (h : CB enc e w g cap xs) (hk : KO Own w w') (hg : ¬ Own w g) : CB enc e w' g cap xs :=
  h.kept _ (hk.same g h.lt hg)

set_option maxRecDepth 100000 in
set_option maxHeartbeats 2000000 in
theorem ris1 (n : Nat) (hn : 2 ≤ n) (l Bn : Nat) (A : Option Addr) (c : Nat) (ss : List (List UInt8)) (hz : 0 < ss.length) (hbig : ss.length ≤ 1000000) (Pw : List UInt8 → Prop) (zs : List {x : List UInt8 // Pw x}) (hzs : zs.map (·.1) = rsS ss) (J Jx : List {x : List UInt8 // Pw x} → World → Prop) (Own : World → Nat → Prop)
    (W : World) (hJ : OwnFrom W.heap.size J) (hO : ∀ k, Own W k → k < W.heap.size) (hS : OwnS W.heap.size Own)
    (hY : ∀ pre x W1, J pre W1 → pre.length < (rsS ss).length → YieldAt Fence.wide (n - 1) Tryz.prog l #[encStr x.1] W1 fun e W' =>
      (e = .returned (.bool true) ∧ J (pre ++ [x]) W' ∧ KO Own W1 W') ∨ (e = .returned (.bool false) ∧ Jx (pre ++ [x]) W' ∧ KO Own W1 W'))
    (hBn : W.cell? ⟨Bn, 0, none⟩ = some (.slice A ss.length c)) (hA : Rd W A (ss.map encStr)) (h0 : J [] W) :
    CallsIn Fence.wide n Tryz.prog 62 #[.func (.yield l) #[] #[], .pointer (some ⟨Bn, 0, none⟩)] W fun e W' => (∃ v, e = .returned v) ∧
      ((∃ ys : List {x : List UInt8 // Pw x}, ys.map (·.1) = rsS ss ∧ J ys W') ∨ (∃ pre : List {x : List UInt8 // Pw x}, pre.map (·.1) <+: rsS ss ∧ Jx pre W')) := by
  have K1 := clone_s W A c ss hA hz hbig
  refine callsIn_of_wp Tryz.func62 rfl trivial ?_ rfl
  simp only [Tryz.ntmps62, List.size_toArray, List.length_cons, List.length_nil, Nat.reduceAdd, Nat.reduceSub, Array.replicate_succ, Array.replicate_zero, List.push_toArray, List.append_toArray, List.nil_append, List.cons_append]
  gi_wp2_with (refine ⟨trivial, fun _ => (by omega), ?_⟩; gi_at_call 44; refine (callsIn_wide.2 K1).mono ?_; rintro e w1 ⟨g, cap, rfl, hg, hcb, hb1⟩)
  have K2 := sort_s w1 g cap ss hcb hbig
  clear K1 hA hBn
  gi_wp2_with (refine ⟨trivial, fun _ => (by omega), ?_⟩; gi_at_call 63; refine (callsIn_wide.2 K2).mono ?_; rintro e w2 ⟨rfl, hcb2, hf2⟩)
  have K3 := compact_s w2 g cap _ hcb2 (by simpa using hbig)
  rw [sorted_s, List.length_mergeSort] at K3
  clear K2
  gi_wp2_with (refine ⟨trivial, fun _ => (by omega), ?_⟩; gi_at_call 64; refine (callsIn_wide.2 K3).mono ?_; rintro e w3 ⟨rfl, hcb3, hf3⟩)
  have hb3 := below_fr (below_fr hb1 hf2 hg) hf3 hg
  have HJ := Lib.hid (ownF_b hJ h0 hb3)
  have HC : Hid (CB encStr 9 w3 g cap (rsS ss)) := Lib.hid hcb3
  have HN : Hid (¬ Own w3 g) := Lib.hid (fun h => by have := hO g (hS.below (Nat.le_refl _) h hb3); omega)
  have hlen : (rsS ss).length ≤ 1000000 := by have := rs_len ss; omega
  have hzl : zs.length = (rsS ss).length := by rw [← hzs, List.length_map]
  have HZ : Hid (zs.map (·.1) = rsS ss) := Lib.hid hzs
  change Hid _ at HJ
  clear K3 hcb hcb2 hcb3 hf2 hf3 hb1 hb3 h0 hJ hg hO hS hzs
  have hrs : intoAll (fun a b : List UInt8 => a < b) ss = rsS ss := rfl
  simp only [hrs] at *
  clear hrs
  gi_loopw [13] (fun i wr => ∃ k : Nat, k ≤ (rsS ss).length ∧ i = .int .i64 k ∧ Hid (J (zs.take k) wr) ∧ Hid (CB encStr 9 wr g cap (rsS ss)) ∧ Hid (¬ Own wr g)) (fun i _ => (rsS ss).length - (intOf i).toNat)
  case atStart => exact ⟨0, by omega, rfl, HJ, HC, HN⟩
  case round =>
    obtain ⟨k, hk, rfl, hj, hc, hno⟩ := hrel
    rename_i wr
    by_cases hkl : k < (rsS ss).length
    · have e1 : decide ((k : Int) < ((rsS ss).length : Int)) = true := decide_eq_true (by omega)
      have ck := hc.out.cell encStr k hkl
      have hkz : k < zs.length := by rw [hzl]; exact hkl
      have hzk : (zs[k]'hkz).1 = (rsS ss)[k]'hkl := by
        have h1 : (zs.map (·.1))[k]? = (rsS ss)[k]? := by rw [HZ.out]
        rw [List.getElem?_map, List.getElem?_eq_getElem hkz, List.getElem?_eq_getElem hkl] at h1
        exact Option.some.inj h1
      obtain ⟨fn, tmps, assign, body, hy, hR⟩ := hY (zs.take k) (zs[k]'hkz) wr hj.out (by rw [List.length_take]; omega)
      rw [← List.take_succ_eq_append_getElem hkz] at hR
      rw [hzk] at hy
      have hpre : Hid ((zs.take (k + 1)).map (·.1) <+: (rsS ss)) := Lib.hid (by rw [← HZ.out]; exact (List.take_prefix _ _).map _)
      clear hzk
      generalize (rsS ss)[k] = y at *
      gi_wp2
      refine ⟨fun _ => (by omega), hR.mono ?_⟩
      rintro e W3 (⟨rfl, hJ3, hk3⟩ | ⟨rfl, hJx3, _⟩)
      · have HJ3 := Lib.hid hJ3
        have HC3 := Lib.hid (cb_ko hc.out hk3 hno.out)
        have HN3 := Lib.hid (hk3.not hc.out.lt hno.out)
        clear hJ3 hk3
        gi_wp2
        go_roundw
        case rel => exact ⟨k + 1, by omega, by go_num, HJ3, HC3, HN3⟩
        case measure => simp [intOf]; omega
      · have HJx3 := Lib.hid hJx3
        clear hJx3
        gi_wp2
        refine bodyPost_ret (results_none rfl _ _ _) rfl ?_
        exact ⟨⟨_, rfl⟩, .inr ⟨_, hpre.out, HJx3.out⟩⟩
    · obtain rfl : k = (rsS ss).length := by omega
      have e1 : decide (((rsS ss).length : Int) < ((rsS ss).length : Int)) = false := decide_eq_false (by omega)
      have hj2 : Hid (J zs wr) := Lib.hid (by have := hj.out; rwa [List.take_of_length_le (by omega)] at this)
      clear hj
      gi_wp2
      go_end0
      exact ⟨⟨_, rfl⟩, .inl ⟨_, HZ.out, hj2.out⟩⟩

set_option maxRecDepth 100000 in
set_option maxHeartbeats 1000000 in
theorem ris0 {α : Type} (n : Nat) (hn : 2 ≤ n) (l Bn : Nat) (A : Option Addr) (c : Nat) (J : List α → World → Prop)
    (W : World) (hJ : OwnFrom W.heap.size J)
    (hBn : W.cell? ⟨Bn, 0, none⟩ = some (.slice A 0 c)) (h0 : J [] W) :
    CallsIn Fence.wide n Tryz.prog 62 #[.func (.yield l) #[] #[], .pointer (some ⟨Bn, 0, none⟩)] W fun e W' => (∃ v, e = .returned v) ∧ J [] W' := by
  have K1 := clone0_s W A c
  refine callsIn_of_wp Tryz.func62 rfl trivial ?_ rfl
  simp only [Tryz.ntmps62, List.size_toArray, List.length_cons, List.length_nil, Nat.reduceAdd, Nat.reduceSub, Array.replicate_succ, Array.replicate_zero, List.push_toArray, List.append_toArray, List.nil_append, List.cons_append]
  gi_wp2_with (refine ⟨trivial, fun _ => (by omega), ?_⟩; gi_at_call 44; refine (callsIn_wide.2 K1).mono ?_; rintro e w1 ⟨B, cap, rfl, hb1⟩)
  have K2 := Tryz.slices_Sort_string_none B cap w1
  clear K1 hBn
  gi_wp2_with (refine ⟨trivial, fun _ => (by omega), ?_⟩; gi_at_call 63; refine (callsIn_wide.2 K2).mono ?_; rintro e w2 ⟨rfl, hw2⟩)
  subst hw2
  have K3 := Tryz.slices_Compact_string_empty B cap w2
  clear K2
  gi_wp2_with (refine ⟨trivial, fun _ => (by omega), ?_⟩; gi_at_call 64; refine (callsIn_wide.2 K3).mono ?_; rintro e w3 ⟨rfl, hw3⟩)
  subst hw3
  have HJ := Lib.hid (ownF_b hJ h0 hb1)
  clear K3 hJ h0 hb1
  gi_loopw [13] (fun i wr => i = .int .i64 0 ∧ w3 = wr) (fun _ _ => 0)
  case atStart => exact ⟨rfl, rfl⟩
  case round =>
    obtain ⟨rfl, rfl⟩ := hrel
    gi_wp2
    go_end0
    exact ⟨⟨_, rfl⟩, HJ.out⟩

theorem ris_own (Pw : List UInt8 → Prop) (n : Nat) (hn : 2 ≤ n) (Bn : Nat) (A : Option Addr) (c : Nat) (ss : List (List UInt8)) (hP : ∀ x ∈ ss, Pw x) (hbig : ss.length ≤ 1000000) (w : World) (hBn : Bn < w.heap.size) (hc : w.cell? ⟨Bn, 0, none⟩ = some (.slice A ss.length c)) (hA : Rd w A (ss.map encStr)) :
    SeqO n Tryz.prog 62 #[.pointer (some ⟨Bn, 0, none⟩)] (fun x : {x : List UInt8 // Pw x} => #[encStr x.1]) (fun ys => ys.map (·.1) = rsS ss) (fun pre => pre.map (·.1) <+: rsS ss) (rsS ss).length [] w := fun l J Jx Own W hW hJ hJx hO _ hS hY h0 => by
  have hcW := (hW.cell (p := ⟨Bn, 0, none⟩) hBn).trans hc
  rcases Nat.eq_zero_or_pos ss.length with hz | hz
  · obtain rfl : ss = [] := List.eq_nil_of_length_eq_zero hz
    refine (ris0 n hn l Bn A c J W hJ hcW h0).mono ?_
    rintro e W' ⟨hv, hj⟩
    exact ⟨hv, .inl ⟨[], rfl, hj⟩⟩
  · have hP2 : ∀ x ∈ rsS ss, Pw x := fun x hx => hP x ((mem_rsS ss x).1 hx)
    exact ris1 n hn l Bn A c ss hz hbig Pw ((rsS ss).pmap (fun a h => ⟨a, h⟩) hP2) (by rw [List.map_pmap]; simp) J Jx Own W hJ hO hS hY hcW (hA.below hW) h0
end Go.Proofs.YtohdcmmkbblhkaaGreatDoor.rng
