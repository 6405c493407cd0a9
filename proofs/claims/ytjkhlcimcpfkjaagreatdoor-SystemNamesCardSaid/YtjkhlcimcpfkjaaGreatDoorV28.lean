import Derived.Test.YtjkhlcimcpfkjaaGreatDoorMem
import Derived.Test.YtjkhlcimcpfkjaaGreatDoorIn
import Derived.Test.YtjkhlcimcpfkjaaGreatDoorShelf2
import Derived.Sort.OwnSorted
import Derived.Lib.RowBridge
/-
  texts, many of them: sorted, without what stands twice; held against each other.
-/
set_option linter.all false
namespace Go.Proofs.YtjkhlcimcpfkjaaGreatDoor.tx
open Go.Proofs.YtjkhlcimcpfkjaaGreatDoor.inn (Ordr intoAll into ordS intoAll_spec sorted_s intoAll_snoc)
open Go.RowKit Go.Sort Go.Proofs.YtjkhlcimcpfkjaaGreatDoor.mem

section
variable {α : Type} [Inhabited α] (enc : α → Value)

theorem heap_put {w : World} {g n : Nat} {os : Array Obj} {cur : Array Value} {e : TypeId} {fr : Nat × Nat} (d : Array α) (hb : w.heap[g]? = some (.cells cur e fr)) :
    (grow (putRow enc (Sort.ahead w n) g 0 d) os).heap[g]? = some (.cells (putCells enc 0 d cur) e fr) := by
  have hg : g < w.heap.size := (Array.getElem?_eq_some_iff.1 hb).1
  rw [heap_grow_old _ _ (by simpa using hg)]
  simp [putRow, mapBlock, Sort.ahead, Array.getElem?_modify, hb, onCells]

theorem put_fr (w : World) (n g off : Nat) (d : Array α) (os : Array Obj) : Fr [g] w (grow (putRow enc (Sort.ahead w n) g off d) os) := by
  refine ⟨rfl, rfl, rfl, by simp [grow], fun k hk hne => ?_⟩
  rw [heap_grow_old _ _ (by simpa using hk)]
  have : g ≠ k := fun e => hne (by rw [e]; simp)
  simp [putRow, mapBlock, Sort.ahead, Array.getElem?_modify, this]

theorem take_put (cur : Array Value) (ts : List α) (h : ts.length ≤ cur.size) : (putCells enc 0 ts.toArray cur).toList.take ts.length = ts.map enc := by
  apply List.ext_getElem?
  intro j
  by_cases hj : j < ts.length
  · rw [List.getElem?_take_of_lt hj, Array.getElem?_toList]
    simp [putCells, hj, show j < cur.size by omega]
  · rw [List.getElem?_take_eq_none (by omega), List.getElem?_eq_none (by simp; omega)]

theorem holds_of {w : World} {g : Nat} {cur : Array Value} {e : TypeId} {ss : List α} (hb : w.heap[g]? = some (.cells cur e (0, 0))) (ht : cur.toList.take ss.length = ss.map enc) : Holds enc w g 0 ss.toArray := by
  intro j hj
  have hj' : j < ss.length := by simpa using hj
  refine ⟨?_, by simp [World.frozen?, hb]⟩
  have h1 : (cur.toList.take ss.length)[j]? = (ss.map enc)[j]? := by rw [ht]
  rw [List.getElem?_take_of_lt hj'] at h1
  simp only [World.cell?, hb, Nat.zero_add]
  simp only [Option.isSome_none, Bool.false_eq_true, if_false]
  rw [← Array.getElem?_toList, h1]
  simp [hj']

end

section
variable {α : Type} (enc : α → Value)

/-- a row of a block's own -/
structure CB (e : TypeId) (w : World) (g cap : Nat) (xs : List α) : Prop where
  ex : ∃ cur, w.heap[g]? = some (.cells cur e (0, 0)) ∧ cur.size = cap ∧ cur.toList.take xs.length = xs.map enc
  le : xs.length ≤ cap
  max : cap ≤ maxLen

theorem CB.lt {e : TypeId} {w : World} {g cap : Nat} {xs : List α} (h : CB enc e w g cap xs) : g < w.heap.size := by
  obtain ⟨cur, hb, _⟩ := h.ex
  exact (Array.getElem?_eq_some_iff.1 hb).1

theorem CB.kept {e : TypeId} {w w' : World} {g cap : Nat} {xs : List α} (h : CB enc e w g cap xs) (hb : w'.heap[g]? = w.heap[g]?) : CB enc e w' g cap xs := by
  obtain ⟨cur, h1, h2, h3⟩ := h.ex
  exact ⟨⟨cur, hb.trans h1, h2, h3⟩, h.le, h.max⟩

theorem CB.cut {e : TypeId} {w : World} {g cap : Nat} {xs ys : List α} (h : CB enc e w g cap (xs ++ ys)) : CB enc e w g cap xs := by
  obtain ⟨cur, h1, h2, h3⟩ := h.ex
  have hl := h.le
  rw [List.length_append] at hl
  refine ⟨⟨cur, h1, h2, ?_⟩, by omega, h.max⟩
  have := congrArg (List.take xs.length) h3
  rw [List.take_take, List.length_append, Nat.min_eq_left (by omega), List.map_append, List.take_left' (by simp)] at this
  exact this

theorem cb_of_own {e : TypeId} {w : World} {B n : Nat} {v : Value} {xs : List α} (h : w.ownsRow B e 1 v n (xs.map enc)) (hv : v ≠ .slice none 0 0) : ∃ g cap, v = .slice (some ⟨g, 0, none⟩) n cap ∧ B ≤ g ∧ CB enc e w g cap xs := by
  obtain ⟨h0, h | ⟨g, cap, cur, rfl, hb, hh, h1, h2, h3, h4⟩⟩ := h
  · exact absurd h.1 hv
  · have hn : xs.length = n := by simpa using h0
    refine ⟨g, cap, rfl, hb, ⟨cur, hh, by omega, by rw [Nat.mul_one] at h4; rw [hn]; exact h4⟩, by omega, h2⟩
end

section
variable {α : Type} [Inhabited α] (enc : α → Value)

theorem CB.holds {e : TypeId} {w : World} {g cap : Nat} {xs : List α} (h : CB enc e w g cap xs) : Holds enc w g 0 xs.toArray := by
  obtain ⟨cur, hb, _, ht⟩ := h.ex
  exact holds_of enc hb ht

theorem CB.cell {e : TypeId} {w : World} {g cap : Nat} {xs : List α} (h : CB enc e w g cap xs) (j : Nat) (hj : j < xs.length) : w.cell? ⟨g, j, none⟩ = some (enc xs[j]) := by
  have := (h.holds enc j (by simpa using hj)).1
  simpa [hj] using this

theorem CB.put {e : TypeId} {w : World} {g cap n : Nat} {xs ys : List α} {os : Array Obj} (h : CB enc e w g cap xs) (hl : ys.length = xs.length) : CB enc e (grow (putRow enc (Sort.ahead w n) g 0 ys.toArray) os) g cap ys := by
  obtain ⟨cur, h1, h2, h3⟩ := h.ex
  refine ⟨⟨_, heap_put enc _ h1, by simp [putCells, h2], take_put enc cur ys (by have := h.le; omega)⟩, by have := h.le; omega, h.max⟩

end

theorem clone_s (w : World) (A : Option Addr) (c : Nat) (ss : List (List UInt8)) (h : Rd w A (ss.map encStr)) (hz : 0 < ss.length) (hbig : ss.length ≤ 1000000) :
    Calls Tryz.prog 63 #[.slice A ss.length c] w fun e w' => ∃ g cap, e = .returned (.slice (some ⟨g, 0, none⟩) ss.length cap) ∧ w.heap.size ≤ g ∧ CB encStr 9 w' g cap ss ∧ Below w.heap.size w w' := by
  obtain ⟨b, off, rfl, hl, hc⟩ := h (by simpa using hz)
  have K := Tryz.slices_Clone_string b off ss.length c (ss.map fun l => ⟨l.toArray⟩) w (by simp) (by omega) (fun j hj => by
    have hj' : j < ss.length := by simpa using hj
    rw [hc j (by simpa using hj')]
    simp [hj', encStr])
  refine K.mono ?_
  rintro e w' ⟨v, rfl, ho, hv, hb⟩
  rw [List.take_of_length_le (by simp), List.map_map] at ho
  obtain ⟨g, cap, rfl, h1, h2⟩ := cb_of_own encStr (xs := ss) (by exact ho) hv
  exact ⟨g, cap, rfl, h1, h2, hb⟩

theorem sort_s (w : World) (g cap : Nat) (ss : List (List UInt8)) (h : CB encStr 9 w g cap ss) (hbig : ss.length ≤ 1000000) :
    Calls Tryz.prog 78 #[.slice (some ⟨g, 0, none⟩) ss.length cap] w fun e w' => e = .returned (.tuple #[]) ∧ CB encStr 9 w' g cap (ss.mergeSort fun x y => decide (x ≤ y)) ∧ Fr [g] w w' := by
  refine (Tryz.slices_Sort_string g 0 cap ss w (h.holds encStr) h.lt (by omega)).mono ?_
  rintro e w' ⟨rfl, n, os, rfl⟩
  exact ⟨rfl, h.put encStr (by simp), put_fr encStr _ _ _ _ _ _⟩

theorem compact_s (w : World) (g cap : Nat) (zs : List (List UInt8)) (h : CB encStr 9 w g cap zs) (hbig : zs.length ≤ 1000000) :
    Calls Tryz.prog 79 #[.slice (some ⟨g, 0, none⟩) zs.length cap] w fun e w' => e = .returned (.slice (some ⟨g, 0, none⟩) (Lib.compact zs).length cap) ∧ CB encStr 9 w' g cap (Lib.compact zs) ∧ Fr [g] w w' := by
  refine (Tryz.slices_Compact_string g 0 cap zs w (h.holds encStr) (by omega) h.le).mono ?_
  rintro e w' ⟨rfl, q, rfl⟩
  have hlen := Lib.compact_length_le zs
  have h1 := h.put encStr (n := q) (os := #[]) (ys := Lib.compact zs ++ List.replicate (zs.length - (Lib.compact zs).length) []) (by simp; omega)
  have h2 := put_fr encStr w q g 0 (Lib.compact zs ++ List.replicate (zs.length - (Lib.compact zs).length) []).toArray #[]
  rw [grow_empty] at h1 h2
  exact ⟨rfl, h1.cut encStr, h2⟩

def rsS (l : List (List UInt8)) : List (List UInt8) := intoAll (fun a b : List UInt8 => a < b) l

theorem mem_rsS (ss : List (List UInt8)) (x : List UInt8) : x ∈ rsS ss ↔ x ∈ ss := (intoAll_spec ordS ss).2 x

theorem info_str : (Tryz.prog.info? 9).map (fun i => (i.zero, i.size, i.bytes)) = some (some (.string ByteArray.empty), 1, 16) := by kernel_rfl

theorem rs_len (ss : List (List UInt8)) : (rsS ss).length ≤ ss.length := by
  have := Lib.compact_length_le (ss.mergeSort fun x y => decide (x ≤ y))
  rw [sorted_s, List.length_mergeSort] at this
  exact this

theorem CB.rd {α : Type} [Inhabited α] {enc : α → Value} {e : TypeId} {w : World} {g cap : Nat} {xs : List α} (h : CB enc e w g cap xs) : Rd w (some ⟨g, 0, none⟩) (xs.map enc) := fun _ => by
  refine ⟨g, 0, rfl, h.lt, fun j hj => ?_⟩
  rw [Nat.zero_add, h.cell enc j (by simpa using hj)]
  simp

theorem rd_str {w : World} {A : Option Addr} {l : List (List UInt8)} (h : Rd w A (l.map encStr)) (hz : 0 < l.length) : ∃ g o, A = some ⟨g, o, none⟩ ∧ g < w.heap.size ∧ ∀ j (hj : j < l.length), w.cell? ⟨g, o + j, none⟩ = some (encStr l[j]) := by
  obtain ⟨g, o, rfl, hl, hc⟩ := h (by simpa using hz)
  exact ⟨g, o, rfl, hl, fun j hj => by rw [hc j (by simpa using hj)]; simp⟩

set_option maxRecDepth 100000 in
theorem same_nil (w : World) (A B : Option Addr) (c d : Nat) : Calls Tryz.prog 11 #[.slice A 0 c, .slice B 0 d] w fun e w' => e = .returned (.bool true) ∧ Below w.heap.size w w' := by
  go_enter Tryz.func11, Tryz.ntmps11
  go_wp2_with fail
  go_loopw [5] (fun i wr => i = .int .i64 0 ∧ w = wr) (fun _ _ => 0)
  case atStart => exact ⟨rfl, rfl⟩
  case round =>
    obtain ⟨rfl, rfl⟩ := hrel
    go_wp2_with fail
    go_ret
    exact ⟨rfl, Below.refl _ _⟩

set_option maxRecDepth 100000 in
theorem same_any (w : World) (A B : Option Addr) (c d : Nat) (l : List (List UInt8)) (hA : Rd w A (l.map encStr)) (hB : Rd w B (l.map encStr)) (hll : l.length ≤ 1000000) :
    Calls Tryz.prog 11 #[.slice A l.length c, .slice B l.length d] w fun e w' => e = .returned (.bool true) ∧ Below w.heap.size w w' := by
  rcases Nat.eq_zero_or_pos l.length with hz | hz
  · rw [hz]; exact same_nil w A B c d
  obtain ⟨g1, o1, rfl, hl1, h1⟩ := rd_str hA hz
  obtain ⟨g2, o2, rfl, hl2, h2⟩ := rd_str hB hz
  have H1 := Lib.hid h1
  have H2 := Lib.hid h2
  have L1 := Lib.hid hl1
  have L2 := Lib.hid hl2
  clear h1 h2 hA hB hl1 hl2
  have d0 : (((l.length : Nat) : Int) != (l.length : Int)) = false := by simp
  go_enter Tryz.func11, Tryz.ntmps11
  go_wp2_with fail
  go_loopw [5] (fun i wr => ∃ k : Nat, k ≤ l.length ∧ i = .int .i64 k ∧ Hid (Below w.heap.size w wr)) (fun i _ => l.length - (intOf i).toNat)
  case atStart => exact ⟨0, by omega, rfl, Lib.hid (Below.refl _ _)⟩
  case round =>
    obtain ⟨k, hk, rfl, hb⟩ := hrel
    rename_i wr _
    by_cases hkl : k < l.length
    · have e1 : decide ((k : Int) < (l.length : Int)) = true := decide_eq_true (by omega)
      have ck : wr.cell? ⟨g1, o1 + k, none⟩ = some (encStr l[k]) := (hb.out.cell (p := ⟨g1, o1 + k, none⟩) L1.out).trans (H1.out k hkl)
      have cm : wr.cell? ⟨g2, o2 + k, none⟩ = some (encStr l[k]) := (hb.out.cell (p := ⟨g2, o2 + k, none⟩) L2.out).trans (H2.out k hkl)
      unfold encStr at ck cm
      generalize (ByteArray.mk l[k].toArray) = z at *
      have e2 : (z.data != z.data) = false := by simp
      have hb2 := Lib.hid hb.out.drew
      clear hb
      go_wp2_with fail
      go_region
      go_wp2_with fail
      go_roundw
      case rel => exact ⟨k + 1, by omega, by go_num, hb2⟩
      case measure => simp [intOf]; omega
    · obtain rfl : k = l.length := by omega
      have e1 : decide ((l.length : Int) < (l.length : Int)) = false := decide_eq_false (by omega)
      go_wp2_with fail
      go_ret
      exact ⟨rfl, hb.out⟩
end Go.Proofs.YtjkhlcimcpfkjaaGreatDoor.tx

/-
  system: texts, rising, each once: the program's.
-/
set_option linter.all false
namespace Go.Proofs.YtjkhlcimcpfkjaaGreatDoor.sy
open Go.RowKit Go.Sort Go.Lib Go.Proofs.YtjkhlcimcpfkjaaGreatDoor.mem
open Go.Proofs.YtjkhlcimcpfkjaaGreatDoor.tx (rsS put_fr)

def tb (b : ByteArray) : List UInt8 := b.data.toList
theorem enc_tb (b : ByteArray) : encStr (tb b) = .string b := rfl
theorem map_tb (l : List ByteArray) : (l.map tb).map encStr = l.map Value.string := by
  rw [List.map_map]
  rfl

def RPost (w : World) (A : Option Addr) (R : List (List UInt8)) (e : Ending) (w' : World) : Prop := ∃ cap, e = .returned (.slice A R.length cap) ∧ Rd w' A (R.map encStr) ∧ Fr (blk A) w w'

theorem sorted_len (zs : List (List UInt8)) : (zs.mergeSort fun x y => decide (x ≤ y)).length = zs.length := List.length_mergeSort ..

def HPost (w : World) (g off : Nat) (ys : List (List UInt8)) (e : Ending) (w' : World) : Prop := e = .returned (.tuple #[]) ∧ Holds encStr w' g off ys.toArray ∧ Fr [g] w w'
theorem sort_h (w : World) (g off cap : Nat) (zs : List (List UInt8)) (hH : Holds encStr w g off zs.toArray) (hlt : g < w.heap.size) (hbig : zs.length ≤ 1000000) :
    Calls Tryz.prog 78 #[.slice (some ⟨g, off, none⟩) zs.length cap] w (HPost w g off (zs.mergeSort fun x y => decide (x ≤ y))) := by
  refine (Tryz.slices_Sort_string g off cap zs w hH hlt (by omega)).mono ?_
  rintro e w' ⟨rfl, n, os, rfl⟩
  refine ⟨rfl, fun j hj => ?_, put_fr encStr _ _ _ _ _ _⟩
  have hsz : (zs.mergeSort fun x y => decide (x ≤ y)).toArray.size = zs.toArray.size := by simp
  have hh := holds_putRow encStr (Go.Sort.ahead w n) g off _ (zs.mergeSort fun x y => decide (x ≤ y)).toArray (fun j hj => hH j hj) hsz j hj
  refine ⟨?_, ?_⟩
  · rw [cell?_grow _ _ _ (by simpa using hlt)]
    exact hh.1
  · rw [frozen?_grow _ _ _ (by simpa using hlt)]
    exact hh.2

def CPost (w : World) (g off cap : Nat) (ys : List (List UInt8)) (e : Ending) (w' : World) : Prop := e = .returned (.slice (some ⟨g, off, none⟩) ys.length cap) ∧ Rd w' (some ⟨g, off, none⟩) (ys.map encStr) ∧ Fr [g] w w'
theorem compact_h (w : World) (g off cap : Nat) (zs : List (List UInt8)) (hH : Holds encStr w g off zs.toArray) (hlt : g < w.heap.size) (hbig : zs.length ≤ 1000000) (hcap : zs.length ≤ cap) :
    Calls Tryz.prog 79 #[.slice (some ⟨g, off, none⟩) zs.length cap] w (CPost w g off cap (Lib.compact zs)) := by
  refine (Tryz.slices_Compact_string g off cap zs w hH (by omega) hcap).mono ?_
  rintro e w' ⟨rfl, q, rfl⟩
  have hlen := Lib.compact_length_le zs
  have hf := put_fr encStr w q g off (Lib.compact zs ++ List.replicate (zs.length - (Lib.compact zs).length) []).toArray #[]
  rw [grow_empty] at hf
  refine ⟨rfl, fun hz => ⟨g, off, rfl, Nat.lt_of_lt_of_le hlt hf.size, fun j hj => ?_⟩, hf⟩
  rw [List.length_map] at hj
  have hsz : (Lib.compact zs ++ List.replicate (zs.length - (Lib.compact zs).length) []).toArray.size = zs.toArray.size := by simp; omega
  have hh := holds_putRow encStr (Go.Sort.ahead w q) g off _ (Lib.compact zs ++ List.replicate (zs.length - (Lib.compact zs).length) []).toArray (fun j hj => hH j hj) hsz j (by rw [hsz]; simp; omega)
  rw [hh.1]
  simp [List.getElem?_append_left hj, hj]

set_option maxRecDepth 100000 in
theorem rising_any (w : World) (A : Option Addr) (cap : Nat) (l : List ByteArray) (h : Seg w 9 A cap (l.map Value.string)) (hbig : l.length ≤ 1000000) :
    Calls Tryz.prog 38 #[.slice A l.length cap] w (RPost w A (rsS (l.map tb))) := by
  have hR : Lib.compact ((l.map tb).mergeSort fun x y => decide (x ≤ y)) = rsS (l.map tb) := inn.sorted_s (l.map tb)
  rcases Nat.eq_zero_or_pos l.length with h0 | h0
  · obtain rfl : l = [] := List.eq_nil_of_length_eq_zero h0
    have K1 := Lib.hid (Tryz.slices_Sort_string_none A cap)
    have K2 := Lib.hid (Tryz.slices_Compact_string_empty A cap)
    clear hR
    show Calls _ _ #[.slice A 0 cap] _ _
    go_enter Tryz.func38, Tryz.ntmps38
    go_wp2_with fail
    refine (K1.out _).mono ?_
    rintro e w2 ⟨rfl, h2⟩
    subst h2
    go_wp2_with fail
    refine (K2.out _).mono ?_
    rintro e w3 ⟨rfl, h3⟩
    subst h3
    go_wp2_with fail
    go_ret
    exact ⟨cap, rfl, fun hz => by simp [rsS, inn.intoAll] at hz, Fr.refl _ _⟩
  · obtain ⟨g, off, rfl, hlt, hc⟩ := h.at_ (by simpa using h0)
    have hle : l.length ≤ cap := by simpa using h.1
    have hH : Holds encStr w g off (l.map tb).toArray := by
      intro j hj
      have hj' : j < l.length := by simpa using hj
      refine ⟨?_, h.free _⟩
      rw [hc j (by simpa using hj')]
      have e : (l.map tb).toArray[j]! = tb l[j] := by simp [hj']
      rw [e, List.getElem_map]
      rfl
    have K1 := sort_h w g off cap (l.map tb) hH hlt (by simpa using hbig)
    have K2 := fun w' hH' hlt' => compact_h w' g off cap ((l.map tb).mergeSort fun x y => decide (x ≤ y)) hH' hlt' (by rw [sorted_len]; simpa using hbig) (by rw [sorted_len]; simpa using hle)
    rw [hR, sorted_len] at K2
    rw [List.length_map] at K1 K2
    have H1 := Lib.hid K1
    have H2 := Lib.hid K2
    generalize rsS (l.map tb) = R at *
    generalize ((l.map tb).mergeSort fun x y => decide (x ≤ y)) = zs at *
    unfold HPost at H1
    unfold CPost at H2
    have Hlt := Lib.hid hlt
    clear hR h hc hH K1 K2 hlt
    go_enter Tryz.func38, Tryz.ntmps38
    go_wp2_with fail
    refine H1.out.mono ?_
    rintro e w2 ⟨rfl, hh2, hf2⟩
    have K3 := Lib.hid (H2.out w2 hh2 (Nat.lt_of_lt_of_le Hlt.out hf2.size))
    have F2 := Lib.hid hf2
    clear H1 H2 hh2 hf2
    go_wp2_with fail
    refine K3.out.mono ?_
    rintro e w3 ⟨rfl, hr3, hf3⟩
    have F3 := Lib.hid (F2.out.trans hf3 (fun g hg => Or.inl hg) (fun g hg => Or.inl hg))
    have R3 := Lib.hid hr3
    clear K3 hr3 hf3
    go_wp2_with fail
    go_ret
    exact ⟨cap, rfl, R3.out, F3.out⟩
end Go.Proofs.YtjkhlcimcpfkjaaGreatDoor.sy
