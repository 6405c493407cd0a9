import Derived.Test.YtdmmkjijgoiecaaGreatDoorMem
import Derived.Test.YtdmmkjijgoiecaaGreatDoorIn
import Derived.Test.YtdmmkjijgoiecaaGreatDoorShelf2
import Derived.Sort.OwnSorted
import Derived.Lib.RowBridge
import Derived.Sort.Walk0
/-
  texts, many of them: sorted, without what stands twice; held against each other.
-/
set_option linter.all false
namespace Go.Proofs.YtdmmkjijgoiecaaGreatDoor.tx
open Go.Proofs.YtdmmkjijgoiecaaGreatDoor.inn (Ordr intoAll into ordS intoAll_spec sorted_s intoAll_snoc)
open Go.RowKit Go.Sort Go.Proofs.YtdmmkjijgoiecaaGreatDoor.mem

section
variable {α : Type} [Inhabited α] (enc : α → Value)

theorem heap_put {w : World} {g n : Nat} {os : Array Obj} {cur : Array Value} {e : TypeId} {fr : Nat × Nat} (d : Array α) (hb : w.heap[g]? = some (.cells cur e fr)) :
    (grow (putRow enc (Sort.ahead w n) g 0 d) os).heap[g]? = some (.cells (putCells enc 0 d cur) e fr) := by
  have hg : g < w.heap.size := (Array.getElem?_eq_some_iff.1 hb).1
  rw [heap_grow_old _ _ (by simpa using hg)]
  simp [putRow, mapBlock, Sort.ahead, Array.getElem?_modify, hb, onCells]

theorem put_fr (w : World) (n g off : Nat) (d : Array α) (os : Array Obj) : Fr [g] w (grow (putRow enc (Sort.ahead w n) g off d) os) := by
  refine ⟨rfl, rfl, rfl, by simp [grow], fun k hk hne => ?_⟩
  rw [heap_grow_old _ _ (by simpa using hk)]
  have : g ≠ k := fun e => hne (by rw [e]; simp)
  simp [putRow, mapBlock, Sort.ahead, Array.getElem?_modify, this]

theorem take_put (cur : Array Value) (ts : List α) (h : ts.length ≤ cur.size) : (putCells enc 0 ts.toArray cur).toList.take ts.length = ts.map enc := by
  apply List.ext_getElem?
  intro j
  by_cases hj : j < ts.length
  · rw [List.getElem?_take_of_lt hj, Array.getElem?_toList]
    simp [putCells, hj, show j < cur.size by omega]
  · rw [List.getElem?_take_eq_none (by omega), List.getElem?_eq_none (by simp; omega)]

theorem holds_of {w : World} {g : Nat} {cur : Array Value} {e : TypeId} {ss : List α} (hb : w.heap[g]? = some (.cells cur e (0, 0))) (ht : cur.toList.take ss.length = ss.map enc) : Holds enc w g 0 ss.toArray := by
  intro j hj
  have hj' : j < ss.length := by simpa using hj
  refine ⟨?_, by simp [World.frozen?, hb]⟩
  have h1 : (cur.toList.take ss.length)[j]? = (ss.map enc)[j]? := by rw [ht]
  rw [List.getElem?_take_of_lt hj'] at h1
  simp only [World.cell?, hb, Nat.zero_add]
  simp only [Option.isSome_none, Bool.false_eq_true, if_false]
  rw [← Array.getElem?_toList, h1]
  simp [hj']

end

section
variable {α : Type} (enc : α → Value)

/-- a row of a block's own -/
structure CB (e : TypeId) (w : World) (g cap : Nat) (xs : List α) : Prop where
  ex : ∃ cur, w.heap[g]? = some (.cells cur e (0, 0)) ∧ cur.size = cap ∧ cur.toList.take xs.length = xs.map enc
  le : xs.length ≤ cap
  max : cap ≤ maxLen

theorem CB.lt {e : TypeId} {w : World} {g cap : Nat} {xs : List α} (h : CB enc e w g cap xs) : g < w.heap.size := by
  obtain ⟨cur, hb, _⟩ := h.ex
  exact (Array.getElem?_eq_some_iff.1 hb).1

theorem CB.kept {e : TypeId} {w w' : World} {g cap : Nat} {xs : List α} (h : CB enc e w g cap xs) (hb : w'.heap[g]? = w.heap[g]?) : CB enc e w' g cap xs := by
  obtain ⟨cur, h1, h2, h3⟩ := h.ex
  exact ⟨⟨cur, hb.trans h1, h2, h3⟩, h.le, h.max⟩

theorem CB.cut {e : TypeId} {w : World} {g cap : Nat} {xs ys : List α} (h : CB enc e w g cap (xs ++ ys)) : CB enc e w g cap xs := by
  obtain ⟨cur, h1, h2, h3⟩ := h.ex
  have hl := h.le
  rw [List.length_append] at hl
  refine ⟨⟨cur, h1, h2, ?_⟩, by omega, h.max⟩
  have := congrArg (List.take xs.length) h3
  rw [List.take_take, List.length_append, Nat.min_eq_left (by omega), List.map_append, List.take_left' (by simp)] at this
  exact this

theorem cb_of_own {e : TypeId} {w : World} {B n : Nat} {v : Value} {xs : List α} (h : w.ownsRow B e 1 v n (xs.map enc)) (hv : v ≠ .slice none 0 0) : ∃ g cap, v = .slice (some ⟨g, 0, none⟩) n cap ∧ B ≤ g ∧ CB enc e w g cap xs := by
  obtain ⟨h0, h | ⟨g, cap, cur, rfl, hb, hh, h1, h2, h3, h4⟩⟩ := h
  · exact absurd h.1 hv
  · have hn : xs.length = n := by simpa using h0
    refine ⟨g, cap, rfl, hb, ⟨cur, hh, by omega, by rw [Nat.mul_one] at h4; rw [hn]; exact h4⟩, by omega, h2⟩
end

section
variable {α : Type} [Inhabited α] (enc : α → Value)

theorem CB.holds {e : TypeId} {w : World} {g cap : Nat} {xs : List α} (h : CB enc e w g cap xs) : Holds enc w g 0 xs.toArray := by
  obtain ⟨cur, hb, _, ht⟩ := h.ex
  exact holds_of enc hb ht

theorem CB.cell {e : TypeId} {w : World} {g cap : Nat} {xs : List α} (h : CB enc e w g cap xs) (j : Nat) (hj : j < xs.length) : w.cell? ⟨g, j, none⟩ = some (enc xs[j]) := by
  have := (h.holds enc j (by simpa using hj)).1
  simpa [hj] using this

theorem CB.put {e : TypeId} {w : World} {g cap n : Nat} {xs ys : List α} {os : Array Obj} (h : CB enc e w g cap xs) (hl : ys.length = xs.length) : CB enc e (grow (putRow enc (Sort.ahead w n) g 0 ys.toArray) os) g cap ys := by
  obtain ⟨cur, h1, h2, h3⟩ := h.ex
  refine ⟨⟨_, heap_put enc _ h1, by simp [putCells, h2], take_put enc cur ys (by have := h.le; omega)⟩, by have := h.le; omega, h.max⟩

end

theorem clone_s (w : World) (A : Option Addr) (c : Nat) (ss : List (List UInt8)) (h : Rd w A (ss.map encStr)) (hz : 0 < ss.length) (hbig : ss.length ≤ 1000000) :
    Calls Tryz.prog 182 #[.slice A ss.length c] w fun e w' => ∃ g cap, e = .returned (.slice (some ⟨g, 0, none⟩) ss.length cap) ∧ w.heap.size ≤ g ∧ CB encStr 9 w' g cap ss ∧ Below w.heap.size w w' := by
  obtain ⟨b, off, rfl, hl, hc⟩ := h (by simpa using hz)
  have K := Tryz.slices_Clone_string b off ss.length c (ss.map fun l => ⟨l.toArray⟩) w (by simp) (by omega) (fun j hj => by
    have hj' : j < ss.length := by simpa using hj
    rw [hc j (by simpa using hj')]
    simp [hj', encStr])
  refine K.mono ?_
  rintro e w' ⟨v, rfl, ho, hv, hb⟩
  rw [List.take_of_length_le (by simp), List.map_map] at ho
  obtain ⟨g, cap, rfl, h1, h2⟩ := cb_of_own encStr (xs := ss) (by exact ho) hv
  exact ⟨g, cap, rfl, h1, h2, hb⟩

theorem sort_s (w : World) (g cap : Nat) (ss : List (List UInt8)) (h : CB encStr 9 w g cap ss) (hbig : ss.length ≤ 1000000) :
    Calls Tryz.prog 183 #[.slice (some ⟨g, 0, none⟩) ss.length cap] w fun e w' => e = .returned (.tuple #[]) ∧ CB encStr 9 w' g cap (ss.mergeSort fun x y => decide (x ≤ y)) ∧ Fr [g] w w' := by
  refine (Tryz.slices_Sort_string g 0 cap ss w (h.holds encStr) h.lt (by omega)).mono ?_
  rintro e w' ⟨rfl, n, os, rfl⟩
  exact ⟨rfl, h.put encStr (by simp), put_fr encStr _ _ _ _ _ _⟩

theorem compact_s (w : World) (g cap : Nat) (zs : List (List UInt8)) (h : CB encStr 9 w g cap zs) (hbig : zs.length ≤ 1000000) :
    Calls Tryz.prog 184 #[.slice (some ⟨g, 0, none⟩) zs.length cap] w fun e w' => e = .returned (.slice (some ⟨g, 0, none⟩) (Lib.compact zs).length cap) ∧ CB encStr 9 w' g cap (Lib.compact zs) ∧ Fr [g] w w' := by
  refine (Tryz.slices_Compact_string g 0 cap zs w (h.holds encStr) (by omega) h.le).mono ?_
  rintro e w' ⟨rfl, q, rfl⟩
  have hlen := Lib.compact_length_le zs
  have h1 := h.put encStr (n := q) (os := #[]) (ys := Lib.compact zs ++ List.replicate (zs.length - (Lib.compact zs).length) []) (by simp; omega)
  have h2 := put_fr encStr w q g 0 (Lib.compact zs ++ List.replicate (zs.length - (Lib.compact zs).length) []).toArray #[]
  rw [grow_empty] at h1 h2
  exact ⟨rfl, h1.cut encStr, h2⟩

def rsS (l : List (List UInt8)) : List (List UInt8) := intoAll (fun a b : List UInt8 => a < b) l

theorem mem_rsS (ss : List (List UInt8)) (x : List UInt8) : x ∈ rsS ss ↔ x ∈ ss := (intoAll_spec ordS ss).2 x

theorem info_str : (Tryz.prog.info? 9).map (fun i => (i.zero, i.size, i.bytes)) = some (some (.string ByteArray.empty), 1, 16) := by kernel_rfl

theorem rs_len (ss : List (List UInt8)) : (rsS ss).length ≤ ss.length := by
  have := Lib.compact_length_le (ss.mergeSort fun x y => decide (x ≤ y))
  rw [sorted_s, List.length_mergeSort] at this
  exact this

theorem CB.rd {α : Type} [Inhabited α] {enc : α → Value} {e : TypeId} {w : World} {g cap : Nat} {xs : List α} (h : CB enc e w g cap xs) : Rd w (some ⟨g, 0, none⟩) (xs.map enc) := fun _ => by
  refine ⟨g, 0, rfl, h.lt, fun j hj => ?_⟩
  rw [Nat.zero_add, h.cell enc j (by simpa using hj)]
  simp

theorem rd_str {w : World} {A : Option Addr} {l : List (List UInt8)} (h : Rd w A (l.map encStr)) (hz : 0 < l.length) : ∃ g o, A = some ⟨g, o, none⟩ ∧ g < w.heap.size ∧ ∀ j (hj : j < l.length), w.cell? ⟨g, o + j, none⟩ = some (encStr l[j]) := by
  obtain ⟨g, o, rfl, hl, hc⟩ := h (by simpa using hz)
  exact ⟨g, o, rfl, hl, fun j hj => by rw [hc j (by simpa using hj)]; simp⟩

set_option maxRecDepth 100000 in
theorem same_nil (w : World) (A B : Option Addr) (c d : Nat) : Calls Tryz.prog 53 #[.slice A 0 c, .slice B 0 d] w fun e w' => e = .returned (.bool true) ∧ Below w.heap.size w w' := by
  go_enter Tryz.func53, Tryz.ntmps53
  go_wp2_with fail
  go_loopw [5] (fun i wr => i = .int .i64 0 ∧ w = wr) (fun _ _ => 0)
  case atStart => exact ⟨rfl, rfl⟩
  case round =>
    obtain ⟨rfl, rfl⟩ := hrel
    go_wp2_with fail
    go_ret
    exact ⟨rfl, Below.refl _ _⟩

set_option maxRecDepth 100000 in
theorem same_any (w : World) (A B : Option Addr) (c d : Nat) (l : List (List UInt8)) (hA : Rd w A (l.map encStr)) (hB : Rd w B (l.map encStr)) (hll : l.length ≤ 1000000) :
    Calls Tryz.prog 53 #[.slice A l.length c, .slice B l.length d] w fun e w' => e = .returned (.bool true) ∧ Below w.heap.size w w' := by
  rcases Nat.eq_zero_or_pos l.length with hz | hz
  · rw [hz]; exact same_nil w A B c d
  obtain ⟨g1, o1, rfl, hl1, h1⟩ := rd_str hA hz
  obtain ⟨g2, o2, rfl, hl2, h2⟩ := rd_str hB hz
  have H1 := Lib.hid h1
  have H2 := Lib.hid h2
  have L1 := Lib.hid hl1
  have L2 := Lib.hid hl2
  clear h1 h2 hA hB hl1 hl2
  have d0 : (((l.length : Nat) : Int) != (l.length : Int)) = false := by simp
  go_enter Tryz.func53, Tryz.ntmps53
  go_wp2_with fail
  go_loopw [5] (fun i wr => ∃ k : Nat, k ≤ l.length ∧ i = .int .i64 k ∧ Hid (Below w.heap.size w wr)) (fun i _ => l.length - (intOf i).toNat)
  case atStart => exact ⟨0, by omega, rfl, Lib.hid (Below.refl _ _)⟩
  case round =>
    obtain ⟨k, hk, rfl, hb⟩ := hrel
    rename_i wr _
    by_cases hkl : k < l.length
    · have e1 : decide ((k : Int) < (l.length : Int)) = true := decide_eq_true (by omega)
      have ck : wr.cell? ⟨g1, o1 + k, none⟩ = some (encStr l[k]) := (hb.out.cell (p := ⟨g1, o1 + k, none⟩) L1.out).trans (H1.out k hkl)
      have cm : wr.cell? ⟨g2, o2 + k, none⟩ = some (encStr l[k]) := (hb.out.cell (p := ⟨g2, o2 + k, none⟩) L2.out).trans (H2.out k hkl)
      unfold encStr at ck cm
      generalize (ByteArray.mk l[k].toArray) = z at *
      have e2 : (z.data != z.data) = false := by simp
      have hb2 := Lib.hid hb.out.drew
      clear hb
      go_wp2_with fail
      go_region
      go_wp2_with fail
      go_roundw
      case rel => exact ⟨k + 1, by omega, by go_num, hb2⟩
      case measure => simp [intOf]; omega
    · obtain rfl : k = l.length := by omega
      have e1 : decide ((l.length : Int) < (l.length : Int)) = false := decide_eq_false (by omega)
      go_wp2_with fail
      go_ret
      exact ⟨rfl, hb.out⟩
end Go.Proofs.YtdmmkjijgoiecaaGreatDoor.tx

/-
  system: texts, rising, each once: the program's.
-/
set_option linter.all false
namespace Go.Proofs.YtdmmkjijgoiecaaGreatDoor.sy
open Go.RowKit Go.Sort Go.Lib Go.Proofs.YtdmmkjijgoiecaaGreatDoor.mem
open Go.Proofs.YtdmmkjijgoiecaaGreatDoor.tx (rsS put_fr)

def tb (b : ByteArray) : List UInt8 := b.data.toList
theorem enc_tb (b : ByteArray) : encStr (tb b) = .string b := rfl
theorem map_tb (l : List ByteArray) : (l.map tb).map encStr = l.map Value.string := by
  rw [List.map_map]
  rfl

def RPost (w : World) (A : Option Addr) (R : List (List UInt8)) (e : Ending) (w' : World) : Prop := ∃ cap, e = .returned (.slice A R.length cap) ∧ Seg w' 9 A cap (R.map encStr) ∧ Fr (blk A) w w'

theorem sorted_len (zs : List (List UInt8)) : (zs.mergeSort fun x y => decide (x ≤ y)).length = zs.length := List.length_mergeSort ..

theorem heap_put2 {w : World} {g n off : Nat} {os : Array Obj} {cur : Array Value} {e : TypeId} {fr : Nat × Nat} (d : Array (List UInt8)) (hb : w.heap[g]? = some (.cells cur e fr)) :
    (grow (putRow encStr (Sort.ahead w n) g off d) os).heap[g]? = some (.cells (putCells encStr off d cur) e fr) := by
  have hg : g < w.heap.size := (Array.getElem?_eq_some_iff.1 hb).1
  rw [heap_grow_old _ _ (by simpa using hg)]
  simp [putRow, mapBlock, Sort.ahead, Array.getElem?_modify, hb, onCells]
/-- a slice whose cells were put anew -/
theorem seg_put {w : World} {e : TypeId} {g off cap n : Nat} {xs : List Value} {os : Array Obj} (h : Seg w e (some ⟨g, off, none⟩) cap xs) (ys zs : List (List UInt8)) (hl : ys.length ≤ cap) (hz : ∀ (j : Nat) (u : List UInt8), zs[j]? = some u → ys[j]? = some u) :
    Seg (grow (putRow encStr (Sort.ahead w n) g off ys.toArray) os) e (some ⟨g, off, none⟩) cap (zs.map encStr) := by
  obtain ⟨_, h2, h3, h4⟩ := h
  obtain ⟨_, cur, hc, hle, _⟩ := h4 _ rfl
  have hle : off + cap ≤ cur.size := hle
  have hc : w.heap[g]? = some (.cells cur e (0, 0)) := hc
  have hzl : zs.length ≤ ys.length := by
    rcases Nat.lt_or_ge ys.length zs.length with h | h
    · have := hz ys.length zs[ys.length] (List.getElem?_eq_getElem h)
      rw [List.getElem?_eq_none (Nat.le_refl _)] at this
      cases this
    · exact h
  refine ⟨by rw [List.length_map]; omega, h2, fun h => (by cases h), fun a ha => ?_⟩
  cases ha
  refine ⟨rfl, _, heap_put2 ys.toArray hc, by simpa [putCells] using hle, fun j u hu => ?_⟩
  rw [List.getElem?_map] at hu
  obtain ⟨v, hv, rfl⟩ := Option.map_eq_some_iff.1 hu
  have hy := hz j v hv
  have hj := (List.getElem?_eq_some_iff.1 hy).1
  have hjv : ys[j] = v := (List.getElem?_eq_some_iff.1 hy).2
  show (putCells encStr off ys.toArray cur)[off + j]? = _
  simp [putCells, show off + j < cur.size by omega, hj, hjv]

def HPost (w : World) (g off cap : Nat) (ys : List (List UInt8)) (e : Ending) (w' : World) : Prop := e = .returned (.tuple #[]) ∧ Holds encStr w' g off ys.toArray ∧ Fr [g] w w' ∧ Seg w' 9 (some ⟨g, off, none⟩) cap (ys.map encStr)
theorem sort_h (w : World) (g off cap : Nat) (zs : List (List UInt8)) (hH : Holds encStr w g off zs.toArray) (hlt : g < w.heap.size) (hbig : zs.length ≤ 1000000) (hS : Seg w 9 (some ⟨g, off, none⟩) cap (zs.map encStr)) :
    Calls Tryz.prog 183 #[.slice (some ⟨g, off, none⟩) zs.length cap] w (HPost w g off cap (zs.mergeSort fun x y => decide (x ≤ y))) := by
  refine (Tryz.slices_Sort_string g off cap zs w hH hlt (by omega)).mono ?_
  rintro e w' ⟨rfl, n, os, rfl⟩
  refine ⟨rfl, fun j hj => ?_, put_fr encStr _ _ _ _ _ _, seg_put hS _ _ (by have := hS.1; rw [List.length_map] at this; rw [sorted_len]; exact this) (fun _ _ h => h)⟩
  have hsz : (zs.mergeSort fun x y => decide (x ≤ y)).toArray.size = zs.toArray.size := by simp
  have hh := holds_putRow encStr (Go.Sort.ahead w n) g off _ (zs.mergeSort fun x y => decide (x ≤ y)).toArray (fun j hj => hH j hj) hsz j hj
  refine ⟨?_, ?_⟩
  · rw [cell?_grow _ _ _ (by simpa using hlt)]
    exact hh.1
  · rw [frozen?_grow _ _ _ (by simpa using hlt)]
    exact hh.2

def CPost (w : World) (g off cap : Nat) (ys : List (List UInt8)) (e : Ending) (w' : World) : Prop := e = .returned (.slice (some ⟨g, off, none⟩) ys.length cap) ∧ Seg w' 9 (some ⟨g, off, none⟩) cap (ys.map encStr) ∧ Fr [g] w w'
theorem compact_h (w : World) (g off cap : Nat) (zs : List (List UInt8)) (hH : Holds encStr w g off zs.toArray) (hlt : g < w.heap.size) (hbig : zs.length ≤ 1000000) (hcap : zs.length ≤ cap) (hS : Seg w 9 (some ⟨g, off, none⟩) cap (zs.map encStr)) :
    Calls Tryz.prog 184 #[.slice (some ⟨g, off, none⟩) zs.length cap] w (CPost w g off cap (Lib.compact zs)) := by
  refine (Tryz.slices_Compact_string g off cap zs w hH (by omega) hcap).mono ?_
  rintro e w' ⟨rfl, q, rfl⟩
  have hlen := Lib.compact_length_le zs
  have hf := put_fr encStr w q g off (Lib.compact zs ++ List.replicate (zs.length - (Lib.compact zs).length) []).toArray #[]
  rw [grow_empty] at hf
  have hs := seg_put (n := q) (os := #[]) hS (Lib.compact zs ++ List.replicate (zs.length - (Lib.compact zs).length) []) (Lib.compact zs) (by simp; omega) (fun j u h => by rw [List.getElem?_append_left (List.getElem?_eq_some_iff.1 h).1]; exact h)
  rw [grow_empty] at hs
  exact ⟨rfl, hs, hf⟩

set_option maxRecDepth 100000 in
theorem rising_any (w : World) (A : Option Addr) (cap : Nat) (l : List ByteArray) (h : Seg w 9 A cap (l.map Value.string)) (hbig : l.length ≤ 1000000) :
    Calls Tryz.prog 124 #[.slice A l.length cap] w (RPost w A (rsS (l.map tb))) := by
  have hR : Lib.compact ((l.map tb).mergeSort fun x y => decide (x ≤ y)) = rsS (l.map tb) := inn.sorted_s (l.map tb)
  rcases Nat.eq_zero_or_pos l.length with h0 | h0
  · obtain rfl : l = [] := List.eq_nil_of_length_eq_zero h0
    have K1 := Lib.hid (Tryz.slices_Sort_string_none A cap)
    have K2 := Lib.hid (Tryz.slices_Compact_string_empty A cap)
    have hnil : Hid (Seg w 9 A cap ((rsS (([] : List ByteArray).map tb)).map encStr)) := Lib.hid h
    clear hR
    show Calls _ _ #[.slice A 0 cap] _ _
    go_enter Tryz.func124, Tryz.ntmps124
    go_wp2_with fail
    refine (K1.out _).mono ?_
    rintro e w2 ⟨rfl, h2⟩
    subst h2
    go_wp2_with fail
    refine (K2.out _).mono ?_
    rintro e w3 ⟨rfl, h3⟩
    subst h3
    go_wp2_with fail
    go_ret
    exact ⟨cap, rfl, hnil.out, Fr.refl _ _⟩
  · obtain ⟨g, off, rfl, hlt, hc⟩ := h.at_ (by simpa using h0)
    have hle : l.length ≤ cap := by simpa using h.1
    have hH : Holds encStr w g off (l.map tb).toArray := by
      intro j hj
      have hj' : j < l.length := by simpa using hj
      refine ⟨?_, h.free _⟩
      rw [hc j (by simpa using hj')]
      have e : (l.map tb).toArray[j]! = tb l[j] := by simp [hj']
      rw [e, List.getElem_map]
      rfl
    have K1 := sort_h w g off cap (l.map tb) hH hlt (by simpa using hbig) (by rw [map_tb]; exact h)
    have K2 := fun w' hH' hlt' hS' => compact_h w' g off cap ((l.map tb).mergeSort fun x y => decide (x ≤ y)) hH' hlt' (by rw [sorted_len]; simpa using hbig) (by rw [sorted_len]; simpa using hle) hS'
    rw [hR, sorted_len] at K2
    rw [List.length_map] at K1 K2
    have H1 := Lib.hid K1
    have H2 := Lib.hid K2
    generalize rsS (l.map tb) = R at *
    generalize ((l.map tb).mergeSort fun x y => decide (x ≤ y)) = zs at *
    unfold HPost at H1
    unfold CPost at H2
    have Hlt := Lib.hid hlt
    clear hR h hc hH K1 K2 hlt
    go_enter Tryz.func124, Tryz.ntmps124
    go_wp2_with fail
    refine H1.out.mono ?_
    rintro e w2 ⟨rfl, hh2, hf2, hs2⟩
    have K3 := Lib.hid (H2.out w2 hh2 (Nat.lt_of_lt_of_le Hlt.out hf2.size) hs2)
    have F2 := Lib.hid hf2
    clear H1 H2 hh2 hf2 hs2
    go_wp2_with fail
    refine K3.out.mono ?_
    rintro e w3 ⟨rfl, hr3, hf3⟩
    have F3 := Lib.hid (F2.out.trans hf3 (fun g hg => Or.inl hg) (fun g hg => Or.inl hg))
    have R3 := Lib.hid hr3
    clear K3 hr3 hf3
    go_wp2_with fail
    go_ret
    exact ⟨cap, rfl, R3.out, F3.out⟩
end Go.Proofs.YtdmmkjijgoiecaaGreatDoor.sy

/-
  texts, many of them: the reference's Into.
-/
set_option linter.all false
namespace Go.Proofs.YtdmmkjijgoiecaaGreatDoor.tx
open Go.RowKit Go.Shelf Go.Sort Go.Proofs.YtdmmkjijgoiecaaGreatDoor.mem
open Go.Proofs.YtdmmkjijgoiecaaGreatDoor.inn (Ordr intoAll into ordS intoAll_spec sorted_s intoAll_snoc)

abbrev intoS (m : List (List UInt8)) (x : List UInt8) : List (List UInt8) := into (fun a b : List UInt8 => a < b) m x
abbrev upS (m : List (List UInt8)) (x : List UInt8) : Nat := (m.takeWhile fun y => decide (y < x)).length

theorem tw_stop {α : Type} (p : α → Bool) : ∀ (m : List α) (a : α), m[(m.takeWhile p).length]? = some a → p a = false
  | [], a, h => by simp at h
  | b :: m, a, h => by
    rcases hp : p b with _ | _
    · rw [List.takeWhile_cons, hp] at h
      simp at h
      rw [← h]; exact hp
    · rw [List.takeWhile_cons, hp] at h
      simp at h
      exact tw_stop p m a h

theorem tw_in {α : Type} (p : α → Bool) : ∀ (m : List α) (k : Nat) (a : α), k < (m.takeWhile p).length → m[k]? = some a → p a = true
  | [], _, _, h, _ => by simp at h
  | b :: m, k, a, h, ha => by
    rcases hp : p b with _ | _
    · rw [List.takeWhile_cons, hp] at h
      simp at h
    · rw [List.takeWhile_cons, hp] at h
      cases k with
      | zero => simp at ha; rw [← ha]; exact hp
      | succ k => exact tw_in p m k a (by simpa using h) (by simpa using ha)

theorem tw_le {α : Type} (p : α → Bool) (m : List α) : (m.takeWhile p).length ≤ m.length := (List.takeWhile_prefix p).length_le

theorem up_in (m : List (List UInt8)) (x : List UInt8) (k : Nat) (h : k < upS m x) (hk : k < m.length) : Op.bytesLess m[k] x = true := by
  rw [bytesLess_eq]
  exact tw_in _ m k m[k] h (List.getElem?_eq_getElem hk)

theorem up_stop (m : List (List UInt8)) (x : List UInt8) (h : upS m x < m.length) : Op.bytesLess m[upS m x] x = false := by
  rw [bytesLess_eq]
  exact tw_stop (fun y => decide (y < x)) m _ (List.getElem?_eq_getElem h)

def IPost (w : World) (R : List (List UInt8)) (e : Ending) (w' : World) : Prop := ∃ A' cap', e = .returned (.slice A' R.length cap') ∧ Seg w' 9 A' cap' (R.map encStr) ∧ Below w.heap.size w w'

theorem fresh_nil (w : World) (e : TypeId) : Seg (w.alloc (.cells #[] e)) e (some ⟨w.heap.size, 0, none⟩) 0 [] :=
  ⟨Nat.le_refl _, Nat.zero_le _, fun h => (by cases h), fun a ha => by cases ha; exact ⟨rfl, #[], heap_alloc_new w _, Nat.le_refl _, fun j u hu => by simp at hu⟩⟩

theorem fresh_fr {w w1 : World} {o : Obj} (f1 : Fr (blk (some ⟨w.heap.size, 0, none⟩)) (w.alloc o) w1) : Fr [] w w1 :=
  ((Fr.refl [w.heap.size] w).alloc o).trans f1 (fun g hg => Or.inr (by rw [List.mem_singleton] at hg; omega)) (fun g hg => Or.inr (by rw [blk_some, List.mem_singleton] at hg; omega))

theorem fresh_blk {w : World} {o : Obj} {A1 : Option Addr} (hb1 : blk A1 = blk (some ⟨w.heap.size, 0, none⟩) ∨ blk A1 = [(w.alloc o).heap.size]) : ∀ q ∈ blk A1, w.heap.size ≤ q := by
  intro q hq
  rcases hb1 with e | e <;> rw [e] at hq <;> simp [blk] at hq <;> omega

theorem next_fr0 {w w1 w2 : World} {A1 : Option Addr} (a1 : Fr [] w w1) (q1 : ∀ q ∈ blk A1, w.heap.size ≤ q) (f2 : Fr (blk A1) w1 w2) : Fr [] w w2 :=
  a1.trans f2 (fun g hg => (by cases hg)) (fun g hg => Or.inr (q1 g hg))

theorem next_fr {w w1 w2 : World} {o : Obj} {A1 : Option Addr} (a1 : Fr [] w w1) (q1 : ∀ q ∈ blk A1, w.heap.size ≤ q) (f2 : Fr (blk A1) (w1.alloc o) w2) : Fr [] w w2 :=
  (a1.alloc o).trans f2 (fun g hg => (by cases hg)) (fun g hg => Or.inr (q1 g hg))

theorem next_blk {w w1 : World} {o : Obj} {A1 A2 : Option Addr} (a1 : Fr [] w w1) (q1 : ∀ q ∈ blk A1, w.heap.size ≤ q) (hb : blk A2 = blk A1 ∨ blk A2 = [(w1.alloc o).heap.size]) : ∀ q ∈ blk A2, w.heap.size ≤ q := by
  intro q hq
  rcases hb with e | e
  · exact q1 q (e ▸ hq)
  · rw [e, List.mem_singleton] at hq
    have := a1.size
    subst hq
    simp
    omega

theorem into_end {w w3 : World} {A3 : Option Addr} {cap3 n : Nat} {m R : List (List UInt8)} {x : List UInt8} {K : Nat} (hR : R = if m[K]? = some x then m else m.take K ++ [x] ++ m.drop K) (hne : ¬ m[K]? = some x) (hK : K ≤ m.length)
    (hs : Seg w3 9 A3 cap3 (((([] : List Value) ++ (m.map encStr).take K) ++ [encStr x]) ++ (m.map encStr).drop K)) (a3 : Fr [] w w3) (hn : n = K + 1 + (m.length - K)) : IPost w R (.returned (.slice A3 n cap3)) w3 := by
  rw [if_neg hne] at hR
  subst hR
  refine ⟨A3, cap3, ?_, ?_, a3.all⟩
  · rw [hn]
    simp only [List.length_append, List.length_take, List.length_drop, List.length_singleton, Nat.min_eq_left hK]
  · simpa [List.map_take, List.map_drop] using hs

theorem enc_one (m : List (List UInt8)) : ∀ u ∈ m.map encStr, u.oneCell' = true := by
  intro u hu
  obtain ⟨s, _, rfl⟩ := List.mem_map.1 hu
  rfl

set_option maxRecDepth 100000 in
theorem into_any (w : World) (A : Option Addr) (cap : Nat) (m : List (List UInt8)) (x : List UInt8) (h : Seg w 9 A cap (m.map encStr)) (hm : m.length ≤ 1000000) :
    Calls Tryz.prog 68 #[.slice A m.length cap, encStr x] w (IPost w (intoS m x)) := by
  have hR : Hid (intoS m x = if m[upS m x]? = some x then m else m.take (upS m x) ++ [x] ++ m.drop (upS m x)) := Lib.hid rfl
  have b1 := Lib.hid (up_in m x)
  have b2 := Lib.hid (up_stop m x)
  have hKm : upS m x ≤ m.length := tw_le _ m
  generalize intoS m x = R at *
  generalize upS m x = K at *
  obtain ⟨hu, Hu⟩ := Seg.upto h Tryz.underlying22 (fun w => by kernel_rfl) K (by rw [List.length_map]; exact hKm)
  obtain ⟨A', hf, hA', Hf⟩ := Seg.from_ h Tryz.underlying22 (fun w => by kernel_rfl) K (by rw [List.length_map]; exact hKm)
  rw [List.length_map] at hu hf
  obtain ⟨i0, hi0, hz0, hz1, hz2⟩ := info_parts info_str
  have Hh := Lib.hid h
  have HU := Lib.hid (Hu w h)
  have HF := Lib.hid (Hf w h)
  have Hi := Lib.hid hi0
  have Hz0 := Lib.hid hz0
  have Hz1 := Lib.hid hz1
  have Hz2 := Lib.hid hz2
  have Hle : Hid (K = ((m.map encStr).take K).length) := Lib.hid (by simp; omega)
  have Hlf : Hid (m.length - K = ((m.map encStr).drop K).length) := Lib.hid (by simp)
  have Hn1 : Hid (K = (([] : List Value) ++ (m.map encStr).take K).length) := Lib.hid (by simp; omega)
  have Hn2 : Hid (K + 1 = ((([] : List Value) ++ (m.map encStr).take K) ++ [encStr x]).length) := Lib.hid (by simp; omega)
  have H1 : Hid (∀ u ∈ (m.map encStr).take K, u.oneCell' = true) := Lib.hid (fun u hu => enc_one m u (List.mem_of_mem_take hu))
  have H2 : Hid (∀ u ∈ (m.map encStr).drop K, u.oneCell' = true) := Lib.hid (fun u hu => enc_one m u (List.mem_of_mem_drop hu))
  clear h Hu Hf hi0 hz0 hz1 hz2 hA'
  go_enter Tryz.func68, Tryz.ntmps68
  go_wp2_with fail
  go_loopw [5] (fun i wr => ∃ (k : Nat), k ≤ K ∧ i = .int .i64 k ∧ w = wr) (fun i _ => m.length - (intOf i).toNat)
  case atStart => exact ⟨0, by omega, rfl, rfl⟩
  case round =>
    obtain ⟨k, hk, rfl, rfl⟩ := hrel
    by_cases hkK : k < K
    · have hkl : k < m.length := by omega
      have e1 : decide ((k : Int) < (m.length : Int)) = true := decide_eq_true (by omega)
      obtain ⟨b, off, rfl, hlt, hcell⟩ := rd_str Hh.out.rd (by omega)
      have c2 := hcell k hkl
      have bl := b1.out k hkK hkl
      clear hcell
      unfold encStr at c2 ⊢
      go_wp2_with fail
      go_roundw
      case rel => exact ⟨k + 1, by omega, by go_num, trivial⟩
      case measure => simp [intOf]; omega
    obtain rfl : k = K := by omega
    by_cases hkl : k < m.length
    · have e1 : decide ((k : Int) < (m.length : Int)) = true := decide_eq_true (by omega)
      obtain ⟨b, off, rfl, hlt, hcell⟩ := rd_str Hh.out.rd (by omega)
      have c2 := hcell k hkl
      have bl := b2.out hkl
      clear hcell
      rcases heq : (m[k] == x) with _ | _
      · unfold encStr at c2 ⊢
        go_wp2_with (first
          | (at_builtin
             refine wpList_app (n := 0) (m := k) rfl (.tmp 34) (.tmp 37) _ rfl (fresh_nil w _) (HU.out.kept ((Fr.refl [] w).alloc _) (by simp)).rd rfl Hle.out Tryz.underlying22 Hi.out Hz0.out Hz1.out Hz2.out rfl rfl rfl H1.out (by omega) (by omega) ?_
             intro A1 cap1 w1 hs1 f1 hb1
             have a1 := Lib.hid (fresh_fr f1)
             have q1 := Lib.hid (fresh_blk hb1))
          | (at_builtin
             refine wpList_push rfl (.tmp 39) (.tmp 41) _ rfl (hs1.alloc _) Hn1.out Tryz.underlying22 Hi.out Hz0.out Hz1.out Hz2.out rfl rfl rfl (new_cell _ _ _) rfl (by omega) (by omega) ?_
             intro A2 cap2 w2 hs2 f2 hb2
             have a2 := Lib.hid (next_fr a1.out q1.out f2)
             have q2 := Lib.hid (next_blk a1.out q1.out hb2))
          | (at_builtin
             refine wpList_app (m := m.length - k) rfl (.tmp 43) (.tmp 46) _ rfl hs2 (HF.out.kept a2.out (by simp)).rd Hn2.out Hlf.out Tryz.underlying22 Hi.out Hz0.out Hz1.out Hz2.out rfl rfl rfl H2.out (by omega) (by omega) ?_
             intro A3 cap3 w3 hs3 f3 hb3
             have a3 := Lib.hid (next_fr0 a2.out q2.out f3)))
        go_ret
        exact into_end hR.out (by rw [List.getElem?_eq_getElem hkl]; intro e; injection e with e; rw [e] at heq; simp at heq) hKm hs3 a3.out (by omega)
      · unfold encStr at c2 ⊢
        go_wp2_with fail
        go_ret
        have e2 : m[k]? = some x := by rw [List.getElem?_eq_getElem hkl, eq_of_beq heq]
        have e3 := hR.out
        rw [if_pos e2] at e3
        subst e3
        exact ⟨_, _, rfl, Hh.out, Below.refl _ _⟩
    · obtain rfl : k = m.length := by omega
      have e1 : decide ((m.length : Int) < (m.length : Int)) = false := decide_eq_false (by omega)
      have Hl0 : Hid (0 = ((m.map encStr).drop m.length).length) := Lib.hid (by simp)
      unfold encStr
      go_wp2_with (first
        | (at_builtin
           refine wpList_app (n := 0) (m := m.length) rfl (.tmp 34) (.tmp 37) _ rfl (fresh_nil w _) (HU.out.kept ((Fr.refl [] w).alloc _) (by simp)).rd rfl Hle.out Tryz.underlying22 Hi.out Hz0.out Hz1.out Hz2.out rfl rfl rfl H1.out (by omega) (by omega) ?_
           intro A1 cap1 w1 hs1 f1 hb1
           have a1 := Lib.hid (fresh_fr f1)
           have q1 := Lib.hid (fresh_blk hb1))
        | (at_builtin
           refine wpList_push rfl (.tmp 39) (.tmp 41) _ rfl (hs1.alloc _) Hn1.out Tryz.underlying22 Hi.out Hz0.out Hz1.out Hz2.out rfl rfl rfl (new_cell _ _ _) rfl (by omega) (by omega) ?_
           intro A2 cap2 w2 hs2 f2 hb2
           have a2 := Lib.hid (next_fr a1.out q1.out f2)
           have q2 := Lib.hid (next_blk a1.out q1.out hb2))
        | (at_builtin
           refine wpList_app (m := 0) rfl (.tmp 43) (.tmp 46) _ rfl hs2 (HF.out.kept a2.out (by simp)).rd Hn2.out Hl0.out Tryz.underlying22 Hi.out Hz0.out Hz1.out Hz2.out rfl rfl rfl H2.out (by omega) (by omega) ?_
           intro A3 cap3 w3 hs3 f3 hb3
           have a3 := Lib.hid (next_fr0 a2.out q2.out f3)))
      go_ret
      exact into_end hR.out (by simp) hKm hs3 a3.out (by omega)
end Go.Proofs.YtdmmkjijgoiecaaGreatDoor.tx
