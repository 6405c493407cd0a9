/-
  Bits: slices.Sorted of numbers, and Of.
-/
import Derived.Test.YtnjaadcbpkbjbaaDoorBtV
import Derived.Test.YtnjaadcbpkbjbaaDoorBtT
namespace Go.Proofs.YtnjaadcbpkbjbaaDoor.bt
open Go.RowKit Go.Shelf Go.Sort Go.Proofs.YtnjaadcbpkbjbaaDoor.mem

theorem sorted_fr (w : World) (n g off : Nat) (d : Array Int) (os : Array Obj) : Fr [g] w (Go.Sort.grow (Go.Sort.putRow (Value.int .i64) (Go.Sort.ahead w n) g off d) os) := by
  refine ⟨rfl, rfl, rfl, by simp [Go.Sort.grow], fun k hk hne => ?_⟩
  rw [Go.Sort.heap_grow_old _ _ (by simpa using hk)]
  have : g ≠ k := fun e => hne (by rw [e]; simp)
  simp [Go.Sort.putRow, Go.Sort.mapBlock, Go.Sort.ahead, Array.getElem?_modify, this]

/-- in order -/
def so (xs : List Int) : List Int := xs.mergeSort fun x y => decide (x ≤ y)
theorem so_len (xs : List Int) : (so xs).length = xs.length := List.length_mergeSort _
theorem so_mem {xs : List Int} {x : Int} : x ∈ so xs ↔ x ∈ xs := (List.mergeSort_perm xs _).mem_iff

theorem sort_ints (w : World) (A : Option Addr) (cap : Nat) (xs : List Int) (h : Seg w 3 A cap (xs.map eI)) (hl : xs.length ≤ 1000) :
    Calls Tryd.prog 47 #[.slice A xs.length cap] w fun e w' => e = .returned (.tuple #[]) ∧ Fr (blk A) w w' ∧ Rd w' A ((so xs).map eI) := by
  rcases Nat.eq_zero_or_pos xs.length with h0 | h0
  · obtain rfl : xs = [] := List.eq_nil_of_length_eq_zero h0
    refine (Tryd.slices_Sort_int_none A cap w).mono ?_
    rintro e w' ⟨rfl, rfl⟩
    exact ⟨rfl, Fr.refl _ _, fun hz => by simp [so] at hz⟩
  · obtain ⟨g, off, rfl, hlt, hc⟩ := h.at_ (by simpa using h0)
    have hH : Go.Sort.Holds (Value.int .i64) w g off xs.toArray := by
      intro j hj
      simp only [List.size_toArray] at hj
      refine ⟨?_, h.free _⟩
      rw [hc j (by simpa using hj)]
      simp [hj]
    have K := Tryd.slices_Sort_int g off cap xs w hH hlt (by omega)
    refine K.mono ?_
    rintro e w' ⟨rfl, n, os, rfl⟩
    refine ⟨rfl, sorted_fr _ _ _ _ _ _, fun hz => ⟨g, off, rfl, ?_, fun j hj => ?_⟩⟩
    · simp [Go.Sort.grow]; omega
    · have hsz : (so xs).toArray.size = xs.toArray.size := by simp [so_len]
      have hh := Go.Sort.holds_putRow (Value.int .i64) (Go.Sort.ahead w n) g off _ (so xs).toArray (fun j hj => hH j hj) hsz j (by simpa using hj)
      unfold so at hh hj ⊢
      rw [Go.Sort.cell?_grow _ _ _ (by simpa using hlt), hh.1]
      simp at hj
      simp [hj]

def SPost (w : World) (xs : List Int) (e : Ending) (w' : World) : Prop := ∃ A' cap', e = .returned (.slice A' (so xs).length cap') ∧ Below w.heap.size w w' ∧ Rd w' A' ((so xs).map eI) ∧ ∀ g ∈ blk A', w.heap.size ≤ g

set_option maxRecDepth 100000 in
theorem sorted_any (w : World) (p : Nat) (A : Option Addr) (c : Nat) (xs : List Int) (hbig : xs.length ≤ 1000) (hp : w.cell? ⟨p, 0, none⟩ = some (.slice A xs.length c)) (hpl : p < w.heap.size) (hA : Rd w A (xs.map eI)) (hdA : 0 < xs.length → ∀ g ∈ blk A, g < w.heap.size) :
    Calls Tryd.prog 33 #[.func (.func 48) #[] #[.pointer (some ⟨p, 0, none⟩)]] w (SPost w xs) := by
  have K := Lib.hid (collect_any w p A c xs hbig hp hpl hA hdA)
  have fin := Lib.hid (fun w' A' cap' (h1 : Below w.heap.size w w') (h2 : Rd w' A' ((so xs).map eI)) (h3 : ∀ g ∈ blk A', w.heap.size ≤ g) => show SPost w xs (.returned (.slice A' xs.length cap')) w' from ⟨A', cap', by rw [so_len], h1, h2, h3⟩)
  clear hp hA hdA hpl
  go_enter Tryd.func33, Tryd.ntmps33
  go_wp2_with fail
  refine K.out.mono ?_
  rintro e w2 ⟨A2, c2, rfl, hb, hs, ho⟩
  have KS := Lib.hid (sort_ints w2 A2 c2 xs hs hbig)
  have HB := Lib.hid hb
  have HO := Lib.hid ho
  clear hb hs ho K
  go_wp2_with fail
  refine KS.out.mono ?_
  rintro e w3 ⟨rfl, hf, hr⟩
  have HF := Lib.hid (fin.out w3 A2 c2 (HB.out.trans (hf.below HO.out HB.out.size)) hr HO.out)
  clear hf hr KS
  go_wp2_with fail
  go_ret
  exact HF.out

/-- the set of some numbers -/
def ofB (xs : List Int) : List Blk := (so xs).foldl (fun B n => addB n B) []

theorem fold_snoc (f : List Blk → Int → List Blk) (l : List Int) (k : Nat) (hk : k < l.length) (B : List Blk) : (l.take (k + 1)).foldl f B = f ((l.take k).foldl f B) l[k] := by
  rw [List.take_succ_eq_append_getElem hk, List.foldl_append]
  rfl

theorem ok_addB {n : Int} {B : List Blk} (h : Ok B) : Ok (addB n B) := by
  unfold addB
  split
  · exact (mem_insB h).1
  · exact h
theorem mem_addB {n : Int} {B : List Blk} (h : Ok B) {x : Nat} : x ∈ flat (addB n B) ↔ (mayB n = true ∧ x = n.toNat) ∨ x ∈ flat B := by
  rw [flat_addB h]
  unfold addL addR
  by_cases hm : mayB n = true
  · by_cases hi : n.toNat ∈ flat B
    · rw [if_neg (by simp [hm, hi])]
      constructor
      · exact Or.inr
      · rintro (⟨_, rfl⟩ | h); exact hi; exact h
    · rw [if_pos (by simp [hm, hi]), mem_ins]
      simp [hm]
  · rw [if_neg (by simp [hm])]
    simp [hm]

theorem of_props : ∀ (l : List Int) (B : List Blk), Ok B → Ok (l.foldl (fun B n => addB n B) B) ∧ ∀ x, x ∈ flat (l.foldl (fun B n => addB n B) B) ↔ (∃ n ∈ l, mayB n = true ∧ x = n.toNat) ∨ x ∈ flat B
  | [], B, h => ⟨h, by simp⟩
  | n :: l, B, h => by
    obtain ⟨h1, h2⟩ := of_props l (addB n B) (ok_addB h)
    refine ⟨h1, fun x => ?_⟩
    rw [List.foldl_cons, h2, mem_addB h]
    simp only [List.mem_cons, exists_eq_or_imp]
    constructor
    · rintro (h | h | h)
      · exact Or.inl (Or.inr h)
      · exact Or.inl (Or.inl h)
      · exact Or.inr h
    · rintro ((h | h) | h)
      · exact Or.inr (Or.inl h)
      · exact Or.inl h
      · exact Or.inr (Or.inr h)

theorem ok_nil : Ok [] := ⟨List.Pairwise.nil, fun b hb => by cases hb⟩
theorem ofB_ok (xs : List Int) : Ok (ofB xs) := (of_props _ _ ok_nil).1
theorem ofB_mem {xs : List Int} {x : Nat} : x ∈ flat (ofB xs) ↔ ∃ n ∈ xs, mayB n = true ∧ x = n.toNat := by
  unfold ofB
  rw [(of_props _ _ ok_nil).2]
  simp [flat, so_mem]

/-- a new set -/
def NewS (w : World) (B : List Blk) (e : Ending) (w' : World) : Prop := ∃ s A cap, e = .returned (.pointer (some ⟨s, 0, none⟩)) ∧ Below w.heap.size w w' ∧ SA w' s A cap B ∧ w.heap.size ≤ s ∧ ∀ g ∈ blk A, w.heap.size ≤ g

/-- in the midst of Of -/
structure OI (w3 W : World) (s : Nat) (A : Option Addr) (cap : Nat) (B : List Blk) : Prop where
  sa : SA W s A cap B
  oa : ∀ g ∈ blk A, w3.heap.size ≤ g
  fr : Fr [s] w3 W

theorem OI.add {w3 W W' : World} {s : Nat} {A A' : Option Addr} {cap cap' : Nat} {B B' : List Blk} (h : OI w3 W s A cap B) (hp : AP W s A B' W' A' cap') : OI w3 W' s A' cap' B' := by
  have hsz := h.fr.size
  refine ⟨hp.sa, fun g hg => ?_, h.fr.trans hp.fr (fun g hg => Or.inl hg) (fun g hg => ?_)⟩
  · rcases hp.bl g hg with e | e
    · exact h.oa g e
    · omega
  · rcases List.mem_cons.1 hg with e | e
    · exact Or.inl (by rw [e]; simp)
    · exact Or.inr (h.oa g e)

set_option maxRecDepth 100000 in
set_option maxHeartbeats 2000000 in
theorem of_any (w : World) (A : Option Addr) (c : Nat) (xs : List Int) (hbig : xs.length ≤ 1000) (hA : Rd w A (xs.map eI)) :
    Calls Tryd.prog 18 #[.slice A xs.length c] w (NewS w (ofB xs)) := by
  have K1 := Lib.hid (values_any (w.alloc (.cells #[.slice none 0 0] 26)) A xs.length c)
  obtain ⟨w2, hw2⟩ : ∃ w2, Hid (w2 = (w.alloc (.cells #[.slice none 0 0] 26)).alloc (.cells #[.slice A xs.length c] 27)) := ⟨_, Lib.hid rfl⟩
  have hb2 : Below w.heap.size w w2 := by rw [hw2.out]; exact ((Below.refl _ w).alloc (Nat.le_refl _) _).alloc (by simp) _
  have hsz2 : w2.heap.size = w.heap.size + 2 := by rw [hw2.out]; simp
  have hbs : Box w2 w.heap.size 26 #[.slice none 0 0] := by
    rw [hw2.out]
    exact (Box.new w 26 #[.slice none 0 0]).kept ((Fr.refl [] _).alloc _) (by simp)
  have hp : w2.cell? ⟨w.heap.size + 1, 0, none⟩ = some (.slice A xs.length c) := by
    rw [hw2.out]
    have := new_cell (w.alloc (.cells #[.slice none 0 0] 26)) (.slice A xs.length c) 27
    rwa [World.size_alloc] at this
  rw [← hw2.out, World.size_alloc] at K1
  have K2 := Lib.hid (sorted_any w2 (w.heap.size + 1) A c xs hbig hp (by omega) (hA.below hb2) (fun hz g hg => by
    obtain ⟨g', off, rfl, hl, _⟩ := hA (by simpa using hz)
    rw [blk_some, List.mem_singleton] at hg
    omega))
  have HB2 := Lib.hid hb2
  have HBS := Lib.hid hbs
  have fin := Lib.hid (fun w' s' A' cap' B (hB : B = ofB xs) (h1 : Below w.heap.size w w') (h2 : SA w' s' A' cap' B) (h3 : w.heap.size ≤ s') (h4 : ∀ g ∈ blk A', w.heap.size ≤ g) => show NewS w (ofB xs) (.returned (.pointer (some ⟨s', 0, none⟩))) w' from by subst hB; exact ⟨s', A', cap', rfl, h1, h2, h3, h4⟩)
  have hsl := so_len xs
  clear hA hp hbs hb2 hw2
  go_enter Tryd.func18, Tryd.ntmps18
  go_wp2_with fail
  refine K1.out.mono ?_
  rintro e w' ⟨rfl, rfl⟩
  go_wp2_with fail
  refine K2.out.mono ?_
  rintro e w3 ⟨A3, c3, rfl, hb3, hr3, ho3⟩
  have HR := Lib.hid hr3
  have HO := Lib.hid ho3
  have HB3 := Lib.hid (HB2.out.trans (hb3.mono (by omega)))
  have hs3 := hb3.size
  have HI : Hid (OI w3 w3 w.heap.size none 0 []) := Lib.hid ⟨⟨HBS.out.kept (Fr.of_below hb3 []) (by simp), Sg.new 2 _ _, ok_nil, by simp, fun b hb => by cases hb⟩, by simp [blk], Fr.refl _ _⟩
  obtain ⟨ys, hy⟩ : ∃ ys, so xs = ys := ⟨_, rfl⟩
  rw [hy] at HR hsl ⊢
  have HY := Lib.hid hy
  clear hy
  clear hb3 hr3 ho3 K1 K2 HB2 HBS
  go_wp2_with fail
  obtain ⟨s, hs⟩ : ∃ s, s = w.heap.size := ⟨_, rfl⟩
  have Hs := Lib.hid hs
  rw [← hs] at HI ⊢
  clear hs
  go_loopw [12] (fun i wr => ∃ (k : Nat) (A1 : Option Addr) (cap1 : Nat), k ≤ ys.length ∧ i = .int .i64 k ∧ Hid (OI w3 wr s A1 cap1 ((ys.take k).foldl (fun B n => addB n B) []))) (fun i _ => ys.length - (intOf i).toNat)
  case atStart => exact ⟨0, none, 0, by omega, rfl, HI⟩
  case round =>
    obtain ⟨k, A1, cap1, hk, rfl, hi⟩ := hrel
    rename_i wr _
    clear HI
    by_cases hkl : k < ys.length
    · have e1 : decide ((k : Int) < (ys.length : Int)) = true := decide_eq_true (by omega)
      obtain ⟨g, off, rfl, hg, hc⟩ := HR.out (by simp; omega)
      have hgs : g ∉ [s] := by
        have := HO.out g (by simp [blk])
        have := Hs.out
        simp
        omega
      have k0 : wr.cell? ⟨g, off + k, none⟩ = some (eI ys[k]) := by
        rw [World.cell?_of_block (hi.out.fr.block g hg hgs), hc k (by simpa using hkl)]
        simp
      have hsn := Lib.hid (fold_snoc (fun B n => addB n B) ys k hkl [])
      have hkI : (k : Int) < (ys.length : Int) := by omega
      generalize ys[k] = y at *
      have KA := Lib.hid (add_any wr s A1 cap1 _ hi.out.sa y)
      generalize (ys.take k).foldl (fun B n => addB n B) [] = B at *
      clear hc hg hgs
      go_wp2_with fail
      refine KA.out.mono ?_
      rintro e w4 ⟨rfl, A4, c4, hap⟩
      have HI4 := Lib.hid (hi.out.add hap)
      rw [← hsn.out] at HI4
      clear hap KA
      go_wp2_with fail
      go_roundw
      case rel => exact ⟨k + 1, A4, c4, by omega, by go_num, HI4⟩
      case measure => simp [intOf]; omega
    · obtain rfl : k = ys.length := by omega
      have e1 : decide ((ys.length : Int) < (ys.length : Int)) = false := decide_eq_false (by omega)
      rw [List.take_length] at hi
      have HF := Lib.hid (fin.out wr s A1 cap1 _ (by unfold ofB; rw [HY.out]) (HB3.out.trans (hi.out.fr.below (by have := Hs.out; simp; omega) HB3.out.size)) hi.out.sa (by have := Hs.out; omega) (fun g hg => Nat.le_trans HB3.out.size (hi.out.oa g hg)))
      go_wp2_with fail
      go_ret
      exact HF.out
end Go.Proofs.YtnjaadcbpkbjbaaDoor.bt
