/-
  Shape: the law of cells without a gap: what stands in memory all along.
-/
import Derived.Test.YtmahoppjefhnjaaDoorShX
import Derived.Test.YtmahoppjefhnjaaDoorShW
import Derived.Test.YtmahoppjefhnjaaDoorShV
import Derived.Deep.OwnRows
import Derived.Laws.OwnMore
import Derived.Laws.MakeOwn
namespace Go.Proofs.YtmahoppjefhnjaaDoor.sh
open Go.RowKit Go.Sort Go.Proofs.YtmahoppjefhnjaaDoor.mem

/-- the law's own box, in a later world -/
structure WA (w : World) (v0 v1 v2 v3 : Value) (wx : World) : Prop where
  on : Below w.heap.size w wx
  box : Box wx w.heap.size 51 #[v0, v1, v2, v3]
theorem WA.kept {w : World} {v0 v1 v2 v3 : Value} {wx wy : World} (h : WA w v0 v1 v2 v3 wx) (hb : Below wx.heap.size wx wy) : WA w v0 v1 v2 v3 wy := ⟨h.on.trans (hb.mono h.on.size), h.box.kept (Fr.of_below hb []) (by simp)⟩
theorem WA.new (w : World) (v0 v1 v2 v3 : Value) : WA w v0 v1 v2 v3 (w.alloc (.cells #[v0, v1, v2, v3] 51)) := ⟨(Below.refl _ _).alloc (Nat.le_refl _) _, Box.new w _ _⟩
theorem WA.drew {w : World} {v0 v1 v2 v3 : Value} {wx : World} (h : WA w v0 v1 v2 v3 wx) : WA w v0 v1 v2 v3 wx.drew := h.kept (Below.refl _ _).drew
theorem WA.cells {w : World} {v0 v1 v2 v3 : Value} {wx : World} (h : WA w v0 v1 v2 v3 wx) : wx.cell? ⟨w.heap.size, 0, none⟩ = some v0 ∧ wx.cell? ⟨w.heap.size, 1, none⟩ = some v1 ∧ wx.cell? ⟨w.heap.size, 2, none⟩ = some v2 ∧ wx.cell? ⟨w.heap.size, 3, none⟩ = some v3 := ⟨h.box.cell 0, h.box.cell 1, h.box.cell 2, h.box.cell 3⟩

/-- the first places, as far as they are known -/
structure FA (wx : World) (g N : Nat) (next : Nat) (F : Nat → Nat) : Prop where
  ex : ∃ cs : Array Value, Box wx g 3 cs ∧ cs.size = N ∧ ∀ c, c < next → cs[c]? = some (.int .i64 (F c))
theorem FA.lt {wx : World} {g N next : Nat} {F : Nat → Nat} (h : FA wx g N next F) : g < wx.heap.size := by obtain ⟨cs, hb, _⟩ := h.ex; exact hb.lt
theorem FA.kept {wx wy : World} {g N next : Nat} {F : Nat → Nat} (h : FA wx g N next F) (hb : Below wx.heap.size wx wy) : FA wy g N next F := by
  obtain ⟨cs, h1, h2, h3⟩ := h.ex
  exact ⟨cs, h1.kept (Fr.of_below hb []) (by simp), h2, h3⟩
theorem FA.at_ {wx : World} {g N next : Nat} {F : Nat → Nat} (h : FA wx g N next F) {c : Nat} (hc : c < next) : wx.cell? ⟨g, c, none⟩ = some (.int .i64 (F c)) := by
  obtain ⟨cs, h1, h2, h3⟩ := h.ex
  rw [h1.cell, h3 c hc]
theorem FA.some_ {wx : World} {g N next : Nat} {F : Nat → Nat} (h : FA wx g N next F) {c : Nat} (hc : c < N) : ∃ u, wx.cell? ⟨g, c, none⟩ = some u := by
  obtain ⟨cs, h1, h2, h3⟩ := h.ex
  rw [h1.cell]
  exact ⟨_, Array.getElem?_eq_getElem (by omega)⟩
theorem FA.free {wx : World} {g N next : Nat} {F : Nat → Nat} (h : FA wx g N next F) (c : Nat) : wx.frozen? ⟨g, c, none⟩ = false := by
  obtain ⟨cs, h1, h2, h3⟩ := h.ex
  exact h1.free c
theorem FA.put {wx : World} {g N next : Nat} {F : Nat → Nat} (h : FA wx g N next F) (hn : next < N) : FA (wx.setCell ⟨g, next, none⟩ (.int .i64 (F next))) g N (next + 1) F := by
  obtain ⟨cs, h1, h2, h3⟩ := h.ex
  refine ⟨_, h1.put next _, by simpa using h2, fun c hc => ?_⟩
  rw [Array.getElem?_setIfInBounds]
  by_cases hcn : next = c
  · subst hcn
    rw [if_pos rfl, if_pos (by omega)]
  · rw [if_neg hcn]
    exact h3 c (by omega)
theorem FA.new {wx : World} {N : Nat} {F : Nat → Nat} : FA (wx.alloc (.cells (madeCells #[.int .i64 0] N) 3)) wx.heap.size N 0 F := ⟨_, Box.new wx _ _, size_madeCells _ _, fun c hc => by omega⟩

/-- all of it -/
structure LS (w : World) (v0 v1 v2 v3 : Value) (M : Option Addr) (mc : Nat) (ms : List (Int × List UInt8)) (g N next : Nat) (F : Nat → Nat) (wx : World) : Prop where
  wa : WA w v0 v1 v2 v3 wx
  sg : Sg 2 wx 64 M mc ms.length (marksV ms)
  fa : FA wx g N next F
  ap : w.heap.size < g ∧ g ∉ blk M

theorem LS.kept {w : World} {v0 v1 v2 v3 : Value} {M : Option Addr} {mc : Nat} {ms : List (Int × List UInt8)} {g N next : Nat} {F : Nat → Nat} {wx wy : World} (h : LS w v0 v1 v2 v3 M mc ms g N next F wx) (hb : Below wx.heap.size wx wy) : LS w v0 v1 v2 v3 M mc ms g N next F wy :=
  ⟨h.wa.kept hb, h.sg.kept (Fr.of_below hb []) (by simp), h.fa.kept hb, h.ap⟩
theorem LS.put {w : World} {v0 v1 v2 v3 : Value} {M : Option Addr} {mc : Nat} {ms : List (Int × List UInt8)} {g N next : Nat} {F : Nat → Nat} {wx : World} (h : LS w v0 v1 v2 v3 M mc ms g N next F wx) (hn : next < N) : LS w v0 v1 v2 v3 M mc ms g N (next + 1) F (wx.setCell ⟨g, next, none⟩ (.int .i64 (F next))) := by
  have hf : Fr [g] wx (wx.setCell ⟨g, next, none⟩ (.int .i64 (F next))) := (Fr.refl [g] wx).setCell (p := ⟨g, next, none⟩) (Or.inl (by simp)) _
  refine ⟨⟨h.wa.on.trans (hf.below (B := w.heap.size) (by simp; exact Nat.le_of_lt h.ap.1) h.wa.on.size), h.wa.box.kept hf (by simp; have := h.ap.1; omega)⟩, h.sg.kept hf (fun q hq => ?_), h.fa.put hn, h.ap⟩
  rw [List.mem_singleton]
  rintro rfl
  exact h.ap.2 hq
theorem LS.new {w : World} {v0 v1 v2 v3 : Value} {M : Option Addr} {mc : Nat} {ms : List (Int × List UInt8)} {N : Nat} {F : Nat → Nat} {wx : World} (ha : WA w v0 v1 v2 v3 wx) (hs : Sg 2 wx 64 M mc ms.length (marksV ms)) : LS w v0 v1 v2 v3 M mc ms wx.heap.size N 0 F (wx.alloc (.cells (madeCells #[.int .i64 0] N) 3)) :=
  ⟨ha.kept ((Below.refl _ _).alloc (Nat.le_refl _) _), hs.alloc _, FA.new, ha.box.lt, fun h => by have := hs.lt _ h; omega⟩

theorem marks_at : ∀ (l : List (Int × List UInt8)) (i : Nat) (hi : i < l.length), (marksV l)[i * 2]? = some (.int .i64 l[i].1) ∧ (marksV l)[i * 2 + 1]? = some (.string ⟨l[i].2.toArray⟩)
  | x :: r, 0, _ => ⟨rfl, rfl⟩
  | x :: r, i + 1, hi => by
    have h := marks_at r i (by simpa using hi)
    have e : marksV (x :: r) = .int .i64 x.1 :: .string ⟨x.2.toArray⟩ :: marksV r := rfl
    rw [e, show (i + 1) * 2 = i * 2 + 1 + 1 by omega]
    exact h

theorem marks_len (l : List (Int × List UInt8)) : (marksV l).length = l.length * 2 := by
  induction l with
  | nil => rfl
  | cons x r ih =>
    have e : marksV (x :: r) = .int .i64 x.1 :: .string ⟨x.2.toArray⟩ :: marksV r := rfl
    rw [e, List.length_cons, List.length_cons, ih, List.length_cons]
    omega

/-- a mark in memory -/
theorem LS.mark {w : World} {v0 v1 v2 v3 : Value} {M : Option Addr} {mc : Nat} {ms : List (Int × List UInt8)} {g N next : Nat} {F : Nat → Nat} {wx : World} (h : LS w v0 v1 v2 v3 M mc ms g N next F wx) {i : Nat} (hi : i < ms.length) :
    ∃ b off, M = some ⟨b, off, none⟩ ∧ wx.cell? ⟨b, off + i * 2, none⟩ = some (.int .i64 ms[i].1) ∧ wx.cell? ⟨b, off + i * 2 + 1, none⟩ = some (.string ⟨ms[i].2.toArray⟩) := by
  have hl := marks_len ms
  obtain ⟨b, off, rfl, _, hc⟩ := h.sg.rd (by omega) (by omega)
  obtain ⟨m0, m1⟩ := marks_at ms i hi
  refine ⟨b, off, rfl, ?_, ?_⟩
  · rw [hc (i * 2) (by omega), ← m0, List.getElem?_eq_getElem (by omega)]
  · rw [Nat.add_assoc, hc (i * 2 + 1) (by omega), ← m1, List.getElem?_eq_getElem (by omega)]

/-- the cells of the places so far -/
structure Nx (F : Nat → Nat) (N next p : Nat) : Prop where
  le : next ≤ N
  lo : ∀ c, c < next → F c < p
  hi : ∀ c, next ≤ c → c < N → p ≤ F c

theorem nx_step {F : Nat → Nat} {N next p d : Nat} (h : Nx F N next p) (hmono : ∀ i j, i < j → j < N → F i < F j) (hd : d < N) (hF : F d ≤ p) (hu : ∀ c, c < N → F c = p → c = d) : (d = next ∧ F next = p ∧ next < N ∧ Nx F N (next + 1) (p + 1)) ∨ (d < next ∧ Nx F N next (p + 1)) := by
  by_cases h1 : d < next
  · refine Or.inr ⟨h1, h.le, fun c hc => Nat.lt_succ_of_lt (h.lo c hc), fun c hc hcn => ?_⟩
    have h2 := h.hi c hc hcn
    have h4 : F c ≠ p := fun h5 => by
      have := hu c hcn h5
      omega
    omega
  · have h2 := h.hi d (by omega) hd
    have h3 : F d = p := by omega
    have h4 : d = next := by
      by_cases h5 : d = next
      · exact h5
      · have h6 := hmono next d (by omega) hd
        have h7 := h.hi next (Nat.le_refl _) (by omega)
        omega
    subst h4
    refine Or.inl ⟨rfl, h3, hd, by omega, fun c hc => ?_, fun c hc hcn => ?_⟩
    · by_cases h5 : c = d
      · subst h5; omega
      · have := h.lo c (by omega); omega
    · have := hmono d c (by omega) hcn
      omega

theorem nx_end {F : Nat → Nat} {N P next : Nat} (h : Nx F N next P) (hlt : ∀ c, c < N → F c < P) : next = N := by
  have hle := h.le
  rcases Nat.lt_or_ge next N with h1 | h1
  · have h2 := h.hi next (Nat.le_refl _) h1
    have h3 := hlt next h1
    omega
  · omega
end Go.Proofs.YtmahoppjefhnjaaDoor.sh
