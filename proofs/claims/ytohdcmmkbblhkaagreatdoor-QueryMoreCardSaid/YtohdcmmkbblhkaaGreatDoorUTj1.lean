import Derived.Test.YtohdcmmkbblhkaaGreatDoorUTjP
import Derived.Deep.OwnRows
import Derived.Laws.OwnMore
/-
  tarjan: edges that came in, the graph that they make; rows of numbers that grow.
-/
set_option linter.all false
namespace Go.Proofs.YtohdcmmkbblhkaaGreatDoor.tj
open Go.RowKit Go.Proofs.YtohdcmmkbblhkaaGreatDoor.mem

/-- pairs of numbers that can be read -/
def Eds (w : World) (A : Option Addr) (l : List (Int × Int)) : Prop := 0 < l.length → ∃ b off, A = some ⟨b, off, none⟩ ∧ b < w.heap.size ∧ ∀ j (hj : j < l.length), w.cell? ⟨b, off + j * 2, none⟩ = some (.int .i64 l[j].1) ∧ w.cell? ⟨b, off + j * 2 + 1, none⟩ = some (.int .i64 l[j].2)

theorem Eds.below {w w' : World} {A : Option Addr} {l : List (Int × Int)} {n : Nat} (h : Eds w A l) (hb : Below n w w') (hA : ∀ g ∈ blk A, g < n) : Eds w' A l := fun hz => by
  obtain ⟨b, off, rfl, hl, hc⟩ := h hz
  have hx := hA b (by simp [blk])
  exact ⟨b, off, rfl, Nat.lt_of_lt_of_le hl hb.size, fun j hj => ⟨(hb.cell (p := ⟨b, off + j * 2, none⟩) hx).trans (hc j hj).1, (hb.cell (p := ⟨b, off + j * 2 + 1, none⟩) hx).trans (hc j hj).2⟩⟩
theorem Eds.on {w w' : World} {A : Option Addr} {l : List (Int × Int)} (h : Eds w A l) (hb : Below w.heap.size w w') : Eds w' A l := fun hz => by
  obtain ⟨b, off, e, hl, hc⟩ := h hz
  exact h.below hb (fun g hg => by rw [e, blk_some, List.mem_singleton] at hg; omega) hz

def inG (n k : Int) : Bool := decide (0 ≤ k) && decide (k < n)
def inE (n : Int) (e : Int × Int) : Bool := inG n e.1 && inG n e.2
def toE (e : Int × Int) : Nat × Nat := (e.1.toNat, e.2.toNat)
/-- the graph of n members and some edges -/
def gof (n : Int) (l : List (Int × Int)) : G := ⟨n.toNat, (l.filter (inE n)).map toE⟩

theorem gof_ok (n : Int) (l : List (Int × Int)) : (gof n l).ok := by
  intro x hx
  obtain ⟨e, he, rfl⟩ := List.mem_map.1 hx
  have := (List.mem_filter.1 he).2
  unfold inE inG at this
  simp only [Bool.and_eq_true, decide_eq_true_eq] at this
  show e.1.toNat < n.toNat ∧ e.2.toNat < n.toNat
  omega

theorem gof_mem {n : Int} {l : List (Int × Int)} {a b : Nat} : (a, b) ∈ (gof n l).E ↔ a < n.toNat ∧ b < n.toNat ∧ ((a : Int), (b : Int)) ∈ l := by
  constructor
  · intro h
    have h1 := gof_ok n l _ h
    obtain ⟨e, he, e2⟩ := List.mem_map.1 h
    obtain ⟨he1, he2⟩ := List.mem_filter.1 he
    unfold inE inG at he2
    simp only [Bool.and_eq_true, decide_eq_true_eq] at he2
    obtain ⟨rfl, rfl⟩ := Prod.mk.inj e2
    refine ⟨h1.1, h1.2, ?_⟩
    rw [Int.toNat_of_nonneg he2.1.1, Int.toNat_of_nonneg he2.2.1]
    exact he1
  · rintro ⟨h1, h2, h3⟩
    refine List.mem_map.2 ⟨((a : Int), (b : Int)), List.mem_filter.2 ⟨h3, ?_⟩, by simp [toE]⟩
    unfold inE inG
    simp only [Bool.and_eq_true, decide_eq_true_eq]
    omega

/-- those told so far -/
def outN (n : Int) (l : List (Int × Int)) (k v : Nat) : List Nat := (gof n (l.take k)).out v
theorem outN_zero (n : Int) (l : List (Int × Int)) : outN n l 0 = fun _ => [] := by funext v; simp [outN, gof, G.out]
theorem outN_all (n : Int) (l : List (Int × Int)) : outN n l l.length = (gof n l).out := by funext v; simp [outN]
theorem outN_in {n : Int} {l : List (Int × Int)} {k : Nat} (hk : k < l.length) (h : inE n l[k] = true) : outN n l (k + 1) = upd (outN n l k) l[k].1.toNat (outN n l k l[k].1.toNat ++ [l[k].2.toNat]) := by
  funext v
  unfold outN gof G.out
  rw [List.take_succ_eq_append_getElem hk, List.filter_append, List.map_append, List.filter_append, List.map_append]
  simp only [List.filter_cons, h, if_true, List.filter_nil, List.map_cons, List.map_nil, toE]
  by_cases e : v = l[k].1.toNat
  · subst e; simp [upd_same]
  · rw [upd_ne _ _ e]
    have : (l[k].1.toNat == v) = false := by simpa using Ne.symm e
    simp [this]
theorem outN_no {n : Int} {l : List (Int × Int)} {k : Nat} (hk : k < l.length) (h : inE n l[k] = false) : outN n l (k + 1) = outN n l k := by
  funext v
  unfold outN gof G.out
  rw [List.take_succ_eq_append_getElem hk, List.filter_append]
  simp [h]
theorem outN_le (n : Int) (l : List (Int × Int)) (k v : Nat) : (outN n l k v).length ≤ l.length := by
  unfold outN gof G.out
  have h1 := List.length_filter_le (fun x : Nat × Nat => x.1 == v) (((l.take k).filter (inE n)).map toE)
  have h2 := List.length_filter_le (inE n) (l.take k)
  have h3 : (l.take k).length ≤ l.length := by simp; omega
  simp only [List.length_map] at *
  omega

/-- headers, one a member -/
def rv (rows : Nat → Row) (n : Nat) : Array Value := ((List.range n).map fun i => hdr (rows i)).toArray
theorem rv_size (f : Nat → Row) (n : Nat) : (rv f n).size = n := by simp [rv]
theorem rv_at (f : Nat → Row) {n i : Nat} (h : i < n) : (rv f n)[i]? = some (hdr (f i)) := by simp [rv, h]
theorem rv_set (f : Nat → Row) (n m : Nat) (r : Row) : (rv f n).setIfInBounds m (hdr r) = rv (upd f m r) n := by
  apply Array.ext_getElem?
  intro i
  rw [Array.getElem?_setIfInBounds]
  by_cases hi : i < n
  · rw [rv_at _ hi, rv_at _ hi, rv_size]
    by_cases e : m = i
    · subst e
      simp [hi, upd_same]
    · rw [if_neg e, upd_ne _ _ (Ne.symm e)]
  · have e1 : (rv f n)[i]? = none := by rw [Array.getElem?_eq_none_iff, rv_size]; omega
    have e2 : (rv (upd f m r) n)[i]? = none := by rw [Array.getElem?_eq_none_iff, rv_size]; omega
    rw [e1, e2, rv_size]
    split
    · rw [if_neg (by omega)]
    · rfl
def row0 : Row := ⟨none, 0, []⟩
theorem made_rv (k : Nat) : madeCells #[Value.slice none 0 0] k = rv (fun _ => row0) k := by
  apply Array.ext'
  rw [toList_madeCells_one]
  unfold rv
  simp [List.map_const', hdr, row0]

/-- rows that grow -/
structure RG (W : World) (n0 b n : Nat) (rows : Nat → Row) (X : List Nat) : Prop where
  bx : Box W b 71 (rv rows n)
  sg : ∀ i, i < n → Seg W 3 (rows i).A (rows i).cap (natI (rows i).xs)
  dj : ∀ i j, i < n → j < n → i ≠ j → ∀ g ∈ blk (rows i).A, g ∉ blk (rows j).A
  gb : n0 ≤ b
  ge : ∀ i, i < n → ∀ g ∈ blk (rows i).A, n0 ≤ g
  nx : ∀ i, i < n → ∀ g ∈ blk (rows i).A, g ∉ X
  lx : ∀ x ∈ X, x < W.heap.size
  xb : b ∉ X

theorem RG.bn {W : World} {n0 b n : Nat} {rows : Nat → Row} {X : List Nat} (h : RG W n0 b n rows X) {i : Nat} (hi : i < n) : b ∉ blk (rows i).A := (h.sg i hi).ne_box h.bx (by decide)

theorem RG.on {W W' : World} {n0 b n : Nat} {rows : Nat → Row} {X : List Nat} (h : RG W n0 b n rows X) (hb : Below W.heap.size W W') : RG W' n0 b n rows X :=
  ⟨h.bx.kept (Fr.of_below hb []) (by simp), fun i hi => (h.sg i hi).kept (Fr.of_below hb []) (by simp), h.dj, h.gb, h.ge, h.nx, fun x hx => Nat.lt_of_lt_of_le (h.lx x hx) hb.size, h.xb⟩

/-- a change of others -/
theorem RG.kept {W W' : World} {n0 b n : Nat} {rows : Nat → Row} {X : List Nat} (h : RG W n0 b n rows X) (hf : Fr X W W') : RG W' n0 b n rows X :=
  ⟨h.bx.kept hf h.xb, fun i hi => (h.sg i hi).kept hf (h.nx i hi), h.dj, h.gb, h.ge, h.nx, fun x hx => Nat.lt_of_lt_of_le (h.lx x hx) hf.size, h.xb⟩

theorem rg_new {w W : World} {n0 b n : Nat} {X : List Nat} (hb : Box W b 71 (rv (fun _ => row0) n)) (h0 : n0 ≤ b) (hx : ∀ x ∈ X, x < W.heap.size) (hbx : b ∉ X) : RG W n0 b n (fun _ => row0) X :=
  ⟨hb, fun _ _ => Seg.nil _ _, fun _ _ _ _ _ g hg => (by cases hg), h0, fun _ _ g hg => (by cases hg), fun _ _ g hg => (by cases hg), hx, hbx⟩

/-- one more at a row -/
theorem RG.push {W W1 : World} {n0 b n : Nat} {rows : Nat → Row} {X : List Nat} (h : RG W n0 b n rows X) (hn : n0 ≤ W.heap.size) {i : Nat} (hi : i < n) {A' : Option Addr} {c' x m : Nat} (hm : m = (rows i).xs.length + 1) (hs : Seg W1 3 A' c' (natI ((rows i).xs ++ [x]))) (hf : Fr (blk (rows i).A) W W1) (hg : ∀ g ∈ blk A', g ∈ blk (rows i).A ∨ W.heap.size ≤ g) :
    RG (W1.setCell ⟨b, i, none⟩ (.slice A' m c')) n0 b n (upd rows i ⟨A', c', (rows i).xs ++ [x]⟩) X ∧ Fr (b :: blk (rows i).A) W (W1.setCell ⟨b, i, none⟩ (.slice A' m c')) := by
  have hbx1 : Box W1 b 71 (rv rows n) := h.bx.kept hf (h.bn hi)
  have hf2 : Fr [b] W1 (W1.setCell ⟨b, i, none⟩ (.slice A' m c')) := (Fr.refl [b] W1).setCell (Or.inl (by simp)) _
  have hhd : Value.slice A' m c' = hdr ⟨A', c', (rows i).xs ++ [x]⟩ := by unfold hdr; rw [hm]; simp
  have hbA : b ∉ blk A' := hs.ne_box hbx1 (by decide)
  have hblt := h.bx.lt
  refine ⟨⟨?_, fun j hj => ?_, fun j k hj hk hjk g hg1 hg2 => ?_, h.gb, fun j hj g hg1 => ?_, fun j hj g hg1 hgx => ?_, fun y hy => ?_, h.xb⟩, hf.trans hf2 (fun g hg => Or.inl (List.mem_cons_of_mem _ hg)) (fun g hg => Or.inl (by rw [List.mem_singleton] at hg; subst hg; simp))⟩
  · have := hbx1.put i (.slice A' m c')
    rwa [hhd, rv_set, ← hhd] at this
  · by_cases e : j = i
    · subst e
      rw [upd_same]
      exact hs.kept hf2 (fun g hg e => by rw [List.mem_singleton] at e; subst e; exact hbA hg)
    · rw [upd_ne _ _ e]
      exact ((h.sg j hj).kept hf (fun g hg => h.dj j i hj hi e g hg)).kept hf2 (fun g hg e2 => by rw [List.mem_singleton] at e2; subst e2; exact h.bn hj hg)
  · by_cases e : j = i
    · subst e
      rw [upd_same] at hg1
      rw [upd_ne _ _ (Ne.symm hjk)] at hg2
      rcases hg g hg1 with h1 | h1
      · exact h.dj j k hj hk hjk g h1 hg2
      · have := (h.sg k hk).lt g hg2; omega
    · rw [upd_ne _ _ e] at hg1
      by_cases e2 : k = i
      · subst e2
        rw [upd_same] at hg2
        rcases hg g hg2 with h1 | h1
        · exact h.dj j k hj hk hjk g hg1 h1
        · have := (h.sg j hj).lt g hg1; omega
      · rw [upd_ne _ _ e2] at hg2
        exact h.dj j k hj hk hjk g hg1 hg2
  · by_cases e : j = i
    · subst e
      rw [upd_same] at hg1
      rcases hg g hg1 with h1 | h1
      · exact h.ge j hj g h1
      · omega
    · rw [upd_ne _ _ e] at hg1
      exact h.ge j hj g hg1
  · by_cases e : j = i
    · subst e
      rw [upd_same] at hg1
      rcases hg g hg1 with h1 | h1
      · exact h.nx j hj g h1 hgx
      · have := h.lx g hgx; omega
    · rw [upd_ne _ _ e] at hg1
      exact h.nx j hj g hg1 hgx
  · exact Nat.lt_of_lt_of_le (h.lx y hy) (Nat.le_trans hf.size hf2.size)

/-- the store's own facts -/
theorem RG.slot {W W1 : World} {n0 b n : Nat} {rows : Nat → Row} {X : List Nat} (h : RG W n0 b n rows X) {i : Nat} (hi : i < n) (hf : Fr (blk (rows i).A) W W1) : W1.cell? ⟨b, i, none⟩ = some (hdr (rows i)) ∧ W1.frozen? ⟨b, i, none⟩ = false := by
  have hbx1 : Box W1 b 71 (rv rows n) := h.bx.kept hf (h.bn hi)
  exact ⟨(hbx1.cell i).trans (rv_at _ hi), hbx1.free i⟩
end Go.Proofs.YtohdcmmkbblhkaaGreatDoor.tj
