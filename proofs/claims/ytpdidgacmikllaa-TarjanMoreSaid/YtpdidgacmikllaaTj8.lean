/-
  tarjan: the reference: of each member to which ones it leads, in memory.
-/
import Derived.Test.YtpdidgacmikllaaTj2
namespace Go.Proofs.Ytpdidgacmikllaa.tj
open Go.RowKit Go.Proofs.Ytpdidgacmikllaa.mem

theorem info_bool : (Try.prog.info? 4).map (fun i => (i.zero, i.size, i.bytes)) = some (some (.bool false), 1, 1) := by kernel_rfl
theorem info_brow : (Try.prog.info? 48).map (fun i => (i.zero, i.size, i.bytes)) = some (some (.slice none 0 0), 1, 24) := by kernel_rfl

/-- truths, one a member -/
def bv (f : Nat → Bool) (n : Nat) : Array Value := ((List.range n).map fun i => Value.bool (f i)).toArray
theorem bv_size (f : Nat → Bool) (n : Nat) : (bv f n).size = n := by simp [bv]
theorem bv_at (f : Nat → Bool) {n i : Nat} (h : i < n) : (bv f n)[i]? = some (.bool (f i)) := by simp [bv, h]
theorem bv_set (f : Nat → Bool) (n m : Nat) (v : Bool) : (bv f n).setIfInBounds m (.bool v) = bv (upd f m v) n := by
  apply Array.ext_getElem?
  intro i
  rw [Array.getElem?_setIfInBounds]
  by_cases hi : i < n
  · rw [bv_at _ hi, bv_at _ hi, bv_size]
    by_cases e : m = i
    · subst e; simp [hi, upd_same]
    · rw [if_neg e, upd_ne _ _ (Ne.symm e)]
  · have e1 : (bv f n)[i]? = none := by rw [Array.getElem?_eq_none_iff, bv_size]; omega
    have e2 : (bv (upd f m v) n)[i]? = none := by rw [Array.getElem?_eq_none_iff, bv_size]; omega
    rw [e1, e2, bv_size]
    split
    · rw [if_neg (by omega)]
    · rfl
theorem bv_congr {f f' : Nat → Bool} {n : Nat} (h : ∀ i, i < n → f i = f' i) : bv f n = bv f' n := by
  unfold bv
  congr 1
  exact List.map_congr_left fun i hi => by rw [h i (by simpa using hi)]
theorem made_bv (k : Nat) : madeCells #[Value.bool false] k = bv (fun _ => false) k := by
  apply Array.ext'
  rw [toList_madeCells_one]
  unfold bv
  simp [List.map_const']

def mhv (bi : Nat → Nat) (k n i : Nat) : Value := if i < k then .slice (some ⟨bi i, 0, none⟩) n n else .slice none 0 0
/-- headers, the first k made -/
def mh (bi : Nat → Nat) (k n : Nat) : Array Value := ((List.range n).map fun i => mhv bi k n i).toArray
theorem mh_size (bi : Nat → Nat) (k n : Nat) : (mh bi k n).size = n := by simp [mh]
theorem mh_at (bi : Nat → Nat) {k n i : Nat} (h : i < n) (hk : i < k) : (mh bi k n)[i]? = some (.slice (some ⟨bi i, 0, none⟩) n n) := by simp [mh, mhv, h, hk]
theorem mh_has (bi : Nat → Nat) {k n i : Nat} (h : i < n) : (mh bi k n)[i]? = some (mhv bi k n i) := by simp [mh, h]
theorem mh_set (bi : Nat → Nat) (k n g : Nat) : (mh bi k n).setIfInBounds k (.slice (some ⟨g, 0, none⟩) n n) = mh (upd bi k g) (k + 1) n := by
  apply Array.ext_getElem?
  intro i
  rw [Array.getElem?_setIfInBounds]
  by_cases hi : i < n
  · rw [mh_has _ hi, mh_has _ hi, mh_size]
    unfold mhv
    by_cases e : k = i
    · subst e; simp [hi, upd_same]
    · rw [if_neg e, upd_ne _ _ (Ne.symm e)]
      by_cases h2 : i < k
      · rw [if_pos h2, if_pos (by omega)]
      · rw [if_neg h2, if_neg (by omega)]
  · have e1 : (mh bi k n)[i]? = none := by rw [Array.getElem?_eq_none_iff, mh_size]; omega
    have e2 : (mh (upd bi k g) (k + 1) n)[i]? = none := by rw [Array.getElem?_eq_none_iff, mh_size]; omega
    rw [e1, e2, mh_size]
    split
    · rw [if_neg (by omega)]
    · rfl
theorem made_mh (k : Nat) (bi : Nat → Nat) : madeCells #[Value.slice none 0 0] k = mh bi 0 k := by
  apply Array.ext'
  rw [toList_madeCells_one]
  unfold mh mhv
  simp [List.map_const']

/-- a table of truths -/
structure MX (W : World) (n0 mb : Nat) (bi : Nat → Nat) (k n : Nat) (M : Nat → Nat → Bool) : Prop where
  bx : Box W mb 48 (mh bi k n)
  rw_ : ∀ i, i < k → Box W (bi i) 4 (bv (M i) n)
  inj : ∀ i j, i < k → j < k → bi i = bi j → i = j
  gb : n0 ≤ mb
  ge : ∀ i, i < k → n0 ≤ bi i

section
variable {W W' : World} {n0 mb : Nat} {bi : Nat → Nat} {k n : Nat} {M : Nat → Nat → Bool}

theorem MX.on (h : MX W n0 mb bi k n M) (hb : Below W.heap.size W W') : MX W' n0 mb bi k n M :=
  ⟨h.bx.kept (Fr.of_below hb []) (by simp), fun i hi => (h.rw_ i hi).kept (Fr.of_below hb []) (by simp), h.inj, h.gb, h.ge⟩

theorem MX.congr {M' : Nat → Nat → Bool} (h : MX W n0 mb bi k n M) (e : ∀ i j, i < k → j < n → M i j = M' i j) : MX W n0 mb bi k n M' :=
  ⟨h.bx, fun i hi => by rw [← bv_congr (fun j hj => e i j hi hj)]; exact h.rw_ i hi, h.inj, h.gb, h.ge⟩

theorem MX.ne (h : MX W n0 mb bi k n M) {i : Nat} (hi : i < k) : mb ≠ bi i := fun e => by
  have h1 := h.bx
  rw [e] at h1
  have := h1.symm.trans (h.rw_ i hi)
  simp at this

theorem MX.set (h : MX W n0 mb bi k n M) {i : Nat} (hi : i < k) (j : Nat) (v : Bool) : MX (W.setCell ⟨bi i, j, none⟩ (.bool v)) n0 mb bi k n (upd M i (upd (M i) j v)) := by
  have hf : Fr [bi i] W (W.setCell ⟨bi i, j, none⟩ (.bool v)) := (Fr.refl _ _).setCell (Or.inl (by simp)) _
  refine ⟨h.bx.kept hf (by simpa using h.ne hi), fun q hq => ?_, h.inj, h.gb, h.ge⟩
  by_cases e : q = i
  · subst e
    rw [upd_same]
    have := (h.rw_ q hq).put j (.bool v)
    rwa [bv_set] at this
  · rw [upd_ne _ _ e]
    exact (h.rw_ q hq).kept hf (by simpa using fun e2 => e (h.inj q i hq hi e2))

theorem MX.add (h : MX W n0 mb bi k n M) (hk : k < n) (hn : n0 ≤ W.heap.size) : MX ((W.alloc (.cells (bv (fun _ => false) n) 4)).setCell ⟨mb, k, none⟩ (.slice (some ⟨W.heap.size, 0, none⟩) n n)) n0 mb (upd bi k W.heap.size) (k + 1) n (upd M k fun _ => false) := by
  have h1 := h.on (W' := W.alloc (.cells (bv (fun _ => false) n) 4)) ((Below.refl _ _).alloc (Nat.le_refl _) _)
  have hnew : Box (W.alloc (.cells (bv (fun _ => false) n) 4)) W.heap.size 4 (bv (fun _ => false) n) := Box.new _ _ _
  have hmb := h.bx.lt
  have hf : Fr [mb] (W.alloc (.cells (bv (fun _ => false) n) 4)) ((W.alloc (.cells (bv (fun _ => false) n) 4)).setCell ⟨mb, k, none⟩ (.slice (some ⟨W.heap.size, 0, none⟩) n n)) := (Fr.refl _ _).setCell (Or.inl (by simp)) _
  refine ⟨?_, fun q hq => ?_, fun i j hi hj e => ?_, h.gb, fun i hi => ?_⟩
  · have := h1.bx.put k (.slice (some ⟨W.heap.size, 0, none⟩) n n)
    rwa [mh_set] at this
  · by_cases e : q = k
    · subst e
      rw [upd_same, upd_same]
      exact hnew.kept hf (by simp; omega)
    · rw [upd_ne _ _ e, upd_ne _ _ e]
      exact (h1.rw_ q (by omega)).kept hf (by simpa using Ne.symm (h1.ne (i := q) (by omega)))
  · by_cases ei : i = k
    · by_cases ej : j = k
      · omega
      · subst ei
        rw [upd_same, upd_ne _ _ ej] at e
        have := (h.rw_ j (by omega)).lt
        omega
    · by_cases ej : j = k
      · subst ej
        rw [upd_same, upd_ne _ _ ei] at e
        have := (h.rw_ i (by omega)).lt
        omega
      · rw [upd_ne _ _ ei, upd_ne _ _ ej] at e
        exact h.inj i j (by omega) (by omega) e
  · by_cases e : i = k
    · subst e; rw [upd_same]; exact hn
    · rw [upd_ne _ _ e]; exact h.ge i (by omega)
end

/-- in the midst of closing: rows ahead of i, and of row i those ahead of j, have members up to k in the middle -/
def WM (E : List (Nat × Nat)) (k i j r c : Nat) : Bool := if r < i ∨ (r = i ∧ c < j) then rk E (k + 1) r c else rk E k r c

theorem rk_mid (E : List (Nat × Nat)) (k i : Nat) : rk E (k + 1) i k = rk E k i k := by simp only [rk]; cases rk E k i k <;> simp
theorem rk_own (E : List (Nat × Nat)) (k j : Nat) : rk E (k + 1) k j = rk E k k j := by simp only [rk]; cases rk E k k j <;> simp
theorem WM_mid (E : List (Nat × Nat)) (k i j r : Nat) : WM E k i j r k = rk E k r k := by unfold WM; split <;> simp [rk_mid]
theorem WM_own (E : List (Nat × Nat)) (k i j c : Nat) : WM E k i j k c = rk E k k c := by unfold WM; split <;> simp [rk_own]
theorem WM_at (E : List (Nat × Nat)) (k i j : Nat) : WM E k i j i j = rk E k i j := by unfold WM; rw [if_neg (by omega)]
theorem WM_start (E : List (Nat × Nat)) (k : Nat) : WM E k 0 0 = rk E k := by
  funext r c
  unfold WM
  rw [if_neg (by omega)]
theorem WM_step {E : List (Nat × Nat)} {k i j : Nat} (h : rk E k i k = true) : upd (WM E k i j) i (upd (WM E k i j i) j (rk E k i j || rk E k k j)) = WM E k i (j + 1) := by
  funext r c
  by_cases er : r = i
  · subst er
    rw [upd_same]
    by_cases ec : c = j
    · subst ec
      rw [upd_same]
      unfold WM
      rw [if_pos (Or.inr ⟨rfl, by omega⟩)]
      simp [rk, h]
    · rw [upd_ne _ _ ec]
      unfold WM
      by_cases hc : c < j
      · rw [if_pos (Or.inr ⟨rfl, hc⟩), if_pos (Or.inr ⟨rfl, by omega⟩)]
      · rw [if_neg (by omega), if_neg (by omega)]
  · rw [upd_ne _ _ er]
    unfold WM
    by_cases hr : r < i
    · rw [if_pos (Or.inl hr), if_pos (Or.inl hr)]
    · rw [if_neg (by omega), if_neg (by omega)]
theorem WM_skip {E : List (Nat × Nat)} {k i j : Nat} (h : rk E k i k = false) : WM E k i j = WM E k (i + 1) 0 := by
  funext r c
  unfold WM
  by_cases hr : r < i
  · rw [if_pos (Or.inl hr), if_pos (Or.inl (by omega))]
  · by_cases er : r = i
    · subst er
      rw [if_pos (show r < r + 1 ∨ _ from Or.inl (by omega))]
      have e : rk E (k + 1) r c = rk E k r c := by simp [rk, h]
      rw [e]
      split <;> rfl
    · rw [if_neg (by omega), if_neg (by omega)]
theorem WM_row {E : List (Nat × Nat)} {k i n r c : Nat} (hc : c < n) : WM E k i n r c = WM E k (i + 1) 0 r c := by
  unfold WM
  by_cases hr : r < i
  · rw [if_pos (Or.inl hr), if_pos (Or.inl (by omega))]
  · by_cases er : r = i
    · subst er
      rw [if_pos (Or.inr ⟨rfl, hc⟩), if_pos (Or.inl (by omega))]
    · rw [if_neg (by omega), if_neg (by omega)]
theorem WM_all {E : List (Nat × Nat)} {k n r c : Nat} (hr : r < n) : WM E k n 0 r c = rk E (k + 1) r c := by
  unfold WM
  rw [if_pos (Or.inl hr)]

/-- edges told -/
theorem rk0_in {n : Int} {l : List (Int × Int)} {k : Nat} (hk : k < l.length) (h : inE n l[k] = true) (r c : Nat) : rk (gof n (l.take (k + 1))).E 0 r c = upd (rk (gof n (l.take k)).E 0) l[k].1.toNat (upd (rk (gof n (l.take k)).E 0 l[k].1.toNat) l[k].2.toNat true) r c := by
  have e : (gof n (l.take (k + 1))).E = (gof n (l.take k)).E ++ [toE l[k]] := by
    unfold gof
    rw [List.take_succ_eq_append_getElem hk, List.filter_append, List.map_append]
    simp [h]
  rw [e]
  generalize (gof n (l.take k)).E = E
  unfold toE
  generalize l[k].1.toNat = a
  generalize l[k].2.toNat = b
  by_cases er : r = a
  · subst er
    rw [upd_same]
    by_cases ec : c = b
    · subst ec
      rw [upd_same]
      simp [rk]
    · rw [upd_ne _ _ ec]
      simp [rk, ec]
  · rw [upd_ne _ _ er]
    simp [rk, er]
theorem rk0_no {n : Int} {l : List (Int × Int)} {k : Nat} (hk : k < l.length) (h : inE n l[k] = false) : rk (gof n (l.take (k + 1))).E 0 = rk (gof n (l.take k)).E 0 := by
  have e : (gof n (l.take (k + 1))).E = (gof n (l.take k)).E := by
    unfold gof
    rw [List.take_succ_eq_append_getElem hk, List.filter_append]
    simp [h]
  rw [e]
theorem rk0_nil (n : Int) (l : List (Int × Int)) : rk (gof n (l.take 0)).E 0 = fun r c => r == c := by
  funext r c
  simp [rk, gof]
end Go.Proofs.Ytpdidgacmikllaa.tj
