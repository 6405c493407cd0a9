import Derived.Test.YtohdcmmkbblhkaaGreatDoorRows
import Derived.WalkKit
import Derived.ProofKit
import Derived.Below
import Derived.OwnWalk
import Derived.Deep.AppendSrc
import Derived.Lib.Hide
import Derived.Laws.CopyRow
import Derived.Deep.Draws
import Derived.Test.YtohdcmmkbblhkaaGreatDoorV13
/-
  Memory: what a call leaves as it was but for some blocks; slices of one-cell elements that begin anywhere in a block.
-/
set_option linter.all false
namespace Go.Proofs.YtohdcmmkbblhkaaGreatDoor.mem
open Go.RowKit

/-- but for the blocks of a list, what was there is as it was -/
structure Fr (F : List Nat) (w w' : World) : Prop where
  os : w'.os = w.os
  tape : w'.tape = w.tape
  output : w'.output = w.output
  size : w.heap.size ≤ w'.heap.size
  block : ∀ k, k < w.heap.size → k ∉ F → w'.heap[k]? = w.heap[k]?

theorem Fr.refl (F : List Nat) (w : World) : Fr F w w := ⟨rfl, rfl, rfl, Nat.le_refl _, fun _ _ _ => rfl⟩

theorem Fr.of_below {w w' : World} (h : Below w.heap.size w w') (F : List Nat) : Fr F w w' := ⟨h.os, h.tape, h.output, h.size, fun k hk _ => h.block k hk⟩

theorem Fr.below {F : List Nat} {w w' : World} {B : Nat} (h : Fr F w w') (hF : ∀ g ∈ F, B ≤ g) (hB : B ≤ w.heap.size) : Below B w w' :=
  ⟨h.os, h.tape, h.output, h.size, fun k hk => h.block k (by omega) (fun hm => by have := hF k hm; omega)⟩

theorem Fr.all {w w' : World} (h : Fr [] w w') : Below w.heap.size w w' := h.below (fun g hg => (by cases hg)) (Nat.le_refl _)

theorem Fr.trans {F F' G : List Nat} {a b c : World} (h : Fr F a b) (k : Fr F' b c) (hF : ∀ g ∈ F, g ∈ G ∨ a.heap.size ≤ g) (hF' : ∀ g ∈ F', g ∈ G ∨ a.heap.size ≤ g) : Fr G a c := by
  refine ⟨k.os.trans h.os, k.tape.trans h.tape, k.output.trans h.output, Nat.le_trans h.size k.size, fun i hi hn => ?_⟩
  have h1 : i ∉ F := fun hm => by rcases hF i hm with h | h; exact hn h; omega
  have h2 : i ∉ F' := fun hm => by rcases hF' i hm with h | h; exact hn h; omega
  exact (k.block i (Nat.lt_of_lt_of_le hi h.size) h2).trans (h.block i hi h1)

theorem Fr.mono {F G : List Nat} {a b : World} (h : Fr F a b) (hF : ∀ g ∈ F, g ∈ G ∨ a.heap.size ≤ g) : Fr G a b :=
  ⟨h.os, h.tape, h.output, h.size, fun i hi hn => h.block i hi (fun hm => by rcases hF i hm with h | h; exact hn h; omega)⟩

theorem Fr.alloc {F : List Nat} {a b : World} (h : Fr F a b) (o : Obj) : Fr F a (b.alloc o) :=
  ⟨h.os, h.tape, h.output, Nat.le_trans h.size (by simp), fun i hi hn => (Below.heap_alloc b o i (Nat.lt_of_lt_of_le hi h.size)).trans (h.block i hi hn)⟩

theorem Fr.drew {F : List Nat} {a b : World} (h : Fr F a b) : Fr F a b.drew := ⟨h.os, h.tape, h.output, h.size, h.block⟩
theorem Fr.drewN {F : List Nat} {a b : World} (h : Fr F a b) (n : Nat) : Fr F a (b.drewN n) := ⟨h.os, h.tape, h.output, h.size, h.block⟩

theorem Fr.setCell {F : List Nat} {a b : World} (h : Fr F a b) {p : Addr} (hp : p.block ∈ F ∨ a.heap.size ≤ p.block) (u : Value) : Fr F a (b.setCell p u) :=
  ⟨h.os, h.tape, h.output, Nat.le_trans h.size (by simp [World.setCell]), fun i hi hn => by
    refine (Below.heap_setCell b p u i (fun e => ?_)).trans (h.block i hi hn)
    subst e
    rcases hp with hp | hp
    · exact hn hp
    · omega⟩

theorem Fr.grown {F : List Nat} {a b c : World} (h : Fr F a b) {row : Option Nat} (hg : b.grownBy c row) (hr : ∀ k, row = some k → k ∈ F ∨ a.heap.size ≤ k) : Fr F a c :=
  ⟨hg.os.trans h.os, hg.tape.trans h.tape, hg.output.trans h.output, Nat.le_trans h.size hg.size, fun i hi hn => by
    refine (hg.block i (Nat.lt_of_lt_of_le hi h.size) (fun e => ?_)).trans (h.block i hi hn)
    rcases hr i e.symm with h1 | h1
    · exact hn h1
    · omega⟩

/-- a block that holds just these cells -/
def Box (w : World) (g : Nat) (t : TypeId) (cs : Array Value) : Prop := w.heap[g]? = some (.cells cs t (0, 0))

theorem Box.lt {w : World} {g : Nat} {t : TypeId} {cs : Array Value} (h : Box w g t cs) : g < w.heap.size := by
  rcases Nat.lt_or_ge g w.heap.size with h1 | h1
  · exact h1
  · unfold Box at h; rw [Array.getElem?_eq_none h1] at h; cases h
theorem Box.cell {w : World} {g : Nat} {t : TypeId} {cs : Array Value} (h : Box w g t cs) (i : Nat) : w.cell? ⟨g, i, none⟩ = cs[i]? := cell_of_row w g i cs t (0, 0) h
theorem Box.free {w : World} {g : Nat} {t : TypeId} {cs : Array Value} (h : Box w g t cs) (i : Nat) : w.frozen? ⟨g, i, none⟩ = false := by
  unfold Box at h
  simp [World.frozen?, h]
theorem Box.new (w : World) (t : TypeId) (cs : Array Value) : Box (w.alloc (.cells cs t)) w.heap.size t cs := heap_alloc_new w _
theorem Box.kept {F : List Nat} {w w' : World} {g : Nat} {t : TypeId} {cs : Array Value} (h : Box w g t cs) (hf : Fr F w w') (hg : g ∉ F) : Box w' g t cs := (hf.block g h.lt hg).trans h
theorem Box.put {w : World} {g : Nat} {t : TypeId} {cs : Array Value} (h : Box w g t cs) (i : Nat) (u : Value) : Box (w.setCell ⟨g, i, none⟩ u) g t (cs.setIfInBounds i u) := by
  unfold Box at h ⊢
  simp [World.setCell, Array.getElem?_modify, h]

/-- a slice holds these one-cell elements -/
def Seg (w : World) (e : TypeId) (A : Option Addr) (cap : Nat) (xs : List Value) : Prop :=
  xs.length ≤ cap ∧ cap ≤ maxLen ∧ (A = none → cap = 0) ∧ ∀ a, A = some a → a.spot = none ∧ ∃ cur, w.heap[a.block]? = some (.cells cur e (0, 0)) ∧ a.off + cap ≤ cur.size ∧ ∀ j u, xs[j]? = some u → cur[a.off + j]? = some u

/-- the block of a slice -/
def blk (A : Option Addr) : List Nat := match A with | some a => [a.block] | none => []

theorem blk_some (g off : Nat) : blk (some ⟨g, off, none⟩) = [g] := rfl
theorem blk_none : blk none = [] := rfl

theorem Seg.lt {w : World} {e : TypeId} {A : Option Addr} {cap : Nat} {xs : List Value} (h : Seg w e A cap xs) : ∀ g ∈ blk A, g < w.heap.size := by
  intro g hg
  cases A with
  | none => cases hg
  | some a =>
    obtain ⟨_, cur, hc, _⟩ := h.2.2.2 a rfl
    simp only [blk, List.mem_singleton] at hg
    subst hg
    exact (Array.getElem?_eq_some_iff.1 hc).1

theorem Seg.kept {F : List Nat} {w w' : World} {e : TypeId} {A : Option Addr} {cap : Nat} {xs : List Value} (h : Seg w e A cap xs) (hf : Fr F w w') (hd : ∀ g ∈ blk A, g ∉ F) : Seg w' e A cap xs := by
  refine ⟨h.1, h.2.1, h.2.2.1, fun a ha => ?_⟩
  subst ha
  obtain ⟨hs, cur, hc, r⟩ := h.2.2.2 a rfl
  exact ⟨hs, cur, (hf.block _ (Array.getElem?_eq_some_iff.1 hc).1 (hd _ (by simp [blk]))).trans hc, r⟩

theorem Seg.alloc {w : World} {e : TypeId} {A : Option Addr} {cap : Nat} {xs : List Value} (h : Seg w e A cap xs) (o : Obj) : Seg (w.alloc o) e A cap xs := h.kept ((Fr.refl [] w).alloc o) (by simp)

theorem Seg.drew {w : World} {e : TypeId} {A : Option Addr} {cap : Nat} {xs : List Value} (h : Seg w e A cap xs) : Seg w.drew e A cap xs := h

theorem new_cell (w : World) (u : Value) (t : TypeId) : (w.alloc (.cells #[u] t)).cell? ⟨w.heap.size, 0, none⟩ = some u := (Box.new w t #[u]).cell 0

theorem Seg.ne_box {w : World} {e t : TypeId} {A : Option Addr} {cap b : Nat} {xs : List Value} {cs : Array Value} (h : Seg w e A cap xs) (hb : Box w b t cs) (hne : e ≠ t) : b ∉ blk A := by
  intro hm
  cases A with
  | none => cases hm
  | some a =>
    simp only [blk, List.mem_singleton] at hm
    subst hm
    obtain ⟨_, cur, hc, _⟩ := h.2.2.2 a rfl
    unfold Box at hb
    rw [hc] at hb
    injection hb with hb
    injection hb with _ h2
    exact hne h2

theorem Seg.nil (w : World) (e : TypeId) : Seg w e none 0 [] := ⟨Nat.le_refl _, Nat.zero_le _, fun _ => rfl, fun a h => (by cases h)⟩

theorem Seg.empty {w : World} {e : TypeId} {xs : List Value} {cap : Nat} (h : Seg w e none cap xs) : xs = [] ∧ cap = 0 := by
  have := h.2.2.1 rfl
  exact ⟨List.eq_nil_of_length_eq_zero (by have := h.1; omega), this⟩

/-- an element's cell -/
theorem Seg.at_ {w : World} {e : TypeId} {A : Option Addr} {cap : Nat} {xs : List Value} (h : Seg w e A cap xs) (hz : 0 < xs.length) :
    ∃ g off, A = some ⟨g, off, none⟩ ∧ g < w.heap.size ∧ ∀ j (hj : j < xs.length), w.cell? ⟨g, off + j, none⟩ = some xs[j] := by
  cases A with
  | none => have := h.2.2.1 rfl; have := h.1; omega
  | some a =>
    obtain ⟨hs, cur, hc, hl, hx⟩ := h.2.2.2 a rfl
    obtain ⟨g, off, spot⟩ := a
    have hs : spot = none := hs
    subst hs
    refine ⟨g, off, rfl, (Array.getElem?_eq_some_iff.1 hc).1, fun j hj => ?_⟩
    rw [cell_of_row w g (off + j) cur e (0, 0) hc]
    exact hx j _ (List.getElem?_eq_getElem hj)

theorem Seg.free {w : World} {e : TypeId} {g off cap : Nat} {xs : List Value} (h : Seg w e (some ⟨g, off, none⟩) cap xs) (j : Nat) : w.frozen? ⟨g, j, none⟩ = false := by
  obtain ⟨_, cur, hc, _⟩ := h.2.2.2 _ rfl
  simp [World.frozen?, show w.heap[g]? = _ from hc]

/-- all but the first -/
theorem Seg.tail {P : Program} {w : World} {e t : TypeId} {A : Option Addr} {cap : Nat} {x : Value} {xs : List Value} (h : Seg w e A cap (x :: xs)) (ht : P.underlying t = some (.slice (P.elem t))) (hs : ∀ w, (sizeOf (P.elem t)).run P w = .ok 1 w) :
    ∃ A' cap', (∀ W, (Instr.slice t (.slice A (xs.length + 1) cap) (some (.int .i64 1)) none none).run P W = .ok (.slice A' xs.length cap') W) ∧ blk A' = blk A ∧ ∀ W, Seg W e A cap (x :: xs) → Seg W e A' cap' xs := by
  obtain ⟨g, off, rfl, _⟩ := h.at_ (by simp)
  have hl := h.1
  simp only [List.length_cons] at hl
  refine ⟨if cap = 1 then some ⟨g, off, none⟩ else some ⟨g, off + 1, none⟩, cap - 1, fun W => ?_, by split <;> rfl, fun W hW => ?_⟩
  · rw [run_slice_l W t _ _ _ ht .i64 1 (by omega) (by omega), hs, Result.andThen_ok]
    unfold sliced
    by_cases h0 : cap = 1
    · rw [if_pos h0, if_pos (by show cap = (1 : Int).toNat; omega)]
      simp
    · rw [if_neg h0, if_neg (by show ¬ cap = (1 : Int).toNat; omega)]
      simp [Addr.add]
  · obtain ⟨_, cur, hc, h1, h2⟩ := hW.2.2.2 _ rfl
    have hm := hW.2.1
    refine ⟨by omega, by omega, fun hn => (by split at hn <;> cases hn), fun a ha => ?_⟩
    by_cases h0 : cap = 1
    · rw [if_pos h0] at ha
      cases ha
      refine ⟨rfl, cur, hc, by show off + (cap - 1) ≤ _; have : off + cap ≤ cur.size := h1; omega, fun j u hu => ?_⟩
      have : j < xs.length := (List.getElem?_eq_some_iff.1 hu).1
      omega
    · rw [if_neg h0] at ha
      cases ha
      refine ⟨rfl, cur, hc, by show off + 1 + (cap - 1) ≤ _; have : off + cap ≤ cur.size := h1; omega, fun j u hu => ?_⟩
      have := h2 (j + 1) u (by simpa using hu)
      rw [show off + 1 + j = off + (j + 1) by omega]
      exact this

/-- 'append' of one element -/
theorem Seg.push {P : Program} {w : World} {e t ty : TypeId} {A : Option Addr} {cap bytes : Nat} {xs : List Value} {i : TypeInfo} {z : Value} (h : Seg w e A cap xs) (ht : P.underlying t = some (.slice e)) (hi : P.info? e = some i) (hz : i.zero = some z) (hs : i.size = 1) (hb : i.bytes = bytes) (hzs : z.cells.size = 1)
    {ad : Addr} {u : Value} (hu : w.cell? ad = some u) (h1 : u.oneCell' = true) (h63 : xs.length + 1 ≤ 9223372036854775807) (hby : (xs.length + 1) * bytes ≤ 140737488355328) :
    ∃ A' cap' w', (Builtin.append_ #[t, t] ty #[.slice A xs.length cap, .slice (some ad) 1 1]).run P w = .ok (.slice A' (xs.length + 1) cap') w' ∧ Seg w' e A' cap' (xs ++ [u]) ∧ Fr (blk A) w w' ∧ (blk A' = blk A ∨ blk A' = [w.heap.size]) := by
  have hsrc : Src P i.size t (.slice (some ad) 1 1) 1 [u] w := Src.ofSlice w ht ad 1 1 [u] (by rw [hs]; rfl) (fun j v hv => by
    cases j with
    | zero => simp at hv; subst hv; simpa [Addr.add] using hu
    | succ j => simp at hv) (fun v hv => by rw [List.mem_singleton] at hv; subst hv; exact h1)
  by_cases hroom : xs.length + 1 ≤ cap
  · rcases A with _ | a
    · have := h.2.2.1 rfl; omega
    · obtain ⟨hsp, cur, hc, hl, hx⟩ := h.2.2.2 a rfl
      obtain ⟨g, off, spot⟩ := a
      have hsp : spot = none := hsp
      subst hsp
      have hl : off + cap ≤ cur.size := hl
      have hc : w.heap[g]? = some (.cells cur e (0, 0)) := hc
      have hcell : w.cell? ⟨g, off + xs.length, none⟩ = some (cur[off + xs.length]'(by omega)) := by
        rw [cell_of_row w g _ cur e (0, 0) hc]; exact Array.getElem?_eq_getElem (by omega)
      have hr := run_append_room_src (P := P) w t t ty e i ht hi g off xs.length cap _ 1 [u] hsrc hroom (fun j hj => by
        have : j = 0 := by simpa using hj
        subst this
        rw [hs, Nat.mul_one, Nat.add_zero, hcell]; rfl) (fun j hj => by
        have : j = 0 := by simpa using hj
        subst this
        simp [World.frozen?, hc])
      rw [hs, Nat.mul_one] at hr
      refine ⟨_, _, _, hr, ?_, ?_, Or.inl rfl⟩
      · refine ⟨by simpa using hroom, h.2.1, fun hn => (by cases hn), fun a ha => ?_⟩
        cases ha
        refine ⟨rfl, cur.setIfInBounds (off + xs.length) u, ?_, by simpa using hl, fun j v hv => ?_⟩
        · show ((w.setCell ⟨g, off + xs.length, none⟩ u).heap[g]?) = _
          simp [World.setCell, Array.getElem?_modify, hc]
        · show (cur.setIfInBounds (off + xs.length) u)[off + j]? = some v
          rw [Array.getElem?_setIfInBounds]
          rcases Nat.lt_or_ge j xs.length with hj | hj
          · rw [if_neg (by omega)]
            rw [List.getElem?_append_left hj] at hv
            exact hx j v hv
          · rw [List.getElem?_append_right hj] at hv
            have hj0 : j - xs.length = 0 := by
              have := (List.getElem?_eq_some_iff.1 hv).1
              simp at this; omega
            rw [hj0] at hv
            simp at hv
            subst hv
            rw [if_pos (by omega), if_pos (by omega)]
      · show Fr _ w (w.setCell ⟨g, off + xs.length, none⟩ u)
        exact (Fr.refl _ w).setCell (Or.inl (by simp [blk])) u
  · have hold : (Builtin.firstCells i.size xs.length (.slice A xs.length cap)).run P w.drew = .ok xs.toArray w.drew := by
      rcases A with _ | a
      · obtain ⟨rfl, rfl⟩ := h.empty
        exact run_firstCells_none w.drew i.size 0 0 0
      · obtain ⟨hsp, cur, hc, hl, hx⟩ := h.2.2.2 a rfl
        obtain ⟨g, off, spot⟩ := a
        have hsp : spot = none := hsp
        subst hsp
        exact run_firstCells_some w.drew i.size xs.length ⟨g, off, none⟩ xs.length cap xs (by rw [hs, Nat.mul_one]) (fun j v hv => by
          have e1 : (⟨g, off, none⟩ : Addr).add j = ⟨g, off + j, none⟩ := by unfold Addr.add; split <;> simp_all
          rw [e1]
          show w.cell? _ = _
          rw [cell_of_row w g (off + j) cur e (0, 0) hc]
          exact hx j v hv)
    have hlen := h.1
    have hr := run_append_grow_src (P := P) w t t ty e i z ht hi hz A xs.length cap xs hold _ 1 [u] hsrc (by omega) (by omega) (growslice_fits (by omega) (by rw [hb]; exact hby))
    have hge := grownCap_ge w (xs.length + 1) cap e
    have hcm : grownCap w (xs.length + 1) cap e ≤ maxLen := grownCap_le_maxLen w (xs.length + 1) cap e (by unfold maxLen; omega)
    refine ⟨_, _, _, hr, ?_, (Fr.refl _ w).drew.alloc _, Or.inr rfl⟩
    refine ⟨by simpa using hge, hcm, fun hn => (by cases hn), fun a ha => ?_⟩
    cases ha
    refine ⟨rfl, _, heap_alloc_new w.drew _, ?_, fun j v hv => ?_⟩
    · show 0 + _ ≤ _
      simp only [Array.size_append, List.size_toArray, List.length_append, List.length_singleton, size_zeroCells, hzs]
      omega
    · show (_ : Array Value)[0 + j]? = some v
      have hj := (List.getElem?_eq_some_iff.1 hv).1
      rw [Nat.zero_add, Array.getElem?_append_left (by simpa using hj)]
      simpa using hv

/-- 'append' of one element, at the operation -/
theorem wpList_push {P : Program} {w : World} {ops : Array Oper} {rest : List Oper} {o : Oper} {a : Act} {Q : Exit → Act → World → Prop} (hgd : o.guard = none) (s x : Operand) (t : TypeId)
    (ho : o.op = .call { callee := .builtin .append, args := #[s, x], argTypes := #[t, t] }) {e : TypeId} {A : Option Addr} {cap n bytes : Nat} {xs : List Value} {i : TypeInfo} {z : Value} (h : Seg w e A cap xs) (hn : n = xs.length) (ht : P.underlying t = some (.slice e)) (hi : P.info? e = some i) (hz : i.zero = some z) (hs : i.size = 1) (hb : i.bytes = bytes) (hzs : z.cells.size = 1)
    {ad : Addr} {u : Value} (hes : a.eval s = .slice A n cap) (hex : a.eval x = .slice (some ad) 1 1) (hu : w.cell? ad = some u) (h1 : u.oneCell' = true) (h63 : n + 1 ≤ 9223372036854775807) (hby : (n + 1) * bytes ≤ 140737488355328)
    (hK : ∀ A' cap' w', Seg w' e A' cap' (xs ++ [u]) → Fr (blk A) w w' → (blk A' = blk A ∨ blk A' = [w.heap.size]) → wpList P ops Q rest (a.put o.dst (.slice A' (n + 1) cap')) w') : wpList P ops Q (o :: rest) a w := by
  subst hn
  refine wpList_plain hgd fun K hK' => ?_
  obtain ⟨A', cap', w', hr, h2, h3, h4⟩ := h.push (ty := o.type) ht hi hz hs hb hzs hu h1 h63 hby
  unfold Oper.wp execOp
  simp only [ho, resolve, invoke, builtin, Sem.run_bind, Sem.run_pure, Result.andThen_ok, List.map_toArray, List.map_cons, List.map_nil, hes, hex, hr]
  exact hK' _ _ (hK A' cap' w' h2 h3 h4)

theorem setCells_row (g : Nat) (e : TypeId) : ∀ (vs : List Value) (off : Nat) (w : World) (cur : Array Value), w.heap[g]? = some (.cells cur e (0, 0)) → off + vs.length ≤ cur.size →
    ∃ cur', (w.setCells g off vs).heap[g]? = some (.cells cur' e (0, 0)) ∧ cur'.size = cur.size ∧ (∀ j v, vs[j]? = some v → cur'[off + j]? = some v) ∧ ∀ i, i < off ∨ off + vs.length ≤ i → cur'[i]? = cur[i]?
  | [], off, w, cur, h, _ => ⟨cur, h, rfl, fun j v hv => by simp at hv, fun _ _ => rfl⟩
  | v :: r, off, w, cur, h, hl => by
    simp only [List.length_cons] at hl
    have h1 : (w.setCell ⟨g, off, none⟩ v).heap[g]? = some (.cells (cur.setIfInBounds off v) e (0, 0)) := by simp [World.setCell, Array.getElem?_modify, h]
    obtain ⟨cur', h2, h3, h4, h5⟩ := setCells_row g e r (off + 1) _ _ h1 (by simpa using by omega)
    refine ⟨cur', h2, by rw [h3]; simp, fun j u hu => ?_, fun i hi => ?_⟩
    · cases j with
      | zero =>
        rw [h5 (off + 0) (Or.inl (by omega))]
        simp at hu
        subst hu
        rw [Array.getElem?_setIfInBounds, if_pos (by omega), if_pos (by omega)]
      | succ j =>
        rw [show off + (j + 1) = off + 1 + j by omega]
        exact h4 j u (by simpa using hu)
    · simp only [List.length_cons] at hi
      rw [h5 i (by omega), Array.getElem?_setIfInBounds, if_neg (by omega)]

theorem setCells_fr (g : Nat) : ∀ (vs : List Value) (off : Nat) (w : World), Fr [g] w (w.setCells g off vs)
  | [], _, w => Fr.refl _ w
  | v :: r, off, w => ((Fr.refl [g] w).setCell (p := ⟨g, off, none⟩) (Or.inl (by simp)) v).trans (setCells_fr g r (off + 1) _) (fun _ h => Or.inl h) (fun _ h => Or.inl h)

/-- a slice's elements laid anew, in their place; what is behind them is the caller's -/
theorem Seg.laid {w : World} {e : TypeId} {g off cap : Nat} {xs : List Value} (h : Seg w e (some ⟨g, off, none⟩) cap xs) (vs ys : List Value) (hl : vs.length ≤ cap) (hy : ∀ (j : Nat) (u : Value), ys[j]? = some u → vs[j]? = some u) (hyl : ys.length ≤ cap) :
    Seg (w.setCells g off vs) e (some ⟨g, off, none⟩) cap ys := by
  obtain ⟨_, cur, hc, h1, h2⟩ := h.2.2.2 _ rfl
  have h1 : off + cap ≤ cur.size := h1
  obtain ⟨cur', k1, k2, k3, k4⟩ := setCells_row g e vs off w cur hc (by omega)
  refine ⟨hyl, h.2.1, fun hn => (by cases hn), fun a ha => ?_⟩
  cases ha
  exact ⟨rfl, cur', k1, by rw [k2]; exact h1, fun j u hu => k3 j u (hy j u hu)⟩

/-- the first k elements -/
theorem Seg.upto {P : Program} {w : World} {e t : TypeId} {A : Option Addr} {cap : Nat} {xs : List Value} (h : Seg w e A cap xs) (ht : P.underlying t = some (.slice (P.elem t))) (hs : ∀ w, (sizeOf (P.elem t)).run P w = .ok 1 w) (k : Nat) (hk : k ≤ xs.length) :
    (∀ W, (Instr.slice t (.slice A xs.length cap) none (some (.int .i64 k)) none).run P W = .ok (.slice A k cap) W) ∧ ∀ W, Seg W e A cap xs → Seg W e A cap (xs.take k) := by
  have hl := h.1
  refine ⟨fun W => ?_, fun W hW => ⟨by simp; omega, hW.2.1, hW.2.2.1, fun a ha => ?_⟩⟩
  · rw [run_slice_h W t A xs.length cap ht .i64 k (by omega) (by omega), hs, Result.andThen_ok]
    unfold sliced
    by_cases h0 : cap = 0
    · rw [if_pos h0]; simp
    · rw [if_neg h0]
      cases A <;> simp [Addr.add]
  · obtain ⟨h1, cur, h2, h3, h4⟩ := hW.2.2.2 a ha
    refine ⟨h1, cur, h2, h3, fun j u hu => ?_⟩
    rw [List.getElem?_take] at hu
    split at hu
    · exact h4 j u hu
    · cases hu

/-- the elements from k on -/
theorem Seg.from_ {P : Program} {w : World} {e t : TypeId} {A : Option Addr} {cap : Nat} {xs : List Value} (h : Seg w e A cap xs) (ht : P.underlying t = some (.slice (P.elem t))) (hs : ∀ w, (sizeOf (P.elem t)).run P w = .ok 1 w) (k : Nat) (hk : k ≤ xs.length) :
    ∃ A', (∀ W, (Instr.slice t (.slice A xs.length cap) (some (.int .i64 k)) none none).run P W = .ok (.slice A' (xs.length - k) (cap - k)) W) ∧ blk A' = blk A ∧ ∀ W, Seg W e A cap xs → Seg W e A' (cap - k) (xs.drop k) := by
  have hl := h.1
  refine ⟨if cap = k then A else A.map (·.add k), fun W => ?_, ?_, fun W hW => ⟨by simp; omega, by have := hW.2.1; omega, fun hn => ?_, fun a ha => ?_⟩⟩
  · rw [run_slice_l W t A xs.length cap ht .i64 k (by omega) (by omega), hs, Result.andThen_ok]
    unfold sliced
    simp
  · split
    · rfl
    · cases A with
      | none => rfl
      | some a => simp only [Option.map_some, blk]; rw [show (a.add k).block = a.block by unfold Addr.add; split <;> rfl]
  · split at hn
    · omega
    · cases A with
      | none => have := hW.2.2.1 rfl; omega
      | some a => cases hn
  · by_cases h0 : cap = k
    · rw [if_pos h0] at ha
      obtain ⟨h1, cur, h2, h3, h4⟩ := hW.2.2.2 a ha
      refine ⟨h1, cur, h2, by omega, fun j u hu => ?_⟩
      rw [List.getElem?_drop] at hu
      have := (List.getElem?_eq_some_iff.1 hu).1
      omega
    · rw [if_neg h0] at ha
      cases A with
      | none => cases ha
      | some a0 =>
        simp only [Option.map_some, Option.some.injEq] at ha
        subst ha
        obtain ⟨h1, cur, h2, h3, h4⟩ := hW.2.2.2 a0 rfl
        obtain ⟨g, off, spot⟩ := a0
        have h1 : spot = none := h1
        subst h1
        have e1 : (⟨g, off, none⟩ : Addr).add k = ⟨g, off + k, none⟩ := by unfold Addr.add; split <;> simp_all
        rw [e1]
        refine ⟨rfl, cur, h2, ?_, fun j u hu => ?_⟩
        · show off + k + (cap - k) ≤ _
          have : off + cap ≤ cur.size := h3
          omega
        · rw [List.getElem?_drop] at hu
          show cur[off + k + j]? = _
          rw [Nat.add_assoc]
          exact h4 _ u hu

/-- a slice whose elements can be read (an argument's, whatever block it lies in) -/
def Rd (w : World) (A : Option Addr) (xs : List Value) : Prop := 0 < xs.length → ∃ g off, A = some ⟨g, off, none⟩ ∧ g < w.heap.size ∧ ∀ j (hj : j < xs.length), w.cell? ⟨g, off + j, none⟩ = some xs[j]

theorem Seg.rd {w : World} {e : TypeId} {A : Option Addr} {cap : Nat} {xs : List Value} (h : Seg w e A cap xs) : Rd w A xs := fun hz => h.at_ hz

theorem Rd.kept {F : List Nat} {w w' : World} {A : Option Addr} {xs : List Value} (h : Rd w A xs) (hf : Fr F w w') (hd : ∀ g ∈ blk A, g ∉ F) : Rd w' A xs := fun hz => by
  obtain ⟨g, off, rfl, hl, hc⟩ := h hz
  exact ⟨g, off, rfl, Nat.lt_of_lt_of_le hl hf.size, fun j hj => (World.cell?_of_block (w := w) (hf.block g hl (hd g (by simp [blk])))).trans (hc j hj)⟩

theorem Rd.below {w w' : World} {A : Option Addr} {xs : List Value} (h : Rd w A xs) (hb : Below w.heap.size w w') : Rd w' A xs := h.kept (Fr.of_below hb []) (by simp)

theorem Rd.alloc {w : World} {A : Option Addr} {xs : List Value} (h : Rd w A xs) (o : Obj) : Rd (w.alloc o) A xs := h.kept ((Fr.refl [] w).alloc o) (by simp)
theorem Rd.drew {w : World} {A : Option Addr} {xs : List Value} (h : Rd w A xs) : Rd w.drew A xs := h

theorem Rd.src {P : Program} {w : World} {e' t : TypeId} {A : Option Addr} {cap : Nat} {xs : List Value} (h : Rd w A xs) (ht : P.underlying t = some (.slice e')) (h1 : ∀ u ∈ xs, u.oneCell' = true) : Src P 1 t (.slice A xs.length cap) xs.length xs w := by
  cases A with
  | none =>
    have h0 : xs = [] := List.eq_nil_of_length_eq_zero (by
      rcases Nat.eq_zero_or_pos xs.length with h0 | h0
      · exact h0
      · obtain ⟨_, _, h, _⟩ := h h0; cases h)
    subst h0
    exact Src.ofNil w ht cap
  | some a =>
    refine Src.ofSlice w ht _ xs.length cap xs (by simp) (fun j v hv => ?_) h1
    have hj := (List.getElem?_eq_some_iff.1 hv).1
    obtain ⟨g, off, ha, _, hc⟩ := h (by omega)
    cases ha
    have e1 : (⟨g, off, none⟩ : Addr).add j = ⟨g, off + j, none⟩ := by unfold Addr.add; split <;> simp_all
    rw [e1, hc j hj, ← hv, List.getElem?_eq_getElem hj]

/-- 'append(x, y...)' -/
theorem Seg.app {P : Program} {w : World} {e t ty : TypeId} {A B : Option Addr} {cap c2 bytes : Nat} {xs ys : List Value} {i : TypeInfo} {z : Value} (h : Seg w e A cap xs) (hy : Rd w B ys) (ht : P.underlying t = some (.slice e)) (hi : P.info? e = some i) (hz : i.zero = some z) (hs : i.size = 1) (hb : i.bytes = bytes) (hzs : z.cells.size = 1)
    (h1 : ∀ u ∈ ys, u.oneCell' = true) (h63 : xs.length + ys.length ≤ 9223372036854775807) (hby : (xs.length + ys.length) * bytes ≤ 140737488355328) :
    ∃ A' cap' w', (Builtin.append_ #[t, t] ty #[.slice A xs.length cap, .slice B ys.length c2]).run P w = .ok (.slice A' (xs.length + ys.length) cap') w' ∧ Seg w' e A' cap' (xs ++ ys) ∧ Fr (blk A) w w' ∧ (blk A' = blk A ∨ blk A' = [w.heap.size]) := by
  have hsrc : Src P i.size t (.slice B ys.length c2) ys.length ys w := by rw [hs]; exact hy.src ht h1
  by_cases hroom : xs.length + ys.length ≤ cap
  · rcases A with _ | a
    · obtain ⟨rfl, rfl⟩ := h.empty
      have hy0 : ys = [] := List.eq_nil_of_length_eq_zero (by simpa using hroom)
      subst hy0
      refine ⟨none, 0, w, ?_, Seg.nil w e, Fr.refl _ w, Or.inl rfl⟩
      rcases B with _ | b
      · simp [Builtin.append_, run_underlying ht, sizeOf, typeInfo, hi, Builtin.lenOf, Builtin.firstCells]
      · simp [Builtin.append_, run_underlying ht, sizeOf, typeInfo, hi, Builtin.lenOf, Builtin.firstCells, loadCells, loadCellsFrom]
    · obtain ⟨hsp, cur, hc, hl, hx⟩ := h.2.2.2 a rfl
      obtain ⟨g, off, spot⟩ := a
      have hsp : spot = none := hsp
      subst hsp
      have hl : off + cap ≤ cur.size := hl
      have hc : w.heap[g]? = some (.cells cur e (0, 0)) := hc
      have hr := run_append_room_src (P := P) w t t ty e i ht hi g off xs.length cap _ ys.length ys hsrc hroom (fun j hj => by
        rw [hs, Nat.mul_one, cell_of_row w g _ cur e (0, 0) hc, Array.getElem?_eq_getElem (by omega)]; rfl) (fun j hj => by simp [World.frozen?, hc])
      rw [hs, Nat.mul_one] at hr
      obtain ⟨cur', k1, k2, k3, k4⟩ := setCells_row g e ys (off + xs.length) w cur hc (by omega)
      refine ⟨_, _, _, hr, ⟨by simpa using hroom, h.2.1, fun hn => (by cases hn), fun a ha => ?_⟩, setCells_fr g ys _ w, Or.inl rfl⟩
      cases ha
      refine ⟨rfl, cur', k1, by rw [k2]; exact hl, fun j u hu => ?_⟩
      rcases Nat.lt_or_ge j xs.length with hj | hj
      · rw [List.getElem?_append_left hj] at hu
        show cur'[off + j]? = _
        rw [k4 _ (Or.inl (by omega))]
        exact hx j u hu
      · rw [List.getElem?_append_right hj] at hu
        show cur'[off + j]? = _
        have := k3 _ u hu
        rwa [show off + xs.length + (j - xs.length) = off + j by omega] at this
  · have hold : (Builtin.firstCells i.size xs.length (.slice A xs.length cap)).run P w.drew = .ok xs.toArray w.drew := by
      rcases A with _ | a
      · obtain ⟨rfl, rfl⟩ := h.empty
        exact run_firstCells_none w.drew i.size 0 0 0
      · obtain ⟨hsp, cur, hc, hl, hx⟩ := h.2.2.2 a rfl
        obtain ⟨g, off, spot⟩ := a
        have hsp : spot = none := hsp
        subst hsp
        exact run_firstCells_some w.drew i.size xs.length ⟨g, off, none⟩ xs.length cap xs (by rw [hs, Nat.mul_one]) (fun j v hv => by
          have e1 : (⟨g, off, none⟩ : Addr).add j = ⟨g, off + j, none⟩ := by unfold Addr.add; split <;> simp_all
          rw [e1]
          show w.cell? _ = _
          rw [cell_of_row w g (off + j) cur e (0, 0) hc]
          exact hx j v hv)
    have hlen := h.1
    have hr := run_append_grow_src (P := P) w t t ty e i z ht hi hz A xs.length cap xs hold _ ys.length ys hsrc (by omega) (by omega) (growslice_fits (by omega) (by rw [hb]; exact hby))
    have hge := grownCap_ge w (xs.length + ys.length) cap e
    have hcm : grownCap w (xs.length + ys.length) cap e ≤ maxLen := grownCap_le_maxLen w (xs.length + ys.length) cap e (by unfold maxLen; omega)
    refine ⟨_, _, _, hr, ?_, (Fr.refl _ w).drew.alloc _, Or.inr rfl⟩
    refine ⟨by simpa using hge, hcm, fun hn => (by cases hn), fun a ha => ?_⟩
    cases ha
    refine ⟨rfl, _, heap_alloc_new w.drew _, ?_, fun j v hv => ?_⟩
    · show 0 + _ ≤ _
      simp only [Array.size_append, List.size_toArray, List.length_append, size_zeroCells, hzs]
      omega
    · show (_ : Array Value)[0 + j]? = some v
      have hj := (List.getElem?_eq_some_iff.1 hv).1
      rw [Nat.zero_add, Array.getElem?_append_left (by simpa using hj)]
      simpa using hv

/-- 'append(x, y...)', at the operation -/
theorem wp_app {P : Program} {w : World} {o : Oper} {a : Act} {K : Act → World → Prop} {Q : Exit → Act → World → Prop} (s x : Operand) (t : TypeId)
    (ho : o.op = .call { callee := .builtin .append, args := #[s, x], argTypes := #[t, t] }) {e : TypeId} {A B : Option Addr} {cap c2 n m bytes : Nat} {xs ys : List Value} {i : TypeInfo} {z : Value} (h : Seg w e A cap xs) (hy : Rd w B ys) (hn : n = xs.length) (hm : m = ys.length) (ht : P.underlying t = some (.slice e)) (hi : P.info? e = some i) (hz : i.zero = some z) (hs : i.size = 1) (hb : i.bytes = bytes) (hzs : z.cells.size = 1)
    (hes : a.eval s = .slice A n cap) (hex : a.eval x = .slice B m c2) (h1 : ∀ u ∈ ys, u.oneCell' = true) (h63 : n + m ≤ 9223372036854775807) (hby : (n + m) * bytes ≤ 140737488355328)
    (hK : ∀ A' cap' w', Seg w' e A' cap' (xs ++ ys) → Fr (blk A) w w' → (blk A' = blk A ∨ blk A' = [w.heap.size]) → K (a.put o.dst (.slice A' (n + m) cap')) w') : o.wp P a w K Q := by
  subst hn
  subst hm
  obtain ⟨A', cap', w', hr, h2, h3, h4⟩ := h.app (ty := o.type) (c2 := c2) hy ht hi hz hs hb hzs h1 h63 hby
  unfold Oper.wp execOp
  simp only [ho, resolve, invoke, builtin, Sem.run_bind, Sem.run_pure, Result.andThen_ok, List.map_toArray, List.map_cons, List.map_nil, hes, hex, hr]
  exact hK A' cap' w' h2 h3 h4

theorem wpList_app {P : Program} {w : World} {ops : Array Oper} {rest : List Oper} {o : Oper} {a : Act} {Q : Exit → Act → World → Prop} (hgd : o.guard = none) (s x : Operand) (t : TypeId)
    (ho : o.op = .call { callee := .builtin .append, args := #[s, x], argTypes := #[t, t] }) {e : TypeId} {A B : Option Addr} {cap c2 n m bytes : Nat} {xs ys : List Value} {i : TypeInfo} {z : Value} (h : Seg w e A cap xs) (hy : Rd w B ys) (hn : n = xs.length) (hm : m = ys.length) (ht : P.underlying t = some (.slice e)) (hi : P.info? e = some i) (hz : i.zero = some z) (hs : i.size = 1) (hb : i.bytes = bytes) (hzs : z.cells.size = 1)
    (hes : a.eval s = .slice A n cap) (hex : a.eval x = .slice B m c2) (h1 : ∀ u ∈ ys, u.oneCell' = true) (h63 : n + m ≤ 9223372036854775807) (hby : (n + m) * bytes ≤ 140737488355328)
    (hK : ∀ A' cap' w', Seg w' e A' cap' (xs ++ ys) → Fr (blk A) w w' → (blk A' = blk A ∨ blk A' = [w.heap.size]) → wpList P ops Q rest (a.put o.dst (.slice A' (n + m) cap')) w') : wpList P ops Q (o :: rest) a w :=
  wpList_plain hgd fun _ hK' => wp_app s x t ho h hy hn hm ht hi hz hs hb hzs hes hex h1 h63 hby fun A' cap' w' a1 a2 a3 => hK' _ _ (hK A' cap' w' a1 a2 a3)

theorem step_app {P : Program} {w : World} {ops : Array Oper} {o : Oper} {a : Act} {K : Act → World → Prop} {Q : Exit → Act → World → Prop} {E : Prop} (hgd : o.guard = none) (s x : Operand) (t : TypeId)
    (ho : o.op = .call { callee := .builtin .append, args := #[s, x], argTypes := #[t, t] }) {e : TypeId} {A B : Option Addr} {cap c2 n m bytes : Nat} {xs ys : List Value} {i : TypeInfo} {z : Value} (h : Seg w e A cap xs) (hy : Rd w B ys) (hn : n = xs.length) (hm : m = ys.length) (ht : P.underlying t = some (.slice e)) (hi : P.info? e = some i) (hz : i.zero = some z) (hs : i.size = 1) (hb : i.bytes = bytes) (hzs : z.cells.size = 1)
    (hes : a.eval s = .slice A n cap) (hex : a.eval x = .slice B m c2) (h1 : ∀ u ∈ ys, u.oneCell' = true) (h63 : n + m ≤ 9223372036854775807) (hby : (n + m) * bytes ≤ 140737488355328)
    (hK : ∀ A' cap' w', Seg w' e A' cap' (xs ++ ys) → Fr (blk A) w w' → (blk A' = blk A ∨ blk A' = [w.heap.size]) → K (a.put o.dst (.slice A' (n + m) cap')) w') :
    if Region.wanted o (yielded ops a.tmps) = true then Oper.wp P o a w K Q else E := by
  have hw : Region.wanted o (yielded ops a.tmps) = true := by simp [Region.wanted, hgd]
  rw [if_pos hw]
  exact wp_app s x t ho h hy hn hm ht hi hz hs hb hzs hes hex h1 h63 hby hK
end Go.Proofs.YtohdcmmkbblhkaaGreatDoor.mem

/-
  tarjan: the search in memory: its state, and what each change leaves.
-/
set_option linter.all false
namespace Go.Proofs.YtohdcmmkbblhkaaGreatDoor.tj
open Go.RowKit Go.Proofs.YtohdcmmkbblhkaaGreatDoor.mem

/-- but for blocks of a kind all is as it was -/
structure FrP (P : Nat → Prop) (w w' : World) : Prop where
  os : w'.os = w.os
  tape : w'.tape = w.tape
  output : w'.output = w.output
  size : w.heap.size ≤ w'.heap.size
  block : ∀ k, k < w.heap.size → ¬ P k → w'.heap[k]? = w.heap[k]?

theorem FrP.below {P : Nat → Prop} {w w' : World} {n : Nat} (h : FrP P w w') (hn : n ≤ w.heap.size) (hP : ∀ g, g < w.heap.size → P g → n ≤ g) : Below n w w' := ⟨h.os, h.tape, h.output, h.size, fun k hk => h.block k (by omega) (fun hp => by have := hP k (by omega) hp; omega)⟩
theorem FrP.of_fr {F : List Nat} {P : Nat → Prop} {w w' : World} (h : Fr F w w') (hF : ∀ g ∈ F, P g) : FrP P w w' := ⟨h.os, h.tape, h.output, h.size, fun k hk hn => h.block k hk (fun hm => hn (hF k hm))⟩
theorem FrP.of_below {P : Nat → Prop} {w w' : World} (h : Below w.heap.size w w') : FrP P w w' := ⟨h.os, h.tape, h.output, h.size, fun k hk _ => h.block k hk⟩
theorem FrP.box {P : Nat → Prop} {w w' : World} {g : Nat} {t : TypeId} {cs : Array Value} (h : FrP P w w') (hb : Box w g t cs) (hg : ¬ P g) : Box w' g t cs := (h.block g hb.lt hg).trans hb
theorem FrP.seg {P : Nat → Prop} {w w' : World} {e : TypeId} {A : Option Addr} {cap : Nat} {xs : List Value} (h : FrP P w w') (hs : Seg w e A cap xs) (hg : ∀ g ∈ blk A, ¬ P g) : Seg w' e A cap xs := by
  refine ⟨hs.1, hs.2.1, hs.2.2.1, fun a ha => ?_⟩
  subst ha
  obtain ⟨hsp, cur, hc, r⟩ := hs.2.2.2 a rfl
  exact ⟨hsp, cur, (h.block _ (Array.getElem?_eq_some_iff.1 hc).1 (hg _ (by simp [blk]))).trans hc, r⟩
theorem FrP.rd {P : Nat → Prop} {w w' : World} {A : Option Addr} {xs : List Value} (h : FrP P w w') (hs : Rd w A xs) (hg : ∀ g ∈ blk A, ¬ P g) : Rd w' A xs := fun hz => by
  obtain ⟨g, off, rfl, hl, hc⟩ := hs hz
  exact ⟨g, off, rfl, Nat.lt_of_lt_of_le hl h.size, fun j hj => (World.cell?_of_block (w := w) (h.block g hl (hg g (by simp [blk])))).trans (hc j hj)⟩

/-- numbers, one a member -/
def iv (f : Nat → Int) (n : Nat) : Array Value := ((List.range n).map fun i => Value.int .i64 (f i)).toArray
theorem iv_size (f : Nat → Int) (n : Nat) : (iv f n).size = n := by simp [iv]
theorem iv_at (f : Nat → Int) {n i : Nat} (h : i < n) : (iv f n)[i]? = some (.int .i64 (f i)) := by simp [iv, h]
theorem iv_set (f : Nat → Int) (n m : Nat) (v : Int) : (iv f n).setIfInBounds m (.int .i64 v) = iv (upd f m v) n := by
  apply Array.ext_getElem?
  intro i
  rw [Array.getElem?_setIfInBounds]
  by_cases hi : i < n
  · rw [iv_at _ hi, iv_at _ hi, iv_size]
    by_cases e : m = i
    · subst e
      simp [hi, upd_same]
    · rw [if_neg e, upd_ne _ _ (Ne.symm e)]
  · have e1 : (iv f n)[i]? = none := by rw [Array.getElem?_eq_none_iff, iv_size]; omega
    have e2 : (iv (upd f m v) n)[i]? = none := by rw [Array.getElem?_eq_none_iff, iv_size]; omega
    rw [e1, e2, iv_size]
    split
    · rw [if_neg (by omega)]
    · rfl

def natI (L : List Nat) : List Value := L.map fun n => .int .i64 (n : Nat)
theorem natI_len (L : List Nat) : (natI L).length = L.length := by simp [natI]
theorem natI_snoc (L : List Nat) (x : Nat) : natI L ++ [Value.int .i64 (x : Nat)] = natI (L ++ [x]) := by simp [natI]
/-- a slice of numbers -/
structure Row where
  A : Option Addr
  cap : Nat
  xs : List Nat
def hdr (r : Row) : Value := .slice r.A r.xs.length r.cap

/-- where the search lies -/
structure Fx where
  n0 : Nat
  n : Nat
  s : Nat
  to : Nat
  tn : Nat
  tl : Nat
  tp : Nat
  outV : Value
structure Vd where
  Ap : Option Addr
  cp : Nat
  As : Option Addr
  cs : Nat
  Aq : Option Addr
  cq : Nat
  rows : List Row
  pend : List Row

/-- the search's state, as it lies in memory -/
structure MS where
  tried : Nat → Nat
  num : Nat → Nat
  low : Nat → Nat
  part : Nat → Int
  path : List Nat
  stack : List Nat
  parts : List (List Nat)
  count : Nat
def TS.ms (T : TS) : MS := ⟨T.tried, T.num, T.low, T.part, pth T.S, stk T.S, T.parts, T.count⟩

def SMc (f : Fx) (W : World) (v : Vd) (T : MS) : Nat → Prop
  | 0 => Box W f.s 122 #[f.outV, .slice (some ⟨f.to, 0, none⟩) f.n f.n, .slice (some ⟨f.tn, 0, none⟩) f.n f.n, .slice (some ⟨f.tl, 0, none⟩) f.n f.n, .slice (some ⟨f.tp, 0, none⟩) f.n f.n, .slice v.Ap (T.path).length v.cp, .slice v.As (T.stack).length v.cs, .slice v.Aq T.parts.length v.cq, .int .i64 (T.count : Nat)]
  | 1 => Box W f.to 3 (iv (fun i => (T.tried i : Nat)) f.n)
  | 2 => Box W f.tn 3 (iv (fun i => (T.num i : Nat)) f.n)
  | 3 => Box W f.tl 3 (iv (fun i => (T.low i : Nat)) f.n)
  | 4 => Box W f.tp 3 (iv T.part f.n)
  | 5 => Seg W 3 v.Ap v.cp (natI (T.path))
  | 6 => Seg W 3 v.As v.cs (natI (T.stack))
  | 7 => Seg W 71 v.Aq v.cq (v.rows.map hdr)
  | 8 => ∀ r ∈ v.rows, Rd W r.A (natI r.xs)
  | 9 => ∀ r ∈ v.pend, Seg W 3 r.A r.cap (natI r.xs)
  | _ => True

structure Tgs (f : Fx) (W : World) (v : Vd) (tag : Nat → Nat) : Prop where
  t0 : tag f.s = 0
  t1 : tag f.to = 1
  t2 : tag f.tn = 2
  t3 : tag f.tl = 3
  t4 : tag f.tp = 4
  t5 : ∀ g ∈ blk v.Ap, tag g = 5
  t6 : ∀ g ∈ blk v.As, tag g = 6
  t7 : ∀ g ∈ blk v.Aq, tag g = 7
  t8 : ∀ r ∈ v.rows, 0 < r.xs.length → ∀ g ∈ blk r.A, tag g = 8
  t9 : ∀ r ∈ v.pend, ∀ g ∈ blk r.A, tag g = 9
  ge : ∀ g, g < W.heap.size → tag g < 10 → f.n0 ≤ g

structure SM (f : Fx) (W : World) (v : Vd) (T : MS) : Prop where
  c : ∀ j, SMc f W v T j
  rw_ : v.rows.map (·.xs) = T.parts
  tg : ∃ tag, Tgs f W v tag
  n0 : f.n0 ≤ W.heap.size

theorem smc_keep {f : Fx} {W W' : World} {v : Vd} {T : MS} {tag : Nat → Nat} (ht : Tgs f W v tag) {k : Nat} (hf : FrP (fun g => tag g = k) W W') : ∀ j, j ≠ k → SMc f W v T j → SMc f W' v T j := by
  intro j hj h
  match j with
  | 0 => exact hf.box h (fun e => hj (ht.t0.symm.trans e))
  | 1 => exact hf.box h (fun e => hj (ht.t1.symm.trans e))
  | 2 => exact hf.box h (fun e => hj (ht.t2.symm.trans e))
  | 3 => exact hf.box h (fun e => hj (ht.t3.symm.trans e))
  | 4 => exact hf.box h (fun e => hj (ht.t4.symm.trans e))
  | 5 => exact hf.seg h (fun g hg e => hj ((ht.t5 g hg).symm.trans e))
  | 6 => exact hf.seg h (fun g hg e => hj ((ht.t6 g hg).symm.trans e))
  | 7 => exact hf.seg h (fun g hg e => hj ((ht.t7 g hg).symm.trans e))
  | 8 =>
    intro r hr hz
    exact hf.rd (h r hr) (fun g hg e => hj ((ht.t8 r hr (by rwa [natI_len] at hz) g hg).symm.trans e)) hz
  | 9 =>
    intro r hr
    exact hf.seg (h r hr) (fun g hg e => hj ((ht.t9 r hr g hg).symm.trans e))
  | j + 10 => trivial

theorem Tgs.grow {f : Fx} {W W' : World} {v : Vd} {tag : Nat → Nat} (h : Tgs f W v tag) (hs : W.heap.size ≤ W'.heap.size) (hn : f.n0 ≤ W.heap.size) : Tgs f W' v tag :=
  ⟨h.t0, h.t1, h.t2, h.t3, h.t4, h.t5, h.t6, h.t7, h.t8, h.t9, fun g hg hlt => by
    rcases Nat.lt_or_ge g W.heap.size with h1 | h1
    · exact h.ge g h1 hlt
    · omega⟩

/-- what a change leaves -/
theorem SM.on {f : Fx} {W W' : World} {v : Vd} {T : MS} (h : SM f W v T) (hb : Below W.heap.size W W') : SM f W' v T := by
  obtain ⟨tag, ht⟩ := h.tg
  exact ⟨fun j => smc_keep ht (k := j + 10) (FrP.of_below hb) j (by omega) (h.c j), h.rw_, ⟨tag, ht.grow hb.size h.n0⟩, Nat.le_trans h.n0 hb.size⟩

theorem SM.drew {f : Fx} {W : World} {v : Vd} {T : MS} (h : SM f W v T) : SM f W.drew v T := h.on ((Below.refl _ W).drew)

/-- the bounds that the search's blocks have -/
theorem sm_frame {f : Fx} {W W' : World} {v : Vd} {tag : Nat → Nat} (ht : Tgs f W v tag) (hn : f.n0 ≤ W.heap.size) {k : Nat} (hk : k < 10) (hf : FrP (fun g => tag g = k) W W') : Below f.n0 W W' :=
  hf.below hn (fun g hg e => ht.ge g hg (by omega))

theorem set_frp {W : World} {tag : Nat → Nat} {g i k : Nat} (hg : tag g = k) (u : Value) : FrP (fun g => tag g = k) W (W.setCell ⟨g, i, none⟩ u) :=
  FrP.of_fr (F := [g]) ((Fr.refl _ W).setCell (Or.inl (by simp)) u) (fun q hq => by rw [List.mem_singleton] at hq; subst hq; exact hg)

theorem iv_upd_nat (h : Nat → Nat) (n m v : Nat) : iv (upd (fun i => ((h i : Nat) : Int)) m (v : Int)) n = iv (fun i => ((upd h m v i : Nat) : Int)) n := by
  unfold iv
  congr 2
  funext i
  by_cases e : i = m
  · subst e; simp [upd_same]
  · simp [upd_ne _ _ e]

theorem SM.setTried {f : Fx} {W : World} {v : Vd} {T : MS} (h : SM f W v T) (m x : Nat) : SM f (W.setCell ⟨f.to, m, none⟩ (.int .i64 (x : Nat))) v { T with tried := upd T.tried m x } ∧ Below f.n0 W (W.setCell ⟨f.to, m, none⟩ (.int .i64 (x : Nat))) := by
  obtain ⟨tag, ht⟩ := h.tg
  have hf := set_frp (W := W) (i := m) ht.t1 (.int .i64 (x : Nat))
  have K := smc_keep (T := T) ht hf
  refine ⟨⟨fun j => ?_, h.rw_, ⟨tag, ht.grow hf.size h.n0⟩, Nat.le_trans h.n0 hf.size⟩, sm_frame ht h.n0 (by omega) hf⟩
  match j with
  | 0 => exact K 0 (by omega) (h.c 0)
  | 1 =>
    have := (show Box W f.to 3 _ from h.c 1).put m (.int .i64 (x : Nat))
    rw [iv_set, iv_upd_nat] at this
    exact this
  | 2 => exact K 2 (by omega) (h.c 2)
  | 3 => exact K 3 (by omega) (h.c 3)
  | 4 => exact K 4 (by omega) (h.c 4)
  | 5 => exact K 5 (by omega) (h.c 5)
  | 6 => exact K 6 (by omega) (h.c 6)
  | 7 => exact K 7 (by omega) (h.c 7)
  | 8 => exact K 8 (by omega) (h.c 8)
  | 9 => exact K 9 (by omega) (h.c 9)
  | j + 10 => trivial

theorem SM.setNum {f : Fx} {W : World} {v : Vd} {T : MS} (h : SM f W v T) (m x : Nat) : SM f (W.setCell ⟨f.tn, m, none⟩ (.int .i64 (x : Nat))) v { T with num := upd T.num m x } ∧ Below f.n0 W (W.setCell ⟨f.tn, m, none⟩ (.int .i64 (x : Nat))) := by
  obtain ⟨tag, ht⟩ := h.tg
  have hf := set_frp (W := W) (i := m) ht.t2 (.int .i64 (x : Nat))
  have K := smc_keep (T := T) ht hf
  refine ⟨⟨fun j => ?_, h.rw_, ⟨tag, ht.grow hf.size h.n0⟩, Nat.le_trans h.n0 hf.size⟩, sm_frame ht h.n0 (by omega) hf⟩
  match j with
  | 0 => exact K 0 (by omega) (h.c 0)
  | 1 => exact K 1 (by omega) (h.c 1)
  | 2 =>
    have := (show Box W f.tn 3 _ from h.c 2).put m (.int .i64 (x : Nat))
    rw [iv_set, iv_upd_nat] at this
    exact this
  | 3 => exact K 3 (by omega) (h.c 3)
  | 4 => exact K 4 (by omega) (h.c 4)
  | 5 => exact K 5 (by omega) (h.c 5)
  | 6 => exact K 6 (by omega) (h.c 6)
  | 7 => exact K 7 (by omega) (h.c 7)
  | 8 => exact K 8 (by omega) (h.c 8)
  | 9 => exact K 9 (by omega) (h.c 9)
  | j + 10 => trivial

theorem SM.setLow {f : Fx} {W : World} {v : Vd} {T : MS} (h : SM f W v T) (m x : Nat) : SM f (W.setCell ⟨f.tl, m, none⟩ (.int .i64 (x : Nat))) v { T with low := upd T.low m x } ∧ Below f.n0 W (W.setCell ⟨f.tl, m, none⟩ (.int .i64 (x : Nat))) := by
  obtain ⟨tag, ht⟩ := h.tg
  have hf := set_frp (W := W) (i := m) ht.t3 (.int .i64 (x : Nat))
  have K := smc_keep (T := T) ht hf
  refine ⟨⟨fun j => ?_, h.rw_, ⟨tag, ht.grow hf.size h.n0⟩, Nat.le_trans h.n0 hf.size⟩, sm_frame ht h.n0 (by omega) hf⟩
  match j with
  | 0 => exact K 0 (by omega) (h.c 0)
  | 1 => exact K 1 (by omega) (h.c 1)
  | 2 => exact K 2 (by omega) (h.c 2)
  | 3 =>
    have := (show Box W f.tl 3 _ from h.c 3).put m (.int .i64 (x : Nat))
    rw [iv_set, iv_upd_nat] at this
    exact this
  | 4 => exact K 4 (by omega) (h.c 4)
  | 5 => exact K 5 (by omega) (h.c 5)
  | 6 => exact K 6 (by omega) (h.c 6)
  | 7 => exact K 7 (by omega) (h.c 7)
  | 8 => exact K 8 (by omega) (h.c 8)
  | 9 => exact K 9 (by omega) (h.c 9)
  | j + 10 => trivial

theorem SM.setPart {f : Fx} {W : World} {v : Vd} {T : MS} (h : SM f W v T) (m : Nat) (x : Int) : SM f (W.setCell ⟨f.tp, m, none⟩ (.int .i64 x)) v { T with part := upd T.part m x } ∧ Below f.n0 W (W.setCell ⟨f.tp, m, none⟩ (.int .i64 x)) := by
  obtain ⟨tag, ht⟩ := h.tg
  have hf := set_frp (W := W) (i := m) ht.t4 (.int .i64 x)
  have K := smc_keep (T := T) ht hf
  refine ⟨⟨fun j => ?_, h.rw_, ⟨tag, ht.grow hf.size h.n0⟩, Nat.le_trans h.n0 hf.size⟩, sm_frame ht h.n0 (by omega) hf⟩
  match j with
  | 0 => exact K 0 (by omega) (h.c 0)
  | 1 => exact K 1 (by omega) (h.c 1)
  | 2 => exact K 2 (by omega) (h.c 2)
  | 3 => exact K 3 (by omega) (h.c 3)
  | 4 =>
    have := (show Box W f.tp 3 _ from h.c 4).put m (.int .i64 x)
    rw [iv_set] at this
    exact this
  | 5 => exact K 5 (by omega) (h.c 5)
  | 6 => exact K 6 (by omega) (h.c 6)
  | 7 => exact K 7 (by omega) (h.c 7)
  | 8 => exact K 8 (by omega) (h.c 8)
  | 9 => exact K 9 (by omega) (h.c 9)
  | j + 10 => trivial

/-- a longer tag: what is new is of a kind -/
def tag2 (tag : Nat → Nat) (n k : Nat) (g : Nat) : Nat := if n ≤ g then k else tag g
theorem tag2_old {tag : Nat → Nat} {n k g : Nat} (h : g < n) : tag2 tag n k g = tag g := if_neg (by omega)
theorem tag2_new {tag : Nat → Nat} {n k g : Nat} (h : n ≤ g) : tag2 tag n k g = k := if_pos h

theorem SM.lts {f : Fx} {W : World} {v : Vd} {T : MS} (h : SM f W v T) : f.s < W.heap.size ∧ f.to < W.heap.size ∧ f.tn < W.heap.size ∧ f.tl < W.heap.size ∧ f.tp < W.heap.size ∧ (∀ g ∈ blk v.Ap, g < W.heap.size) ∧ (∀ g ∈ blk v.As, g < W.heap.size) ∧ (∀ g ∈ blk v.Aq, g < W.heap.size) ∧ (∀ r ∈ v.rows, 0 < r.xs.length → ∀ g ∈ blk r.A, g < W.heap.size) ∧ ∀ r ∈ v.pend, ∀ g ∈ blk r.A, g < W.heap.size :=
  ⟨(show Box W f.s _ _ from h.c 0).lt, (show Box W f.to _ _ from h.c 1).lt, (show Box W f.tn _ _ from h.c 2).lt, (show Box W f.tl _ _ from h.c 3).lt, (show Box W f.tp _ _ from h.c 4).lt, (show Seg W _ _ _ _ from h.c 5).lt, (show Seg W _ _ _ _ from h.c 6).lt, (show Seg W _ _ _ _ from h.c 7).lt, fun r hr hz g hg => by
    obtain ⟨g', off, e, hl, _⟩ := (show ∀ r ∈ v.rows, Rd W r.A (natI r.xs) from h.c 8) r hr (by rwa [natI_len])
    rw [e] at hg
    simp only [blk, List.mem_singleton] at hg
    omega, fun r hr => ((show ∀ r ∈ v.pend, Seg W 3 r.A r.cap (natI r.xs) from h.c 9) r hr).lt⟩

/-- the tags, where what is new from here on is of a kind -/
theorem Tgs.newer {f : Fx} {W : World} {v : Vd} {tag : Nat → Nat} {T : MS} (h : Tgs f W v tag) (hs : SM f W v T) (k : Nat) : Tgs f W v (tag2 tag W.heap.size k) := by
  obtain ⟨l0, l1, l2, l3, l4, l5, l6, l7, l8, l9⟩ := hs.lts
  refine ⟨by rw [tag2_old l0]; exact h.t0, by rw [tag2_old l1]; exact h.t1, by rw [tag2_old l2]; exact h.t2, by rw [tag2_old l3]; exact h.t3, by rw [tag2_old l4]; exact h.t4, fun g hg => by rw [tag2_old (l5 g hg)]; exact h.t5 g hg, fun g hg => by rw [tag2_old (l6 g hg)]; exact h.t6 g hg, fun g hg => by rw [tag2_old (l7 g hg)]; exact h.t7 g hg, fun r hr hz g hg => by rw [tag2_old (l8 r hr hz g hg)]; exact h.t8 r hr hz g hg, fun r hr g hg => by rw [tag2_old (l9 r hr g hg)]; exact h.t9 r hr g hg, fun g hg hlt => ?_⟩
  rw [tag2_old hg] at hlt
  exact h.ge g hg hlt

theorem sm_box {f : Fx} {W : World} {v : Vd} {T : MS} (h : SM f W v T) : Box W f.s 122 #[f.outV, .slice (some ⟨f.to, 0, none⟩) f.n f.n, .slice (some ⟨f.tn, 0, none⟩) f.n f.n, .slice (some ⟨f.tl, 0, none⟩) f.n f.n, .slice (some ⟨f.tp, 0, none⟩) f.n f.n, .slice v.Ap T.path.length v.cp, .slice v.As T.stack.length v.cs, .slice v.Aq T.parts.length v.cq, .int .i64 (T.count : Nat)] := h.c 0

theorem SM.setCount {f : Fx} {W : World} {v : Vd} {T : MS} (h : SM f W v T) (x : Nat) : SM f (W.setCell ⟨f.s, 8, none⟩ (.int .i64 (x : Nat))) v { T with count := x } ∧ Below f.n0 W (W.setCell ⟨f.s, 8, none⟩ (.int .i64 (x : Nat))) := by
  obtain ⟨tag, ht⟩ := h.tg
  have hf := set_frp (W := W) (i := 8) ht.t0 (.int .i64 (x : Nat))
  have K := smc_keep (T := T) ht hf
  refine ⟨⟨fun j => ?_, h.rw_, ⟨tag, ht.grow hf.size h.n0⟩, Nat.le_trans h.n0 hf.size⟩, sm_frame ht h.n0 (by omega) hf⟩
  match j with
  | 0 => exact (sm_box h).put 8 (.int .i64 (x : Nat))
  | 1 => exact K 1 (by omega) (h.c 1)
  | 2 => exact K 2 (by omega) (h.c 2)
  | 3 => exact K 3 (by omega) (h.c 3)
  | 4 => exact K 4 (by omega) (h.c 4)
  | 5 => exact K 5 (by omega) (h.c 5)
  | 6 => exact K 6 (by omega) (h.c 6)
  | 7 => exact K 7 (by omega) (h.c 7)
  | 8 => exact K 8 (by omega) (h.c 8)
  | 9 => exact K 9 (by omega) (h.c 9)
  | j + 10 => trivial

/-- a store of a slice's header: the path's -/
theorem SM.putPath {f : Fx} {W W1 : World} {v : Vd} {T : MS} (h : SM f W v T) {A' : Option Addr} {c' : Nat} {p' : List Nat} {n : Nat} (hn : n = p'.length) (hs : Seg W1 3 A' c' (natI p')) (hf : Fr (blk v.Ap) W W1) (hb : ∀ g ∈ blk A', g ∈ blk v.Ap ∨ W.heap.size ≤ g) :
    Box W1 f.s 122 #[f.outV, .slice (some ⟨f.to, 0, none⟩) f.n f.n, .slice (some ⟨f.tn, 0, none⟩) f.n f.n, .slice (some ⟨f.tl, 0, none⟩) f.n f.n, .slice (some ⟨f.tp, 0, none⟩) f.n f.n, .slice v.Ap T.path.length v.cp, .slice v.As T.stack.length v.cs, .slice v.Aq T.parts.length v.cq, .int .i64 (T.count : Nat)] ∧
    SM f (W1.setCell ⟨f.s, 5, none⟩ (.slice A' n c')) { v with Ap := A', cp := c' } { T with path := p' } ∧ Below f.n0 W (W1.setCell ⟨f.s, 5, none⟩ (.slice A' n c')) := by
  subst hn
  obtain ⟨tag0, ht0⟩ := h.tg
  have ht := ht0.newer h 5
  generalize htag : tag2 tag0 W.heap.size 5 = tag at ht
  have hf1 : FrP (fun g => tag g = 5) W W1 := FrP.of_fr hf ht.t5
  have K1 := smc_keep (T := T) ht hf1
  have hA : ∀ g ∈ blk A', tag g = 5 := fun g hg => by
    rcases hb g hg with e | e
    · exact ht.t5 g e
    · rw [← htag]; exact tag2_new e
  have hbx : Box W1 f.s _ _ := K1 0 (by omega) (h.c 0)
  have hf2 := set_frp (W := W1) (i := 5) ht.t0 (.slice A' p'.length c')
  have ht1 : Tgs f W1 v tag := ht.grow hf.size h.n0
  have K2 : ∀ j, j ≠ 0 → SMc f W1 { v with Ap := A', cp := c' } { T with path := p' } j → SMc f (W1.setCell ⟨f.s, 5, none⟩ (.slice A' p'.length c')) { v with Ap := A', cp := c' } { T with path := p' } j :=
    smc_keep (v := { v with Ap := A', cp := c' }) (tag := tag) ⟨ht1.t0, ht1.t1, ht1.t2, ht1.t3, ht1.t4, hA, ht1.t6, ht1.t7, ht1.t8, ht1.t9, ht1.ge⟩ hf2
  have hsz : W1.heap.size ≤ (W1.setCell ⟨f.s, 5, none⟩ (.slice A' p'.length c')).heap.size := hf2.size
  refine ⟨hbx, ⟨fun j => ?_, h.rw_, ⟨tag, ht1.t0, ht1.t1, ht1.t2, ht1.t3, ht1.t4, hA, ht1.t6, ht1.t7, ht1.t8, ht1.t9, (ht1.grow hsz (Nat.le_trans h.n0 hf.size)).ge⟩, Nat.le_trans h.n0 (Nat.le_trans hf.size hsz)⟩, (sm_frame ht h.n0 (by omega) hf1).trans ((sm_frame ht1 (Nat.le_trans h.n0 hf.size) (by omega) hf2))⟩
  match j with
  | 0 => exact hbx.put 5 (.slice A' p'.length c')
  | 1 => exact K2 1 (by omega) (K1 1 (by omega) (h.c 1))
  | 2 => exact K2 2 (by omega) (K1 2 (by omega) (h.c 2))
  | 3 => exact K2 3 (by omega) (K1 3 (by omega) (h.c 3))
  | 4 => exact K2 4 (by omega) (K1 4 (by omega) (h.c 4))
  | 5 => exact K2 5 (by omega) hs
  | 6 => exact K2 6 (by omega) (K1 6 (by omega) (h.c 6))
  | 7 => exact K2 7 (by omega) (K1 7 (by omega) (h.c 7))
  | 8 => exact K2 8 (by omega) (K1 8 (by omega) (h.c 8))
  | 9 => exact K2 9 (by omega) (K1 9 (by omega) (h.c 9))
  | j + 10 => trivial
/-- a store of a slice's header: the stack's -/
theorem SM.putStack {f : Fx} {W W1 : World} {v : Vd} {T : MS} (h : SM f W v T) {A' : Option Addr} {c' : Nat} {p' : List Nat} {n : Nat} (hn : n = p'.length) (hs : Seg W1 3 A' c' (natI p')) (hf : Fr (blk v.As) W W1) (hb : ∀ g ∈ blk A', g ∈ blk v.As ∨ W.heap.size ≤ g) :
    Box W1 f.s 122 #[f.outV, .slice (some ⟨f.to, 0, none⟩) f.n f.n, .slice (some ⟨f.tn, 0, none⟩) f.n f.n, .slice (some ⟨f.tl, 0, none⟩) f.n f.n, .slice (some ⟨f.tp, 0, none⟩) f.n f.n, .slice v.Ap T.path.length v.cp, .slice v.As T.stack.length v.cs, .slice v.Aq T.parts.length v.cq, .int .i64 (T.count : Nat)] ∧
    SM f (W1.setCell ⟨f.s, 6, none⟩ (.slice A' n c')) { v with As := A', cs := c' } { T with stack := p' } ∧ Below f.n0 W (W1.setCell ⟨f.s, 6, none⟩ (.slice A' n c')) := by
  subst hn
  obtain ⟨tag0, ht0⟩ := h.tg
  have ht := ht0.newer h 6
  generalize htag : tag2 tag0 W.heap.size 6 = tag at ht
  have hf1 : FrP (fun g => tag g = 6) W W1 := FrP.of_fr hf ht.t6
  have K1 := smc_keep (T := T) ht hf1
  have hA : ∀ g ∈ blk A', tag g = 6 := fun g hg => by
    rcases hb g hg with e | e
    · exact ht.t6 g e
    · rw [← htag]; exact tag2_new e
  have hbx : Box W1 f.s _ _ := K1 0 (by omega) (h.c 0)
  have hf2 := set_frp (W := W1) (i := 6) ht.t0 (.slice A' p'.length c')
  have ht1 : Tgs f W1 v tag := ht.grow hf.size h.n0
  have K2 : ∀ j, j ≠ 0 → SMc f W1 { v with As := A', cs := c' } { T with stack := p' } j → SMc f (W1.setCell ⟨f.s, 6, none⟩ (.slice A' p'.length c')) { v with As := A', cs := c' } { T with stack := p' } j :=
    smc_keep (v := { v with As := A', cs := c' }) (tag := tag) ⟨ht1.t0, ht1.t1, ht1.t2, ht1.t3, ht1.t4, ht1.t5, hA, ht1.t7, ht1.t8, ht1.t9, ht1.ge⟩ hf2
  have hsz : W1.heap.size ≤ (W1.setCell ⟨f.s, 6, none⟩ (.slice A' p'.length c')).heap.size := hf2.size
  refine ⟨hbx, ⟨fun j => ?_, h.rw_, ⟨tag, ht1.t0, ht1.t1, ht1.t2, ht1.t3, ht1.t4, ht1.t5, hA, ht1.t7, ht1.t8, ht1.t9, (ht1.grow hsz (Nat.le_trans h.n0 hf.size)).ge⟩, Nat.le_trans h.n0 (Nat.le_trans hf.size hsz)⟩, (sm_frame ht h.n0 (by omega) hf1).trans ((sm_frame ht1 (Nat.le_trans h.n0 hf.size) (by omega) hf2))⟩
  match j with
  | 0 => exact hbx.put 6 (.slice A' p'.length c')
  | 1 => exact K2 1 (by omega) (K1 1 (by omega) (h.c 1))
  | 2 => exact K2 2 (by omega) (K1 2 (by omega) (h.c 2))
  | 3 => exact K2 3 (by omega) (K1 3 (by omega) (h.c 3))
  | 4 => exact K2 4 (by omega) (K1 4 (by omega) (h.c 4))
  | 5 => exact K2 5 (by omega) (K1 5 (by omega) (h.c 5))
  | 6 => exact K2 6 (by omega) hs
  | 7 => exact K2 7 (by omega) (K1 7 (by omega) (h.c 7))
  | 8 => exact K2 8 (by omega) (K1 8 (by omega) (h.c 8))
  | 9 => exact K2 9 (by omega) (K1 9 (by omega) (h.c 9))
  | j + 10 => trivial
end Go.Proofs.YtohdcmmkbblhkaaGreatDoor.tj

/-
  tarjan: the search in memory: a part that is closed.
-/
set_option linter.all false
namespace Go.Proofs.YtohdcmmkbblhkaaGreatDoor.tj
open Go.RowKit Go.Proofs.YtohdcmmkbblhkaaGreatDoor.mem

/-- a list that is new -/
theorem SM.newPend {f : Fx} {W W' : World} {v : Vd} {T : MS} (h : SM f W v T) (hb : Below W.heap.size W W') (r : Row) (hs : Seg W' 3 r.A r.cap (natI r.xs)) (hg : ∀ g ∈ blk r.A, W.heap.size ≤ g) : SM f W' { v with pend := [r] } T := by
  obtain ⟨tag0, ht0⟩ := h.tg
  have ht := ht0.newer h 9
  have h2 := h.on hb
  have htg := ht.grow (W' := W') hb.size h.n0
  refine ⟨fun j => ?_, h.rw_, ⟨tag2 tag0 W.heap.size 9, htg.t0, htg.t1, htg.t2, htg.t3, htg.t4, htg.t5, htg.t6, htg.t7, htg.t8, fun r' hr g hgr => ?_, htg.ge⟩, Nat.le_trans h.n0 hb.size⟩
  · match j with
    | 0 => exact h2.c 0
    | 1 => exact h2.c 1
    | 2 => exact h2.c 2
    | 3 => exact h2.c 3
    | 4 => exact h2.c 4
    | 5 => exact h2.c 5
    | 6 => exact h2.c 6
    | 7 => exact h2.c 7
    | 8 => exact h2.c 8
    | 9 =>
      intro r' hr
      obtain rfl := List.mem_singleton.1 hr
      exact hs
    | j + 10 => trivial
  · obtain rfl := List.mem_singleton.1 hr
    exact tag2_new (hg g hgr)

/-- the list is turned -/
theorem SM.setPend {f : Fx} {W W' : World} {v : Vd} {T : MS} {r : Row} (h : SM f W { v with pend := [r] } T) (hf : Fr (blk r.A) W W') (xs : List Nat) (hs : Seg W' 3 r.A r.cap (natI xs)) : SM f W' { v with pend := [{ r with xs := xs }] } T ∧ Below f.n0 W W' := by
  obtain ⟨tag, ht⟩ := h.tg
  have hf1 : FrP (fun g => tag g = 9) W W' := FrP.of_fr hf (fun g hg => ht.t9 r (by simp) g hg)
  have K := smc_keep (T := T) ht hf1
  have htg := ht.grow (W' := W') hf.size h.n0
  refine ⟨⟨fun j => ?_, h.rw_, ⟨tag, htg.t0, htg.t1, htg.t2, htg.t3, htg.t4, htg.t5, htg.t6, htg.t7, htg.t8, fun r' hr g hgr => ?_, htg.ge⟩, Nat.le_trans h.n0 hf.size⟩, sm_frame ht h.n0 (by omega) hf1⟩
  · match j with
    | 0 => exact K 0 (by omega) (h.c 0)
    | 1 => exact K 1 (by omega) (h.c 1)
    | 2 => exact K 2 (by omega) (h.c 2)
    | 3 => exact K 3 (by omega) (h.c 3)
    | 4 => exact K 4 (by omega) (h.c 4)
    | 5 => exact K 5 (by omega) (h.c 5)
    | 6 => exact K 6 (by omega) (h.c 6)
    | 7 => exact K 7 (by omega) (h.c 7)
    | 8 => exact K 8 (by omega) (h.c 8)
    | 9 =>
      intro r' hr
      obtain rfl := List.mem_singleton.1 hr
      exact hs
    | j + 10 => trivial
  · obtain rfl := List.mem_singleton.1 hr
    exact ht.t9 r (by simp) g hgr

/-- the list is a part -/
theorem SM.putParts {f : Fx} {W W1 : World} {v : Vd} {T : MS} {r : Row} (h : SM f W { v with pend := [r] } T) {A' : Option Addr} {c' n : Nat} (hn : n = T.parts.length + 1) (hs : Seg W1 71 A' c' ((v.rows ++ [r]).map hdr)) (hf : Fr (blk v.Aq) W W1) (hb : ∀ g ∈ blk A', g ∈ blk v.Aq ∨ W.heap.size ≤ g) :
    Box W1 f.s 122 #[f.outV, .slice (some ⟨f.to, 0, none⟩) f.n f.n, .slice (some ⟨f.tn, 0, none⟩) f.n f.n, .slice (some ⟨f.tl, 0, none⟩) f.n f.n, .slice (some ⟨f.tp, 0, none⟩) f.n f.n, .slice v.Ap T.path.length v.cp, .slice v.As T.stack.length v.cs, .slice v.Aq T.parts.length v.cq, .int .i64 (T.count : Nat)] ∧
    SM f (W1.setCell ⟨f.s, 7, none⟩ (.slice A' n c')) { v with Aq := A', cq := c', rows := v.rows ++ [r], pend := [] } { T with parts := T.parts ++ [r.xs] } ∧ Below f.n0 W (W1.setCell ⟨f.s, 7, none⟩ (.slice A' n c')) := by
  have hn' : n = (T.parts ++ [r.xs]).length := by simp [hn]
  subst hn'
  obtain ⟨tag0, ht0⟩ := h.tg
  have ht := ht0.newer h 7
  generalize htag : tag2 tag0 W.heap.size 7 = tag at ht
  have hf1 : FrP (fun g => tag g = 7) W W1 := FrP.of_fr hf ht.t7
  have K1 := smc_keep (T := T) ht hf1
  have hA : ∀ g ∈ blk A', tag g = 7 := fun g hg => by
    rcases hb g hg with e | e
    · exact ht.t7 g e
    · rw [← htag]; exact tag2_new e
  have hbx : Box W1 f.s _ _ := K1 0 (by omega) (h.c 0)
  have hf2 := set_frp (W := W1) (i := 7) ht.t0 (.slice A' (T.parts ++ [r.xs]).length c')
  have ht1 : Tgs f W1 { v with pend := [r] } tag := ht.grow hf.size h.n0
  -- what was the list's kind is the parts' now
  have ht2 : Tgs f W1 { v with Aq := A', cq := c', rows := v.rows ++ [r], pend := [] } (fun g => if tag g = 9 then 8 else tag g) := by
    refine ⟨by simp [ht1.t0], by simp [ht1.t1], by simp [ht1.t2], by simp [ht1.t3], by simp [ht1.t4], fun g hg => by simp [ht1.t5 g hg], fun g hg => by simp [ht1.t6 g hg], fun g hg => by simp [hA g hg], fun r' hr hz g hg => ?_, fun r' hr => (by cases hr), fun g hg hlt => ht1.ge g hg ?_⟩
    · rcases List.mem_append.1 hr with hr | hr
      · simp [ht1.t8 r' hr hz g hg]
      · obtain rfl := List.mem_singleton.1 hr
        simp [ht1.t9 r' (by simp) g hg]
    · split at hlt <;> omega
  have hsz : W1.heap.size ≤ (W1.setCell ⟨f.s, 7, none⟩ (.slice A' (T.parts ++ [r.xs]).length c')).heap.size := hf2.size
  have hf3 : FrP (fun g => (fun g => if tag g = 9 then 8 else tag g) g = 0) W1 (W1.setCell ⟨f.s, 7, none⟩ (.slice A' (T.parts ++ [r.xs]).length c')) := set_frp (by simp [ht1.t0]) _
  have K2 : ∀ j, j ≠ 0 → SMc f W1 { v with Aq := A', cq := c', rows := v.rows ++ [r], pend := [] } { T with parts := T.parts ++ [r.xs] } j → SMc f (W1.setCell ⟨f.s, 7, none⟩ (.slice A' (T.parts ++ [r.xs]).length c')) { v with Aq := A', cq := c', rows := v.rows ++ [r], pend := [] } { T with parts := T.parts ++ [r.xs] } j := smc_keep ht2 hf3
  refine ⟨hbx, ⟨fun j => ?_, by show (v.rows ++ [r]).map _ = _; rw [List.map_append, show v.rows.map (·.xs) = T.parts from h.rw_]; rfl, ⟨_, ht2.grow hsz (Nat.le_trans h.n0 hf.size)⟩, Nat.le_trans h.n0 (Nat.le_trans hf.size hsz)⟩, (sm_frame ht h.n0 (by omega) hf1).trans ((sm_frame ht1 (Nat.le_trans h.n0 hf.size) (by omega) hf2))⟩
  match j with
  | 0 => exact hbx.put 7 (.slice A' (T.parts ++ [r.xs]).length c')
  | 1 => exact K2 1 (by omega) (K1 1 (by omega) (h.c 1))
  | 2 => exact K2 2 (by omega) (K1 2 (by omega) (h.c 2))
  | 3 => exact K2 3 (by omega) (K1 3 (by omega) (h.c 3))
  | 4 => exact K2 4 (by omega) (K1 4 (by omega) (h.c 4))
  | 5 => exact K2 5 (by omega) (K1 5 (by omega) (h.c 5))
  | 6 => exact K2 6 (by omega) (K1 6 (by omega) (h.c 6))
  | 7 => exact K2 7 (by omega) hs
  | 8 =>
    refine K2 8 (by omega) fun r' hr => ?_
    have hr : r' ∈ v.rows ++ [r] := hr
    rcases List.mem_append.1 hr with hr | hr
    · exact (K1 8 (by omega) (h.c 8)) r' hr
    · obtain rfl := List.mem_singleton.1 hr
      exact ((K1 9 (by omega) (h.c 9)) r' (by simp)).rd
  | 9 => exact K2 9 (by omega) (fun r' hr => by cases hr)
  | j + 10 => trivial

/-- the cells that a walk loads -/
theorem SM.cells {f : Fx} {W : World} {v : Vd} {T : MS} (h : SM f W v T) :
    W.cell? ⟨f.s, 0, none⟩ = some f.outV ∧ W.cell? ⟨f.s, 1, none⟩ = some (.slice (some ⟨f.to, 0, none⟩) f.n f.n) ∧ W.cell? ⟨f.s, 2, none⟩ = some (.slice (some ⟨f.tn, 0, none⟩) f.n f.n) ∧ W.cell? ⟨f.s, 3, none⟩ = some (.slice (some ⟨f.tl, 0, none⟩) f.n f.n) ∧ W.cell? ⟨f.s, 4, none⟩ = some (.slice (some ⟨f.tp, 0, none⟩) f.n f.n) ∧
    W.cell? ⟨f.s, 5, none⟩ = some (.slice v.Ap T.path.length v.cp) ∧ W.cell? ⟨f.s, 6, none⟩ = some (.slice v.As T.stack.length v.cs) ∧ W.cell? ⟨f.s, 7, none⟩ = some (.slice v.Aq T.parts.length v.cq) ∧ W.cell? ⟨f.s, 8, none⟩ = some (.int .i64 (T.count : Nat)) :=
  ⟨(sm_box h).cell 0, (sm_box h).cell 1, (sm_box h).cell 2, (sm_box h).cell 3, (sm_box h).cell 4, (sm_box h).cell 5, (sm_box h).cell 6, (sm_box h).cell 7, (sm_box h).cell 8⟩

theorem SM.drewN {f : Fx} {W : World} {v : Vd} {T : MS} (h : SM f W v T) (n : Nat) : SM f (W.drewN n) v T := h.on (((Fr.refl [] W).drewN n).all)

theorem SM.tried {f : Fx} {W : World} {v : Vd} {T : MS} (h : SM f W v T) {m : Nat} (hm : m < f.n) : W.cell? ⟨f.to, m, none⟩ = some (.int .i64 (T.tried m : Nat)) ∧ W.frozen? ⟨f.to, m, none⟩ = false :=
  let b : Box W f.to _ _ := h.c 1; ⟨(b.cell m).trans (iv_at _ hm), b.free m⟩
theorem SM.num {f : Fx} {W : World} {v : Vd} {T : MS} (h : SM f W v T) {m : Nat} (hm : m < f.n) : W.cell? ⟨f.tn, m, none⟩ = some (.int .i64 (T.num m : Nat)) ∧ W.frozen? ⟨f.tn, m, none⟩ = false :=
  let b : Box W f.tn _ _ := h.c 2; ⟨(b.cell m).trans (iv_at _ hm), b.free m⟩
theorem SM.low {f : Fx} {W : World} {v : Vd} {T : MS} (h : SM f W v T) {m : Nat} (hm : m < f.n) : W.cell? ⟨f.tl, m, none⟩ = some (.int .i64 (T.low m : Nat)) ∧ W.frozen? ⟨f.tl, m, none⟩ = false :=
  let b : Box W f.tl _ _ := h.c 3; ⟨(b.cell m).trans (iv_at _ hm), b.free m⟩
theorem SM.part {f : Fx} {W : World} {v : Vd} {T : MS} (h : SM f W v T) {m : Nat} (hm : m < f.n) : W.cell? ⟨f.tp, m, none⟩ = some (.int .i64 (T.part m)) ∧ W.frozen? ⟨f.tp, m, none⟩ = false :=
  let b : Box W f.tp _ _ := h.c 4; ⟨(b.cell m).trans (iv_at _ hm), b.free m⟩
theorem SM.free {f : Fx} {W : World} {v : Vd} {T : MS} (h : SM f W v T) (i : Nat) : W.frozen? ⟨f.s, i, none⟩ = false := (sm_box h).free i
end Go.Proofs.YtohdcmmkbblhkaaGreatDoor.tj

/-
  Memory: slices whose elements have several cells each.
-/
set_option linter.all false
namespace Go.Proofs.YtohdcmmkbblhkaaGreatDoor.mem
open Go.RowKit

/-- a slice of n elements of sz cells each: all its cells in a row -/
structure Sg (sz : Nat) (w : World) (e : TypeId) (A : Option Addr) (cap n : Nat) (cs : List Value) : Prop where
  len : cs.length = n * sz
  le : n ≤ cap
  max : cap ≤ maxLen
  nil : A = none → cap = 0
  ex : ∀ a, A = some a → a.spot = none ∧ ∃ cur, w.heap[a.block]? = some (.cells cur e (0, 0)) ∧ a.off + cap * sz ≤ cur.size ∧ ∀ j u, cs[j]? = some u → cur[a.off + j]? = some u

theorem Sg.new (sz : Nat) (w : World) (e : TypeId) : Sg sz w e none 0 0 [] := ⟨by simp, Nat.le_refl _, Nat.zero_le _, fun _ => rfl, fun a h => (by cases h)⟩

theorem Sg.lt {sz : Nat} {w : World} {e : TypeId} {A : Option Addr} {cap n : Nat} {cs : List Value} (h : Sg sz w e A cap n cs) : ∀ g ∈ blk A, g < w.heap.size := by
  intro g hg
  cases A with
  | none => cases hg
  | some a =>
    obtain ⟨_, cur, hc, _⟩ := h.ex a rfl
    simp only [blk, List.mem_singleton] at hg
    subst hg
    exact (Array.getElem?_eq_some_iff.1 hc).1

theorem Sg.kept {sz : Nat} {F : List Nat} {w w' : World} {e : TypeId} {A : Option Addr} {cap n : Nat} {cs : List Value} (h : Sg sz w e A cap n cs) (hf : Fr F w w') (hd : ∀ g ∈ blk A, g ∉ F) : Sg sz w' e A cap n cs := by
  refine ⟨h.len, h.le, h.max, h.nil, fun a ha => ?_⟩
  subst ha
  obtain ⟨hs, cur, hc, r⟩ := h.ex a rfl
  exact ⟨hs, cur, (hf.block _ (Array.getElem?_eq_some_iff.1 hc).1 (hd _ (by simp [blk]))).trans hc, r⟩

theorem Sg.alloc {sz : Nat} {w : World} {e : TypeId} {A : Option Addr} {cap n : Nat} {cs : List Value} (h : Sg sz w e A cap n cs) (o : Obj) : Sg sz (w.alloc o) e A cap n cs := h.kept ((Fr.refl [] w).alloc o) (by simp)

theorem Sg.rd {sz : Nat} {w : World} {e : TypeId} {A : Option Addr} {cap n : Nat} {cs : List Value} (h : Sg sz w e A cap n cs) (hsz : 0 < sz) : Rd w A cs := fun hz => by
  cases A with
  | none =>
    have h0 := h.nil rfl
    have h1 := h.le
    have h2 := h.len
    obtain rfl : n = 0 := by omega
    omega
  | some a =>
    obtain ⟨hs, cur, hc, hl, hx⟩ := h.ex a rfl
    obtain ⟨g, off, spot⟩ := a
    have hs : spot = none := hs
    subst hs
    refine ⟨g, off, rfl, (Array.getElem?_eq_some_iff.1 hc).1, fun j hj => ?_⟩
    rw [cell_of_row w g (off + j) cur e (0, 0) hc]
    exact hx j _ (List.getElem?_eq_getElem hj)

/-- 'append' of one element -/
theorem Sg.push {P : Program} {sz : Nat} {w : World} {e t ty : TypeId} {A : Option Addr} {cap n bytes : Nat} {cs us : List Value} {i : TypeInfo} {z : Value} (h : Sg sz w e A cap n cs) (ht : P.underlying t = some (.slice e)) (hi : P.info? e = some i) (hz : i.zero = some z) (hs : i.size = sz) (hb : i.bytes = bytes) (hzs : z.cells.size = sz)
    {ad : Addr} (hl : us.length = sz) (hu : ∀ j v, us[j]? = some v → w.cell? (ad.add j) = some v) (h1 : ∀ u ∈ us, u.oneCell' = true) (h63 : n + 1 ≤ 9223372036854775807) (hby : (n + 1) * bytes ≤ 140737488355328) :
    ∃ A' cap' w', (Builtin.append_ #[t, t] ty #[.slice A n cap, .slice (some ad) 1 1]).run P w = .ok (.slice A' (n + 1) cap') w' ∧ Sg sz w' e A' cap' (n + 1) (cs ++ us) ∧ Fr (blk A) w w' ∧ (blk A' = blk A ∨ blk A' = [w.heap.size]) := by
  have hsrc : Src P i.size t (.slice (some ad) 1 1) 1 us w := Src.ofSlice w ht ad 1 1 us (by rw [hs, hl]; simp) hu h1
  have hcl := h.len
  have hmul : (n + 1) * sz = n * sz + sz := by rw [Nat.add_mul, Nat.one_mul]
  have hlen' : (cs ++ us).length = (n + 1) * sz := by rw [List.length_append, hcl, hl, hmul]
  by_cases hroom : n + 1 ≤ cap
  · rcases A with _ | a
    · have := h.nil rfl; omega
    · obtain ⟨hsp, cur, hc, hle, hx⟩ := h.ex a rfl
      obtain ⟨g, off, spot⟩ := a
      have hsp : spot = none := hsp
      subst hsp
      have hle : off + cap * sz ≤ cur.size := hle
      have hc : w.heap[g]? = some (.cells cur e (0, 0)) := hc
      have hcap : (n + 1) * sz ≤ cap * sz := Nat.mul_le_mul_right _ hroom
      have hr := run_append_room_src (P := P) w t t ty e i ht hi g off n cap _ 1 us hsrc hroom (fun j hj => by
        rw [hs, cell_of_row w g _ cur e (0, 0) hc, Array.getElem?_eq_getElem (by omega)]; rfl) (fun j hj => by simp [World.frozen?, hc])
      rw [hs] at hr
      obtain ⟨cur', k1, k2, k3, k4⟩ := setCells_row g e us (off + n * sz) w cur hc (by omega)
      refine ⟨_, _, _, hr, ⟨hlen', hroom, h.max, fun hn => (by cases hn), fun a ha => ?_⟩, setCells_fr g us _ w, Or.inl rfl⟩
      cases ha
      refine ⟨rfl, cur', k1, by rw [k2]; exact hle, fun j u hu => ?_⟩
      rcases Nat.lt_or_ge j cs.length with hj | hj
      · rw [List.getElem?_append_left hj] at hu
        show cur'[off + j]? = _
        rw [k4 _ (Or.inl (by omega))]
        exact hx j u hu
      · rw [List.getElem?_append_right hj] at hu
        show cur'[off + j]? = _
        have := k3 _ u hu
        rwa [show off + n * sz + (j - cs.length) = off + j by omega] at this
  · have hold : (Builtin.firstCells i.size n (.slice A n cap)).run P w.drew = .ok cs.toArray w.drew := by
      rcases A with _ | a
      · have h0 := h.nil rfl
        have h2 := h.le
        obtain rfl : n = 0 := by omega
        obtain rfl : cs = [] := List.eq_nil_of_length_eq_zero (by omega)
        exact run_firstCells_none w.drew i.size 0 0 cap
      · obtain ⟨hsp, cur, hc, hle, hx⟩ := h.ex a rfl
        obtain ⟨g, off, spot⟩ := a
        have hsp : spot = none := hsp
        subst hsp
        exact run_firstCells_some w.drew i.size n ⟨g, off, none⟩ n cap cs (by rw [hs]; exact hcl) (fun j v hv => by
          have e1 : (⟨g, off, none⟩ : Addr).add j = ⟨g, off + j, none⟩ := by unfold Addr.add; split <;> simp_all
          rw [e1]
          show w.cell? _ = _
          rw [cell_of_row w g (off + j) cur e (0, 0) hc]
          exact hx j v hv)
    have hlen := h.le
    have hr := run_append_grow_src (P := P) w t t ty e i z ht hi hz A n cap cs hold _ 1 us hsrc (by omega) (by omega) (growslice_fits (by omega) (by rw [hb]; exact hby))
    have hge := grownCap_ge w (n + 1) cap e
    have hcm : grownCap w (n + 1) cap e ≤ maxLen := grownCap_le_maxLen w (n + 1) cap e (by unfold maxLen; omega)
    refine ⟨_, _, _, hr, ?_, (Fr.refl _ w).drew.alloc _, Or.inr rfl⟩
    refine ⟨hlen', hge, hcm, fun hn => (by cases hn), fun a ha => ?_⟩
    cases ha
    refine ⟨rfl, _, heap_alloc_new w.drew _, ?_, fun j v hv => ?_⟩
    · show 0 + _ ≤ _
      simp only [Array.size_append, List.size_toArray, hlen', size_zeroCells, hzs]
      rw [← Nat.add_mul, Nat.zero_add]
      exact Nat.mul_le_mul_right _ (by omega)
    · show (_ : Array Value)[0 + j]? = some v
      have hj := (List.getElem?_eq_some_iff.1 hv).1
      rw [Nat.zero_add, Array.getElem?_append_left (by simpa using hj)]
      simpa using hv

/-- 'append' of one element, at the operation -/
theorem wpList_row {P : Program} {sz : Nat} {w : World} {ops : Array Oper} {rest : List Oper} {o : Oper} {a : Act} {Q : Exit → Act → World → Prop} (hgd : o.guard = none) (s x : Operand) (t : TypeId)
    (ho : o.op = .call { callee := .builtin .append, args := #[s, x], argTypes := #[t, t] }) {e : TypeId} {A : Option Addr} {cap n bytes : Nat} {cs us : List Value} {i : TypeInfo} {z : Value} (h : Sg sz w e A cap n cs) (ht : P.underlying t = some (.slice e)) (hi : P.info? e = some i) (hz : i.zero = some z) (hs : i.size = sz) (hb : i.bytes = bytes) (hzs : z.cells.size = sz)
    {ad : Addr} (hes : a.eval s = .slice A n cap) (hex : a.eval x = .slice (some ad) 1 1) (hl : us.length = sz) (hu : ∀ j v, us[j]? = some v → w.cell? (ad.add j) = some v) (h1 : ∀ u ∈ us, u.oneCell' = true) (h63 : n + 1 ≤ 9223372036854775807) (hby : (n + 1) * bytes ≤ 140737488355328)
    (hK : ∀ A' cap' w', Sg sz w' e A' cap' (n + 1) (cs ++ us) → Fr (blk A) w w' → (blk A' = blk A ∨ blk A' = [w.heap.size]) → wpList P ops Q rest (a.put o.dst (.slice A' (n + 1) cap')) w') : wpList P ops Q (o :: rest) a w := by
  refine wpList_plain hgd fun K hK' => ?_
  obtain ⟨A', cap', w', hr, h2, h3, h4⟩ := h.push (ty := o.type) ht hi hz hs hb hzs hl hu h1 h63 hby
  unfold Oper.wp execOp
  simp only [ho, resolve, invoke, builtin, Sem.run_bind, Sem.run_pure, Result.andThen_ok, List.map_toArray, List.map_cons, List.map_nil, hes, hex, hr]
  exact hK' _ _ (hK A' cap' w' h2 h3 h4)

/-- three cells of a new block -/
theorem three_cells (w : World) (t : TypeId) (x y z : Value) : ∀ (j : Nat) (v : Value), [x, y, z][j]? = some v → (w.alloc (.cells #[x, y, z] t)).cell? ((⟨w.heap.size, 0, none⟩ : Addr).add j) = some v := by
  intro j v h
  have e1 : (⟨w.heap.size, 0, none⟩ : Addr).add j = ⟨w.heap.size, j, none⟩ := by unfold Addr.add; split <;> simp_all
  rw [e1, (Box.new w t #[x, y, z]).cell j]
  simpa using h
end Go.Proofs.YtohdcmmkbblhkaaGreatDoor.mem

/-
  Memory: an element of several cells appended, in a region that draws its order.
-/
set_option linter.all false
namespace Go.Proofs.YtohdcmmkbblhkaaGreatDoor.mem
open Go.RowKit

theorem step_row {P : Program} {sz : Nat} {w : World} {ops : Array Oper} {o : Oper} {a : Act} {K : Act → World → Prop} {Q : Exit → Act → World → Prop} {E : Prop} (hgd : o.guard = none) (s x : Operand) (t : TypeId)
    (ho : o.op = .call { callee := .builtin .append, args := #[s, x], argTypes := #[t, t] }) {e : TypeId} {A : Option Addr} {cap n bytes : Nat} {cs us : List Value} {i : TypeInfo} {z : Value} (h : Sg sz w e A cap n cs) (ht : P.underlying t = some (.slice e)) (hi : P.info? e = some i) (hz : i.zero = some z) (hs : i.size = sz) (hb : i.bytes = bytes) (hzs : z.cells.size = sz)
    {ad : Addr} (hes : a.eval s = .slice A n cap) (hex : a.eval x = .slice (some ad) 1 1) (hl : us.length = sz) (hu : ∀ j v, us[j]? = some v → w.cell? (ad.add j) = some v) (h1 : ∀ u ∈ us, u.oneCell' = true) (h63 : n + 1 ≤ 9223372036854775807) (hby : (n + 1) * bytes ≤ 140737488355328)
    (hK : ∀ A' cap' w', Sg sz w' e A' cap' (n + 1) (cs ++ us) → Fr (blk A) w w' → (blk A' = blk A ∨ blk A' = [w.heap.size]) → K (a.put o.dst (.slice A' (n + 1) cap')) w') :
    if Region.wanted o (yielded ops a.tmps) = true then Oper.wp P o a w K Q else E := by
  have hw : Region.wanted o (yielded ops a.tmps) = true := by simp [Region.wanted, hgd]
  rw [if_pos hw]
  obtain ⟨A', cap', w', hr, h2, h3, h4⟩ := h.push (ty := o.type) ht hi hz hs hb hzs hl hu h1 h63 hby
  unfold Oper.wp execOp
  simp only [ho, resolve, invoke, builtin, Sem.run_bind, Sem.run_pure, Result.andThen_ok, List.map_toArray, List.map_cons, List.map_nil, hes, hex, hr]
  exact hK A' cap' w' h2 h3 h4

theorem sg_drew {sz : Nat} {w : World} {e : TypeId} {A : Option Addr} {cap n : Nat} {cs : List Value} (h : Sg sz w e A cap n cs) : Sg sz w.drew e A cap n cs := ⟨h.len, h.le, h.max, h.nil, h.ex⟩

theorem two_cells (w : World) (t : TypeId) (x y : Value) : ∀ (j : Nat) (v : Value), [x, y][j]? = some v → (w.alloc (.cells #[x, y] t)).cell? ((⟨w.heap.size, 0, none⟩ : Addr).add j) = some v := by
  intro j v h
  have e1 : (⟨w.heap.size, 0, none⟩ : Addr).add j = ⟨w.heap.size, j, none⟩ := by unfold Addr.add; split <;> simp_all
  rw [e1, (Box.new w t #[x, y]).cell j]
  simpa using h
end Go.Proofs.YtohdcmmkbblhkaaGreatDoor.mem
