/-
  tarjan: the search in memory: its state, and what each change leaves.
-/
import Derived.Test.YtpdidgacmikllaaMem
import Derived.Test.YtpdidgacmikllaaTjU
namespace Go.Proofs.Ytpdidgacmikllaa.tj
open Go.RowKit Go.Proofs.Ytpdidgacmikllaa.mem

/-- but for blocks of a kind all is as it was -/
structure FrP (P : Nat → Prop) (w w' : World) : Prop where
  os : w'.os = w.os
  tape : w'.tape = w.tape
  output : w'.output = w.output
  size : w.heap.size ≤ w'.heap.size
  block : ∀ k, k < w.heap.size → ¬ P k → w'.heap[k]? = w.heap[k]?

theorem FrP.below {P : Nat → Prop} {w w' : World} {n : Nat} (h : FrP P w w') (hn : n ≤ w.heap.size) (hP : ∀ g, g < w.heap.size → P g → n ≤ g) : Below n w w' := ⟨h.os, h.tape, h.output, h.size, fun k hk => h.block k (by omega) (fun hp => by have := hP k (by omega) hp; omega)⟩
theorem FrP.of_fr {F : List Nat} {P : Nat → Prop} {w w' : World} (h : Fr F w w') (hF : ∀ g ∈ F, P g) : FrP P w w' := ⟨h.os, h.tape, h.output, h.size, fun k hk hn => h.block k hk (fun hm => hn (hF k hm))⟩
theorem FrP.of_below {P : Nat → Prop} {w w' : World} (h : Below w.heap.size w w') : FrP P w w' := ⟨h.os, h.tape, h.output, h.size, fun k hk _ => h.block k hk⟩
theorem FrP.box {P : Nat → Prop} {w w' : World} {g : Nat} {t : TypeId} {cs : Array Value} (h : FrP P w w') (hb : Box w g t cs) (hg : ¬ P g) : Box w' g t cs := (h.block g hb.lt hg).trans hb
theorem FrP.seg {P : Nat → Prop} {w w' : World} {e : TypeId} {A : Option Addr} {cap : Nat} {xs : List Value} (h : FrP P w w') (hs : Seg w e A cap xs) (hg : ∀ g ∈ blk A, ¬ P g) : Seg w' e A cap xs := by
  refine ⟨hs.1, hs.2.1, hs.2.2.1, fun a ha => ?_⟩
  subst ha
  obtain ⟨hsp, cur, hc, r⟩ := hs.2.2.2 a rfl
  exact ⟨hsp, cur, (h.block _ (Array.getElem?_eq_some_iff.1 hc).1 (hg _ (by simp [blk]))).trans hc, r⟩
theorem FrP.rd {P : Nat → Prop} {w w' : World} {A : Option Addr} {xs : List Value} (h : FrP P w w') (hs : Rd w A xs) (hg : ∀ g ∈ blk A, ¬ P g) : Rd w' A xs := fun hz => by
  obtain ⟨g, off, rfl, hl, hc⟩ := hs hz
  exact ⟨g, off, rfl, Nat.lt_of_lt_of_le hl h.size, fun j hj => (World.cell?_of_block (w := w) (h.block g hl (hg g (by simp [blk])))).trans (hc j hj)⟩

/-- numbers, one a member -/
def iv (f : Nat → Int) (n : Nat) : Array Value := ((List.range n).map fun i => Value.int .i64 (f i)).toArray
theorem iv_size (f : Nat → Int) (n : Nat) : (iv f n).size = n := by simp [iv]
theorem iv_at (f : Nat → Int) {n i : Nat} (h : i < n) : (iv f n)[i]? = some (.int .i64 (f i)) := by simp [iv, h]
theorem iv_set (f : Nat → Int) (n m : Nat) (v : Int) : (iv f n).setIfInBounds m (.int .i64 v) = iv (upd f m v) n := by
  apply Array.ext_getElem?
  intro i
  rw [Array.getElem?_setIfInBounds]
  by_cases hi : i < n
  · rw [iv_at _ hi, iv_at _ hi, iv_size]
    by_cases e : m = i
    · subst e
      simp [hi, upd_same]
    · rw [if_neg e, upd_ne _ _ (Ne.symm e)]
  · have e1 : (iv f n)[i]? = none := by rw [Array.getElem?_eq_none_iff, iv_size]; omega
    have e2 : (iv (upd f m v) n)[i]? = none := by rw [Array.getElem?_eq_none_iff, iv_size]; omega
    rw [e1, e2, iv_size]
    split
    · rw [if_neg (by omega)]
    · rfl

def natI (L : List Nat) : List Value := L.map fun n => .int .i64 (n : Nat)
theorem natI_len (L : List Nat) : (natI L).length = L.length := by simp [natI]
theorem natI_snoc (L : List Nat) (x : Nat) : natI L ++ [Value.int .i64 (x : Nat)] = natI (L ++ [x]) := by simp [natI]
theorem natI_at {L : List Nat} {i : Nat} (h : i < L.length) : (natI L)[i]? = some (.int .i64 ((L[i] : Nat) : Int)) := by simp [natI, h]

/-- a slice of numbers -/
structure Row where
  A : Option Addr
  cap : Nat
  xs : List Nat
def hdr (r : Row) : Value := .slice r.A r.xs.length r.cap

/-- where the search lies -/
structure Fx where
  n0 : Nat
  n : Nat
  s : Nat
  to : Nat
  tn : Nat
  tl : Nat
  tp : Nat
  outV : Value
structure Vd where
  Ap : Option Addr
  cp : Nat
  As : Option Addr
  cs : Nat
  Aq : Option Addr
  cq : Nat
  rows : List Row
  pend : List Row

/-- the search's state, as it lies in memory -/
structure MS where
  tried : Nat → Nat
  num : Nat → Nat
  low : Nat → Nat
  part : Nat → Int
  path : List Nat
  stack : List Nat
  parts : List (List Nat)
  count : Nat
def TS.ms (T : TS) : MS := ⟨T.tried, T.num, T.low, T.part, pth T.S, stk T.S, T.parts, T.count⟩

def SMc (f : Fx) (W : World) (v : Vd) (T : MS) : Nat → Prop
  | 0 => Box W f.s 56 #[f.outV, .slice (some ⟨f.to, 0, none⟩) f.n f.n, .slice (some ⟨f.tn, 0, none⟩) f.n f.n, .slice (some ⟨f.tl, 0, none⟩) f.n f.n, .slice (some ⟨f.tp, 0, none⟩) f.n f.n, .slice v.Ap (T.path).length v.cp, .slice v.As (T.stack).length v.cs, .slice v.Aq T.parts.length v.cq, .int .i64 (T.count : Nat)]
  | 1 => Box W f.to 3 (iv (fun i => (T.tried i : Nat)) f.n)
  | 2 => Box W f.tn 3 (iv (fun i => (T.num i : Nat)) f.n)
  | 3 => Box W f.tl 3 (iv (fun i => (T.low i : Nat)) f.n)
  | 4 => Box W f.tp 3 (iv T.part f.n)
  | 5 => Seg W 3 v.Ap v.cp (natI (T.path))
  | 6 => Seg W 3 v.As v.cs (natI (T.stack))
  | 7 => Seg W 32 v.Aq v.cq (v.rows.map hdr)
  | 8 => ∀ r ∈ v.rows, Rd W r.A (natI r.xs)
  | 9 => ∀ r ∈ v.pend, Seg W 3 r.A r.cap (natI r.xs)
  | _ => True

structure Tgs (f : Fx) (W : World) (v : Vd) (tag : Nat → Nat) : Prop where
  t0 : tag f.s = 0
  t1 : tag f.to = 1
  t2 : tag f.tn = 2
  t3 : tag f.tl = 3
  t4 : tag f.tp = 4
  t5 : ∀ g ∈ blk v.Ap, tag g = 5
  t6 : ∀ g ∈ blk v.As, tag g = 6
  t7 : ∀ g ∈ blk v.Aq, tag g = 7
  t8 : ∀ r ∈ v.rows, 0 < r.xs.length → ∀ g ∈ blk r.A, tag g = 8
  t9 : ∀ r ∈ v.pend, ∀ g ∈ blk r.A, tag g = 9
  ge : ∀ g, g < W.heap.size → tag g < 10 → f.n0 ≤ g

structure SM (f : Fx) (W : World) (v : Vd) (T : MS) : Prop where
  c : ∀ j, SMc f W v T j
  rw_ : v.rows.map (·.xs) = T.parts
  tg : ∃ tag, Tgs f W v tag
  n0 : f.n0 ≤ W.heap.size

theorem smc_keep {f : Fx} {W W' : World} {v : Vd} {T : MS} {tag : Nat → Nat} (ht : Tgs f W v tag) {k : Nat} (hf : FrP (fun g => tag g = k) W W') : ∀ j, j ≠ k → SMc f W v T j → SMc f W' v T j := by
  intro j hj h
  match j with
  | 0 => exact hf.box h (fun e => hj (ht.t0.symm.trans e))
  | 1 => exact hf.box h (fun e => hj (ht.t1.symm.trans e))
  | 2 => exact hf.box h (fun e => hj (ht.t2.symm.trans e))
  | 3 => exact hf.box h (fun e => hj (ht.t3.symm.trans e))
  | 4 => exact hf.box h (fun e => hj (ht.t4.symm.trans e))
  | 5 => exact hf.seg h (fun g hg e => hj ((ht.t5 g hg).symm.trans e))
  | 6 => exact hf.seg h (fun g hg e => hj ((ht.t6 g hg).symm.trans e))
  | 7 => exact hf.seg h (fun g hg e => hj ((ht.t7 g hg).symm.trans e))
  | 8 =>
    intro r hr hz
    exact hf.rd (h r hr) (fun g hg e => hj ((ht.t8 r hr (by rwa [natI_len] at hz) g hg).symm.trans e)) hz
  | 9 =>
    intro r hr
    exact hf.seg (h r hr) (fun g hg e => hj ((ht.t9 r hr g hg).symm.trans e))
  | j + 10 => trivial

theorem Tgs.grow {f : Fx} {W W' : World} {v : Vd} {tag : Nat → Nat} (h : Tgs f W v tag) (hs : W.heap.size ≤ W'.heap.size) (hn : f.n0 ≤ W.heap.size) : Tgs f W' v tag :=
  ⟨h.t0, h.t1, h.t2, h.t3, h.t4, h.t5, h.t6, h.t7, h.t8, h.t9, fun g hg hlt => by
    rcases Nat.lt_or_ge g W.heap.size with h1 | h1
    · exact h.ge g h1 hlt
    · omega⟩

/-- what a change leaves -/
theorem SM.on {f : Fx} {W W' : World} {v : Vd} {T : MS} (h : SM f W v T) (hb : Below W.heap.size W W') : SM f W' v T := by
  obtain ⟨tag, ht⟩ := h.tg
  exact ⟨fun j => smc_keep ht (k := j + 10) (FrP.of_below hb) j (by omega) (h.c j), h.rw_, ⟨tag, ht.grow hb.size h.n0⟩, Nat.le_trans h.n0 hb.size⟩

theorem SM.drew {f : Fx} {W : World} {v : Vd} {T : MS} (h : SM f W v T) : SM f W.drew v T := h.on ((Below.refl _ W).drew)

/-- the bounds that the search's blocks have -/
theorem sm_frame {f : Fx} {W W' : World} {v : Vd} {tag : Nat → Nat} (ht : Tgs f W v tag) (hn : f.n0 ≤ W.heap.size) {k : Nat} (hk : k < 10) (hf : FrP (fun g => tag g = k) W W') : Below f.n0 W W' :=
  hf.below hn (fun g hg e => ht.ge g hg (by omega))

theorem set_frp {W : World} {tag : Nat → Nat} {g i k : Nat} (hg : tag g = k) (u : Value) : FrP (fun g => tag g = k) W (W.setCell ⟨g, i, none⟩ u) :=
  FrP.of_fr (F := [g]) ((Fr.refl _ W).setCell (Or.inl (by simp)) u) (fun q hq => by rw [List.mem_singleton] at hq; subst hq; exact hg)

theorem iv_upd_nat (h : Nat → Nat) (n m v : Nat) : iv (upd (fun i => ((h i : Nat) : Int)) m (v : Int)) n = iv (fun i => ((upd h m v i : Nat) : Int)) n := by
  unfold iv
  congr 2
  funext i
  by_cases e : i = m
  · subst e; simp [upd_same]
  · simp [upd_ne _ _ e]

theorem SM.setTried {f : Fx} {W : World} {v : Vd} {T : MS} (h : SM f W v T) (m x : Nat) : SM f (W.setCell ⟨f.to, m, none⟩ (.int .i64 (x : Nat))) v { T with tried := upd T.tried m x } ∧ Below f.n0 W (W.setCell ⟨f.to, m, none⟩ (.int .i64 (x : Nat))) := by
  obtain ⟨tag, ht⟩ := h.tg
  have hf := set_frp (W := W) (i := m) ht.t1 (.int .i64 (x : Nat))
  have K := smc_keep (T := T) ht hf
  refine ⟨⟨fun j => ?_, h.rw_, ⟨tag, ht.grow hf.size h.n0⟩, Nat.le_trans h.n0 hf.size⟩, sm_frame ht h.n0 (by omega) hf⟩
  match j with
  | 0 => exact K 0 (by omega) (h.c 0)
  | 1 =>
    have := (show Box W f.to 3 _ from h.c 1).put m (.int .i64 (x : Nat))
    rw [iv_set, iv_upd_nat] at this
    exact this
  | 2 => exact K 2 (by omega) (h.c 2)
  | 3 => exact K 3 (by omega) (h.c 3)
  | 4 => exact K 4 (by omega) (h.c 4)
  | 5 => exact K 5 (by omega) (h.c 5)
  | 6 => exact K 6 (by omega) (h.c 6)
  | 7 => exact K 7 (by omega) (h.c 7)
  | 8 => exact K 8 (by omega) (h.c 8)
  | 9 => exact K 9 (by omega) (h.c 9)
  | j + 10 => trivial

theorem SM.setNum {f : Fx} {W : World} {v : Vd} {T : MS} (h : SM f W v T) (m x : Nat) : SM f (W.setCell ⟨f.tn, m, none⟩ (.int .i64 (x : Nat))) v { T with num := upd T.num m x } ∧ Below f.n0 W (W.setCell ⟨f.tn, m, none⟩ (.int .i64 (x : Nat))) := by
  obtain ⟨tag, ht⟩ := h.tg
  have hf := set_frp (W := W) (i := m) ht.t2 (.int .i64 (x : Nat))
  have K := smc_keep (T := T) ht hf
  refine ⟨⟨fun j => ?_, h.rw_, ⟨tag, ht.grow hf.size h.n0⟩, Nat.le_trans h.n0 hf.size⟩, sm_frame ht h.n0 (by omega) hf⟩
  match j with
  | 0 => exact K 0 (by omega) (h.c 0)
  | 1 => exact K 1 (by omega) (h.c 1)
  | 2 =>
    have := (show Box W f.tn 3 _ from h.c 2).put m (.int .i64 (x : Nat))
    rw [iv_set, iv_upd_nat] at this
    exact this
  | 3 => exact K 3 (by omega) (h.c 3)
  | 4 => exact K 4 (by omega) (h.c 4)
  | 5 => exact K 5 (by omega) (h.c 5)
  | 6 => exact K 6 (by omega) (h.c 6)
  | 7 => exact K 7 (by omega) (h.c 7)
  | 8 => exact K 8 (by omega) (h.c 8)
  | 9 => exact K 9 (by omega) (h.c 9)
  | j + 10 => trivial

theorem SM.setLow {f : Fx} {W : World} {v : Vd} {T : MS} (h : SM f W v T) (m x : Nat) : SM f (W.setCell ⟨f.tl, m, none⟩ (.int .i64 (x : Nat))) v { T with low := upd T.low m x } ∧ Below f.n0 W (W.setCell ⟨f.tl, m, none⟩ (.int .i64 (x : Nat))) := by
  obtain ⟨tag, ht⟩ := h.tg
  have hf := set_frp (W := W) (i := m) ht.t3 (.int .i64 (x : Nat))
  have K := smc_keep (T := T) ht hf
  refine ⟨⟨fun j => ?_, h.rw_, ⟨tag, ht.grow hf.size h.n0⟩, Nat.le_trans h.n0 hf.size⟩, sm_frame ht h.n0 (by omega) hf⟩
  match j with
  | 0 => exact K 0 (by omega) (h.c 0)
  | 1 => exact K 1 (by omega) (h.c 1)
  | 2 => exact K 2 (by omega) (h.c 2)
  | 3 =>
    have := (show Box W f.tl 3 _ from h.c 3).put m (.int .i64 (x : Nat))
    rw [iv_set, iv_upd_nat] at this
    exact this
  | 4 => exact K 4 (by omega) (h.c 4)
  | 5 => exact K 5 (by omega) (h.c 5)
  | 6 => exact K 6 (by omega) (h.c 6)
  | 7 => exact K 7 (by omega) (h.c 7)
  | 8 => exact K 8 (by omega) (h.c 8)
  | 9 => exact K 9 (by omega) (h.c 9)
  | j + 10 => trivial

theorem SM.setPart {f : Fx} {W : World} {v : Vd} {T : MS} (h : SM f W v T) (m : Nat) (x : Int) : SM f (W.setCell ⟨f.tp, m, none⟩ (.int .i64 x)) v { T with part := upd T.part m x } ∧ Below f.n0 W (W.setCell ⟨f.tp, m, none⟩ (.int .i64 x)) := by
  obtain ⟨tag, ht⟩ := h.tg
  have hf := set_frp (W := W) (i := m) ht.t4 (.int .i64 x)
  have K := smc_keep (T := T) ht hf
  refine ⟨⟨fun j => ?_, h.rw_, ⟨tag, ht.grow hf.size h.n0⟩, Nat.le_trans h.n0 hf.size⟩, sm_frame ht h.n0 (by omega) hf⟩
  match j with
  | 0 => exact K 0 (by omega) (h.c 0)
  | 1 => exact K 1 (by omega) (h.c 1)
  | 2 => exact K 2 (by omega) (h.c 2)
  | 3 => exact K 3 (by omega) (h.c 3)
  | 4 =>
    have := (show Box W f.tp 3 _ from h.c 4).put m (.int .i64 x)
    rw [iv_set] at this
    exact this
  | 5 => exact K 5 (by omega) (h.c 5)
  | 6 => exact K 6 (by omega) (h.c 6)
  | 7 => exact K 7 (by omega) (h.c 7)
  | 8 => exact K 8 (by omega) (h.c 8)
  | 9 => exact K 9 (by omega) (h.c 9)
  | j + 10 => trivial

/-- a longer tag: what is new is of a kind -/
def tag2 (tag : Nat → Nat) (n k : Nat) (g : Nat) : Nat := if n ≤ g then k else tag g
theorem tag2_old {tag : Nat → Nat} {n k g : Nat} (h : g < n) : tag2 tag n k g = tag g := if_neg (by omega)
theorem tag2_new {tag : Nat → Nat} {n k g : Nat} (h : n ≤ g) : tag2 tag n k g = k := if_pos h

theorem SM.lts {f : Fx} {W : World} {v : Vd} {T : MS} (h : SM f W v T) : f.s < W.heap.size ∧ f.to < W.heap.size ∧ f.tn < W.heap.size ∧ f.tl < W.heap.size ∧ f.tp < W.heap.size ∧ (∀ g ∈ blk v.Ap, g < W.heap.size) ∧ (∀ g ∈ blk v.As, g < W.heap.size) ∧ (∀ g ∈ blk v.Aq, g < W.heap.size) ∧ (∀ r ∈ v.rows, 0 < r.xs.length → ∀ g ∈ blk r.A, g < W.heap.size) ∧ ∀ r ∈ v.pend, ∀ g ∈ blk r.A, g < W.heap.size :=
  ⟨(show Box W f.s _ _ from h.c 0).lt, (show Box W f.to _ _ from h.c 1).lt, (show Box W f.tn _ _ from h.c 2).lt, (show Box W f.tl _ _ from h.c 3).lt, (show Box W f.tp _ _ from h.c 4).lt, (show Seg W _ _ _ _ from h.c 5).lt, (show Seg W _ _ _ _ from h.c 6).lt, (show Seg W _ _ _ _ from h.c 7).lt, fun r hr hz g hg => by
    obtain ⟨g', off, e, hl, _⟩ := (show ∀ r ∈ v.rows, Rd W r.A (natI r.xs) from h.c 8) r hr (by rwa [natI_len])
    rw [e] at hg
    simp only [blk, List.mem_singleton] at hg
    omega, fun r hr => ((show ∀ r ∈ v.pend, Seg W 3 r.A r.cap (natI r.xs) from h.c 9) r hr).lt⟩

/-- the tags, where what is new from here on is of a kind -/
theorem Tgs.newer {f : Fx} {W : World} {v : Vd} {tag : Nat → Nat} {T : MS} (h : Tgs f W v tag) (hs : SM f W v T) (k : Nat) : Tgs f W v (tag2 tag W.heap.size k) := by
  obtain ⟨l0, l1, l2, l3, l4, l5, l6, l7, l8, l9⟩ := hs.lts
  refine ⟨by rw [tag2_old l0]; exact h.t0, by rw [tag2_old l1]; exact h.t1, by rw [tag2_old l2]; exact h.t2, by rw [tag2_old l3]; exact h.t3, by rw [tag2_old l4]; exact h.t4, fun g hg => by rw [tag2_old (l5 g hg)]; exact h.t5 g hg, fun g hg => by rw [tag2_old (l6 g hg)]; exact h.t6 g hg, fun g hg => by rw [tag2_old (l7 g hg)]; exact h.t7 g hg, fun r hr hz g hg => by rw [tag2_old (l8 r hr hz g hg)]; exact h.t8 r hr hz g hg, fun r hr g hg => by rw [tag2_old (l9 r hr g hg)]; exact h.t9 r hr g hg, fun g hg hlt => ?_⟩
  rw [tag2_old hg] at hlt
  exact h.ge g hg hlt

theorem sm_box {f : Fx} {W : World} {v : Vd} {T : MS} (h : SM f W v T) : Box W f.s 56 #[f.outV, .slice (some ⟨f.to, 0, none⟩) f.n f.n, .slice (some ⟨f.tn, 0, none⟩) f.n f.n, .slice (some ⟨f.tl, 0, none⟩) f.n f.n, .slice (some ⟨f.tp, 0, none⟩) f.n f.n, .slice v.Ap T.path.length v.cp, .slice v.As T.stack.length v.cs, .slice v.Aq T.parts.length v.cq, .int .i64 (T.count : Nat)] := h.c 0

theorem SM.setCount {f : Fx} {W : World} {v : Vd} {T : MS} (h : SM f W v T) (x : Nat) : SM f (W.setCell ⟨f.s, 8, none⟩ (.int .i64 (x : Nat))) v { T with count := x } ∧ Below f.n0 W (W.setCell ⟨f.s, 8, none⟩ (.int .i64 (x : Nat))) := by
  obtain ⟨tag, ht⟩ := h.tg
  have hf := set_frp (W := W) (i := 8) ht.t0 (.int .i64 (x : Nat))
  have K := smc_keep (T := T) ht hf
  refine ⟨⟨fun j => ?_, h.rw_, ⟨tag, ht.grow hf.size h.n0⟩, Nat.le_trans h.n0 hf.size⟩, sm_frame ht h.n0 (by omega) hf⟩
  match j with
  | 0 => exact (sm_box h).put 8 (.int .i64 (x : Nat))
  | 1 => exact K 1 (by omega) (h.c 1)
  | 2 => exact K 2 (by omega) (h.c 2)
  | 3 => exact K 3 (by omega) (h.c 3)
  | 4 => exact K 4 (by omega) (h.c 4)
  | 5 => exact K 5 (by omega) (h.c 5)
  | 6 => exact K 6 (by omega) (h.c 6)
  | 7 => exact K 7 (by omega) (h.c 7)
  | 8 => exact K 8 (by omega) (h.c 8)
  | 9 => exact K 9 (by omega) (h.c 9)
  | j + 10 => trivial

/-- a store of a slice's header: the path's -/
theorem SM.putPath {f : Fx} {W W1 : World} {v : Vd} {T : MS} (h : SM f W v T) {A' : Option Addr} {c' : Nat} {p' : List Nat} {n : Nat} (hn : n = p'.length) (hs : Seg W1 3 A' c' (natI p')) (hf : Fr (blk v.Ap) W W1) (hb : ∀ g ∈ blk A', g ∈ blk v.Ap ∨ W.heap.size ≤ g) :
    Box W1 f.s 56 #[f.outV, .slice (some ⟨f.to, 0, none⟩) f.n f.n, .slice (some ⟨f.tn, 0, none⟩) f.n f.n, .slice (some ⟨f.tl, 0, none⟩) f.n f.n, .slice (some ⟨f.tp, 0, none⟩) f.n f.n, .slice v.Ap T.path.length v.cp, .slice v.As T.stack.length v.cs, .slice v.Aq T.parts.length v.cq, .int .i64 (T.count : Nat)] ∧
    SM f (W1.setCell ⟨f.s, 5, none⟩ (.slice A' n c')) { v with Ap := A', cp := c' } { T with path := p' } ∧ Below f.n0 W (W1.setCell ⟨f.s, 5, none⟩ (.slice A' n c')) := by
  subst hn
  obtain ⟨tag0, ht0⟩ := h.tg
  have ht := ht0.newer h 5
  generalize htag : tag2 tag0 W.heap.size 5 = tag at ht
  have hf1 : FrP (fun g => tag g = 5) W W1 := FrP.of_fr hf ht.t5
  have K1 := smc_keep (T := T) ht hf1
  have hA : ∀ g ∈ blk A', tag g = 5 := fun g hg => by
    rcases hb g hg with e | e
    · exact ht.t5 g e
    · rw [← htag]; exact tag2_new e
  have hbx : Box W1 f.s _ _ := K1 0 (by omega) (h.c 0)
  have hf2 := set_frp (W := W1) (i := 5) ht.t0 (.slice A' p'.length c')
  have ht1 : Tgs f W1 v tag := ht.grow hf.size h.n0
  have K2 : ∀ j, j ≠ 0 → SMc f W1 { v with Ap := A', cp := c' } { T with path := p' } j → SMc f (W1.setCell ⟨f.s, 5, none⟩ (.slice A' p'.length c')) { v with Ap := A', cp := c' } { T with path := p' } j :=
    smc_keep (v := { v with Ap := A', cp := c' }) (tag := tag) ⟨ht1.t0, ht1.t1, ht1.t2, ht1.t3, ht1.t4, hA, ht1.t6, ht1.t7, ht1.t8, ht1.t9, ht1.ge⟩ hf2
  have hsz : W1.heap.size ≤ (W1.setCell ⟨f.s, 5, none⟩ (.slice A' p'.length c')).heap.size := hf2.size
  refine ⟨hbx, ⟨fun j => ?_, h.rw_, ⟨tag, ht1.t0, ht1.t1, ht1.t2, ht1.t3, ht1.t4, hA, ht1.t6, ht1.t7, ht1.t8, ht1.t9, (ht1.grow hsz (Nat.le_trans h.n0 hf.size)).ge⟩, Nat.le_trans h.n0 (Nat.le_trans hf.size hsz)⟩, (sm_frame ht h.n0 (by omega) hf1).trans ((sm_frame ht1 (Nat.le_trans h.n0 hf.size) (by omega) hf2))⟩
  match j with
  | 0 => exact hbx.put 5 (.slice A' p'.length c')
  | 1 => exact K2 1 (by omega) (K1 1 (by omega) (h.c 1))
  | 2 => exact K2 2 (by omega) (K1 2 (by omega) (h.c 2))
  | 3 => exact K2 3 (by omega) (K1 3 (by omega) (h.c 3))
  | 4 => exact K2 4 (by omega) (K1 4 (by omega) (h.c 4))
  | 5 => exact K2 5 (by omega) hs
  | 6 => exact K2 6 (by omega) (K1 6 (by omega) (h.c 6))
  | 7 => exact K2 7 (by omega) (K1 7 (by omega) (h.c 7))
  | 8 => exact K2 8 (by omega) (K1 8 (by omega) (h.c 8))
  | 9 => exact K2 9 (by omega) (K1 9 (by omega) (h.c 9))
  | j + 10 => trivial
/-- a store of a slice's header: the stack's -/
theorem SM.putStack {f : Fx} {W W1 : World} {v : Vd} {T : MS} (h : SM f W v T) {A' : Option Addr} {c' : Nat} {p' : List Nat} {n : Nat} (hn : n = p'.length) (hs : Seg W1 3 A' c' (natI p')) (hf : Fr (blk v.As) W W1) (hb : ∀ g ∈ blk A', g ∈ blk v.As ∨ W.heap.size ≤ g) :
    Box W1 f.s 56 #[f.outV, .slice (some ⟨f.to, 0, none⟩) f.n f.n, .slice (some ⟨f.tn, 0, none⟩) f.n f.n, .slice (some ⟨f.tl, 0, none⟩) f.n f.n, .slice (some ⟨f.tp, 0, none⟩) f.n f.n, .slice v.Ap T.path.length v.cp, .slice v.As T.stack.length v.cs, .slice v.Aq T.parts.length v.cq, .int .i64 (T.count : Nat)] ∧
    SM f (W1.setCell ⟨f.s, 6, none⟩ (.slice A' n c')) { v with As := A', cs := c' } { T with stack := p' } ∧ Below f.n0 W (W1.setCell ⟨f.s, 6, none⟩ (.slice A' n c')) := by
  subst hn
  obtain ⟨tag0, ht0⟩ := h.tg
  have ht := ht0.newer h 6
  generalize htag : tag2 tag0 W.heap.size 6 = tag at ht
  have hf1 : FrP (fun g => tag g = 6) W W1 := FrP.of_fr hf ht.t6
  have K1 := smc_keep (T := T) ht hf1
  have hA : ∀ g ∈ blk A', tag g = 6 := fun g hg => by
    rcases hb g hg with e | e
    · exact ht.t6 g e
    · rw [← htag]; exact tag2_new e
  have hbx : Box W1 f.s _ _ := K1 0 (by omega) (h.c 0)
  have hf2 := set_frp (W := W1) (i := 6) ht.t0 (.slice A' p'.length c')
  have ht1 : Tgs f W1 v tag := ht.grow hf.size h.n0
  have K2 : ∀ j, j ≠ 0 → SMc f W1 { v with As := A', cs := c' } { T with stack := p' } j → SMc f (W1.setCell ⟨f.s, 6, none⟩ (.slice A' p'.length c')) { v with As := A', cs := c' } { T with stack := p' } j :=
    smc_keep (v := { v with As := A', cs := c' }) (tag := tag) ⟨ht1.t0, ht1.t1, ht1.t2, ht1.t3, ht1.t4, ht1.t5, hA, ht1.t7, ht1.t8, ht1.t9, ht1.ge⟩ hf2
  have hsz : W1.heap.size ≤ (W1.setCell ⟨f.s, 6, none⟩ (.slice A' p'.length c')).heap.size := hf2.size
  refine ⟨hbx, ⟨fun j => ?_, h.rw_, ⟨tag, ht1.t0, ht1.t1, ht1.t2, ht1.t3, ht1.t4, ht1.t5, hA, ht1.t7, ht1.t8, ht1.t9, (ht1.grow hsz (Nat.le_trans h.n0 hf.size)).ge⟩, Nat.le_trans h.n0 (Nat.le_trans hf.size hsz)⟩, (sm_frame ht h.n0 (by omega) hf1).trans ((sm_frame ht1 (Nat.le_trans h.n0 hf.size) (by omega) hf2))⟩
  match j with
  | 0 => exact hbx.put 6 (.slice A' p'.length c')
  | 1 => exact K2 1 (by omega) (K1 1 (by omega) (h.c 1))
  | 2 => exact K2 2 (by omega) (K1 2 (by omega) (h.c 2))
  | 3 => exact K2 3 (by omega) (K1 3 (by omega) (h.c 3))
  | 4 => exact K2 4 (by omega) (K1 4 (by omega) (h.c 4))
  | 5 => exact K2 5 (by omega) (K1 5 (by omega) (h.c 5))
  | 6 => exact K2 6 (by omega) hs
  | 7 => exact K2 7 (by omega) (K1 7 (by omega) (h.c 7))
  | 8 => exact K2 8 (by omega) (K1 8 (by omega) (h.c 8))
  | 9 => exact K2 9 (by omega) (K1 9 (by omega) (h.c 9))
  | j + 10 => trivial
end Go.Proofs.Ytpdidgacmikllaa.tj
