/-
  Bits: pairs: plain words in memory.
-/
import Derived.Test.YtnjaadcbpkbjbaaDoorBtC
import Derived.RangeFuncNested
import Derived.RangeFuncBound
import Derived.RangeFuncCalls
import Derived.RangeFuncLeaves
import Derived.RangeFuncFrom
import Derived.Shelf.Abstract
import Derived.Shelf.RegionOpen
import Derived.OwnWalkIn
import Derived.TacticsInMore
import Derived.LoopNIn
import Derived.LoopIn
import Derived.BigQuiet
namespace Go.Proofs.YtnjaadcbpkbjbaaDoor.bt
open Go.RowKit Go.Shelf Go.Sort Go.Proofs.YtnjaadcbpkbjbaaDoor.mem

set_option maxRecDepth 100000 in
theorem BA.tail {w : World} {A : Option Addr} {cap : Nat} {x : Blk} {r : List Blk} (h : BA w A cap (x :: r)) :
    ∃ A' cap', (∀ W, (Instr.slice 24 (.slice A (r.length + 1) cap) (some (.int .i64 1)) none none).run Tryd.prog W = .ok (.slice A' r.length cap') W) ∧ blk A' = blk A ∧ ∀ W, BA W A cap (x :: r) → BA W A' cap' r := by
  obtain ⟨b, off, rfl, _⟩ := h.at_ (i := 0) (by simp)
  have hcap : r.length + 1 ≤ cap := by have := h.sg.le; simpa using this
  have hs : ∀ W, (sizeOf (Tryd.prog.elem 24)).run Tryd.prog W = .ok 2 W := fun W => by kernel_rfl
  refine ⟨if cap = 1 then some ⟨b, off, none⟩ else some ⟨b, off + 2, none⟩, cap - 1, fun W => ?_, by split <;> rfl, fun W hW => ?_⟩
  · rw [run_slice_l W 24 _ _ _ Tryd.underlying24 .i64 1 (by omega) (by omega), hs, Result.andThen_ok]
    unfold sliced
    by_cases h0 : cap = 1
    · rw [if_pos h0, if_pos (by show cap = (1 : Int).toNat; omega)]
      simp
    · rw [if_neg h0, if_neg (by show ¬ cap = (1 : Int).toNat; omega)]
      simp [Addr.add]
  · have hf := hW.few
    simp only [List.length_cons] at hf
    have hm := hW.sg.max
    refine ⟨⟨blks_len r, by omega, by omega, fun hn => (by split at hn <;> cases hn), fun a ha => ?_⟩, hW.ok.tail, by omega, fun y hy => hW.small y (List.mem_cons_of_mem _ hy)⟩
    obtain ⟨_, cur, hc, h1, h2⟩ := hW.sg.ex _ rfl
    by_cases h0 : cap = 1
    · rw [if_pos h0] at ha
      cases ha
      refine ⟨rfl, cur, hc, by show off + (cap - 1) * 2 ≤ _; have : off + cap * 2 ≤ cur.size := h1; omega, fun j u hu => ?_⟩
      have := (List.getElem?_eq_some_iff.1 hu).1
      rw [blks_len] at this
      omega
    · rw [if_neg h0] at ha
      cases ha
      refine ⟨rfl, cur, hc, by show off + 2 + (cap - 1) * 2 ≤ _; have : off + cap * 2 ≤ cur.size := h1; omega, fun j u hu => ?_⟩
      have := h2 (j + 1 + 1) u hu
      rw [show off + 2 + j = off + (j + 1 + 1) by omega]
      exact this

theorem BA.head {w : World} {A : Option Addr} {cap : Nat} {x : Blk} {r : List Blk} (h : BA w A cap (x :: r)) :
    ∃ b off, A = some ⟨b, off, none⟩ ∧ b < w.heap.size ∧ w.cell? ⟨b, off, none⟩ = some (.int .i64 (x.1 : Nat)) ∧ w.cell? ⟨b, off + 1, none⟩ = some (.int .u64 (x.2 : Nat)) := by
  obtain ⟨b, off, rfl, hl, h1, h2⟩ := h.at_ (i := 0) (by simp)
  rw [Nat.zero_mul, Nat.add_zero] at h1 h2
  exact ⟨b, off, rfl, hl, h1, h2⟩

theorem bits_andNot_u64_nat (a b : Nat) (ha : a < 18446744073709551616) (hb : b < 18446744073709551616) :
    bits .andNot .u64 (a : Int) (b : Int) = ((a &&& (18446744073709551615 - b) : Nat) : Int) := by
  have hx : a &&& (18446744073709551615 - b) < 2 ^ 64 := Nat.and_lt_two_pow _ (by omega)
  have h1 : (BitVec.ofInt 64 (a : Int)).toNat = a := by
    rw [BitVec.ofInt_natCast, BitVec.toNat_ofNat]; exact Nat.mod_eq_of_lt (by omega)
  have h2 : (BitVec.ofInt 64 (b : Int)).toNat = b := by
    rw [BitVec.ofInt_natCast, BitVec.toNat_ofNat]; exact Nat.mod_eq_of_lt (by omega)
  show IntKind.u64.wrap ((BitVec.ofInt 64 (a : Int) &&& ~~~BitVec.ofInt 64 (b : Int)).toNat : Int) = _
  rw [BitVec.toNat_and, BitVec.toNat_not, h1, h2, IntKind.wrap_u64, show 2 ^ 64 - 1 - b = 18446744073709551615 - b by omega]
  omega

theorem not_bit {b i : Nat} (hb : b < 2 ^ 64) (hi : i < 64) : (18446744073709551615 - b).testBit i = !b.testBit i := by
  have := Nat.testBit_two_pow_sub_succ (n := 64) (x := b) hb i
  rw [show 2 ^ 64 - (b + 1) = 18446744073709551615 - b by omega] at this
  rw [this]
  simp [hi]

theorem grown_of {w w' : World} (h : Below w.heap.size w w') : w.grownBy w' none := ⟨h.os, h.tape, h.output, h.size, fun k hk _ => h.block k hk⟩

/-- what a round keeps, as a frame -/
theorem fr_of {n : Nat} {W W' : World} (h : Below n W W') : Fr ((List.range W.heap.size).filter (n ≤ ·)) W W' := by
  refine ⟨h.os, h.tape, h.output, h.size, fun i hi hn => h.block i ?_⟩
  rcases Nat.lt_or_ge i n with h1 | h1
  · exact h1
  · exact absurd (List.mem_filter.2 ⟨List.mem_range.2 hi, by simpa using h1⟩) hn
theorem BA.keptB {n : Nat} {w w' : World} {A : Option Addr} {cap : Nat} {B : List Blk} (h : BA w A cap B) (hb : Below n w w') (hd : ∀ g ∈ blk A, g < n) : BA w' A cap B :=
  h.kept (fr_of hb) (fun g hg hm => by
    have := (List.mem_filter.1 hm).2
    have := hd g hg
    simp at *
    omega)

/-- the two blocks of a round of pairs -/
structure PX (wr W : World) (x y : Blk) : Prop where
  bx : Box W wr.heap.size 53 #[.int .i64 (x.1 : Nat), .int .u64 (x.2 : Nat)]
  by_ : Box W (wr.heap.size + 1) 53 #[.int .i64 (y.1 : Nat), .int .u64 (y.2 : Nat)]
  bel : Below wr.heap.size wr W

theorem px_new (wr : World) : PX wr ((wr.alloc (.cells #[.int .i64 0, .int .u64 0] 53)).alloc (.cells #[.int .i64 0, .int .u64 0] 53)) (0, 0) (0, 0) := by
  refine ⟨(Box.new wr 53 #[.int .i64 0, .int .u64 0]).kept ((Fr.refl [] _).alloc _) (by simp), ?_, ((Below.refl _ wr).alloc (Nat.le_refl _) _).alloc (by simp) _⟩
  have := Box.new (wr.alloc (.cells #[.int .i64 0, .int .u64 0] 53)) 53 #[.int .i64 0, .int .u64 0]
  rwa [World.size_alloc] at this
theorem PX.drewN {wr W : World} {x y : Blk} (h : PX wr W x y) (n : Nat) : PX wr (W.drewN n) x y := by
  have hf : Fr [] W (W.drewN n) := (Fr.refl [] W).drewN n
  exact ⟨h.bx.kept hf (by simp), h.by_.kept hf (by simp), h.bel.trans (hf.below (by simp) h.bel.size)⟩
theorem PX.drew {wr W : World} {x y : Blk} (h : PX wr W x y) : PX wr W.drew x y := ⟨h.bx, h.by_, Below.drew h.bel⟩
theorem PX.cells {wr W : World} {x y : Blk} (h : PX wr W x y) : (W.cell? ⟨wr.heap.size, 0, none⟩ = some (.int .i64 (x.1 : Nat)) ∧ W.cell? ⟨wr.heap.size, 1, none⟩ = some (.int .u64 (x.2 : Nat)) ∧ W.cell? ⟨wr.heap.size + 1, 0, none⟩ = some (.int .i64 (y.1 : Nat)) ∧ W.cell? ⟨wr.heap.size + 1, 1, none⟩ = some (.int .u64 (y.2 : Nat))) ∧
    W.frozen? ⟨wr.heap.size, 0, none⟩ = false ∧ W.frozen? ⟨wr.heap.size, 1, none⟩ = false ∧ W.frozen? ⟨wr.heap.size + 1, 0, none⟩ = false ∧ W.frozen? ⟨wr.heap.size + 1, 1, none⟩ = false :=
  ⟨⟨h.bx.cell 0, h.bx.cell 1, h.by_.cell 0, h.by_.cell 1⟩, h.bx.free 0, h.bx.free 1, h.by_.free 0, h.by_.free 1⟩
theorem PX.old {wr W : World} {x y : Blk} (h : PX wr W x y) {a : Addr} (ha : a.block < wr.heap.size) {v : Value} (hv : wr.cell? a = some v) : W.cell? a = some v := (World.cell?_of_block (h.bel.block _ ha)).trans hv

theorem PX.set {wr W : World} {x y x' y' : Blk} {p : Addr} {v : Value} (h : PX wr W x y) (hp : wr.heap.size ≤ p.block) (hx : Box (W.setCell p v) wr.heap.size 53 #[.int .i64 (x'.1 : Nat), .int .u64 (x'.2 : Nat)]) (hy : Box (W.setCell p v) (wr.heap.size + 1) 53 #[.int .i64 (y'.1 : Nat), .int .u64 (y'.2 : Nat)]) : PX wr (W.setCell p v) x' y' :=
  ⟨hx, hy, h.bel.trans (((Fr.refl [p.block] W).setCell (Or.inl (by simp)) v).below (by simpa using hp) h.bel.size)⟩
theorem PX.x0 {wr W : World} {x y : Blk} (h : PX wr W x y) (a : Nat) : PX wr (W.setCell ⟨wr.heap.size, 0, none⟩ (.int .i64 (a : Nat))) (a, x.2) y :=
  h.set (Nat.le_refl _) (h.bx.put 0 _) (h.by_.kept ((Fr.refl [wr.heap.size] W).setCell (Or.inl (by simp)) _) (by simp))
theorem PX.x1 {wr W : World} {x y : Blk} (h : PX wr W x y) (a : Nat) : PX wr (W.setCell ⟨wr.heap.size, 1, none⟩ (.int .u64 (a : Nat))) (x.1, a) y :=
  h.set (Nat.le_refl _) (h.bx.put 1 _) (h.by_.kept ((Fr.refl [wr.heap.size] W).setCell (Or.inl (by simp)) _) (by simp))
theorem PX.y0 {wr W : World} {x y : Blk} (h : PX wr W x y) (a : Nat) : PX wr (W.setCell ⟨wr.heap.size + 1, 0, none⟩ (.int .i64 (a : Nat))) x (a, y.2) :=
  h.set (by simp) (h.bx.kept ((Fr.refl [wr.heap.size + 1] W).setCell (Or.inl (by simp)) _) (by simp)) (h.by_.put 0 _)
theorem PX.y1 {wr W : World} {x y : Blk} (h : PX wr W x y) (a : Nat) : PX wr (W.setCell ⟨wr.heap.size + 1, 1, none⟩ (.int .u64 (a : Nat))) x (y.1, a) :=
  h.set (by simp) (h.bx.kept ((Fr.refl [wr.heap.size + 1] W).setCell (Or.inl (by simp)) _) (by simp)) (h.by_.put 1 _)
theorem PX.putX {wr W : World} {x y : Blk} (h : PX wr W x y) (a b : Nat) : PX wr ((W.setCell ⟨wr.heap.size, 0, none⟩ (.int .i64 (a : Nat))).setCell ⟨wr.heap.size, 1, none⟩ (.int .u64 (b : Nat))) (a, b) y := (h.x0 a).x1 b
theorem PX.putY {wr W : World} {x y : Blk} (h : PX wr W x y) (a b : Nat) : PX wr ((W.setCell ⟨wr.heap.size + 1, 0, none⟩ (.int .i64 (a : Nat))).setCell ⟨wr.heap.size + 1, 1, none⟩ (.int .u64 (b : Nat))) x (a, b) := (h.y0 a).y1 b
theorem PX.atX {wr W : World} {x y : Blk} (h : PX wr W x y) (a : Nat) : PX wr (W.setCell ⟨wr.heap.size, 0, none⟩ (.int .i64 (a : Nat))) (a, x.2) y := h.x0 a
theorem PX.atY {wr W : World} {x y : Blk} (h : PX wr W x y) (a : Nat) : PX wr (W.setCell ⟨wr.heap.size + 1, 0, none⟩ (.int .i64 (a : Nat))) x (a, y.2) := h.y0 a

abbrev enc2 (p : Blk × Blk) : Array Value := #[.agg #[.int .i64 (p.1.1 : Nat), .int .u64 (p.1.2 : Nat)], .agg #[.int .i64 (p.2.1 : Nat), .int .u64 (p.2.2 : Nat)]]
def slen : Value → Nat | .slice _ n _ => n | _ => 0

attribute [local go_sem] Oper.semAt_some

set_option maxRecDepth 100000 in
set_option maxHeartbeats 2000000 in
theorem pairs1_in (n : Nat) (hn : 1 ≤ n) (l n₀ ga gb : Nat) (A A2 : Option Addr) (cap cap2 : Nat) (B C : List Blk) (J Jx : List (Blk × Blk) → World → Prop)
    (W : World) (hn₀ : n₀ ≤ W.heap.size) (hJ : AbidesFrom W.heap.size J)
    (hY : ∀ pre x W, J pre W → pre.length < (prs B C).length → YieldAt Fence.wide (n - 1) Tryd.prog l (enc2 x) W fun e W' =>
      (e = .returned (.bool true) ∧ J (pre ++ [x]) W' ∧ Below n₀ W W') ∨ (e = .returned (.bool false) ∧ Jx (pre ++ [x]) W'))
    (hga : W.cell? ⟨ga, 0, none⟩ = some (.slice A B.length cap)) (hgb : W.cell? ⟨gb, 0, none⟩ = some (.slice A2 C.length cap2)) (hA : BA W A cap B) (hC : BA W A2 cap2 C) (hdA : ∀ g ∈ blk A, g < n₀) (hdC : ∀ g ∈ blk A2, g < n₀) (h0 : J [] W) :
    CallsIn Fence.wide n Tryd.prog 51 #[.func (.yield l) #[] #[], .pointer (some ⟨ga, 0, none⟩), .pointer (some ⟨gb, 0, none⟩)] W fun e W' => (∃ v, e = .returned v) ∧
      ((∃ ys, ys = prs B C ∧ J ys W') ∨ (∃ pre, pre <+: prs B C ∧ Jx pre W')) := by
  refine callsIn_of_wp Tryd.func51 rfl trivial ?_ rfl
  simp only [Tryd.ntmps51, List.size_toArray, List.length_cons, List.length_nil, Nat.reduceAdd, Nat.reduceSub, Array.replicate_succ, Array.replicate_zero, List.push_toArray, List.append_toArray, List.nil_append, List.cons_append]
  have h0 := Lib.hid (hJ [] W W.drew none h0 (grown_of (Below.drew (Below.refl _ _))) (fun r e => by cases e))
  gi_wp2
  gi_region
  have hA0 := Lib.hid (hA.below (Below.drew (Below.refl _ _)))
  have hC0 := Lib.hid (hC.below (Below.drew (Below.refl _ _)))
  have hW0 : n₀ ≤ W.drew.heap.size := hn₀
  clear hA hC hga hgb
  generalize W.drew = W0 at *
  gi_wp2
  gi_loopw [4, 5] (fun a b wr => ∃ pre B' C' A' cap' A2' cap2', a = .slice A' B'.length cap' ∧ b = .slice A2' C'.length cap2' ∧ Hid (pre ++ prs B' C' = prs B C) ∧ Hid (J pre wr) ∧ Hid (BA wr A' cap' B') ∧ Hid (BA wr A2' cap2' C') ∧ Hid (∀ g ∈ blk A', g < n₀) ∧ Hid (∀ g ∈ blk A2', g < n₀) ∧ n₀ ≤ wr.heap.size) (fun a b _ => slen a + slen b)
  case atStart => exact ⟨[], B, C, A, cap, A2, cap2, rfl, rfl, Lib.hid rfl, h0, hA0, hC0, Lib.hid hdA, Lib.hid hdC, hW0⟩
  case round =>
    obtain ⟨pre, B', C', A', cap', A2', cap2', rfl, rfl, hP, hj, hb, hc, hd1, hd2, hsz⟩ := hrel
    clear h0 hA0 hC0 hdA hdC hW0
    rename_i wr
    cases B' with
    | nil =>
      cases C' with
      | nil =>
        have hP2 : Hid (pre = prs B C) := Lib.hid (by have h := hP.out; simpa [prs] using h)
        gi_wp2
        go_end0
        exact ⟨⟨_, rfl⟩, .inl ⟨_, hP2.out, hj.out⟩⟩
      | cons y s =>
        obtain ⟨ya, yh⟩ := y
        have hfew := hb.out.few
        have hfew2 := hc.out.few
        simp only [List.length_cons, List.length_nil] at hfew hfew2
        have hb0 := hb
        have hc0 := hc
        obtain ⟨A4, cap4, hsl2, hA4, hkeep2⟩ := BA.tail hc.out
        have hkeep2 := Lib.hid hkeep2
        have hA4 := Lib.hid hA4
        obtain ⟨b2, off2, rfl, hlt2, m0, m1⟩ := BA.head hc.out
        have e2 : decide ((0 : Int) < (s.length : Int) + 1) = true := decide_eq_true (by omega)
        have e3 : ((s.length : Int) + 1 == 0) = false := by simp only [beq_eq_false_iff_ne]; omega
        simp only at m0 m1
        have hP2 : Hid ((pre ++ [((ya, 0), (ya, yh))]) ++ prs [] s = prs B C) := Lib.hid (by have h := hP.out; simp only [prs] at h; rw [← h]; simp)
        have hpre2 : Hid ((pre ++ [((ya, 0), (ya, yh))]) <+: prs B C) := Lib.hid ⟨_, hP2.out⟩
        have hyy := Lib.hid (fun W' (px : PX wr W' ((ya, 0), (ya, yh)).1 ((ya, 0), (ya, yh)).2) => hY pre ((ya, 0), (ya, yh)) W' (hJ pre wr W' none hj.out (grown_of px.bel) (fun r e => by cases e)) (by rw [← hP2.out]; simp))
        have hlow := Lib.hid (fun W' (hb : Below wr.heap.size wr W') => (hb.mono hsz : Below n₀ wr W'))
        clear hP hfew hfew2
        gi_wp2
        obtain ⟨W1, hW1⟩ : ∃ W1, Hid (W1 = (wr.alloc (.cells #[.int .i64 0, .int .u64 0] 53)).alloc (.cells #[.int .i64 0, .int .u64 0] 53)) := ⟨_, Lib.hid rfl⟩
        have px1 : Hid (PX wr W1 (0, 0) (0, 0)) := Lib.hid (by rw [hW1.out]; exact px_new wr)
        obtain ⟨⟨x0, x1, y0, y1⟩, g0, g1, g2, g3⟩ := px1.out.cells
        replace x0 : W1.cell? ⟨wr.heap.size, 0, none⟩ = some (.int .i64 0) := x0
        replace x1 : W1.cell? ⟨wr.heap.size, 1, none⟩ = some (.int .u64 0) := x1
        replace y0 : W1.cell? ⟨wr.heap.size + 1, 0, none⟩ = some (.int .i64 0) := y0
        replace y1 : W1.cell? ⟨wr.heap.size + 1, 1, none⟩ = some (.int .u64 0) := y1
        have M0 := m0
        have M1 := m1
        have m0 := px1.out.old hlt2 m0
        have m1 := px1.out.old hlt2 m1
        rw [← hW1.out]
        refine wpIn_wide.2 ?_
        go_quiet (fail)
        gi_wp2
        obtain ⟨W2, hW2⟩ : ∃ W2, Hid (W2 = W1.drewN nq) := ⟨_, Lib.hid rfl⟩
        have px2 : Hid (PX wr W2 (0, 0) (0, 0)) := Lib.hid (by rw [hW2.out]; exact px1.out.drewN _)
        rw [← hW2.out]
        clear x0 x1 y0 y1 g0 g1 g2 g3 m0 m1
        obtain ⟨⟨x0, x1, y0, y1⟩, g0, g1, g2, g3⟩ := px2.out.cells
        replace x0 : W2.cell? ⟨wr.heap.size, 0, none⟩ = some (.int .i64 0) := x0
        replace x1 : W2.cell? ⟨wr.heap.size, 1, none⟩ = some (.int .u64 0) := x1
        replace y0 : W2.cell? ⟨wr.heap.size + 1, 0, none⟩ = some (.int .i64 0) := y0
        replace y1 : W2.cell? ⟨wr.heap.size + 1, 1, none⟩ = some (.int .u64 0) := y1
        have m0 := px2.out.old hlt2 M0
        have m1 := px2.out.old hlt2 M1
        refine wpIn_wide.2 ?_
        go_quiet (fail)
        gi_wp2
        gi_region
        obtain ⟨W3, hW3⟩ : ∃ W3, Hid (W3 = ((W2.drewN (nq + 1)).setCell ⟨wr.heap.size + 1, 0, none⟩ (.int .i64 (ya : Nat))).setCell ⟨wr.heap.size + 1, 1, none⟩ (.int .u64 (yh : Nat))) := ⟨_, Lib.hid rfl⟩
        have px3 : Hid (PX wr W3 (0, 0) (ya, yh)) := Lib.hid (by rw [hW3.out]; exact (px2.out.drewN _).putY ya yh)
        rw [← hW3.out]
        clear x0 x1 y0 y1 g0 g1 g2 g3
        obtain ⟨⟨x0, x1, y0, y1⟩, g0, g1, g2, g3⟩ := px3.out.cells
        replace x0 : W3.cell? ⟨wr.heap.size, 0, none⟩ = some (.int .i64 0) := x0
        replace x1 : W3.cell? ⟨wr.heap.size, 1, none⟩ = some (.int .u64 0) := x1
        replace y0 : W3.cell? ⟨wr.heap.size + 1, 0, none⟩ = some (.int .i64 (ya : Nat)) := y0
        replace y1 : W3.cell? ⟨wr.heap.size + 1, 1, none⟩ = some (.int .u64 (yh : Nat)) := y1
        have px4 := Lib.hid (px3.out.atX ya)
        obtain ⟨fn, tmps, assign, body, hy, hR⟩ := hyy.out _ px4.out
        have px := px4
        clear hyy
        simp only [enc2, show (((0 : Nat) : Int)) = 0 from rfl] at hy
        gi_wp2
        refine hR.mono ?_
        rintro e W5 (⟨rfl, hJ3, hk3⟩ | ⟨rfl, hJx3⟩)
        · have HJ3 := Lib.hid hJ3
          have hB5 := Lib.hid ((hlow.out _ px.out.bel).trans hk3)
          have HB5 := Lib.hid (hb0.out.keptB hB5.out hd1.out)
          have HC5 := Lib.hid (hkeep2.out _ (hc0.out.keptB hB5.out hd2.out))
          have hd2 := Lib.hid (fun g hg => hd2.out g (by rw [← hA4.out]; exact hg))
          have hsz5 : n₀ ≤ W5.heap.size := Nat.le_trans hsz hB5.out.size
          clear hJ3 hk3
          gi_wp2
          go_roundw
          case rel => exact ⟨_, _, _, _, _, _, _, rfl, rfl, hP2, HJ3, HB5, HC5, hd1, hd2, hsz5⟩
          case measure => simp [slen]; try omega
        · have HJx3 := Lib.hid hJx3
          clear hJx3
          gi_wp2
          refine bodyPost_ret (results_none rfl _ _ _) rfl ?_
          exact ⟨⟨_, rfl⟩, .inr ⟨_, hpre2.out, HJx3.out⟩⟩
    | cons x r =>
      obtain ⟨xa, xh⟩ := x
      cases C' with
      | nil =>
        have hfew := hb.out.few
        have hfew2 := hc.out.few
        simp only [List.length_cons, List.length_nil] at hfew hfew2
        have hb0 := hb
        have hc0 := hc
        have hpx := hb.out.ok.has (xa, xh) (by simp)
        obtain ⟨A3, cap3, hsl, hA3, hkeep⟩ := BA.tail hb.out
        have hkeep := Lib.hid hkeep
        have hA3 := Lib.hid hA3
        obtain ⟨b, off, rfl, hlt, k0, k1⟩ := BA.head hb.out
        have e1 : decide ((0 : Int) < (r.length : Int) + 1) = true := decide_eq_true (by omega)
        simp only at k0 k1 hpx
        have hP2 : Hid ((pre ++ [((xa, xh), (xa, 0))]) ++ prs r [] = prs B C) := Lib.hid (by have h := hP.out; simp only [prs] at h; rw [← h]; simp)
        have hpre2 : Hid ((pre ++ [((xa, xh), (xa, 0))]) <+: prs B C) := Lib.hid ⟨_, hP2.out⟩
        have hyy := Lib.hid (fun W' (px : PX wr W' ((xa, xh), (xa, 0)).1 ((xa, xh), (xa, 0)).2) => hY pre ((xa, xh), (xa, 0)) W' (hJ pre wr W' none hj.out (grown_of px.bel) (fun r e => by cases e)) (by rw [← hP2.out]; simp))
        have hlow := Lib.hid (fun W' (hb : Below wr.heap.size wr W') => (hb.mono hsz : Below n₀ wr W'))
        clear hP hpx hfew hfew2
        gi_wp2
        obtain ⟨W1, hW1⟩ : ∃ W1, Hid (W1 = (wr.alloc (.cells #[.int .i64 0, .int .u64 0] 53)).alloc (.cells #[.int .i64 0, .int .u64 0] 53)) := ⟨_, Lib.hid rfl⟩
        have px1 : Hid (PX wr W1 (0, 0) (0, 0)) := Lib.hid (by rw [hW1.out]; exact px_new wr)
        obtain ⟨⟨x0, x1, y0, y1⟩, g0, g1, g2, g3⟩ := px1.out.cells
        replace x0 : W1.cell? ⟨wr.heap.size, 0, none⟩ = some (.int .i64 0) := x0
        replace x1 : W1.cell? ⟨wr.heap.size, 1, none⟩ = some (.int .u64 0) := x1
        replace y0 : W1.cell? ⟨wr.heap.size + 1, 0, none⟩ = some (.int .i64 0) := y0
        replace y1 : W1.cell? ⟨wr.heap.size + 1, 1, none⟩ = some (.int .u64 0) := y1
        have K0 := k0
        have K1 := k1
        have k0 := px1.out.old hlt k0
        have k1 := px1.out.old hlt k1
        rw [← hW1.out]
        refine wpIn_wide.2 ?_
        go_quiet (fail)
        gi_wp2
        gi_region
        gi_wp2
        obtain ⟨W2, hW2⟩ : ∃ W2, Hid (W2 = (((W1.drewN (nq + 1)).setCell ⟨wr.heap.size, 0, none⟩ (.int .i64 (xa : Nat))).setCell ⟨wr.heap.size, 1, none⟩ (.int .u64 (xh : Nat))).setCell ⟨wr.heap.size + 1, 0, none⟩ (.int .i64 (xa : Nat))) := ⟨_, Lib.hid rfl⟩
        have px2 : Hid (PX wr W2 (xa, xh) (xa, 0)) := Lib.hid (by rw [hW2.out]; exact ((px1.out.drewN _).putX xa xh).atY xa)
        rw [← hW2.out]
        clear x0 x1 y0 y1 g0 g1 g2 g3 k0 k1
        obtain ⟨⟨x0, x1, y0, y1⟩, g0, g1, g2, g3⟩ := px2.out.cells
        replace x0 : W2.cell? ⟨wr.heap.size, 0, none⟩ = some (.int .i64 (xa : Nat)) := x0
        replace x1 : W2.cell? ⟨wr.heap.size, 1, none⟩ = some (.int .u64 (xh : Nat)) := x1
        replace y0 : W2.cell? ⟨wr.heap.size + 1, 0, none⟩ = some (.int .i64 (xa : Nat)) := y0
        replace y1 : W2.cell? ⟨wr.heap.size + 1, 1, none⟩ = some (.int .u64 0) := y1
        refine wpIn_wide.2 ?_
        go_quiet (fail)
        have px4 := Lib.hid (px2.out.drewN nq)
        obtain ⟨fn, tmps, assign, body, hy, hR⟩ := hyy.out _ px4.out
        have px := px4
        clear hyy
        simp only [enc2, show (((0 : Nat) : Int)) = 0 from rfl] at hy
        gi_wp2
        refine hR.mono ?_
        rintro e W5 (⟨rfl, hJ3, hk3⟩ | ⟨rfl, hJx3⟩)
        · have HJ3 := Lib.hid hJ3
          have hB5 := Lib.hid ((hlow.out _ px.out.bel).trans hk3)
          have HB5 := Lib.hid (hkeep.out _ (hb0.out.keptB hB5.out hd1.out))
          have HC5 := Lib.hid (hc0.out.keptB hB5.out hd2.out)
          have hd1 := Lib.hid (fun g hg => hd1.out g (by rw [← hA3.out]; exact hg))
          have hsz5 : n₀ ≤ W5.heap.size := Nat.le_trans hsz hB5.out.size
          clear hJ3 hk3
          gi_wp2
          go_roundw
          case rel => exact ⟨_, _, _, _, _, _, _, rfl, rfl, hP2, HJ3, HB5, HC5, hd1, hd2, hsz5⟩
          case measure => simp [slen]; try omega
        · have HJx3 := Lib.hid hJx3
          clear hJx3
          gi_wp2
          refine bodyPost_ret (results_none rfl _ _ _) rfl ?_
          exact ⟨⟨_, rfl⟩, .inr ⟨_, hpre2.out, HJx3.out⟩⟩
      | cons y s =>
        obtain ⟨ya, yh⟩ := y
        rcases Nat.lt_trichotomy xa ya with hcmp | hcmp | hcmp
        · skip
          have hfew := hb.out.few
          have hfew2 := hc.out.few
          simp only [List.length_cons, List.length_nil] at hfew hfew2
          have hb0 := hb
          have hc0 := hc
          have hpx := hb.out.ok.has (xa, xh) (by simp)
          obtain ⟨A3, cap3, hsl, hA3, hkeep⟩ := BA.tail hb.out
          have hkeep := Lib.hid hkeep
          have hA3 := Lib.hid hA3
          obtain ⟨b, off, rfl, hlt, k0, k1⟩ := BA.head hb.out
          have e1 : decide ((0 : Int) < (r.length : Int) + 1) = true := decide_eq_true (by omega)
          simp only at k0 k1 hpx
          obtain ⟨b2, off2, rfl, hlt2, m0, m1⟩ := BA.head hc.out
          have e2 : decide ((0 : Int) < (s.length : Int) + 1) = true := decide_eq_true (by omega)
          have e3 : ((s.length : Int) + 1 == 0) = false := by simp only [beq_eq_false_iff_ne]; omega
          simp only at m0 m1
          have e4 : decide (xa ≤ ya) = true := decide_eq_true (by omega)
          have e5 : ((xh : Int) == 0) = false := by simp only [beq_eq_false_iff_ne]; omega
          have e6 : ((ya : Int) == (xa : Int)) = false := by simp only [beq_eq_false_iff_ne]; omega
          have hP2 : Hid ((pre ++ [((xa, xh), (xa, 0))]) ++ prs r ((ya, yh) :: s) = prs B C) := Lib.hid (by have h := hP.out; simp only [prs, if_pos hcmp] at h; rw [← h]; simp)
          have hpre2 : Hid ((pre ++ [((xa, xh), (xa, 0))]) <+: prs B C) := Lib.hid ⟨_, hP2.out⟩
          have hyy := Lib.hid (fun W' (px : PX wr W' ((xa, xh), (xa, 0)).1 ((xa, xh), (xa, 0)).2) => hY pre ((xa, xh), (xa, 0)) W' (hJ pre wr W' none hj.out (grown_of px.bel) (fun r e => by cases e)) (by rw [← hP2.out]; simp))
          have hlow := Lib.hid (fun W' (hb : Below wr.heap.size wr W') => (hb.mono hsz : Below n₀ wr W'))
          clear hP hpx hfew hfew2
          gi_wp2
          obtain ⟨W1, hW1⟩ : ∃ W1, Hid (W1 = (wr.alloc (.cells #[.int .i64 0, .int .u64 0] 53)).alloc (.cells #[.int .i64 0, .int .u64 0] 53)) := ⟨_, Lib.hid rfl⟩
          have px1 : Hid (PX wr W1 (0, 0) (0, 0)) := Lib.hid (by rw [hW1.out]; exact px_new wr)
          obtain ⟨⟨x0, x1, y0, y1⟩, g0, g1, g2, g3⟩ := px1.out.cells
          replace x0 : W1.cell? ⟨wr.heap.size, 0, none⟩ = some (.int .i64 0) := x0
          replace x1 : W1.cell? ⟨wr.heap.size, 1, none⟩ = some (.int .u64 0) := x1
          replace y0 : W1.cell? ⟨wr.heap.size + 1, 0, none⟩ = some (.int .i64 0) := y0
          replace y1 : W1.cell? ⟨wr.heap.size + 1, 1, none⟩ = some (.int .u64 0) := y1
          have K0 := k0
          have K1 := k1
          have k0 := px1.out.old hlt k0
          have k1 := px1.out.old hlt k1
          have M0 := m0
          have M1 := m1
          have m0 := px1.out.old hlt2 m0
          have m1 := px1.out.old hlt2 m1
          rw [← hW1.out]
          refine wpIn_wide.2 ?_
          go_quiet (fail)
          gi_wp2
          gi_region
          gi_wp2
          obtain ⟨W2, hW2⟩ : ∃ W2, Hid (W2 = (((W1.drewN (nq + 1)).setCell ⟨wr.heap.size, 0, none⟩ (.int .i64 (xa : Nat))).setCell ⟨wr.heap.size, 1, none⟩ (.int .u64 (xh : Nat))).setCell ⟨wr.heap.size + 1, 0, none⟩ (.int .i64 (xa : Nat))) := ⟨_, Lib.hid rfl⟩
          have px2 : Hid (PX wr W2 (xa, xh) (xa, 0)) := Lib.hid (by rw [hW2.out]; exact ((px1.out.drewN _).putX xa xh).atY xa)
          rw [← hW2.out]
          clear x0 x1 y0 y1 g0 g1 g2 g3 k0 k1 m0 m1
          obtain ⟨⟨x0, x1, y0, y1⟩, g0, g1, g2, g3⟩ := px2.out.cells
          replace x0 : W2.cell? ⟨wr.heap.size, 0, none⟩ = some (.int .i64 (xa : Nat)) := x0
          replace x1 : W2.cell? ⟨wr.heap.size, 1, none⟩ = some (.int .u64 (xh : Nat)) := x1
          replace y0 : W2.cell? ⟨wr.heap.size + 1, 0, none⟩ = some (.int .i64 (xa : Nat)) := y0
          replace y1 : W2.cell? ⟨wr.heap.size + 1, 1, none⟩ = some (.int .u64 0) := y1
          have m0 := px2.out.old hlt2 M0
          have m1 := px2.out.old hlt2 M1
          refine wpIn_wide.2 ?_
          go_quiet (fail)
          have px4 := Lib.hid (px2.out.drewN nq)
          obtain ⟨fn, tmps, assign, body, hy, hR⟩ := hyy.out _ px4.out
          have px := px4
          clear hyy
          simp only [enc2, show (((0 : Nat) : Int)) = 0 from rfl] at hy
          gi_wp2
          refine hR.mono ?_
          rintro e W5 (⟨rfl, hJ3, hk3⟩ | ⟨rfl, hJx3⟩)
          · have HJ3 := Lib.hid hJ3
            have hB5 := Lib.hid ((hlow.out _ px.out.bel).trans hk3)
            have HB5 := Lib.hid (hkeep.out _ (hb0.out.keptB hB5.out hd1.out))
            have HC5 := Lib.hid (hc0.out.keptB hB5.out hd2.out)
            have hd1 := Lib.hid (fun g hg => hd1.out g (by rw [← hA3.out]; exact hg))
            have hsz5 : n₀ ≤ W5.heap.size := Nat.le_trans hsz hB5.out.size
            clear hJ3 hk3
            gi_wp2
            go_roundw
            case rel => exact ⟨_, _, _, _, _, _, _, rfl, rfl, hP2, HJ3, HB5, HC5, hd1, hd2, hsz5⟩
            case measure => simp [slen]; try omega
          · have HJx3 := Lib.hid hJx3
            clear hJx3
            gi_wp2
            refine bodyPost_ret (results_none rfl _ _ _) rfl ?_
            exact ⟨⟨_, rfl⟩, .inr ⟨_, hpre2.out, HJx3.out⟩⟩
        · subst hcmp
          have hfew := hb.out.few
          have hfew2 := hc.out.few
          simp only [List.length_cons, List.length_nil] at hfew hfew2
          have hb0 := hb
          have hc0 := hc
          have hpx := hb.out.ok.has (xa, xh) (by simp)
          obtain ⟨A3, cap3, hsl, hA3, hkeep⟩ := BA.tail hb.out
          have hkeep := Lib.hid hkeep
          have hA3 := Lib.hid hA3
          obtain ⟨b, off, rfl, hlt, k0, k1⟩ := BA.head hb.out
          have e1 : decide ((0 : Int) < (r.length : Int) + 1) = true := decide_eq_true (by omega)
          simp only at k0 k1 hpx
          obtain ⟨A4, cap4, hsl2, hA4, hkeep2⟩ := BA.tail hc.out
          have hkeep2 := Lib.hid hkeep2
          have hA4 := Lib.hid hA4
          obtain ⟨b2, off2, rfl, hlt2, m0, m1⟩ := BA.head hc.out
          have e2 : decide ((0 : Int) < (s.length : Int) + 1) = true := decide_eq_true (by omega)
          have e3 : ((s.length : Int) + 1 == 0) = false := by simp only [beq_eq_false_iff_ne]; omega
          simp only at m0 m1
          have e4 : decide (xa ≤ xa) = true := decide_eq_true (by omega)
          have e5 : ((xh : Int) == 0) = false := by simp only [beq_eq_false_iff_ne]; omega
          have hP2 : Hid ((pre ++ [((xa, xh), (xa, yh))]) ++ prs r s = prs B C) := Lib.hid (by have h := hP.out; simp only [prs, Nat.lt_irrefl, if_false, if_true] at h; rw [← h]; simp)
          have hpre2 : Hid ((pre ++ [((xa, xh), (xa, yh))]) <+: prs B C) := Lib.hid ⟨_, hP2.out⟩
          have hyy := Lib.hid (fun W' (px : PX wr W' ((xa, xh), (xa, yh)).1 ((xa, xh), (xa, yh)).2) => hY pre ((xa, xh), (xa, yh)) W' (hJ pre wr W' none hj.out (grown_of px.bel) (fun r e => by cases e)) (by rw [← hP2.out]; simp))
          have hlow := Lib.hid (fun W' (hb : Below wr.heap.size wr W') => (hb.mono hsz : Below n₀ wr W'))
          clear hP hpx hfew hfew2
          gi_wp2
          obtain ⟨W1, hW1⟩ : ∃ W1, Hid (W1 = (wr.alloc (.cells #[.int .i64 0, .int .u64 0] 53)).alloc (.cells #[.int .i64 0, .int .u64 0] 53)) := ⟨_, Lib.hid rfl⟩
          have px1 : Hid (PX wr W1 (0, 0) (0, 0)) := Lib.hid (by rw [hW1.out]; exact px_new wr)
          obtain ⟨⟨x0, x1, y0, y1⟩, g0, g1, g2, g3⟩ := px1.out.cells
          replace x0 : W1.cell? ⟨wr.heap.size, 0, none⟩ = some (.int .i64 0) := x0
          replace x1 : W1.cell? ⟨wr.heap.size, 1, none⟩ = some (.int .u64 0) := x1
          replace y0 : W1.cell? ⟨wr.heap.size + 1, 0, none⟩ = some (.int .i64 0) := y0
          replace y1 : W1.cell? ⟨wr.heap.size + 1, 1, none⟩ = some (.int .u64 0) := y1
          have K0 := k0
          have K1 := k1
          have k0 := px1.out.old hlt k0
          have k1 := px1.out.old hlt k1
          have M0 := m0
          have M1 := m1
          have m0 := px1.out.old hlt2 m0
          have m1 := px1.out.old hlt2 m1
          rw [← hW1.out]
          refine wpIn_wide.2 ?_
          go_quiet (fail)
          gi_wp2
          gi_region
          gi_wp2
          obtain ⟨W2, hW2⟩ : ∃ W2, Hid (W2 = (((W1.drewN (nq + 1)).setCell ⟨wr.heap.size, 0, none⟩ (.int .i64 (xa : Nat))).setCell ⟨wr.heap.size, 1, none⟩ (.int .u64 (xh : Nat))).setCell ⟨wr.heap.size + 1, 0, none⟩ (.int .i64 (xa : Nat))) := ⟨_, Lib.hid rfl⟩
          have px2 : Hid (PX wr W2 (xa, xh) (xa, 0)) := Lib.hid (by rw [hW2.out]; exact ((px1.out.drewN _).putX xa xh).atY xa)
          rw [← hW2.out]
          clear x0 x1 y0 y1 g0 g1 g2 g3 k0 k1 m0 m1
          obtain ⟨⟨x0, x1, y0, y1⟩, g0, g1, g2, g3⟩ := px2.out.cells
          replace x0 : W2.cell? ⟨wr.heap.size, 0, none⟩ = some (.int .i64 (xa : Nat)) := x0
          replace x1 : W2.cell? ⟨wr.heap.size, 1, none⟩ = some (.int .u64 (xh : Nat)) := x1
          replace y0 : W2.cell? ⟨wr.heap.size + 1, 0, none⟩ = some (.int .i64 (xa : Nat)) := y0
          replace y1 : W2.cell? ⟨wr.heap.size + 1, 1, none⟩ = some (.int .u64 0) := y1
          have m0 := px2.out.old hlt2 M0
          have m1 := px2.out.old hlt2 M1
          refine wpIn_wide.2 ?_
          go_quiet (fail)
          gi_wp2
          gi_region
          obtain ⟨W3, hW3⟩ : ∃ W3, Hid (W3 = ((W2.drewN (nq + 1)).setCell ⟨wr.heap.size + 1, 0, none⟩ (.int .i64 (xa : Nat))).setCell ⟨wr.heap.size + 1, 1, none⟩ (.int .u64 (yh : Nat))) := ⟨_, Lib.hid rfl⟩
          have px3 : Hid (PX wr W3 (xa, xh) (xa, yh)) := Lib.hid (by rw [hW3.out]; exact (px2.out.drewN _).putY xa yh)
          rw [← hW3.out]
          clear x0 x1 y0 y1 g0 g1 g2 g3
          obtain ⟨⟨x0, x1, y0, y1⟩, g0, g1, g2, g3⟩ := px3.out.cells
          replace x0 : W3.cell? ⟨wr.heap.size, 0, none⟩ = some (.int .i64 (xa : Nat)) := x0
          replace x1 : W3.cell? ⟨wr.heap.size, 1, none⟩ = some (.int .u64 (xh : Nat)) := x1
          replace y0 : W3.cell? ⟨wr.heap.size + 1, 0, none⟩ = some (.int .i64 (xa : Nat)) := y0
          replace y1 : W3.cell? ⟨wr.heap.size + 1, 1, none⟩ = some (.int .u64 (yh : Nat)) := y1
          have px4 := Lib.hid (px3.out.atX xa)
          obtain ⟨fn, tmps, assign, body, hy, hR⟩ := hyy.out _ px4.out
          have px := px4
          clear hyy
          simp only [enc2, show (((0 : Nat) : Int)) = 0 from rfl] at hy
          gi_wp2
          refine hR.mono ?_
          rintro e W5 (⟨rfl, hJ3, hk3⟩ | ⟨rfl, hJx3⟩)
          · have HJ3 := Lib.hid hJ3
            have hB5 := Lib.hid ((hlow.out _ px.out.bel).trans hk3)
            have HB5 := Lib.hid (hkeep.out _ (hb0.out.keptB hB5.out hd1.out))
            have HC5 := Lib.hid (hkeep2.out _ (hc0.out.keptB hB5.out hd2.out))
            have hd1 := Lib.hid (fun g hg => hd1.out g (by rw [← hA3.out]; exact hg))
            have hd2 := Lib.hid (fun g hg => hd2.out g (by rw [← hA4.out]; exact hg))
            have hsz5 : n₀ ≤ W5.heap.size := Nat.le_trans hsz hB5.out.size
            clear hJ3 hk3
            gi_wp2
            go_roundw
            case rel => exact ⟨_, _, _, _, _, _, _, rfl, rfl, hP2, HJ3, HB5, HC5, hd1, hd2, hsz5⟩
            case measure => simp [slen]; try omega
          · have HJx3 := Lib.hid hJx3
            clear hJx3
            gi_wp2
            refine bodyPost_ret (results_none rfl _ _ _) rfl ?_
            exact ⟨⟨_, rfl⟩, .inr ⟨_, hpre2.out, HJx3.out⟩⟩
        · skip
          have hfew := hb.out.few
          have hfew2 := hc.out.few
          simp only [List.length_cons, List.length_nil] at hfew hfew2
          have hb0 := hb
          have hc0 := hc
          have hpx := hb.out.ok.has (xa, xh) (by simp)
          obtain ⟨b, off, rfl, hlt, k0, k1⟩ := BA.head hb.out
          have e1 : decide ((0 : Int) < (r.length : Int) + 1) = true := decide_eq_true (by omega)
          simp only at k0 k1 hpx
          obtain ⟨A4, cap4, hsl2, hA4, hkeep2⟩ := BA.tail hc.out
          have hkeep2 := Lib.hid hkeep2
          have hA4 := Lib.hid hA4
          obtain ⟨b2, off2, rfl, hlt2, m0, m1⟩ := BA.head hc.out
          have e2 : decide ((0 : Int) < (s.length : Int) + 1) = true := decide_eq_true (by omega)
          have e3 : ((s.length : Int) + 1 == 0) = false := by simp only [beq_eq_false_iff_ne]; omega
          simp only at m0 m1
          have e4 : decide (xa ≤ ya) = false := decide_eq_false (by omega)
          have hP2 : Hid ((pre ++ [((ya, 0), (ya, yh))]) ++ prs ((xa, xh) :: r) s = prs B C) := Lib.hid (by have h := hP.out; simp only [prs, if_neg (show ¬ xa < ya by omega), if_neg (show ¬ xa = ya by omega)] at h; rw [← h]; simp)
          have hpre2 : Hid ((pre ++ [((ya, 0), (ya, yh))]) <+: prs B C) := Lib.hid ⟨_, hP2.out⟩
          have hyy := Lib.hid (fun W' (px : PX wr W' ((ya, 0), (ya, yh)).1 ((ya, 0), (ya, yh)).2) => hY pre ((ya, 0), (ya, yh)) W' (hJ pre wr W' none hj.out (grown_of px.bel) (fun r e => by cases e)) (by rw [← hP2.out]; simp))
          have hlow := Lib.hid (fun W' (hb : Below wr.heap.size wr W') => (hb.mono hsz : Below n₀ wr W'))
          clear hP hpx hfew hfew2
          gi_wp2
          obtain ⟨W1, hW1⟩ : ∃ W1, Hid (W1 = (wr.alloc (.cells #[.int .i64 0, .int .u64 0] 53)).alloc (.cells #[.int .i64 0, .int .u64 0] 53)) := ⟨_, Lib.hid rfl⟩
          have px1 : Hid (PX wr W1 (0, 0) (0, 0)) := Lib.hid (by rw [hW1.out]; exact px_new wr)
          obtain ⟨⟨x0, x1, y0, y1⟩, g0, g1, g2, g3⟩ := px1.out.cells
          replace x0 : W1.cell? ⟨wr.heap.size, 0, none⟩ = some (.int .i64 0) := x0
          replace x1 : W1.cell? ⟨wr.heap.size, 1, none⟩ = some (.int .u64 0) := x1
          replace y0 : W1.cell? ⟨wr.heap.size + 1, 0, none⟩ = some (.int .i64 0) := y0
          replace y1 : W1.cell? ⟨wr.heap.size + 1, 1, none⟩ = some (.int .u64 0) := y1
          have K0 := k0
          have K1 := k1
          have k0 := px1.out.old hlt k0
          have k1 := px1.out.old hlt k1
          have M0 := m0
          have M1 := m1
          have m0 := px1.out.old hlt2 m0
          have m1 := px1.out.old hlt2 m1
          rw [← hW1.out]
          refine wpIn_wide.2 ?_
          go_quiet (fail)
          gi_wp2
          obtain ⟨W2, hW2⟩ : ∃ W2, Hid (W2 = W1.drewN nq) := ⟨_, Lib.hid rfl⟩
          have px2 : Hid (PX wr W2 (0, 0) (0, 0)) := Lib.hid (by rw [hW2.out]; exact px1.out.drewN _)
          rw [← hW2.out]
          clear x0 x1 y0 y1 g0 g1 g2 g3 k0 k1 m0 m1
          obtain ⟨⟨x0, x1, y0, y1⟩, g0, g1, g2, g3⟩ := px2.out.cells
          replace x0 : W2.cell? ⟨wr.heap.size, 0, none⟩ = some (.int .i64 0) := x0
          replace x1 : W2.cell? ⟨wr.heap.size, 1, none⟩ = some (.int .u64 0) := x1
          replace y0 : W2.cell? ⟨wr.heap.size + 1, 0, none⟩ = some (.int .i64 0) := y0
          replace y1 : W2.cell? ⟨wr.heap.size + 1, 1, none⟩ = some (.int .u64 0) := y1
          have m0 := px2.out.old hlt2 M0
          have m1 := px2.out.old hlt2 M1
          refine wpIn_wide.2 ?_
          go_quiet (fail)
          gi_wp2
          gi_region
          obtain ⟨W3, hW3⟩ : ∃ W3, Hid (W3 = ((W2.drewN (nq + 1)).setCell ⟨wr.heap.size + 1, 0, none⟩ (.int .i64 (ya : Nat))).setCell ⟨wr.heap.size + 1, 1, none⟩ (.int .u64 (yh : Nat))) := ⟨_, Lib.hid rfl⟩
          have px3 : Hid (PX wr W3 (0, 0) (ya, yh)) := Lib.hid (by rw [hW3.out]; exact (px2.out.drewN _).putY ya yh)
          rw [← hW3.out]
          clear x0 x1 y0 y1 g0 g1 g2 g3
          obtain ⟨⟨x0, x1, y0, y1⟩, g0, g1, g2, g3⟩ := px3.out.cells
          replace x0 : W3.cell? ⟨wr.heap.size, 0, none⟩ = some (.int .i64 0) := x0
          replace x1 : W3.cell? ⟨wr.heap.size, 1, none⟩ = some (.int .u64 0) := x1
          replace y0 : W3.cell? ⟨wr.heap.size + 1, 0, none⟩ = some (.int .i64 (ya : Nat)) := y0
          replace y1 : W3.cell? ⟨wr.heap.size + 1, 1, none⟩ = some (.int .u64 (yh : Nat)) := y1
          have px4 := Lib.hid (px3.out.atX ya)
          obtain ⟨fn, tmps, assign, body, hy, hR⟩ := hyy.out _ px4.out
          have px := px4
          clear hyy
          simp only [enc2, show (((0 : Nat) : Int)) = 0 from rfl] at hy
          gi_wp2
          refine hR.mono ?_
          rintro e W5 (⟨rfl, hJ3, hk3⟩ | ⟨rfl, hJx3⟩)
          · have HJ3 := Lib.hid hJ3
            have hB5 := Lib.hid ((hlow.out _ px.out.bel).trans hk3)
            have HB5 := Lib.hid (hb0.out.keptB hB5.out hd1.out)
            have HC5 := Lib.hid (hkeep2.out _ (hc0.out.keptB hB5.out hd2.out))
            have hd2 := Lib.hid (fun g hg => hd2.out g (by rw [← hA4.out]; exact hg))
            have hsz5 : n₀ ≤ W5.heap.size := Nat.le_trans hsz hB5.out.size
            clear hJ3 hk3
            gi_wp2
            go_roundw
            case rel => exact ⟨_, _, _, _, _, _, _, rfl, rfl, hP2, HJ3, HB5, HC5, hd1, hd2, hsz5⟩
            case measure => simp [slen]; try omega
          · have HJx3 := Lib.hid hJx3
            clear hJx3
            gi_wp2
            refine bodyPost_ret (results_none rfl _ _ _) rfl ?_
            exact ⟨⟨_, rfl⟩, .inr ⟨_, hpre2.out, HJx3.out⟩⟩
end Go.Proofs.YtnjaadcbpkbjbaaDoor.bt
