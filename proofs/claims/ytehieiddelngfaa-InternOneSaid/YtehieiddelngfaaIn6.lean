/-
  intern: the same of numbers.
-/
import Derived.Test.YtehieiddelngfaaIn5
namespace Go.Proofs.Ytehieiddelngfaa.inn
open Go.RowKit Go.Shelf Go.Sort Go.Proofs.Ytehieiddelngfaa.mem

attribute [local go_sem] Oper.semAt_some

abbrev eI : Int → Value := Value.int .i64

theorem info_int : (Try.prog.info? 3).map (fun i => (i.zero, i.size, i.bytes)) = some (some (.int .i64 0), 1, 8) := by kernel_rfl

theorem clone_i (w : World) (A : Option Addr) (c : Nat) (ss : List Int) (h : Rd w A (ss.map eI)) (hz : 0 < ss.length) (hbig : ss.length ≤ 1000) :
    Calls Try.prog 53 #[.slice A ss.length c] w fun e w' => ∃ g cap, e = .returned (.slice (some ⟨g, 0, none⟩) ss.length cap) ∧ w.heap.size ≤ g ∧ CB eI 3 w' g cap ss ∧ Below w.heap.size w w' := by
  obtain ⟨b, off, rfl, hl, hc⟩ := h (by simpa using hz)
  have K := Try.slices_Clone_int b off ss.length c ss w (by simp) (by omega) (fun j hj => by
    have hj' : j < ss.length := by simpa using hj
    rw [hc j (by simpa using hj')]
    simp [hj'])
  refine K.mono ?_
  rintro e w' ⟨v, rfl, ho, hv, hb⟩
  rw [List.take_of_length_le (by simp)] at ho
  obtain ⟨g, cap, rfl, h1, h2⟩ := cb_of_own eI (xs := ss) (by exact ho) hv
  exact ⟨g, cap, rfl, h1, h2, hb⟩

theorem sort_i (w : World) (g cap : Nat) (ss : List Int) (h : CB eI 3 w g cap ss) (hbig : ss.length ≤ 1000) :
    Calls Try.prog 54 #[.slice (some ⟨g, 0, none⟩) ss.length cap] w fun e w' => e = .returned (.tuple #[]) ∧ CB eI 3 w' g cap (ss.mergeSort fun x y => decide (x ≤ y)) ∧ Fr [g] w w' := by
  refine (Try.slices_Sort_int g 0 cap ss w (h.holds eI) h.lt (by omega)).mono ?_
  rintro e w' ⟨rfl, n, os, rfl⟩
  exact ⟨rfl, h.put eI (by simp), put_fr eI _ _ _ _ _ _⟩

theorem compact_i (w : World) (g cap : Nat) (zs : List Int) (h : CB eI 3 w g cap zs) (hbig : zs.length ≤ 1000) :
    Calls Try.prog 55 #[.slice (some ⟨g, 0, none⟩) zs.length cap] w fun e w' => e = .returned (.slice (some ⟨g, 0, none⟩) (Lib.compact zs).length cap) ∧ CB eI 3 w' g cap (Lib.compact zs) ∧ Fr [g] w w' := by
  refine (Try.slices_Compact_int g 0 cap zs w (h.holds eI) (by omega) h.le).mono ?_
  rintro e w' ⟨rfl, q, rfl⟩
  have hlen := Lib.compact_length_le zs
  have h1 := h.put eI (n := q) (os := #[]) (ys := Lib.compact zs ++ List.replicate (zs.length - (Lib.compact zs).length) 0) (by simp; omega)
  have h2 := put_fr eI w q g 0 (Lib.compact zs ++ List.replicate (zs.length - (Lib.compact zs).length) 0).toArray #[]
  rw [grow_empty] at h1 h2
  exact ⟨rfl, h1.cut eI, h2⟩

/-- rising, each once -/
def rsI (l : List Int) : List Int := intoAll (fun a b : Int => a < b) l

set_option maxRecDepth 100000 in
set_option maxHeartbeats 2000000 in
theorem rising1_i (n : Nat) (hn : 2 ≤ n) (l Bn n₀ : Nat) (A : Option Addr) (c : Nat) (ss : List Int) (hz : 0 < ss.length) (hbig : ss.length ≤ 1000) (Pw : Int → Prop) (hP : ∀ x ∈ rsI ss, Pw x) (J Jx : List Int → World → Prop)
    (W : World) (hn₀ : n₀ ≤ W.heap.size)
    (hJ : AbidesFrom W.heap.size J)
    (hY : ∀ pre x W, Pw x → J pre W → pre.length < (rsI ss).length → YieldAt Fence.wide (n - 1) Try.prog l #[eI x] W fun e W' =>
      (e = .returned (.bool true) ∧ J (pre ++ [x]) W' ∧ Kq n₀ W W') ∨ (e = .returned (.bool false) ∧ Jx (pre ++ [x]) W'))
    (hBn : W.cell? ⟨Bn, 0, none⟩ = some (.slice A ss.length c)) (hA : Rd W A (ss.map eI)) (h0 : J [] W) :
    CallsIn Fence.wide n Try.prog 52 #[.func (.yield l) #[] #[], .pointer (some ⟨Bn, 0, none⟩)] W fun e W' => (∃ v, e = .returned v) ∧
      ((∃ ys, ys = rsI ss ∧ J ys W') ∨ (∃ pre, pre <+: rsI ss ∧ Jx pre W')) := by
  have K1 := clone_i W A c ss hA hz hbig
  refine callsIn_of_wp Try.func52 rfl trivial ?_ rfl
  simp only [Try.ntmps52, List.size_toArray, List.length_cons, List.length_nil, Nat.reduceAdd, Nat.reduceSub, Array.replicate_succ, Array.replicate_zero, List.push_toArray, List.append_toArray, List.nil_append, List.cons_append]
  gi_wp2_with (refine ⟨trivial, fun _ => (by omega), ?_⟩; gi_at_call 53; refine (callsIn_wide.2 K1).mono ?_; rintro e w1 ⟨g, cap, rfl, hg, hcb, hb1⟩)
  have K2 := sort_i w1 g cap ss hcb hbig
  clear K1 hA hBn
  gi_wp2_with (refine ⟨trivial, fun _ => (by omega), ?_⟩; gi_at_call 54; refine (callsIn_wide.2 K2).mono ?_; rintro e w2 ⟨rfl, hcb2, hf2⟩)
  have K3 := compact_i w2 g cap _ hcb2 (by simpa using hbig)
  rw [sorted_i, List.length_mergeSort] at K3
  clear K2
  gi_wp2_with (refine ⟨trivial, fun _ => (by omega), ?_⟩; gi_at_call 55; refine (callsIn_wide.2 K3).mono ?_; rintro e w3 ⟨rfl, hcb3, hf3⟩)
  have hb3 := below_fr (below_fr hb1 hf2 hg) hf3 hg
  have HJ := Lib.hid (hJ [] W w3 none h0 (grown_of hb3) (fun r e => by cases e))
  have HC : Hid (CB eI 3 w3 g cap (rsI ss)) := Lib.hid hcb3
  have hlen : (rsI ss).length ≤ 1000 := by
    have := Lib.compact_length_le (ss.mergeSort fun x y => decide (x ≤ y))
    rw [sorted_i, List.length_mergeSort] at this
    show (intoAll _ ss).length ≤ 1000
    omega
  have hgn : n₀ ≤ g := by omega
  change Hid _ at HJ
  clear K3 hcb hcb2 hcb3 hf2 hf3 hb1 hb3 h0 hJ hg
  have hrs : intoAll (fun a b : Int => a < b) ss = rsI ss := rfl
  simp only [hrs] at *
  clear hrs
  gi_loopw [13] (fun i wr => ∃ k : Nat, k ≤ (rsI ss).length ∧ i = .int .i64 k ∧ Hid (J ((rsI ss).take k) wr) ∧ Hid (CB eI 3 wr g cap (rsI ss))) (fun i _ => (rsI ss).length - (intOf i).toNat)
  case atStart => exact ⟨0, by omega, rfl, HJ, HC⟩
  case round =>
    obtain ⟨k, hk, rfl, hj, hc⟩ := hrel
    rename_i wr
    by_cases hkl : k < (rsI ss).length
    · have e1 : decide ((k : Int) < ((rsI ss).length : Int)) = true := decide_eq_true (by omega)
      have ck := hc.out.cell eI k hkl
      obtain ⟨fn, tmps, assign, body, hy, hR⟩ := hY ((rsI ss).take k) (rsI ss)[k] wr (hP _ (List.getElem_mem hkl)) hj.out (by rw [List.length_take]; omega)
      rw [← List.take_succ_eq_append_getElem hkl] at hR
      have hpre : Hid ((rsI ss).take (k + 1) <+: (rsI ss)) := Lib.hid (take_prefix (rsI ss) (k + 1))
      generalize (rsI ss)[k] = y at *
      gi_wp2
      refine ⟨fun _ => (by omega), hR.mono ?_⟩
      rintro e W3 (⟨rfl, hJ3, hk3⟩ | ⟨rfl, hJx3⟩)
      · have HJ3 := Lib.hid hJ3
        have HC3 := Lib.hid (hc.out.kq hk3 hgn)
        clear hJ3 hk3
        gi_wp2
        go_roundw
        case rel => exact ⟨k + 1, by omega, by go_num, HJ3, HC3⟩
        case measure => simp [intOf]; omega
      · have HJx3 := Lib.hid hJx3
        clear hJx3
        gi_wp2
        refine bodyPost_ret (results_none rfl _ _ _) rfl ?_
        exact ⟨⟨_, rfl⟩, .inr ⟨_, hpre.out, HJx3.out⟩⟩
    · obtain rfl : k = (rsI ss).length := by omega
      have e1 : decide (((rsI ss).length : Int) < ((rsI ss).length : Int)) = false := decide_eq_false (by omega)
      have hj2 : Hid (J (rsI ss) wr) := Lib.hid (by have := hj.out; rwa [List.take_length] at this)
      clear hj
      gi_wp2
      go_end0
      exact ⟨⟨_, rfl⟩, .inl ⟨_, rfl, hj2.out⟩⟩

theorem clone0_i (w : World) (A : Option Addr) (c : Nat) : Calls Try.prog 53 #[.slice A 0 c] w fun e w' => ∃ B cap, e = .returned (.slice B 0 cap) ∧ Below w.heap.size w w' := by
  cases A with
  | none =>
    refine (Try.slices_Clone_int_nil 0 c w).mono ?_
    rintro e w' ⟨rfl, rfl⟩
    exact ⟨none, 0, rfl, Below.refl _ _⟩
  | some a =>
    refine (Try.slices_Clone_int_zero a c w).mono ?_
    rintro e w' ⟨v, rfl, ho, hv, hb⟩
    obtain ⟨_, h | ⟨g, cap, cur, rfl, _⟩⟩ := ho
    · exact absurd h.1 hv
    · exact ⟨some ⟨g, 0, none⟩, cap, rfl, hb⟩

set_option maxRecDepth 100000 in
set_option maxHeartbeats 1000000 in
theorem rising0_i (n : Nat) (hn : 2 ≤ n) (l Bn : Nat) (A : Option Addr) (c : Nat) (J Jx : List Int → World → Prop)
    (W : World) (hJ : AbidesFrom W.heap.size J)
    (hBn : W.cell? ⟨Bn, 0, none⟩ = some (.slice A 0 c)) (h0 : J [] W) :
    CallsIn Fence.wide n Try.prog 52 #[.func (.yield l) #[] #[], .pointer (some ⟨Bn, 0, none⟩)] W fun e W' => (∃ v, e = .returned v) ∧
      ((∃ ys, ys = rsI [] ∧ J ys W') ∨ (∃ pre, pre <+: rsI [] ∧ Jx pre W')) := by
  have K1 := clone0_i W A c
  refine callsIn_of_wp Try.func52 rfl trivial ?_ rfl
  simp only [Try.ntmps52, List.size_toArray, List.length_cons, List.length_nil, Nat.reduceAdd, Nat.reduceSub, Array.replicate_succ, Array.replicate_zero, List.push_toArray, List.append_toArray, List.nil_append, List.cons_append]
  gi_wp2_with (refine ⟨trivial, fun _ => (by omega), ?_⟩; gi_at_call 53; refine (callsIn_wide.2 K1).mono ?_; rintro e w1 ⟨B, cap, rfl, hb1⟩)
  have K2 := Try.slices_Sort_int_none B cap w1
  clear K1 hBn
  gi_wp2_with (refine ⟨trivial, fun _ => (by omega), ?_⟩; gi_at_call 54; refine (callsIn_wide.2 K2).mono ?_; rintro e w2 ⟨rfl, hw2⟩)
  subst hw2
  have K3 := Try.slices_Compact_int_empty B cap w2
  clear K2
  gi_wp2_with (refine ⟨trivial, fun _ => (by omega), ?_⟩; gi_at_call 55; refine (callsIn_wide.2 K3).mono ?_; rintro e w3 ⟨rfl, hw3⟩)
  subst hw3
  have HJ := Lib.hid (hJ [] W w3 none h0 (grown_of hb1) (fun r e => by cases e))
  clear K3 hJ h0 hb1
  gi_loopw [13] (fun i wr => i = .int .i64 0 ∧ w3 = wr) (fun _ _ => 0)
  case atStart => exact ⟨rfl, rfl⟩
  case round =>
    obtain ⟨rfl, rfl⟩ := hrel
    gi_wp2
    go_end0
    exact ⟨⟨_, rfl⟩, .inl ⟨_, rfl, HJ.out⟩⟩

theorem rising_stops_i (n : Nat) (hn : 2 ≤ n) (Bn : Nat) (A : Option Addr) (c : Nat) (ss : List Int) (hbig : ss.length ≤ 1000) (w : World) (hBn : Bn < w.heap.size) (hc : w.cell? ⟨Bn, 0, none⟩ = some (.slice A ss.length c)) (hA : Rd w A (ss.map eI)) :
    SeqStopsK Fence.wide n Try.prog 52 #[.pointer (some ⟨Bn, 0, none⟩)] (fun x : Int => #[eI x]) (Kq w.heap.size) (fun ys => ys = rsI ss) (fun pre => pre <+: rsI ss) (rsI ss).length w := fun l J Jx W hW hJ _ hY h0 => by
  have hcW := (hW.cell (p := ⟨Bn, 0, none⟩) hBn).trans hc
  rcases Nat.eq_zero_or_pos ss.length with hz | hz
  · obtain rfl : ss = [] := List.eq_nil_of_length_eq_zero hz
    exact rising0_i n hn l Bn A c J Jx W hJ hcW h0
  · exact rising1_i n hn l Bn w.heap.size A c ss hz hbig (fun _ => True) (fun _ _ => trivial) J Jx W hW.size hJ (fun pre x W _ => hY pre x W) hcW (hA.below hW) h0

theorem mem_rsI (ss : List Int) (x : Int) : x ∈ rsI ss ↔ x ∈ ss := (intoAll_spec ordI ss).2 x

theorem rising_stops_wi (Pw : Int → Prop) (n : Nat) (hn : 2 ≤ n) (Bn : Nat) (A : Option Addr) (c : Nat) (ss : List Int) (hP : ∀ x ∈ ss, Pw x) (hbig : ss.length ≤ 1000) (w : World) (hBn : Bn < w.heap.size) (hc : w.cell? ⟨Bn, 0, none⟩ = some (.slice A ss.length c)) (hA : Rd w A (ss.map eI)) :
    SeqStopsK Fence.wide n Try.prog 52 #[.pointer (some ⟨Bn, 0, none⟩)] (fun x : {x : Int // Pw x} => #[eI x.1]) (Kq w.heap.size) (fun ys => ys.map (·.1) = rsI ss) (fun pre => pre.map (·.1) <+: rsI ss) (rsI ss).length w := fun l J Jx W hW hJ hJx hY h0 => by
  have hcW := (hW.cell (p := ⟨Bn, 0, none⟩) hBn).trans hc
  have key : CallsIn Fence.wide n Try.prog 52 #[.func (.yield l) #[] #[], .pointer (some ⟨Bn, 0, none⟩)] W fun e W' => (∃ v, e = .returned v) ∧
      ((∃ ys, ys = rsI ss ∧ (∃ q : List {x : Int // Pw x}, q.map (·.1) = ys ∧ J q W')) ∨ (∃ pre, pre <+: rsI ss ∧ (∃ q : List {x : Int // Pw x}, q.map (·.1) = pre ∧ Jx q W'))) := by
    have hJ' : AbidesFrom W.heap.size (fun (p : List Int) W => ∃ q : List {x : Int // Pw x}, q.map (·.1) = p ∧ J q W) := fun s A B row hs hg hr => by
      obtain ⟨q, h1, h2⟩ := hs
      exact ⟨q, h1, hJ q A B row h2 hg hr⟩
    rcases Nat.eq_zero_or_pos ss.length with hz | hz
    · obtain rfl : ss = [] := List.eq_nil_of_length_eq_zero hz
      exact rising0_i n hn l Bn A c _ (fun p W => ∃ q : List {x : Int // Pw x}, q.map (·.1) = p ∧ Jx q W) W hJ' hcW ⟨[], rfl, h0⟩
    · refine rising1_i n hn l Bn w.heap.size A c ss hz hbig Pw (fun x hx => hP x ((mem_rsI ss x).1 hx)) _ (fun p W => ∃ q : List {x : Int // Pw x}, q.map (·.1) = p ∧ Jx q W) W hW.size hJ' ?_ hcW (hA.below hW) ⟨[], rfl, h0⟩
      rintro pre x W1 hx ⟨q, rfl, hq⟩ hl
      refine (hY q ⟨x, hx⟩ W1 hq (by simpa using hl)).mono ?_
      rintro e W' (⟨rfl, h1, h2⟩ | ⟨rfl, h1⟩)
      · exact .inl ⟨rfl, ⟨_, by simp, h1⟩, h2⟩
      · exact .inr ⟨rfl, ⟨_, by simp, h1⟩⟩
  refine key.mono ?_
  rintro e W' ⟨hv, ⟨ys, rfl, q, h1, h2⟩ | ⟨pre, hp, q, rfl, h2⟩⟩
  · exact ⟨hv, .inl ⟨q, h1, h2⟩⟩
  · exact ⟨hv, .inr ⟨q, hp, h2⟩⟩

theorem rising_in_i (n : Nat) (A : Option Addr) (m c : Nat) (w : World) :
    CallsIn Fence.wide n Try.prog 38 #[.slice A m c] w fun e w' => e = .returned (.func (.func 52) #[] #[.pointer (some ⟨w.heap.size, 0, none⟩)]) ∧ w' = w.alloc (.cells #[.slice A m c] 39) := by
  refine callsIn_of_wp Try.func38 rfl trivial ?_ rfl
  simp only [Try.ntmps38, List.size_toArray, List.length_cons, List.length_nil, Nat.reduceAdd, Nat.reduceSub, Array.replicate_succ, Array.replicate_zero, List.push_toArray, List.append_toArray, List.nil_append, List.cons_append]
  gi_wp2
  go_ret
  exact ⟨rfl, rfl⟩

theorem make_i (W : World) (n : Nat) (hn : n ≤ 1000) : (Instr.makeSlice 39 (.int .i64 0) (.int .i64 (n : Int))).run Try.prog W = .ok (.slice (some ⟨W.heap.size, 0, none⟩) 0 n) (W.alloc (.cells (madeCells #[.int .i64 0] n) 3)) := by
  obtain ⟨i0, hi, hz, hs, hb⟩ := info_parts info_int
  have := run_make (P := Try.prog) W 39 3 i0 (.int .i64 0) Try.underlying39 hi hz .i64 .i64 0 n (by omega) (by omega) (by rw [hb]; omega) (by omega)
  rw [hs, Nat.mul_one, Int.toNat_natCast] at this
  exact this

/-- between two rounds -/
structure TI (w W : World) (n k : Nat) (pre : List Int) : Prop where
  cb : CB eI 3 W w.heap.size n pre
  bx : Box W (w.heap.size + 1) 39 #[.slice (some ⟨w.heap.size, 0, none⟩) k n]
  len : k = pre.length
  on : Below w.heap.size w W

theorem TI.grown {w W W' : World} {n k : Nat} {pre : List Int} {row : Option Nat} (h : TI w W n k pre) (hg : W.grownBy W' row) (hr : ∀ r, row = some r → w.heap.size ≤ r ∧ ∃ o : Obj, W.heap[r]? = some o ∧ o.isCells = false) : TI w W' n k pre :=
  ⟨h.cb.grown hg (fun r e => (hr r e).2), box_grown h.bx hg (fun r e => (hr r e).2), h.len, h.on.grown hg h.on.size (fun k e => (hr k e).1)⟩

theorem rsi_len (ss : List Int) : (rsI ss).length ≤ ss.length := by
  have := Lib.compact_length_le (ss.mergeSort fun x y => decide (x ≤ y))
  rw [sorted_i, List.length_mergeSort] at this
  exact this

def TPost (w : World) (ss : List Int) (e : Ending) (w' : World) : Prop := ∃ A cap, e = .returned (.slice A (rsI ss).length cap) ∧ Below w.heap.size w w' ∧ Rd w' A ((rsI ss).map eI)

theorem body_endi {w W w4 : World} {n n₀ : Nat} {pre : List Int} {x : Int} (hi : TI w W n pre.length pre) (hF : Fr [w.heap.size] W w4) (hcb : CB eI 3 w4 w.heap.size n (pre ++ [x])) (hbx : Box w4 (w.heap.size + 1) 39 #[.slice (some ⟨w.heap.size, 0, none⟩) pre.length n]) (h0 : w.heap.size + 2 ≤ n₀) :
    KeepsOthers W (w4.setCell ⟨w.heap.size + 1, 0, none⟩ (.slice (some ⟨w.heap.size, 0, none⟩) (pre.length + 1) n)) ∧ Kq n₀ W (w4.setCell ⟨w.heap.size + 1, 0, none⟩ (.slice (some ⟨w.heap.size, 0, none⟩) (pre.length + 1) n)) ∧ TI w (w4.setCell ⟨w.heap.size + 1, 0, none⟩ (.slice (some ⟨w.heap.size, 0, none⟩) (pre.length + 1) n)) n (pre ++ [x]).length (pre ++ [x]) := by
  have hset : Fr [w.heap.size + 1] w4 (w4.setCell ⟨w.heap.size + 1, 0, none⟩ (.slice (some ⟨w.heap.size, 0, none⟩) (pre.length + 1) n)) := (Fr.refl _ w4).setCell (Or.inl (by simp)) _
  have hall : Fr [w.heap.size, w.heap.size + 1] W (w4.setCell ⟨w.heap.size + 1, 0, none⟩ (.slice (some ⟨w.heap.size, 0, none⟩) (pre.length + 1) n)) := hF.trans hset (by simp) (by simp)
  refine ⟨(keeps_fr hF (fun g hg => ?_)).trans (KeepsOthers.setCell _ _ _), kq_fr hall (by simp; omega), ?_, ?_, rfl, ?_⟩
  · rw [List.mem_singleton] at hg
    subst hg
    obtain ⟨cur, h1, _⟩ := hi.cb.ex
    exact ⟨_, h1, rfl⟩
  · exact hcb.kept _ (hset.block _ hcb.lt (by simp))
  · have := hbx.put 0 (.slice (some ⟨w.heap.size, 0, none⟩) (pre.length + 1) n)
    rw [List.length_append, List.length_singleton]
    exact this
  · exact hi.on.trans (hall.below (by simp) hi.on.size)

set_option maxRecDepth 100000 in
set_option maxHeartbeats 2000000 in
theorem sortedi_any (w : World) (A : Option Addr) (c : Nat) (ss : List Int) (hA : Rd w A (ss.map eI)) (hbig : ss.length ≤ 1000) :
    Calls Try.prog 34 #[.slice A ss.length c] w (TPost w ss) := by
  have hmk := fun W => make_i W ss.length hbig
  have hrs := rsi_len ss
  refine (callsIn_wide (n := 8)).1 ?_
  refine callsIn_of_wp_marks Try.func34 rfl trivial ?_ rfl
  simp only [Try.ntmps34, List.size_toArray, List.length_cons, List.length_nil, Nat.reduceAdd, Nat.reduceSub, Array.replicate_succ, Array.replicate_zero, List.push_toArray, List.append_toArray, List.nil_append, List.cons_append]
  gi_wp2_with (refine ⟨trivial, ?_⟩; gi_at_call 38; refine (rising_in_i _ A ss.length c _).mono ?_; rintro e w' ⟨rfl, rfl⟩)
  obtain ⟨W0, hW0⟩ : ∃ W0, Hid (W0 = ((w.alloc (.cells (madeCells #[.int .i64 0] ss.length) 3)).alloc (.cells #[.slice (some ⟨w.heap.size, 0, none⟩) 0 ss.length] 39)).alloc (.cells #[.slice A ss.length c] 39)) := ⟨_, Lib.hid rfl⟩
  have hsz : W0.heap.size = w.heap.size + 3 := by rw [hW0.out]; simp
  have hSI : TI w W0 ss.length 0 [] := by
    rw [hW0.out]
    refine ⟨⟨⟨madeCells #[.int .i64 0] ss.length, ?_, size_madeCells _ _, by simp⟩, by simp, by unfold maxLen; omega⟩, ?_, rfl, (((Below.refl _ _).alloc (Nat.le_refl _) _).alloc (by simp) _).alloc (by simp; omega) _⟩
    · rw [Below.heap_alloc _ _ _ (by simp; omega), Below.heap_alloc _ _ _ (by simp)]
      exact heap_alloc_new w _
    · have := Box.new (w.alloc (.cells (madeCells #[.int .i64 0] ss.length) 3)) 39 #[.slice (some ⟨w.heap.size, 0, none⟩) 0 ss.length]
      rw [World.size_alloc] at this
      exact this.kept ((Fr.refl [] _).alloc _) (by simp)
  have hbx : W0.cell? ⟨w.heap.size + 1 + 1, 0, none⟩ = some (.slice A ss.length c) := by
    rw [hW0.out]
    have := new_cell ((w.alloc (.cells (madeCells #[.int .i64 0] ss.length) 3)).alloc (.cells #[.slice (some ⟨w.heap.size, 0, none⟩) 0 ss.length] 39)) (.slice A ss.length c) 39
    rwa [World.size_alloc, World.size_alloc] at this
  have hA0 : Rd W0 A (ss.map eI) := hA.below hSI.on
  rw [← hW0.out]
  clear hmk hA hW0
  refine wpIn_rangeFunc_ownF (F := Fence.wide) rfl (by omega) (gf := 52) (lb := #[.pointer (some ⟨w.heap.size + 1 + 1, 0, none⟩)]) rfl trivial (enters_of Try.func52 (by kernel_rfl) rfl)
    (rising_stops_i _ (by omega) (w.heap.size + 1 + 1) A c ss hbig W0 (by omega) hbx hA0) (fun h k => kq_t h k) (fun W l o o' _ h1 h2 _ => kq_b W l o o' h1 h2) (Below.refl _ _) (fun _ => rfl)
    (fun pre W => TI w W ss.length pre.length pre)
    (fun _ _ _ => False)
    (fun s W W' row hs hg hr => hs.grown hg (fun r e => ⟨by have := (hr r e).1; omega, (hr r e).2⟩))
    (fun _ _ _ _ _ hs _ _ => hs)
    hSI
    (fun x => { tmps := #[.slice A ss.length c, undef, .slice none 0 0, .pointer (some ⟨w.heap.size + 1, 0, none⟩), eI x, .slice A ss.length c, .int .i64 ss.length, .slice (some ⟨w.heap.size, 0, none⟩) 0 ss.length, .slice A ss.length c, .func (.func 52) #[] #[.pointer (some ⟨w.heap.size + 1 + 1, 0, none⟩)], eI x, undef, undef, undef, undef, undef], defers := [] }) ?assign ?body ?done ?stop
  case assign =>
    intro l x W K hK
    gi_wp2
    exact hK
  case body =>
    rintro l pre x W hi hlt
    have hsw := hi.on.size
    have hrl := hi.cb.lt
    have hbl := hi.bx.lt
    have hcb : CB eI 3 (W.alloc (.cells #[eI x] 3)) w.heap.size ss.length pre := hi.cb.kept _ (Below.heap_alloc _ _ _ hrl)
    have cb : W.cell? ⟨w.heap.size + 1, 0, none⟩ = some (.slice (some ⟨w.heap.size, 0, none⟩) pre.length ss.length) := hi.bx.cell 0
    obtain ⟨i0, hi0, hz0, hs0, hb0⟩ := info_parts info_int
    have HI := Lib.hid hi
    clear hi hSI hbx hA0
    gi_wp2_with (gi_at_builtin
                 refine wpListIn_room rfl (.tmp 11) (.tmp 13) _ rfl hcb rfl (by omega) Try.underlying39 hi0 hs0 rfl rfl (new_cell _ _ _) rfl ?_
                 intro w4 hcb4 hf4
                 have hF : Fr [w.heap.size] W w4 := ((Fr.refl _ W).alloc _).trans hf4 (fun g hg => Or.inl hg) (fun g hg => Or.inl hg)
                 have hbx4 := HI.out.bx.kept hF (by simp)
                 have cb4 : w4.cell? ⟨w.heap.size + 1, 0, none⟩ = some (.slice (some ⟨w.heap.size, 0, none⟩) pre.length ss.length) := hbx4.cell 0
                 have fb4 := hbx4.free 0)
    exact body_endi HI.out hF hcb4 hbx4 (by omega)
  case done =>
    rintro D ys W hD rfl hi hK
    have cb : W.cell? ⟨w.heap.size + 1, 0, none⟩ = some (.slice (some ⟨w.heap.size, 0, none⟩) (rsI ss).length ss.length) := hi.bx.cell 0
    gi_wp2
    refine ⟨by simp, .inl ⟨_, _, rfl, run_takeDeferred hK, ?_⟩⟩
    have hw := hi.grown (grownBy_putObj' W D (.deferred none)) (fun r e => by cases e; exact ⟨by omega, _, hK, rfl⟩)
    exact ⟨_, results_tmp rfl _ _ _, some ⟨w.heap.size, 0, none⟩, ss.length, rfl, hw.on, hw.cb.rd⟩
  case stop =>
    rintro D c pre W hD _ h _
    exact h.elim
end Go.Proofs.Ytehieiddelngfaa.inn
