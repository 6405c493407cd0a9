/-
  intern: the iterator's contract, of whatever list.
-/
import Derived.Test.YtcicojobeggdaaaIn2
namespace Go.Proofs.Ytcicojobeggdaaa.inn
open Go.RowKit Go.Shelf Go.Proofs.Ytcicojobeggdaaa.mem

attribute [local go_sem] Oper.semAt_some

theorem clone0_s (w : World) (A : Option Addr) (c : Nat) : Calls Try.prog 41 #[.slice A 0 c] w fun e w' => ∃ B cap, e = .returned (.slice B 0 cap) ∧ Below w.heap.size w w' := by
  cases A with
  | none =>
    refine (Try.slices_Clone_string_nil 0 c w).mono ?_
    rintro e w' ⟨rfl, rfl⟩
    exact ⟨none, 0, rfl, Below.refl _ _⟩
  | some a =>
    refine (Try.slices_Clone_string_zero a c w).mono ?_
    rintro e w' ⟨v, rfl, ho, hv, hb⟩
    obtain ⟨_, h | ⟨g, cap, cur, rfl, _⟩⟩ := ho
    · exact absurd h.1 hv
    · exact ⟨some ⟨g, 0, none⟩, cap, rfl, hb⟩

set_option maxRecDepth 100000 in
set_option maxHeartbeats 1000000 in
theorem rising0_s (n : Nat) (hn : 2 ≤ n) (l Bn : Nat) (A : Option Addr) (c : Nat) (J Jx : List (List UInt8) → World → Prop)
    (W : World) (hJ : AbidesFrom W.heap.size J)
    (hBn : W.cell? ⟨Bn, 0, none⟩ = some (.slice A 0 c)) (h0 : J [] W) :
    CallsIn Fence.wide n Try.prog 40 #[.func (.yield l) #[] #[], .pointer (some ⟨Bn, 0, none⟩)] W fun e W' => (∃ v, e = .returned v) ∧
      ((∃ ys, ys = rsS [] ∧ J ys W') ∨ (∃ pre, pre <+: rsS [] ∧ Jx pre W')) := by
  have K1 := clone0_s W A c
  refine callsIn_of_wp Try.func40 rfl trivial ?_ rfl
  simp only [Try.ntmps40, List.size_toArray, List.length_cons, List.length_nil, Nat.reduceAdd, Nat.reduceSub, Array.replicate_succ, Array.replicate_zero, List.push_toArray, List.append_toArray, List.nil_append, List.cons_append]
  gi_wp2_with (refine ⟨trivial, fun _ => (by omega), ?_⟩; gi_at_call 41; refine (callsIn_wide.2 K1).mono ?_; rintro e w1 ⟨B, cap, rfl, hb1⟩)
  have K2 := Try.slices_Sort_string_none B cap w1
  clear K1 hBn
  gi_wp2_with (refine ⟨trivial, fun _ => (by omega), ?_⟩; gi_at_call 42; refine (callsIn_wide.2 K2).mono ?_; rintro e w2 ⟨rfl, hw2⟩)
  subst hw2
  have K3 := Try.slices_Compact_string_empty B cap w2
  clear K2
  gi_wp2_with (refine ⟨trivial, fun _ => (by omega), ?_⟩; gi_at_call 43; refine (callsIn_wide.2 K3).mono ?_; rintro e w3 ⟨rfl, hw3⟩)
  subst hw3
  have HJ := Lib.hid (hJ [] W w3 none h0 (grown_of hb1) (fun r e => by cases e))
  clear K3 hJ h0 hb1
  gi_loopw [13] (fun i wr => i = .int .i64 0 ∧ w3 = wr) (fun _ _ => 0)
  case atStart => exact ⟨rfl, rfl⟩
  case round =>
    obtain ⟨rfl, rfl⟩ := hrel
    gi_wp2
    go_end0
    exact ⟨⟨_, rfl⟩, .inl ⟨_, rfl, HJ.out⟩⟩

theorem rising_stops_s (n : Nat) (hn : 2 ≤ n) (Bn : Nat) (A : Option Addr) (c : Nat) (ss : List (List UInt8)) (hbig : ss.length ≤ 1000) (w : World) (hBn : Bn < w.heap.size) (hc : w.cell? ⟨Bn, 0, none⟩ = some (.slice A ss.length c)) (hA : Rd w A (ss.map encStr)) :
    SeqStopsK Fence.wide n Try.prog 40 #[.pointer (some ⟨Bn, 0, none⟩)] (fun x : List UInt8 => #[encStr x]) (Kq w.heap.size) (fun ys => ys = rsS ss) (fun pre => pre <+: rsS ss) (rsS ss).length w := fun l J Jx W hW hJ _ hY h0 => by
  have hcW := (hW.cell (p := ⟨Bn, 0, none⟩) hBn).trans hc
  rcases Nat.eq_zero_or_pos ss.length with hz | hz
  · obtain rfl : ss = [] := List.eq_nil_of_length_eq_zero hz
    exact rising0_s n hn l Bn A c J Jx W hJ hcW h0
  · exact rising1_s n hn l Bn w.heap.size A c ss hz hbig (fun _ => True) (fun _ _ => trivial) J Jx W hW.size hJ (fun pre x W _ => hY pre x W) hcW (hA.below hW) h0

theorem mem_rsS (ss : List (List UInt8)) (x : List UInt8) : x ∈ rsS ss ↔ x ∈ ss := (intoAll_spec ordS ss).2 x

theorem rising_stops_w (Pw : List UInt8 → Prop) (n : Nat) (hn : 2 ≤ n) (Bn : Nat) (A : Option Addr) (c : Nat) (ss : List (List UInt8)) (hP : ∀ x ∈ ss, Pw x) (hbig : ss.length ≤ 1000) (w : World) (hBn : Bn < w.heap.size) (hc : w.cell? ⟨Bn, 0, none⟩ = some (.slice A ss.length c)) (hA : Rd w A (ss.map encStr)) :
    SeqStopsK Fence.wide n Try.prog 40 #[.pointer (some ⟨Bn, 0, none⟩)] (fun x : {x : List UInt8 // Pw x} => #[encStr x.1]) (Kq w.heap.size) (fun ys => ys.map (·.1) = rsS ss) (fun pre => pre.map (·.1) <+: rsS ss) (rsS ss).length w := fun l J Jx W hW hJ hJx hY h0 => by
  have hcW := (hW.cell (p := ⟨Bn, 0, none⟩) hBn).trans hc
  have key : CallsIn Fence.wide n Try.prog 40 #[.func (.yield l) #[] #[], .pointer (some ⟨Bn, 0, none⟩)] W fun e W' => (∃ v, e = .returned v) ∧
      ((∃ ys, ys = rsS ss ∧ (∃ q : List {x : List UInt8 // Pw x}, q.map (·.1) = ys ∧ J q W')) ∨ (∃ pre, pre <+: rsS ss ∧ (∃ q : List {x : List UInt8 // Pw x}, q.map (·.1) = pre ∧ Jx q W'))) := by
    have hJ' : AbidesFrom W.heap.size (fun (p : List (List UInt8)) W => ∃ q : List {x : List UInt8 // Pw x}, q.map (·.1) = p ∧ J q W) := fun s A B row hs hg hr => by
      obtain ⟨q, h1, h2⟩ := hs
      exact ⟨q, h1, hJ q A B row h2 hg hr⟩
    rcases Nat.eq_zero_or_pos ss.length with hz | hz
    · obtain rfl : ss = [] := List.eq_nil_of_length_eq_zero hz
      exact rising0_s n hn l Bn A c _ (fun p W => ∃ q : List {x : List UInt8 // Pw x}, q.map (·.1) = p ∧ Jx q W) W hJ' hcW ⟨[], rfl, h0⟩
    · refine rising1_s n hn l Bn w.heap.size A c ss hz hbig Pw (fun x hx => hP x ((mem_rsS ss x).1 hx)) _ (fun p W => ∃ q : List {x : List UInt8 // Pw x}, q.map (·.1) = p ∧ Jx q W) W hW.size hJ' ?_ hcW (hA.below hW) ⟨[], rfl, h0⟩
      rintro pre x W1 hx ⟨q, rfl, hq⟩ hl
      refine (hY q ⟨x, hx⟩ W1 hq (by simpa using hl)).mono ?_
      rintro e W' (⟨rfl, h1, h2⟩ | ⟨rfl, h1⟩)
      · exact .inl ⟨rfl, ⟨_, by simp, h1⟩, h2⟩
      · exact .inr ⟨rfl, ⟨_, by simp, h1⟩⟩
  refine key.mono ?_
  rintro e W' ⟨hv, ⟨ys, rfl, q, h1, h2⟩ | ⟨pre, hp, q, rfl, h2⟩⟩
  · exact ⟨hv, .inl ⟨q, h1, h2⟩⟩
  · exact ⟨hv, .inr ⟨q, hp, h2⟩⟩

theorem rising_in_s (n : Nat) (A : Option Addr) (m c : Nat) (w : World) :
    CallsIn Fence.wide n Try.prog 32 #[.slice A m c] w fun e w' => e = .returned (.func (.func 40) #[] #[.pointer (some ⟨w.heap.size, 0, none⟩)]) ∧ w' = w.alloc (.cells #[.slice A m c] 22) := by
  refine callsIn_of_wp Try.func32 rfl trivial ?_ rfl
  simp only [Try.ntmps32, List.size_toArray, List.length_cons, List.length_nil, Nat.reduceAdd, Nat.reduceSub, Array.replicate_succ, Array.replicate_zero, List.push_toArray, List.append_toArray, List.nil_append, List.cons_append]
  gi_wp2
  go_ret
  exact ⟨rfl, rfl⟩
end Go.Proofs.Ytcicojobeggdaaa.inn
