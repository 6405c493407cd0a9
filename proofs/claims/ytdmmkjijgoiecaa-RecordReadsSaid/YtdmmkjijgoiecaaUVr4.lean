import Derived.Test.YtdmmkjijgoiecaaV01
import Derived.RangeFuncNested
import Derived.RangeFuncBound
import Derived.RangeFuncCalls
import Derived.RangeFuncLeaves
import Derived.RangeFuncFrom
import Derived.Shelf.Abstract
import Derived.Shelf.RegionOpen
import Derived.OwnWalkIn
import Derived.TacticsInMore
import Derived.LoopNIn
import Derived.LoopIn
/-
  varint: the bytes of a count, one by one: the iterator's contract.
-/
set_option linter.all false
namespace Go.Proofs.Ytdmmkjijgoiecaa.vr
open Go.RowKit Go.Shelf Go.Proofs.Ytdmmkjijgoiecaa.mem

attribute [local go_sem] Oper.semAt_some

set_option maxRecDepth 100000 in
theorem or_all : ∀ x : Fin 128, bits .or .u8 ((x.val : Nat) : Int) 128 = ((x.val + 128 : Nat) : Int) := by decide
theorem or_of (k : Nat) : ((k % 128 + 128 : Nat) : Int) = bits .or .u8 ((k : Int) % 128) 128 := by
  have := or_all ⟨k % 128, Nat.mod_lt _ (by omega)⟩
  rw [show ((k : Int) % 128) = ((k % 128 : Nat) : Int) from by omega]
  exact this.symm

theorem nb_split (n k : Nat) (pre : List UInt8) (h : pre ++ nb k = nb n) (hk : 128 ≤ k) : (pre ++ [by8 (k % 128 + 128)]) ++ nb (k / 128) = nb n := by
  rw [← h, nb_more k hk]; simp

set_option maxRecDepth 100000 in
set_option maxHeartbeats 1000000 in
theorem sevens1_in (F : Fence) (n : Nat) (hf : F.fn 118) (hro : F.round = none) (hn : 1 ≤ n) (l Bn m : Nat) (hm : m ≤ 268435456) (J Jx : List UInt8 → World → Prop)
    (hY : ∀ pre x W, J pre W → pre.length < (nb m).length → YieldAt F (n - 1) Try.prog l #[.int .u8 ((x : UInt8).toNat : Int)] W fun e W' =>
      (e = .returned (.bool true) ∧ J (pre ++ [x]) W' ∧ True) ∨ (e = .returned (.bool false) ∧ Jx (pre ++ [x]) W'))
    (W : World) (hBn : W.cell? ⟨Bn, 0, none⟩ = some (.int .i64 m)) (h0 : J [] W) :
    CallsIn F n Try.prog 118 #[.func (.yield l) #[] #[], .pointer (some ⟨Bn, 0, none⟩)] W fun e W' => (∃ v, e = .returned v) ∧
      ((∃ ys, ys = nb m ∧ J ys W') ∨ (∃ pre, pre <+: nb m ∧ Jx pre W')) := by
  refine callsIn_of_wp Try.func118 rfl hf ?_ hro
  simp only [Try.ntmps118, List.size_toArray, List.length_cons, List.length_nil, Nat.reduceAdd, Nat.reduceSub, Array.replicate_succ, Array.replicate_zero, List.push_toArray, List.append_toArray, List.nil_append, List.cons_append]
  gi_wp2
  gi_loopw [3] (fun p wr => ∃ (k : Nat) (pre : List UInt8), p = .int .i64 k ∧ k ≤ 268435456 ∧ pre ++ nb k = nb m ∧ J pre wr)
    (fun p wr => (intOf p).toNat)
  case atStart =>
    exact ⟨m, [], rfl, hm, rfl, h0⟩
  case round =>
    obtain ⟨k, pre, rfl, hk, hp, hJs⟩ := hrel
    have hlt : pre.length < (nb m).length := by rw [← hp, List.length_append]; have := nb_pos k; omega
    by_cases h1 : 128 ≤ k
    · have e1 : decide ((128 : Int) ≤ (k : Int)) = true := decide_eq_true (by omega)
      have hp2 := Lib.hid (nb_split m k pre hp h1)
      have hpp : Hid ((pre ++ [by8 (k % 128 + 128)]) <+: nb m) := Lib.hid ⟨nb (k / 128), hp2.out⟩
      obtain ⟨fn, tmps, assign, body, hy, hR⟩ := hY pre (by8 (k % 128 + 128)) wr hJs hlt
      rw [by8_nat _ (by omega), or_of] at hy
      have HJ : Hid (∀ W', J (pre ++ [by8 (k % 128 + 128)]) W' → ∃ (k' : Nat) (pre' : List UInt8), Value.int .i64 ((k / 128 : Nat) : Int) = .int .i64 k' ∧ k' ≤ 268435456 ∧ pre' ++ nb k' = nb m ∧ J pre' W') := Lib.hid (fun W' h => ⟨k / 128, _, rfl, by omega, hp2.out, h⟩)
      clear hp hlt
      gi_wp2
      refine hR.mono ?_
      rintro e W3 (⟨rfl, hJ3, hk3⟩ | ⟨rfl, hJx3⟩)
      · gi_wp2
        go_roundw
        case rel => exact HJ.out _ hJ3
        case measure => simp [intOf]; omega
      · gi_wp2
        refine bodyPost_ret (results_none rfl _ _ _) rfl ?_
        exact ⟨⟨_, rfl⟩, .inr ⟨_, hpp.out, hJx3⟩⟩
    · have e1 : decide ((128 : Int) ≤ (k : Int)) = false := decide_eq_false (by omega)
      have hp2 : Hid (pre ++ [by8 k] = nb m) := Lib.hid (by rw [← hp, nb_small k (by omega)])
      obtain ⟨fn, tmps, assign, body, hy, hR⟩ := hY pre (by8 k) wr hJs hlt
      rw [by8_nat _ (by omega)] at hy
      clear hp hlt
      gi_wp2
      refine hR.mono ?_
      rintro e W3 (⟨rfl, hJ3, hk3⟩ | ⟨rfl, hJx3⟩)
      · gi_wp2
        go_end0
        exact ⟨⟨_, rfl⟩, .inl ⟨_, hp2.out, hJ3⟩⟩
      · gi_wp2
        go_end0
        exact ⟨⟨_, rfl⟩, .inr ⟨_, ⟨[], by rw [List.append_nil]; exact hp2.out⟩, hJx3⟩⟩

theorem sevens_stops (F : Fence) (n : Nat) (hf : F.fn 118) (hro : F.round = none) (hn : 1 ≤ n) (Bn m : Nat) (hm : m ≤ 268435456) (w : World) (hBn : Bn < w.heap.size) (hc : w.cell? ⟨Bn, 0, none⟩ = some (.int .i64 m)) :
    SeqStopsK F n Try.prog 118 #[.pointer (some ⟨Bn, 0, none⟩)] (fun x : UInt8 => #[Value.int .u8 (x.toNat : Int)]) (fun _ _ => True) (fun ys => ys = nb m) (fun pre => pre <+: nb m) (nb m).length w := fun l J Jx W hW _ _ hY h0 =>
  sevens1_in F n hf hro hn l Bn m hm J Jx hY W ((hW.cell (p := ⟨Bn, 0, none⟩) hBn).trans hc) h0

theorem sevens_in (F : Fence) (n : Nat) (hf : F.fn 116) (hro : F.round = none) (m : Nat) (w : World) :
    CallsIn F n Try.prog 116 #[.int .i64 m] w fun e w' => e = .returned (.func (.func 118) #[] #[.pointer (some ⟨w.heap.size, 0, none⟩)]) ∧ w' = w.alloc (.cells #[.int .i64 m] 3) := by
  refine callsIn_of_wp Try.func116 rfl hf ?_ hro
  simp only [Try.ntmps116, List.size_toArray, List.length_cons, List.length_nil, Nat.reduceAdd, Nat.reduceSub, Array.replicate_succ, Array.replicate_zero, List.push_toArray, List.append_toArray, List.nil_append, List.cons_append]
  gi_wp2
  go_ret
  exact ⟨rfl, rfl⟩
end Go.Proofs.Ytdmmkjijgoiecaa.vr
