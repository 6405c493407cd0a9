/-
  intern: the reference's Number.
-/
import Derived.Test.YtehieiddelngfaaInG
namespace Go.Proofs.Ytehieiddelngfaa.ins
open Go.RowKit Go.Shelf Go.Proofs.Ytehieiddelngfaa.mem Go.Proofs.Ytehieiddelngfaa.inn

def numV (xs : List (List UInt8)) (x : List UInt8) : Int := if x ∈ xs then (noOf xs x : Nat) else -1

theorem numV_here {xs : List (List UInt8)} {x : List UInt8} {k : Nat} (hk : k < xs.length) (hx : xs[k] = x) (hn : x ∉ xs.take k) : numV xs x = (k : Nat) := by
  have hm : x ∈ xs := hx ▸ List.getElem_mem hk
  unfold numV noOf
  rw [if_pos hm, if_pos hm]
  have e : xs = xs.take k ++ x :: xs.drop (k + 1) := by
    rw [← hx, ← List.drop_eq_getElem_cons hk, List.take_append_drop]
  have : xs.idxOf x = k := by
    rw [e, List.idxOf_append, if_neg hn]
    simp; omega
  rw [this]

theorem numV_none {xs : List (List UInt8)} {x : List UInt8} (hn : x ∉ xs) : numV xs x = -1 := by unfold numV; rw [if_neg hn]

set_option maxRecDepth 100000 in
theorem number_any (w : World) (A : Option Addr) (cap : Nat) (xs : List (List UInt8)) (x : List UInt8) (h : Rd w A (xs.map encStr)) (hm : xs.length ≤ 1000) :
    Calls Try.prog 10 #[.slice A xs.length cap, encStr x] w fun e w' => e = .returned (.int .i64 (numV xs x)) ∧ w = w' := by
  have Hh := Lib.hid h
  have Hv : Hid (∀ (k : Nat) (hk : k < xs.length), xs[k] = x → x ∉ xs.take k → numV xs x = (k : Nat)) := Lib.hid (fun k hk h1 h2 => numV_here hk h1 h2)
  have Hn : Hid (x ∉ xs → numV xs x = -1) := Lib.hid numV_none
  clear h
  generalize numV xs x = r at *
  go_enter Try.func10, Try.ntmps10
  go_wp2_with fail
  go_loopw [5] (fun i wr => ∃ k : Nat, k ≤ xs.length ∧ i = .int .i64 k ∧ Hid (x ∉ xs.take k) ∧ w = wr) (fun i _ => xs.length - (intOf i).toNat)
  case atStart => exact ⟨0, by omega, rfl, Lib.hid (by simp), rfl⟩
  case round =>
    obtain ⟨k, hk, rfl, hnot, rfl⟩ := hrel
    by_cases hkl : k < xs.length
    · have e1 : decide ((k : Int) < (xs.length : Int)) = true := decide_eq_true (by omega)
      obtain ⟨g, off, rfl, hlt, hc⟩ := rd_str Hh.out (by omega)
      have c2 := hc k hkl
      clear hc
      rcases heq : (xs[k] == x) with _ | _
      · unfold encStr at c2 ⊢
        go_wp2_with fail
        go_roundw
        case rel =>
          refine ⟨k + 1, by omega, by go_num, Lib.hid ?_, trivial⟩
          rw [List.take_succ_eq_append_getElem hkl, List.mem_append, List.mem_singleton]
          rintro (h | h)
          · exact hnot.out h
          · rw [← h] at heq; simp at heq
        case measure => simp [intOf]; omega
      · have hr := Hv.out k hkl (eq_of_beq heq) hnot.out
        unfold encStr at c2 ⊢
        go_wp2_with fail
        go_ret
        exact ⟨by rw [hr]; rfl, rfl⟩
    · obtain rfl : k = xs.length := by omega
      have e1 : decide ((xs.length : Int) < (xs.length : Int)) = false := decide_eq_false (by omega)
      have hr := Hn.out (by have := hnot.out; rwa [List.take_length] at this)
      unfold encStr
      go_wp2_with fail
      go_ret
      exact ⟨by rw [hr]; rfl, rfl⟩
end Go.Proofs.Ytehieiddelngfaa.ins
