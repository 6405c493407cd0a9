/-
  varint: the reference's Number.
-/
import Derived.Test.YtcicojobeggdaaaMem
import Derived.Test.YtcicojobeggdaaaVr
import Derived.Outline
import Derived.Laws.IdiomStrings
namespace Go.Proofs.Ytcicojobeggdaaa.vr
open Go.RowKit Go.Proofs.Ytcicojobeggdaaa.mem

/-- bytes as a string -/
def bs (l : List UInt8) : ByteArray := ⟨l.toArray⟩
theorem bs_app (l m : List UInt8) : bs l ++ bs m = bs (l ++ m) := by
  unfold bs
  apply ByteArray.ext
  simp
theorem bs_size (l : List UInt8) : (bs l).size = l.length := by unfold bs; simp [ByteArray.size]
theorem bs_of (s : ByteArray) : bs s.data.toList = s := by unfold bs; simp

theorem conv1 (W : World) (b : UInt8) (v : Int) (hv : v = (b.toNat : Int)) : (convert 31 9 (.slice (some ⟨W.heap.size, 0, none⟩) 1 1)).run Try.prog (W.alloc (.cells #[.int .u8 v] 5)) = .ok (.string (bs [b])) (W.alloc (.cells #[.int .u8 v] 5)) := by
  refine run_convert_bytes_back (P := Try.prog) (W.alloc (.cells #[.int .u8 v] 5)) 31 9 5 ⟨W.heap.size, 0, none⟩ 1 [b] Try.underlying31 Try.underlying5 Try.underlying9 (fun j hj => ?_)
  have : j = 0 := by simpa using hj
  subst this
  rw [hv]
  simp [Addr.add]

set_option maxRecDepth 100000 in
theorem rnumber_any (w : World) (n : Nat) (h : n ≤ 268435456) :
    Calls Try.prog 26 #[.int .i64 n] w fun e w' => e = .returned (.string (bs (nb n))) ∧ Below w.heap.size w w' := by
  have h0 : (Value.string { data := #[] }) = .string (bs []) := rfl
  go_enter Try.func26, Try.ntmps26
  clear h0
  go_wp2_with fail
  go_loopw [0, 3] (fun c s wr => ∃ (k : Nat) (pre : List UInt8), c = .int .i64 k ∧ s = .string (bs pre) ∧ k ≤ 268435456 ∧ Hid (pre ++ nb k = nb n) ∧ Hid (Below w.heap.size w wr)) (fun c _ _ => (intOf c).toNat)
  case atStart => exact ⟨n, [], rfl, rfl, h, Lib.hid rfl, Lib.hid (Below.refl _ _)⟩
  case round =>
    obtain ⟨k, pre, rfl, rfl, hk, hp, hb⟩ := hrel
    rename_i wr _
    have hpl : pre.length ≤ 5 := by have := nb_len n h; rw [← hp.out, List.length_append] at this; omega
    by_cases h1 : 128 ≤ k
    · have e1 : decide ((128 : Int) ≤ (k : Int)) = true := decide_eq_true (by omega)
      have hcv := fun W => conv1 W (by8 (k % 128 + 128)) ((k : Int) % 128 + 128) (by have := by8_nat (k % 128 + 128) (by omega); omega)
      have hap : Hid (bs pre ++ bs [by8 (k % 128 + 128)] = bs (pre ++ [by8 (k % 128 + 128)])) := Lib.hid (bs_app _ _)
      have hsz : ¬ 9223372036854775807 < (bs pre).size + (bs [by8 (k % 128 + 128)]).size := by rw [bs_size, bs_size]; simp; omega
      have hp2 : Hid ((pre ++ [by8 (k % 128 + 128)]) ++ nb (k / 128) = nb n) := Lib.hid (by rw [← hp.out, nb_more k h1]; simp)
      have hb2 : Hid (Below w.heap.size w (wr.alloc (.cells #[.int .u8 ((k : Int) % 128 + 128)] 5))) := Lib.hid (hb.out.alloc hb.out.size _)
      clear hp hb
      go_wp2_with fail
      go_roundw
      case rel => exact ⟨k / 128, _, by go_num, by rw [hap.out], by omega, hp2, hb2⟩
      case measure => simp [intOf]; omega
    · have e1 : decide ((128 : Int) ≤ (k : Int)) = false := decide_eq_false (by omega)
      have hcv := fun W => conv1 W (by8 k) (k : Int) (by have := by8_nat k (by omega); omega)
      have hsz : ¬ 9223372036854775807 < (bs pre).size + (bs [by8 k]).size := by rw [bs_size, bs_size]; simp; omega
      have hp2 : Hid (bs pre ++ bs [by8 k] = bs (nb n)) := Lib.hid (by rw [bs_app, ← hp.out, nb_small k (by omega)])
      have hb2 : Hid (Below w.heap.size w (wr.alloc (.cells #[.int .u8 (k : Int)] 5))) := Lib.hid (hb.out.alloc hb.out.size _)
      clear hp hb
      go_wp2_with fail
      go_ret
      exact ⟨by rw [← hp2.out]; rfl, hb2.out⟩
end Go.Proofs.Ytcicojobeggdaaa.vr
