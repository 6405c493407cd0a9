/-
  Bits: the library's OnesCount64.
-/
import Derived.Test.YtnjaadcbpkbjbaaDoorBt2
import Derived.WalkKit
import Derived.WalkSpells
import Derived.Laws.Bits64b
namespace Go.Proofs.YtnjaadcbpkbjbaaDoor.bt
open Go.RowKit Go.Proofs.YtnjaadcbpkbjbaaDoor.mem

theorem wrap64_lt (n : Nat) (h : n < 18446744073709551616) : IntKind.u64.wrap (n : Int) = (n : Int) := by rw [IntKind.wrap_u64]; omega

theorem and127 (g : Nat) (h : g < 9223372036854775808) : bits BinOp.and IntKind.i64 (g : Int) 127 = ((g % 128 : Nat) : Int) := by
  have h1 : (BitVec.ofInt 64 (g : Int)).toNat = g := by
    rw [BitVec.ofInt_natCast, BitVec.toNat_ofNat]; exact Nat.mod_eq_of_lt (by omega)
  have h2 : (BitVec.ofInt 64 127).toNat = 127 := by decide
  have e : g &&& 127 = g % 128 := Nat.and_two_pow_sub_one_eq_mod g 7
  show IntKind.i64.wrap ((BitVec.ofInt 64 (g : Int) &&& BitVec.ofInt 64 127).toNat : Int) = _
  rw [BitVec.toNat_and, h1, h2, e, IntWalk.i64_left]
  exact IntWalk.wrap64_in _ (by omega)

set_option maxRecDepth 100000 in
theorem ones_any (w : World) (x : Nat) (hx : x < 18446744073709551616) :
    Calls Tryd.prog 30 #[.int .u64 (x : Nat)] w fun e w' => e = .returned (.int .i64 (pop x : Nat)) ∧ w = w' := by
  obtain ⟨a, ha⟩ : ∃ a, a = ((x / 2) &&& 6148914691236517205) + (x &&& 6148914691236517205) := ⟨_, rfl⟩
  obtain ⟨b, hb⟩ : ∃ b, b = ((a / 4) &&& 3689348814741910323) + (a &&& 3689348814741910323) := ⟨_, rfl⟩
  obtain ⟨t, ht⟩ : ∃ t, t = b / 16 + b := ⟨_, rfl⟩
  obtain ⟨c, hc⟩ : ∃ c, c = t &&& 1085102592571150095 := ⟨_, rfl⟩
  obtain ⟨d, hd⟩ : ∃ d, d = c + c / 256 := ⟨_, rfl⟩
  obtain ⟨e, he⟩ : ∃ e, e = d + d / 65536 := ⟨_, rfl⟩
  obtain ⟨g, hg⟩ : ∃ g, g = e + e / 4294967296 := ⟨_, rfl⟩
  obtain ⟨r1, r2, l1, l2, l3, l4, l5, l6, l7⟩ := ones64 x hx a b c d e g ha hb (by rw [hc, ht]) hd he hg
  have l3 : t < 18446744073709551616 := by rw [ht]; exact l3
  have l1 : a < 18446744073709551616 := l1
  have l2 : b < 18446744073709551616 := l2
  have l4 : c < 18446744073709551616 := l4
  have l5 : d < 18446744073709551616 := l5
  have l6 : e < 18446744073709551616 := l6
  have l7 : g < 9223372036854775808 := l7
  have s1 : IntKind.u64.wrap (bits BinOp.and IntKind.u64 ((x : Int) / 2) 6148914691236517205 + bits BinOp.and IntKind.u64 (x : Int) 6148914691236517205) = (a : Int) := by
    have e1 := bits_and_u64_nat (x / 2) 6148914691236517205 (by omega) (by omega)
    have e2 := bits_and_u64_nat x 6148914691236517205 hx (by omega)
    rw [show ((x : Int) / 2) = ((x / 2 : Nat) : Int) by omega, show (6148914691236517205 : Int) = ((6148914691236517205 : Nat) : Int) from rfl, e1, e2, ← Int.natCast_add, ← ha]
    exact wrap64_lt a l1
  have s2 : IntKind.u64.wrap (bits BinOp.and IntKind.u64 ((a : Int) / 4) 3689348814741910323 + bits BinOp.and IntKind.u64 (a : Int) 3689348814741910323) = (b : Int) := by
    have e1 := bits_and_u64_nat (a / 4) 3689348814741910323 (by omega) (by omega)
    have e2 := bits_and_u64_nat a 3689348814741910323 l1 (by omega)
    rw [show ((a : Int) / 4) = ((a / 4 : Nat) : Int) by omega, show (3689348814741910323 : Int) = ((3689348814741910323 : Nat) : Int) from rfl, e1, e2, ← Int.natCast_add, ← hb]
    exact wrap64_lt b l2
  have s3 : IntKind.u64.wrap ((b : Int) / 16 + (b : Int)) = (t : Int) := by
    rw [show ((b : Int) / 16 + (b : Int)) = ((b / 16 + b : Nat) : Int) by omega, ← ht]
    exact wrap64_lt t l3
  have s4 : bits BinOp.and IntKind.u64 (t : Int) 1085102592571150095 = (c : Int) := by
    rw [show (1085102592571150095 : Int) = ((1085102592571150095 : Nat) : Int) from rfl, bits_and_u64_nat t 1085102592571150095 l3 (by omega), ← hc]
  have s5 : IntKind.u64.wrap ((c : Int) + (c : Int) / 256) = (d : Int) := by
    rw [show ((c : Int) + (c : Int) / 256) = ((c + c / 256 : Nat) : Int) by omega, ← hd]
    exact wrap64_lt d l5
  have s6 : IntKind.u64.wrap ((d : Int) + (d : Int) / 65536) = (e : Int) := by
    rw [show ((d : Int) + (d : Int) / 65536) = ((d + d / 65536 : Nat) : Int) by omega, ← he]
    exact wrap64_lt e l6
  have s7 : IntKind.u64.wrap ((e : Int) + (e : Int) / 4294967296) = (g : Int) := by
    rw [show ((e : Int) + (e : Int) / 4294967296) = ((e + e / 4294967296 : Nat) : Int) by omega, ← hg]
    exact wrap64_lt g (by omega)
  have s8 : bits BinOp.and IntKind.i64 (g : Int) 127 = ((pop x : Nat) : Int) := by rw [and127 g l7, r1]
  clear ha hb ht hc hd he hg r1 r2 l1 l2 l3 l4 l5 l6
  go_enter Tryd.func30, Tryd.ntmps30
  go_wp2_with fail
  go_ret
  exact ⟨rfl, rfl⟩
end Go.Proofs.YtnjaadcbpkbjbaaDoor.bt
