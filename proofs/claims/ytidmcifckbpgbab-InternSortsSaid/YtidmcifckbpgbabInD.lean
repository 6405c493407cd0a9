/-
  intern: the law on what is sorted.
-/
import Derived.Test.YtidmcifckbpgbabInC
namespace Go.Proofs.Ytidmcifckbpgbab.inn
open Go.RowKit Go.Shelf Go.Sort Go.Proofs.Ytidmcifckbpgbab.mem

set_option maxRecDepth 100000 in
set_option maxHeartbeats 400000 in
theorem law_sorts (w : World) (A : Option Addr) (cap : Nat) (l : List (List UInt8)) (h : Rd w A (l.map encStr)) (hm : l.length ≤ 9223372036854775807) :
    Calls Try.prog 4 #[.slice A l.length cap] w (WorksPost w) := by
  have K1 := Lib.hid (great_any w A cap l h hm)
  have Hh := Lib.hid h
  clear h
  go_enter Try.func4, Try.ntmps4
  go_wp2_with fail
  refine K1.out.mono ?_
  rintro e w1 ⟨r, rfl, rfl, hr⟩
  cases r with
  | true =>
    clear hr
    go_wp2_with fail
    go_ret
    exact ⟨rfl, Below.refl _ _⟩
  | false =>
    have hl := hr rfl
    clear hr
    go_wp2_with fail
    refine (sorted_any w A cap l Hh.out (by omega)).mono ?_
    rintro e w2 ⟨A2, c2, rfl, b2, r2⟩
    have B2 := Lib.hid b2
    have R2 := Lib.hid r2
    clear b2 r2
    go_wp2_with fail
    refine (rsorted_any w2 A cap l (Hh.out.below B2.out) (by omega)).mono ?_
    rintro e w3 ⟨A3, c3, rfl, s3, b3⟩
    have B3 := Lib.hid b3
    have S3 := Lib.hid s3
    clear b3 s3
    have hlen := rs_len l
    go_wp2_with fail
    refine (same_any w3 A2 A3 c2 c3 (rsS l) (R2.out.below B3.out) S3.out.rd (by omega)).mono ?_
    rintro e w4 ⟨rfl, b4⟩
    have B4 := Lib.hid b4
    clear b4
    go_wp2_with fail
    refine (works_any w4).mono ?_
    rintro e w5 ⟨rfl, b5⟩
    have B5 := Lib.hid b5
    clear b5
    go_wp2_with fail
    go_ret
    have z2 := B2.out.size
    have z3 := B3.out.size
    have z4 := B4.out.size
    exact ⟨rfl, ((B2.out.trans (B3.out.mono z2)).trans (B4.out.mono (by omega))).trans (B5.out.mono (by omega))⟩
end Go.Proofs.Ytidmcifckbpgbab.inn
