/-
  intern: the reference's Sorted; the law's own works.
-/
import Derived.Test.YtehieiddelngfaaInA
import Derived.Test.YtehieiddelngfaaIn8
namespace Go.Proofs.Ytehieiddelngfaa.inn
open Go.RowKit Go.Shelf Go.Sort Go.Proofs.Ytehieiddelngfaa.mem

theorem rsS_snoc (l : List (List UInt8)) (k : Nat) (hk : k < l.length) : rsS (l.take (k + 1)) = intoS (rsS (l.take k)) l[k] := by
  rw [List.take_succ_eq_append_getElem hk]
  exact intoAll_snoc _ _ _

set_option maxRecDepth 100000 in
theorem rsorted_any (w : World) (A : Option Addr) (cap : Nat) (l : List (List UInt8)) (h : Rd w A (l.map encStr)) (hm : l.length ≤ 1000) :
    Calls Try.prog 19 #[.slice A l.length cap] w (IPost w (rsS l)) := by
  have Hh := Lib.hid h
  clear h
  go_enter Try.func19, Try.ntmps19
  go_wp2_with fail
  go_loopw [3, 4] (fun o i wr => ∃ (k : Nat) (B : Option Addr) (c : Nat), k ≤ l.length ∧ i = .int .i64 k ∧ o = .slice B (rsS (l.take k)).length c ∧ Hid (Seg wr 9 B c ((rsS (l.take k)).map encStr)) ∧ Hid (Below w.heap.size w wr)) (fun _ i _ => l.length - (intOf i).toNat)
  case atStart => exact ⟨0, none, 0, by omega, rfl, rfl, Lib.hid (Seg.nil _ _), Lib.hid (Below.refl _ _)⟩
  case round =>
    obtain ⟨k, B, c, hk, rfl, rfl, hs, hb⟩ := hrel
    rename_i wr _
    by_cases hkl : k < l.length
    · have e1 : decide ((k : Int) < (l.length : Int)) = true := decide_eq_true (by omega)
      obtain ⟨b, off, rfl, hlt, hcell⟩ := rd_str Hh.out (by omega)
      have c2 : wr.cell? ⟨b, off + k, none⟩ = some (encStr l[k]) := (hb.out.cell (p := ⟨b, off + k, none⟩) hlt).trans (hcell k hkl)
      have H := Lib.hid (into_any wr B c (rsS (l.take k)) l[k] hs.out (by have := rs_len (l.take k); rw [List.length_take] at this; omega))
      rw [← rsS_snoc l k hkl] at H
      clear hcell
      generalize rsS (l.take k) = M at *
      unfold encStr at c2 H
      generalize (ByteArray.mk l[k].toArray) = z at *
      go_wp2_with fail
      refine H.out.mono ?_
      rintro e w2 ⟨B2, c2', rfl, hs2, hb2⟩
      have hb3 := Lib.hid (hb.out.trans (hb2.mono hb.out.size))
      have hs3 := Lib.hid hs2
      clear hb hb2 hs hs2
      go_wp2_with fail
      go_roundw
      case rel => exact ⟨k + 1, B2, c2', by omega, by go_num, rfl, hs3, hb3⟩
      case measure => simp [intOf]; omega
    · obtain rfl : k = l.length := by omega
      have e1 : decide ((l.length : Int) < (l.length : Int)) = false := decide_eq_false (by omega)
      rw [List.take_length] at hs ⊢
      go_wp2_with fail
      go_ret
      exact ⟨B, c, rfl, hs.out, hb.out⟩
end Go.Proofs.Ytehieiddelngfaa.inn
