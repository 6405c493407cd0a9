/-
  intern: great; two lists that are the same.
-/
import Derived.Test.YtehieiddelngfaaIn6
namespace Go.Proofs.Ytehieiddelngfaa.inn
open Go.RowKit Go.Shelf Go.Proofs.Ytehieiddelngfaa.mem

theorem rd_str {w : World} {A : Option Addr} {l : List (List UInt8)} (h : Rd w A (l.map encStr)) (hz : 0 < l.length) : ∃ g o, A = some ⟨g, o, none⟩ ∧ g < w.heap.size ∧ ∀ j (hj : j < l.length), w.cell? ⟨g, o + j, none⟩ = some (encStr l[j]) := by
  obtain ⟨g, o, rfl, hl, hc⟩ := h (by simpa using hz)
  exact ⟨g, o, rfl, hl, fun j hj => by rw [hc j (by simpa using hj)]; simp⟩

def GPost (w : World) (l : List (List UInt8)) (e : Ending) (w' : World) : Prop := ∃ r, e = .returned (.bool r) ∧ w = w' ∧ (r = false → l.length ≤ 200)

set_option maxRecDepth 100000 in
theorem great_any (w : World) (A : Option Addr) (cap : Nat) (l : List (List UInt8)) (h : Rd w A (l.map encStr)) (hm : l.length ≤ 9223372036854775807) :
    Calls Try.prog 9 #[.slice A l.length cap] w (GPost w l) := by
  have Hh := Lib.hid h
  clear h
  go_enter Try.func9, Try.ntmps9
  go_wp2_with fail
  go_loopw [3, 4] (fun n i wr => ∃ (k : Nat) (m : Int), k ≤ l.length ∧ k ≤ 200 ∧ i = .int .i64 k ∧ n = .int .i64 m ∧ w = wr) (fun _ i _ => l.length - (intOf i).toNat)
  case atStart => exact ⟨0, 0, by omega, by omega, rfl, rfl, rfl⟩
  case round =>
    obtain ⟨k, m, hk, hk3, rfl, rfl, rfl⟩ := hrel
    by_cases hkl : k < l.length
    · have e1 : decide ((k : Int) < (l.length : Int)) = true := decide_eq_true (by omega)
      obtain ⟨b, off, rfl, hlt, hcell⟩ := rd_str Hh.out (by omega)
      have c2 := hcell k hkl
      clear hcell
      unfold encStr at c2
      generalize (ByteArray.mk l[k].toArray) = p at *
      by_cases h3 : 200 ≤ k
      · have d1 : decide ((200 : Int) ≤ (k : Int)) = true := decide_eq_true (by omega)
        go_wp2_with fail
        go_ret
        exact ⟨true, rfl, rfl, by simp⟩
      · have d1 : decide ((200 : Int) ≤ (k : Int)) = false := decide_eq_false (by omega)
        rcases hd : decide (20000 < wrap64 (m + (p.size : Int))) with _ | _
        · go_wp2_with fail
          go_roundw
          case rel => exact ⟨k + 1, wrap64 (m + (p.size : Int)), by omega, by omega, by go_num, rfl, trivial⟩
          case measure => simp [intOf]; omega
        · go_wp2_with fail
          go_ret
          exact ⟨true, rfl, rfl, by simp⟩
    · obtain rfl : k = l.length := by omega
      have e1 : decide ((l.length : Int) < (l.length : Int)) = false := decide_eq_false (by omega)
      go_wp2_with fail
      go_ret
      exact ⟨false, rfl, rfl, fun _ => hk3⟩

set_option maxRecDepth 100000 in
theorem same_nil (w : World) (A B : Option Addr) (c d : Nat) : Calls Try.prog 17 #[.slice A 0 c, .slice B 0 d] w fun e w' => e = .returned (.bool true) ∧ Below w.heap.size w w' := by
  go_enter Try.func17, Try.ntmps17
  go_wp2_with fail
  go_loopw [5] (fun i wr => i = .int .i64 0 ∧ w = wr) (fun _ _ => 0)
  case atStart => exact ⟨rfl, rfl⟩
  case round =>
    obtain ⟨rfl, rfl⟩ := hrel
    go_wp2_with fail
    go_ret
    exact ⟨rfl, Below.refl _ _⟩

set_option maxRecDepth 100000 in
theorem same_any (w : World) (A B : Option Addr) (c d : Nat) (l : List (List UInt8)) (hA : Rd w A (l.map encStr)) (hB : Rd w B (l.map encStr)) (hll : l.length ≤ 100000) :
    Calls Try.prog 17 #[.slice A l.length c, .slice B l.length d] w fun e w' => e = .returned (.bool true) ∧ Below w.heap.size w w' := by
  rcases Nat.eq_zero_or_pos l.length with hz | hz
  · rw [hz]; exact same_nil w A B c d
  obtain ⟨g1, o1, rfl, hl1, h1⟩ := rd_str hA hz
  obtain ⟨g2, o2, rfl, hl2, h2⟩ := rd_str hB hz
  have H1 := Lib.hid h1
  have H2 := Lib.hid h2
  have L1 := Lib.hid hl1
  have L2 := Lib.hid hl2
  clear h1 h2 hA hB hl1 hl2
  have d0 : (((l.length : Nat) : Int) != (l.length : Int)) = false := by simp
  go_enter Try.func17, Try.ntmps17
  go_wp2_with fail
  go_loopw [5] (fun i wr => ∃ k : Nat, k ≤ l.length ∧ i = .int .i64 k ∧ Hid (Below w.heap.size w wr)) (fun i _ => l.length - (intOf i).toNat)
  case atStart => exact ⟨0, by omega, rfl, Lib.hid (Below.refl _ _)⟩
  case round =>
    obtain ⟨k, hk, rfl, hb⟩ := hrel
    rename_i wr _
    by_cases hkl : k < l.length
    · have e1 : decide ((k : Int) < (l.length : Int)) = true := decide_eq_true (by omega)
      have ck : wr.cell? ⟨g1, o1 + k, none⟩ = some (encStr l[k]) := (hb.out.cell (p := ⟨g1, o1 + k, none⟩) L1.out).trans (H1.out k hkl)
      have cm : wr.cell? ⟨g2, o2 + k, none⟩ = some (encStr l[k]) := (hb.out.cell (p := ⟨g2, o2 + k, none⟩) L2.out).trans (H2.out k hkl)
      unfold encStr at ck cm
      generalize (ByteArray.mk l[k].toArray) = z at *
      have e2 : (z.data != z.data) = false := by simp
      have hb2 := Lib.hid hb.out.drew
      clear hb
      go_wp2_with fail
      go_region
      go_wp2_with fail
      go_roundw
      case rel => exact ⟨k + 1, by omega, by go_num, hb2⟩
      case measure => simp [intOf]; omega
    · obtain rfl : k = l.length := by omega
      have e1 : decide ((l.length : Int) < (l.length : Int)) = false := decide_eq_false (by omega)
      go_wp2_with fail
      go_ret
      exact ⟨rfl, hb.out⟩
end Go.Proofs.Ytehieiddelngfaa.inn
