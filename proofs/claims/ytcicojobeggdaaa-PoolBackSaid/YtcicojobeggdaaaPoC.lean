/-
  pool: what two texts share; a pool in memory: its length, its texts, their numbers.
-/
import Derived.Test.YtcicojobeggdaaaPoB
namespace Go.Proofs.Ytcicojobeggdaaa.po
open Go.RowKit Go.Sort Go.Proofs.Ytcicojobeggdaaa.mem

theorem eq_u8 (a b : UInt8) : (((a.toNat : Nat) : Int) == ((b.toNat : Nat) : Int)) = decide (a = b) := by
  rw [Bool.eq_iff_iff, beq_iff_eq, decide_eq_true_iff]
  constructor
  · intro h
    exact UInt8.toNat_inj.1 (by omega)
  · intro h; rw [h]

set_option maxRecDepth 100000 in
theorem shared_any (w : World) (a b : List UInt8) (ha : a.length ≤ maxLen) (hb : b.length ≤ maxLen) :
    Calls Try.prog 23 #[encStr a, encStr b] w fun e w' => e = .returned (.int .i64 (shr a b : Nat)) ∧ Below w.heap.size w w' := by
  have H1 := Lib.hid (shr_le1 a b)
  have H2 := Lib.hid (shr_le2 a b)
  have H3 := Lib.hid (shr_in a b)
  have H4 := Lib.hid (shr_stop a b)
  generalize shr a b = S at *
  have za : (ByteArray.mk a.toArray).size = a.length := by simp [ByteArray.size]
  have zb : (ByteArray.mk b.toArray).size = b.length := by simp [ByteArray.size]
  unfold maxLen at ha hb
  go_enter Try.func23, Try.ntmps23
  go_wp2_with fail
  go_loopw [5] (fun i wr => ∃ k : Nat, k ≤ S ∧ i = .int .i64 k ∧ Hid (Below w.heap.size w wr)) (fun i _ => S - (intOf i).toNat)
  case atStart => exact ⟨0, by omega, rfl, Lib.hid (Below.refl _ _)⟩
  case round =>
    obtain ⟨k, hk, rfl, hbw⟩ := hrel
    rename_i wr _
    have h1 := H1.out
    have h2 := H2.out
    by_cases ka : k < a.length
    · have d1 : decide ((k : Int) < (a.length : Int)) = true := decide_eq_true (by omega)
      by_cases kb : k < b.length
      · have d2 : decide ((k : Int) < (b.length : Int)) = true := decide_eq_true (by omega)
        have ea : ((((ByteArray.mk a.toArray)[k]'(by rw [za]; exact ka)).toNat : Int) == (((ByteArray.mk b.toArray)[k]'(by rw [zb]; exact kb)).toNat : Int)) = decide (a[k] = b[k]) := eq_u8 a[k] b[k]
        by_cases hkS : k < S
        · have e := H3.out k hkS ka kb
          rw [decide_eq_true e] at ea
          go_wp2_with fail
          go_region
          go_wp2_with fail
          go_roundw
          case rel => exact ⟨k + 1, by omega, by go_num, Lib.hid hbw.out.drew⟩
          case measure => simp [intOf]; omega
        · obtain rfl : k = S := by omega
          have e := H4.out ka kb
          rw [decide_eq_false e] at ea
          go_wp2_with fail
          go_region
          go_wp2_with fail
          go_ret
          exact ⟨rfl, hbw.out.drew⟩
      · obtain rfl : k = S := by omega
        have d2 : decide ((k : Int) < (b.length : Int)) = false := decide_eq_false (by omega)
        go_wp2_with fail
        go_region
        go_wp2_with fail
        go_ret
        exact ⟨rfl, hbw.out.drew⟩
    · obtain rfl : k = S := by omega
      have d1 : decide ((k : Int) < (a.length : Int)) = false := decide_eq_false (by omega)
      go_wp2_with fail
      go_region
      go_wp2_with fail
      go_ret
      exact ⟨rfl, hbw.out.drew⟩

set_option maxRecDepth 100000 in
theorem rshared_any (w : World) (a b : List UInt8) (ha : a.length ≤ maxLen) (hb : b.length ≤ maxLen) :
    Calls Try.prog 27 #[encStr a, encStr b] w fun e w' => e = .returned (.int .i64 (shr a b : Nat)) ∧ Below w.heap.size w w' := by
  have H1 := Lib.hid (shr_le1 a b)
  have H2 := Lib.hid (shr_le2 a b)
  have H3 := Lib.hid (shr_in a b)
  have H4 := Lib.hid (shr_stop a b)
  generalize shr a b = S at *
  have za : (ByteArray.mk a.toArray).size = a.length := by simp [ByteArray.size]
  have zb : (ByteArray.mk b.toArray).size = b.length := by simp [ByteArray.size]
  unfold maxLen at ha hb
  go_enter Try.func27, Try.ntmps27
  go_wp2_with fail
  go_loopw [5] (fun i wr => ∃ k : Nat, k ≤ S ∧ i = .int .i64 k ∧ Hid (Below w.heap.size w wr)) (fun i _ => S - (intOf i).toNat)
  case atStart => exact ⟨0, by omega, rfl, Lib.hid (Below.refl _ _)⟩
  case round =>
    obtain ⟨k, hk, rfl, hbw⟩ := hrel
    rename_i wr _
    have h1 := H1.out
    have h2 := H2.out
    by_cases ka : k < a.length
    · have d1 : decide ((k : Int) < (a.length : Int)) = true := decide_eq_true (by omega)
      by_cases kb : k < b.length
      · have d2 : decide ((k : Int) < (b.length : Int)) = true := decide_eq_true (by omega)
        have ea : ((((ByteArray.mk a.toArray)[k]'(by rw [za]; exact ka)).toNat : Int) == (((ByteArray.mk b.toArray)[k]'(by rw [zb]; exact kb)).toNat : Int)) = decide (a[k] = b[k]) := eq_u8 a[k] b[k]
        by_cases hkS : k < S
        · have e := H3.out k hkS ka kb
          rw [decide_eq_true e] at ea
          go_wp2_with fail
          go_region
          go_wp2_with fail
          go_roundw
          case rel => exact ⟨k + 1, by omega, by go_num, Lib.hid hbw.out.drew⟩
          case measure => simp [intOf]; omega
        · obtain rfl : k = S := by omega
          have e := H4.out ka kb
          rw [decide_eq_false e] at ea
          go_wp2_with fail
          go_region
          go_wp2_with fail
          go_ret
          exact ⟨rfl, hbw.out.drew⟩
      · obtain rfl : k = S := by omega
        have d2 : decide ((k : Int) < (b.length : Int)) = false := decide_eq_false (by omega)
        go_wp2_with fail
        go_region
        go_wp2_with fail
        go_ret
        exact ⟨rfl, hbw.out.drew⟩
    · obtain rfl : k = S := by omega
      have d1 : decide ((k : Int) < (a.length : Int)) = false := decide_eq_false (by omega)
      go_wp2_with fail
      go_region
      go_wp2_with fail
      go_ret
      exact ⟨rfl, hbw.out.drew⟩

/-- a pool in memory -/
structure Pl (w : World) (b : Nat) (A : Option Addr) (cap : Nat) (m : List (List UInt8)) : Prop where
  box : Box w b 51 #[.slice A m.length cap]
  rd : Rd w A (m.map encStr)

theorem Pl.below {w w' : World} {b : Nat} {A : Option Addr} {cap : Nat} {m : List (List UInt8)} (h : Pl w b A cap m) (hb : Below w.heap.size w w') : Pl w' b A cap m :=
  ⟨h.box.kept (Fr.of_below hb []) (by simp), h.rd.below hb⟩

set_option maxRecDepth 100000 in
theorem plen_any (w : World) (b : Nat) (A : Option Addr) (cap : Nat) (m : List (List UInt8)) (h : Pl w b A cap m) :
    Calls Try.prog 14 #[.pointer (some ⟨b, 0, none⟩)] w fun e w' => e = .returned (.int .i64 m.length) ∧ w = w' := by
  have c0 : w.cell? ⟨b, 0, none⟩ = some (.slice A m.length cap) := h.box.cell 0
  clear h
  go_enter Try.func14, Try.ntmps14
  go_wp2_with fail
  go_ret
  exact ⟨rfl, rfl⟩

set_option maxRecDepth 100000 in
theorem plen_none (w : World) : Calls Try.prog 14 #[.pointer none] w fun e w' => e = .returned (.int .i64 0) ∧ w = w' := by
  go_enter Try.func14, Try.ntmps14
  go_wp2_with fail
  go_ret
  exact ⟨rfl, rfl⟩

set_option maxRecDepth 100000 in
theorem pnum_none (w : World) (x : List UInt8) : Calls Try.prog 8 #[.pointer none, encStr x] w fun e w' => e = .returned (.tuple #[.int .i64 0, .bool false]) ∧ w = w' := by
  go_enter Try.func8, Try.ntmps8
  go_wp2_with fail
  go_ret2
  exact ⟨rfl, rfl⟩

/-- what Number answers -/
def pnV (m : List (List UInt8)) (x : List UInt8) : Value := .tuple #[.int .i64 (if x ∈ m then (m.idxOf x : Nat) else 0 : Nat), .bool (decide (x ∈ m))]

set_option maxRecDepth 100000 in
theorem pnum_any (w : World) (b : Nat) (A : Option Addr) (cap : Nat) (m : List (List UInt8)) (x : List UInt8) (h : Pl w b A cap m) (hp : m.Pairwise (fun a b => a < b)) (hm : m.length ≤ 1000) :
    Calls Try.prog 8 #[.pointer (some ⟨b, 0, none⟩), encStr x] w fun e w' => e = .returned (pnV m x) ∧ Below w.heap.size w w' := by
  have c0 : w.cell? ⟨b, 0, none⟩ = some (.slice A m.length cap) := h.box.cell 0
  have K := Lib.hid (search_any w A cap m x h.rd hp hm)
  by_cases hx : x ∈ m
  · have hv : Hid (pnV m x = .tuple #[.int .i64 (upS m x : Nat), .bool true]) := Lib.hid (by unfold pnV; rw [if_pos hx, decide_eq_true hx, up_idx m x hp hx])
    rw [hv.out]
    rw [decide_eq_true hx] at K
    clear hv h hp hx hm
    generalize upS m x = u at *
    go_enter Try.func8, Try.ntmps8
    go_wp2_with fail
    refine K.out.mono ?_
    rintro e w1 ⟨rfl, b1⟩
    have B1 := Lib.hid b1
    clear b1
    go_wp2_with fail
    go_ret2
    exact ⟨rfl, B1.out⟩
  · have hv : Hid (pnV m x = .tuple #[.int .i64 0, .bool false]) := Lib.hid (by unfold pnV; rw [if_neg hx, decide_eq_false hx]; rfl)
    rw [hv.out]
    rw [decide_eq_false hx] at K
    clear hv h hp hx hm
    generalize upS m x = u at *
    go_enter Try.func8, Try.ntmps8
    go_wp2_with fail
    refine K.out.mono ?_
    rintro e w1 ⟨rfl, b1⟩
    have B1 := Lib.hid b1
    clear b1
    go_wp2_with fail
    go_ret2
    exact ⟨rfl, B1.out⟩

set_option maxRecDepth 100000 in
theorem pat_in (w : World) (b : Nat) (A : Option Addr) (cap : Nat) (m : List (List UInt8)) (k : Nat) (h : Pl w b A cap m) (hk : k < m.length) (hm : m.length ≤ 9223372036854775807) :
    Calls Try.prog 25 #[.pointer (some ⟨b, 0, none⟩), .int .i64 k] w fun e w' => e = .returned (.tuple #[encStr m[k], .bool true]) ∧ w = w' := by
  have c0 : w.cell? ⟨b, 0, none⟩ = some (.slice A m.length cap) := h.box.cell 0
  have K := Lib.hid (plen_any w b A cap m h)
  obtain ⟨g, off, rfl, hl, hc⟩ := rdS h.rd (by omega)
  have c1 := hc k hk
  clear hc h
  generalize m[k] = y at *
  have d1 : decide ((k : Int) < 0) = false := decide_eq_false (by omega)
  have d2 : decide ((m.length : Int) ≤ (k : Int)) = false := decide_eq_false (by omega)
  go_enter Try.func25, Try.ntmps25
  go_wp2_with (go_at_call 14; refine K.out.mono ?_; rintro e w1 ⟨rfl, rfl⟩)
  go_ret2
  exact ⟨rfl, rfl⟩

set_option maxRecDepth 100000 in
theorem pat_out (w : World) (b : Nat) (A : Option Addr) (cap : Nat) (m : List (List UInt8)) (k : Int) (h : Pl w b A cap m) (hk : k < 0 ∨ m.length ≤ k) :
    Calls Try.prog 25 #[.pointer (some ⟨b, 0, none⟩), .int .i64 k] w fun e w' => e = .returned (.tuple #[.string ⟨#[]⟩, .bool false]) ∧ w = w' := by
  have K := Lib.hid (plen_any w b A cap m h)
  clear h
  by_cases h0 : k < 0
  · have d1 : decide (k < 0) = true := decide_eq_true h0
    go_enter Try.func25, Try.ntmps25
    go_wp2_with fail
    go_ret2
    exact ⟨rfl, rfl⟩
  · have d1 : decide (k < 0) = false := decide_eq_false h0
    have d2 : decide ((m.length : Int) ≤ k) = true := decide_eq_true (by omega)
    go_enter Try.func25, Try.ntmps25
    go_wp2_with (go_at_call 14; refine K.out.mono ?_; rintro e w1 ⟨rfl, rfl⟩)
    go_ret2
    exact ⟨rfl, rfl⟩
end Go.Proofs.Ytcicojobeggdaaa.po
