/-
  Bits: Same, and the reference's Has, Same.
-/
import Derived.Test.YtnjaadcbpkbjbaaDoorBt8
namespace Go.Proofs.YtnjaadcbpkbjbaaDoor.bt
open Go.RowKit Go.Sort Go.Proofs.YtnjaadcbpkbjbaaDoor.mem

/-- what a walk takes of blocks held against each other -/
structure HeldB : Prop where
  ne : ∀ (a h a' h' : Nat) (w : World), (binOp .neq 53 (.agg #[.int .i64 (a : Nat), .int .u64 (h : Nat)]) (.agg #[.int .i64 (a' : Nat), .int .u64 (h' : Nat)])).run Tryd.prog w = .ok (.bool (!decide (a = a' ∧ h = h'))) w
  guard : ∀ (op : BinOp) (x y : Operand) (xs ys : Array Value) (w : World), (eqGuard op 53 x y (.agg xs) (.agg ys)).run Tryd.prog w = .ok () w

theorem take_eq {α : Type} {B C : List α} {k : Nat} (hl : B.length = C.length) (hk : k < B.length) (h : B.take k = C.take k) (he : B[k] = C[k]'(by omega)) : B.take (k + 1) = C.take (k + 1) := by
  rw [List.take_succ_eq_append_getElem hk, List.take_succ_eq_append_getElem (by omega), h, he]

set_option maxRecDepth 100000 in
set_option maxHeartbeats 1000000 in
theorem equal_any (hd : HeldB) (w : World) (A A2 : Option Addr) (cap cap2 : Nat) (B C : List Blk) (h : BA w A cap B) (k : BA w A2 cap2 C) :
    Calls Tryd.prog 31 #[.slice A B.length cap, .slice A2 C.length cap2] w fun e w' => e = .returned (.bool (decide (B = C))) ∧ Below w.heap.size w w' := by
  have hf := h.few
  have kf := k.few
  by_cases hl : B.length = C.length
  · have e0 : ((B.length : Int) != (C.length : Int)) = false := by simp; omega
    have NE := hd.ne
    have GU := hd.guard
    have HB := Lib.hid h
    have HC := Lib.hid k
    obtain ⟨R, hR⟩ : ∃ R, decide (B = C) = R := ⟨_, rfl⟩
    rw [hR]
    have HR := Lib.hid hR
    have hll := Lib.hid hl
    clear h k hR hd
    have hl2 : (C.length : Int) = (B.length : Int) := by omega
    clear hl
    go_enter Tryd.func31, Tryd.ntmps31
    go_wp2_with fail
    go_loopw [13] (fun i wr => ∃ j : Nat, j ≤ B.length ∧ i = .int .i64 j ∧ Hid (B.take j = C.take j) ∧ Hid (Below w.heap.size w wr)) (fun i _ => B.length - (intOf i).toNat)
    case atStart => exact ⟨0, by omega, rfl, Lib.hid (by simp), Lib.hid (Below.refl _ _)⟩
    case round =>
      obtain ⟨j, hj, rfl, hI, hb⟩ := hrel
      by_cases hjl : j < B.length
      · have e1 : decide ((j : Int) < (B.length : Int)) = true := decide_eq_true (by omega)
        have hjc : j < C.length := by have := hll.out; omega
        obtain ⟨b, off, rfl, _, k0, k1⟩ := (HB.out.below hb.out).at_ hjl
        obtain ⟨b2, off2, rfl, _, m0, m1⟩ := (HC.out.below hb.out).at_ hjc
        have hT := Lib.hid (fun he => take_eq hll.out hjl hI.out he)
        have hN := Lib.hid (fun (he : ¬ B[j] = C[j]) => show decide (B = C) = false from decide_eq_false (fun e => by subst e; exact he rfl))
        generalize B[j] = x at *
        generalize C[j] = y at *
        obtain ⟨xa, xh⟩ := x
        obtain ⟨ya, yh⟩ := y
        simp only at k0 k1 m0 m1
        have hjc2 : (j : Int) < (C.length : Int) := by omega
        by_cases he : xa = ya ∧ xh = yh
        · have d1 : decide (xa = ya ∧ xh = yh) = true := decide_eq_true he
          have hT2 := Lib.hid (hT.out (by rw [he.1, he.2]))
          have N1 := fun w => NE xa xh ya yh w
          rw [d1] at N1
          clear hT hN he d1 NE hI
          go_wp2_with fail
          go_quiet (fail)
          go_wp2_with fail
          go_roundw
          case rel => exact ⟨j + 1, by omega, by go_num, hT2, Lib.hid ((Fr.of_below hb.out []).drewN _).all⟩
          case measure => simp [intOf]; omega
        · have d1 : decide (xa = ya ∧ xh = yh) = false := decide_eq_false he
          have hr := Lib.hid (HR.out.symm.trans (hN.out (fun e => he ⟨congrArg Prod.fst e, congrArg Prod.snd e⟩)))
          have N1 := fun w => NE xa xh ya yh w
          rw [d1] at N1
          clear hT hN he d1 NE hI HR
          go_wp2_with fail
          go_quiet (fail)
          go_wp2_with fail
          go_ret
          exact ⟨by rw [hr.out]; rfl, ((Fr.of_below hb.out []).drewN _).all⟩
      · obtain rfl : j = B.length := by omega
        have e1 : decide ((B.length : Int) < (B.length : Int)) = false := decide_eq_false (by omega)
        have hr := Lib.hid (HR.out.symm.trans (decide_eq_true (by
          have h1 := hI.out
          have h2 := hll.out
          rw [List.take_length, h2, List.take_length] at h1
          exact h1)))
        clear HR hI
        go_wp2_with fail
        go_ret
        exact ⟨by rw [hr.out]; rfl, hb.out⟩
  · have e0 : ((B.length : Int) != (C.length : Int)) = true := by simp; omega
    rw [decide_eq_false (fun e => hl (by rw [e]))]
    clear h k hl
    go_enter Tryd.func31, Tryd.ntmps31
    go_wp2_with fail
    go_ret
    exact ⟨rfl, Below.refl _ _⟩

set_option maxRecDepth 100000 in
theorem same_any (hd : HeldB) (w : World) (s s2 : Nat) (A A2 : Option Addr) (cap cap2 : Nat) (B C : List Blk) (h : SA w s A cap B) (k : SA w s2 A2 cap2 C) :
    Calls Tryd.prog 14 #[.pointer (some ⟨s, 0, none⟩), .pointer (some ⟨s2, 0, none⟩)] w fun e w' => e = .returned (.bool (decide (B = C))) ∧ Below w.heap.size w w' := by
  have K1 := Lib.hid (list_any w s A cap B h)
  have K2 := Lib.hid (list_any w s2 A2 cap2 C k)
  have KE := Lib.hid (equal_any hd w A A2 cap cap2 B C h.ba k.ba)
  clear h k hd
  generalize decide (B = C) = R at *
  go_enter Tryd.func14, Tryd.ntmps14
  go_wp2_with fail
  refine K1.out.mono ?_
  rintro e w2 ⟨rfl, rfl⟩
  go_wp2_with fail
  refine K2.out.mono ?_
  rintro e w2 ⟨rfl, rfl⟩
  go_wp2_with fail
  refine KE.out.mono ?_
  rintro e w3 ⟨rfl, b3⟩
  go_wp2_with fail
  go_ret
  exact ⟨rfl, b3⟩

/-- the reference's sets: rising numbers -/
def natI (L : List Nat) : List Value := L.map fun n => .int .i64 (n : Nat)

theorem rd_nat {w : World} {A : Option Addr} {L : List Nat} (h : Rd w A (natI L)) {i : Nat} (hi : i < L.length) : ∃ b off, A = some ⟨b, off, none⟩ ∧ b < w.heap.size ∧ w.cell? ⟨b, off + i, none⟩ = some (.int .i64 (L[i] : Nat)) := by
  have hl : (natI L).length = L.length := by simp [natI]
  obtain ⟨b, off, rfl, hlt, hc⟩ := h (by omega)
  refine ⟨b, off, rfl, hlt, ?_⟩
  rw [hc i (by omega)]
  simp [natI]

set_option maxRecDepth 100000 in
theorem rhas_any (w : World) (A : Option Addr) (cap : Nat) (L : List Nat) (h : Rd w A (natI L)) (hl : L.length ≤ 1000000000) (n : Int) (hn : 0 ≤ n) :
    Calls Tryd.prog 10 #[.slice A L.length cap, .int .i64 n] w fun e w' => e = .returned (.bool (decide (n.toNat ∈ L))) ∧ w = w' := by
  obtain ⟨R, hR⟩ : ∃ R, decide (n.toNat ∈ L) = R := ⟨_, rfl⟩
  rw [hR]
  have HR := Lib.hid hR
  have H := Lib.hid h
  clear h hR
  go_enter Tryd.func10, Tryd.ntmps10
  go_wp2_with fail
  go_loopw [5] (fun i wr => ∃ j : Nat, j ≤ L.length ∧ i = .int .i64 j ∧ Hid (∀ k (hk : k < L.length), k < j → L[k] ≠ n.toNat) ∧ w = wr) (fun i _ => L.length - (intOf i).toNat)
  case atStart => exact ⟨0, by omega, rfl, Lib.hid (fun k _ h => by omega), rfl⟩
  case round =>
    obtain ⟨j, hj, rfl, hI, rfl⟩ := hrel
    by_cases hjl : j < L.length
    · have e1 : decide ((j : Int) < (L.length : Int)) = true := decide_eq_true (by omega)
      obtain ⟨b, off, rfl, hlt, k0⟩ := rd_nat H.out hjl
      by_cases he : L[j] = n.toNat
      · have hr := Lib.hid (HR.out.symm.trans (decide_eq_true (by rw [← he]; exact List.getElem_mem hjl)))
        have d1 : ((L[j] : Int) == n) = true := by simp; omega
        generalize L[j] = x at *
        clear HR hI
        go_wp2_with fail
        go_ret
        exact ⟨by rw [hr.out]; rfl, rfl⟩
      · have d1 : ((L[j] : Int) == n) = false := by simp; omega
        have hI2 := Lib.hid (fun k (hk : k < L.length) (hkj : k < j + 1) => show L[k] ≠ n.toNat from by
          by_cases e : k = j
          · subst e; exact he
          · exact hI.out k hk (by omega))
        generalize L[j] = x at *
        clear he
        go_wp2_with fail
        go_roundw
        case rel => exact ⟨j + 1, by omega, by go_num, hI2, trivial⟩
        case measure => simp [intOf]; omega
    · obtain rfl : j = L.length := by omega
      have e1 : decide ((L.length : Int) < (L.length : Int)) = false := decide_eq_false (by omega)
      have hr := Lib.hid (HR.out.symm.trans (decide_eq_false (fun hm => by
        obtain ⟨k, hk, e⟩ := List.getElem_of_mem hm
        exact hI.out k hk hk e)))
      clear HR hI
      go_wp2_with fail
      go_ret
      exact ⟨by rw [hr.out]; rfl, rfl⟩

set_option maxRecDepth 100000 in
set_option maxHeartbeats 1000000 in
theorem rsame_any (w : World) (A A2 : Option Addr) (cap cap2 : Nat) (L M : List Nat) (h : Rd w A (natI L)) (k : Rd w A2 (natI M)) (hl1 : L.length ≤ 1000000000) (hl2 : M.length ≤ 1000000000) :
    Calls Tryd.prog 15 #[.slice A L.length cap, .slice A2 M.length cap2] w fun e w' => e = .returned (.bool (decide (L = M))) ∧ Below w.heap.size w w' := by
  by_cases hl : L.length = M.length
  · have e0 : ((L.length : Int) != (M.length : Int)) = false := by simp; omega
    have HB := Lib.hid h
    have HC := Lib.hid k
    obtain ⟨R, hR⟩ : ∃ R, decide (L = M) = R := ⟨_, rfl⟩
    rw [hR]
    have HR := Lib.hid hR
    have hll := Lib.hid hl
    clear h k hR
    have hl2' : (M.length : Int) = (L.length : Int) := by omega
    clear hl
    go_enter Tryd.func15, Tryd.ntmps15
    go_wp2_with fail
    go_loopw [5] (fun i wr => ∃ j : Nat, j ≤ L.length ∧ i = .int .i64 j ∧ Hid (L.take j = M.take j) ∧ Hid (Below w.heap.size w wr)) (fun i _ => L.length - (intOf i).toNat)
    case atStart => exact ⟨0, by omega, rfl, Lib.hid (by simp), Lib.hid (Below.refl _ _)⟩
    case round =>
      obtain ⟨j, hj, rfl, hI, hb⟩ := hrel
      by_cases hjl : j < L.length
      · have e1 : decide ((j : Int) < (L.length : Int)) = true := decide_eq_true (by omega)
        have hjc : j < M.length := by have := hll.out; omega
        obtain ⟨b, off, rfl, _, k0⟩ := rd_nat (HB.out.below hb.out) hjl
        obtain ⟨b2, off2, rfl, _, m0⟩ := rd_nat (HC.out.below hb.out) hjc
        have hT := Lib.hid (fun he => take_eq hll.out hjl hI.out he)
        have hN := Lib.hid (fun (he : ¬ L[j] = M[j]) => show decide (L = M) = false from decide_eq_false (fun e => by subst e; exact he rfl))
        generalize L[j] = x at *
        generalize M[j] = y at *
        have hjc2 : (j : Int) < (M.length : Int) := by omega
        by_cases he : x = y
        · subst he
          have hT2 := Lib.hid (hT.out rfl)
          clear hT hN hI
          go_wp2_with fail
          go_quiet (fail)
          go_wp2_with fail
          go_roundw
          case rel => exact ⟨j + 1, by omega, by go_num, hT2, Lib.hid ((Fr.of_below hb.out []).drewN _).all⟩
          case measure => simp [intOf]; omega
        · have d1 : ((x : Int) != (y : Int)) = true := by simp; omega
          have hr := Lib.hid (HR.out.symm.trans (hN.out he))
          clear hT hN he hI HR
          go_wp2_with fail
          go_quiet (fail)
          go_wp2_with fail
          go_ret
          exact ⟨by rw [hr.out]; rfl, ((Fr.of_below hb.out []).drewN _).all⟩
      · obtain rfl : j = L.length := by omega
        have e1 : decide ((L.length : Int) < (L.length : Int)) = false := decide_eq_false (by omega)
        have hr := Lib.hid (HR.out.symm.trans (decide_eq_true (by
          have h1 := hI.out
          have h2 := hll.out
          rw [List.take_length, h2, List.take_length] at h1
          exact h1)))
        clear HR hI
        go_wp2_with fail
        go_ret
        exact ⟨by rw [hr.out]; rfl, hb.out⟩
  · have e0 : ((L.length : Int) != (M.length : Int)) = true := by simp; omega
    rw [decide_eq_false (fun e => hl (by rw [e]))]
    clear h k hl
    go_enter Tryd.func15, Tryd.ntmps15
    go_wp2_with fail
    go_ret
    exact ⟨rfl, Below.refl _ _⟩
end Go.Proofs.YtnjaadcbpkbjbaaDoor.bt
