/-
  Bits: Has.
-/
import Derived.Test.YtnjaadcbpkbjbaaDoorBt5
namespace Go.Proofs.YtnjaadcbpkbjbaaDoor.bt
open Go.RowKit Go.Sort Go.Proofs.YtnjaadcbpkbjbaaDoor.mem

/-- has a set a number? -/
def hasZ (n : Int) (B : List Blk) : Bool := mayB n && decide (n.toNat ∈ flat B)

theorem may_nat {n : Int} (h : mayB n = true) : ∃ m : Nat, n = m ∧ m ≤ 268435456 := by
  unfold mayB at h
  simp only [Bool.and_eq_true, decide_eq_true_eq] at h
  exact ⟨n.toNat, by omega, by omega⟩

theorem mem_found {n : Nat} {B : List Blk} (hB : Ok B) (hf : foundB (n / 64) B = true) : ∃ h : lb (n / 64) B < B.length, (B[lb (n / 64) B]'h).1 = n / 64 ∧ (n ∈ flat B ↔ (B[lb (n / 64) B]'h).2.testBit (n % 64) = true) := by
  obtain ⟨h, he⟩ := (found_at hB.rise).1 hf
  refine ⟨h, he, ?_⟩
  rw [mem_flat]
  constructor
  · rintro ⟨b, hb, h1, h2⟩
    rw [one_blk hB.rise (List.getElem_mem h) hb (by omega)]
    exact h2
  · intro h2
    exact ⟨_, List.getElem_mem h, he, h2⟩

theorem not_found {n : Nat} {B : List Blk} (hf : foundB (n / 64) B = false) : n ∉ flat B := by
  intro h
  obtain ⟨b, hb, h1, _⟩ := mem_flat.1 h
  have : foundB (n / 64) B = true := by
    unfold foundB
    exact List.any_eq_true.2 ⟨b, hb, by simpa using h1⟩
  rw [hf] at this
  cases this

theorem bit_and1 (h k : Nat) (hh : h < 18446744073709551616) : (bits BinOp.and IntKind.u64 ((h : Int) / 2 ^ k) 1 == 1) = h.testBit k := by
  have hle : h / 2 ^ k ≤ h := Nat.div_le_self _ _
  have e : ((h : Int) / 2 ^ k) = ((h / 2 ^ k : Nat) : Int) := by simp
  rw [e, show (1 : Int) = ((1 : Nat) : Int) from rfl, bits_and_u64_nat _ 1 (by omega) (by omega), Nat.and_one_is_mod, Nat.testBit_eq_decide_div_mod_eq]
  by_cases h1 : h / 2 ^ k % 2 = 1
  · rw [decide_eq_true h1, h1]; rfl
  · have h0 : h / 2 ^ k % 2 = 0 := by omega
    rw [decide_eq_false h1, h0]; rfl

set_option maxRecDepth 100000 in
theorem has_any (w : World) (s : Nat) (A : Option Addr) (cap : Nat) (B : List Blk) (h : SA w s A cap B) (n : Int) :
    Calls Tryd.prog 9 #[.pointer (some ⟨s, 0, none⟩), .int .i64 n] w fun e w' => e = .returned (.bool (hasZ n B)) ∧ Below w.heap.size w w' := by
  have KM := Lib.hid (may_any w n)
  cases hm : mayB n with
  | false =>
    have hv : hasZ n B = false := by unfold hasZ; rw [hm]; rfl
    rw [hv]
    rw [hm] at KM
    clear hv hm h
    go_enter Tryd.func9, Tryd.ntmps9
    go_wp2_with fail
    refine KM.out.mono ?_
    rintro e w2 ⟨rfl, rfl⟩
    go_wp2_with fail
    go_ret
    exact ⟨rfl, Below.refl _ _⟩
  | true =>
    rw [hm] at KM
    obtain ⟨n, rfl, hn⟩ := may_nat hm
    have hv : hasZ (n : Int) B = decide (n ∈ flat B) := by unfold hasZ; rw [hm]; rfl
    rw [hv]
    have KF := Lib.hid (find_any w s A cap B h n hn)
    have HS := Lib.hid h
    have hfew := h.ba.few
    cases hf : foundB (n / 64) B with
    | false =>
      rw [decide_eq_false (not_found hf)]
      rw [hf] at KF
      clear hv hm h hf
      generalize lb (n / 64) B = L at *
      go_enter Tryd.func9, Tryd.ntmps9
      go_wp2_with fail
      refine KM.out.mono ?_
      rintro e w2 ⟨rfl, rfl⟩
      go_wp2_with fail
      refine KF.out.mono ?_
      rintro e w3 ⟨rfl, b3⟩
      go_wp2_with fail
      go_ret
      exact ⟨rfl, b3⟩
    | true =>
      obtain ⟨hl, he, hiff⟩ := mem_found h.ba.ok hf
      have hv2 : decide (n ∈ flat B) = (B[lb (n / 64) B]'hl).2.testBit (n % 64) := by
        cases hb : (B[lb (n / 64) B]'hl).2.testBit (n % 64) with
        | true => exact decide_eq_true (hiff.2 hb)
        | false => exact decide_eq_false fun hm => by have := hiff.1 hm; rw [hb] at this; cases this
      rw [hv2]
      clear hv2 hiff
      obtain ⟨b, off, rfl, hblt, k0, k1⟩ := h.ba.at_ hl
      have hx := (h.ba.ok.has _ (List.getElem_mem hl)).2
      rw [hf] at KF
      generalize B[lb (n / 64) B] = x at *
      obtain ⟨xa, xh⟩ := x
      simp only at k0 k1 hx he
      clear hv hm h hf
      generalize lb (n / 64) B = L at *
      have c0 := HS.out.box.cell 0
      have sl := Lib.hid (HS.out.box.lt)
      have K1 := Lib.hid (fun w' (hb : Below w.heap.size w w') => And.intro ((hb.cell (p := ⟨s, 0, none⟩) sl.out).trans c0) ((hb.cell (p := ⟨b, off + L * 2 + 1, none⟩) hblt).trans k1))
      have hrem : (n : Int).tmod 64 = ((n % 64 : Nat) : Int) := by rw [Int.tmod_eq_emod_of_nonneg (by omega)]; omega
      have hk64 : n % 64 < 64 := Nat.mod_lt _ (by omega)
      have c1 := bit_and1 xh (n % 64) hx
      generalize xh.testBit (n % 64) = T at *
      clear c0 k0 k1 sl
      go_enter Tryd.func9, Tryd.ntmps9
      go_wp2_with fail
      refine KM.out.mono ?_
      rintro e w2 ⟨rfl, rfl⟩
      go_wp2_with fail
      refine KF.out.mono ?_
      rintro e w3 ⟨rfl, b3⟩
      obtain ⟨q0, q1⟩ := K1.out _ b3
      have q0 : w3.cell? ⟨s, 0, none⟩ = some (.slice (some ⟨b, off, none⟩) B.length cap) := q0
      have hB := Lib.hid b3
      clear b3
      generalize n % 64 = k at *
      go_wp2_with fail
      go_ret
      exact ⟨rfl, hB.out⟩
end Go.Proofs.YtnjaadcbpkbjbaaDoor.bt
