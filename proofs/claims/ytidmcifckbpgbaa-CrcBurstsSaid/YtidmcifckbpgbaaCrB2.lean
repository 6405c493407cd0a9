/- The law CrcBursts, walked. -/
import Derived.Test.YtidmcifckbpgbaaCrB
import Derived.Test.YtidmcifckbpgbaaCr6
import Derived.RegionTactic
import Derived.ChangeAlike
namespace Go.Proofs.Ytidmcifckbpgbaa.cr
open Go.RowKit

theorem conv_in (W : World) (t : ByteArray) : (convert 9 63 (.string t)).run Try.prog W = .ok (.slice (some ⟨W.heap.size, 0, none⟩) t.size (grownCap W t.size 0 5))
      (W.drew.alloc (.cells (bytesRow t (grownCap W t.size 0 5)) 5 ((bytesRow t (grownCap W t.size 0 5)).size, (bytesRow t (grownCap W t.size 0 5)).size + 1))) :=
  run_bytes_of_string W _ _ _ t Try.underlying9 Try.underlying63 Try.underlying5

/-- the bits, and where the first stands, as the law makes them -/
def bitsN (b : Nat) : Nat := if b % 16777216 = 0 then 1 else b % 16777216

theorem first_of (a : Int) (n : Nat) (hn : n ≤ 3003) : ∃ f : Nat, wrap64 ((IntKind.u64.wrap a).tmod (8 * ((n : Int) + 3))) = f ∧ f < 8 * (n + 3) := by
  have h0 : IntKind.u64.wrap a = a % 18446744073709551616 := IntKind.wrap_u64 a
  have h1 : (IntKind.u64.wrap a).tmod (8 * ((n : Int) + 3)) = a % 18446744073709551616 % (8 * ((n : Int) + 3)) := by
    rw [h0, Int.tmod_eq_emod_of_nonneg (Int.emod_nonneg _ (by omega))]
  have h2 : 0 ≤ a % 18446744073709551616 % (8 * ((n : Int) + 3)) := Int.emod_nonneg _ (by omega)
  have h3 : a % 18446744073709551616 % (8 * ((n : Int) + 3)) < 8 * ((n : Int) + 3) := Int.emod_lt_of_pos _ (by omega)
  refine ⟨(a % 18446744073709551616 % (8 * ((n : Int) + 3))).toNat, ?_, by omega⟩
  rw [h1, IntWalk.wrap64_in _ ⟨by omega, by omega⟩]
  omega

theorem test_bit (B k : Nat) (hB : B < 16777216) : (bits .and .u32 ((B : Int) / 2 ^ k) 1 == 1) = B.testBit k := by
  have e : (B : Int) / 2 ^ k = ((B / 2 ^ k : Nat) : Int) := by norm_cast
  have hl : B / 2 ^ k < 4294967296 := by have := Nat.div_le_self B (2 ^ k); omega
  rw [e, show (1 : Int) = ((1 : Nat) : Int) from rfl, u32_and_nat _ _ hl (by omega), nat_mask1, Nat.testBit_eq_decide_div_mod_eq]
  rcases (by omega : B / 2 ^ k % 2 = 0 ∨ B / 2 ^ k % 2 = 1) with h | h <;> rw [h] <;> decide

theorem u8_testBit (y i : Nat) (h : y < 256) : (UInt8.ofNat y).toNat.testBit i = y.testBit i := by
  have : (UInt8.ofNat y).toNat = y := by
    show y % 256 = y
    omega
  rw [this]

theorem getD_set_same (l : List UInt8) (q : Nat) (x : UInt8) (h : q < l.length) : (l.set q x).getD q 0 = x := by
  rw [List.getD_eq_getElem?_getD, List.getElem?_set_self h]; rfl
theorem getD_set_other (l : List UInt8) (q r : Nat) (x : UInt8) (h : q ≠ r) : (l.set q x).getD r 0 = l.getD r 0 := by
  rw [List.getD_eq_getElem?_getD, List.getD_eq_getElem?_getD, List.getElem?_set_ne h]

theorem cell_new (w : World) (R : Array Value) (t : TypeId) (fr : Nat × Nat) (q : Nat) : ((w.alloc (.cells R t fr)).drew).cell? ⟨w.heap.size, q, none⟩ = R[q]? := by
  have e : ((w.alloc (.cells R t fr)).drew).heap[w.heap.size]? = some (.cells R t fr) := by
    show (w.heap.push (.cells R t fr))[w.heap.size]? = _
    simp
  unfold World.cell?
  rw [e]
  rfl
theorem frozen_new (w : World) (R : Array Value) (t : TypeId) (q : Nat) (h : q < R.size) : ((w.alloc (.cells R t (R.size, R.size + 1))).drew).frozen? ⟨w.heap.size, q, none⟩ = false := by
  have e : ((w.alloc (.cells R t (R.size, R.size + 1))).drew).heap[w.heap.size]? = some (.cells R t (R.size, R.size + 1)) := by
    show (w.heap.push (.cells R t (R.size, R.size + 1)))[w.heap.size]? = _
    simp
  unfold World.frozen?
  rw [e]
  simp
  omega

/-- one bit turned -/
def flip (l : List UInt8) (p : Nat) : List UInt8 := l.set (p / 8) (UInt8.ofNat ((l.getD (p / 8) 0).toNat ^^^ 2 ^ (7 - p % 8)))

theorem flip_lt (x r : Nat) (hx : x < 256) : x ^^^ 2 ^ (7 - r) < 256 := Nat.xor_lt_two_pow (n := 8) hx (Nat.pow_lt_pow_right (by omega) (by omega))

theorem flip_bit (l : List UInt8) (p i : Nat) (hp : p / 8 < l.length) : bitAt (flip l p) i = xor (bitAt l i) (decide (i = p)) := by
  unfold bitAt flip
  have hx := (l.getD (p / 8) 0).toNat_lt
  by_cases h : p / 8 = i / 8
  · rw [← h, getD_set_same _ _ _ hp, u8_testBit _ _ (flip_lt _ _ (by omega)), Nat.testBit_xor, Nat.testBit_two_pow]
    congr 1
    rw [decide_eq_decide]
    omega
  · rw [getD_set_other _ _ _ _ h]
    have : decide (i = p) = false := decide_eq_false (by omega)
    rw [this]; simp

theorem flip_length (l : List UInt8) (p : Nat) : (flip l p).length = l.length := by unfold flip; simp

theorem pow_div (r : Nat) (h : r < 8) : (128 : Int) / 2 ^ r = ((2 ^ (7 - r) : Nat) : Int) := by
  rcases (by omega : r = 0 ∨ r = 1 ∨ r = 2 ∨ r = 3 ∨ r = 4 ∨ r = 5 ∨ r = 6 ∨ r = 7) with rfl | rfl | rfl | rfl | rfl | rfl | rfl | rfl <;> decide

theorem flip_value (l : List UInt8) (p : Nat) : bits .xor .u8 (((l[p / 8]?.getD 0).toNat : Nat) : Int) (128 / 2 ^ (p % 8)) = (((l.getD (p / 8) 0).toNat ^^^ 2 ^ (7 - p % 8) : Nat) : Int) := by
  have hx := (l.getD (p / 8) 0).toNat_lt
  have hm : 2 ^ (7 - p % 8) < 256 := by have := Nat.pow_lt_pow_right (a := 2) (m := 7 - p % 8) (n := 8) (by omega) (by omega); omega
  rw [pow_div _ (by omega), u8_xor_nat _ _ (by rw [← List.getD_eq_getElem?_getD]; omega) hm, List.getD_eq_getElem?_getD]

/-- the bits that were turned when one more was looked at -/
theorem turned_next (l t : List UInt8) (f k B N : Nat) (hbits : ∀ i, i < N → bitAt l i = xor (bitAt t i) (decide (f ≤ i ∧ i < f + k) && B.testBit (i - f))) (l' : List UInt8)
    (h : ∀ i, i < N → bitAt l' i = xor (bitAt l i) (decide (i = f + k) && B.testBit k)) : ∀ i, i < N → bitAt l' i = xor (bitAt t i) (decide (f ≤ i ∧ i < f + (k + 1)) && B.testBit (i - f)) := by
  intro i hi
  rw [h i hi, hbits i hi]
  by_cases he : i = f + k
  · subst he
    have e1 : decide (f ≤ f + k ∧ f + k < f + k) = false := decide_eq_false (by omega)
    have e2 : decide (f ≤ f + k ∧ f + k < f + (k + 1)) = true := decide_eq_true (by omega)
    rw [e1, e2, show f + k - f = k by omega]
    simp
  · have e1 : decide (i = f + k) = false := decide_eq_false he
    have e2 : decide (f ≤ i ∧ i < f + k) = decide (f ≤ i ∧ i < f + (k + 1)) := by rw [decide_eq_decide]; omega
    rw [e1, e2]
    simp

theorem any_next (tb : Bool) (f k B N : Nat) (h : tb = true ↔ ∃ j, j < k ∧ f + j < N ∧ B.testBit j = true) (hkN : f + k < N) : ((tb || B.testBit k) = true) ↔ ∃ j, j < k + 1 ∧ f + j < N ∧ B.testBit j = true := by
  rw [Bool.or_eq_true, h]
  constructor
  · rintro (⟨j, h1, h2, h3⟩ | h1)
    · exact ⟨j, by omega, h2, h3⟩
    · exact ⟨k, by omega, hkN, h1⟩
  · rintro ⟨j, h1, h2, h3⟩
    by_cases he : j = k
    · subst he; exact Or.inr h3
    · exact Or.inl ⟨j, by omega, h2, h3⟩

/-- AT THE END: the text is sealed just where nothing was turned -/
theorem at_end (t : ByteArray) (l : List UInt8) (f k B : Nat) (tb : Bool) (ht : okS t = true) (h3 : 3 ≤ t.size) (hlen : l.length = t.size)
    (hbits : ∀ i, i < 8 * t.size → bitAt l i = xor (bitAt t.data.toList i) (decide (f ≤ i ∧ i < f + k) && B.testBit (i - f))) (hk : k ≤ 24) (hend : k = 24 ∨ 8 * t.size ≤ f + k)
    (h : tb = true ↔ ∃ j, j < k ∧ f + j < 8 * t.size ∧ B.testBit j = true) : okS ⟨l.toArray⟩ = !tb := by
  have hu : ∀ i, i < 8 * t.size → bitAt (ByteArray.mk l.toArray).data.toList i = xor (bitAt t.data.toList i) (decide (f ≤ i ∧ i < f + 24) && B.testBit (i - f)) := by
    intro i hi
    have e2 : decide (f ≤ i ∧ i < f + 24) = decide (f ≤ i ∧ i < f + k) := by rw [decide_eq_decide]; omega
    rw [e2, ← hbits i hi]
  have hs := turned_seen t ⟨l.toArray⟩ ht h3 (by rw [← hlen]; simp [ByteArray.size]) f B hu
  cases tb
  · rw [Bool.not_false, hs]
    intro i hi
    rcases hc : (decide (f ≤ i ∧ i < f + 24) && B.testBit (i - f)) with _ | _
    · rfl
    · simp only [Bool.and_eq_true, decide_eq_true_eq] at hc
      have := h.2 ⟨i - f, by omega, by omega, hc.2⟩
      cases this
  · obtain ⟨j, h1, h2, h4⟩ := h.1 rfl
    rw [Bool.not_true, Bool.eq_false_iff]
    intro hc
    have := hs.1 hc (f + j) h2
    rw [show f + j - f = j by omega, h4, decide_eq_true (by omega)] at this
    cases this

set_option maxHeartbeats 1000000 in
theorem law_bursts (s : ByteArray) (hs : s.size ≤ maxLen) (at' : Int) (hat : (Lit.int .i64 at').wf = true) (bits' : Int) (hbits : (Lit.int .u32 bits').wf = true) (w : World) :
    Calls Try.prog 12 #[.string s, .int .i64 at', .int .u32 bits'] w fun e w' => e = .returned (.bool true) ∧ Below w.heap.size w w' := by
  have Hw := Lib.hid works_any
  have hx : -9223372036854775808 ≤ at' ∧ at' ≤ 9223372036854775807 := by simpa [Lit.wf, IntKind.min, IntKind.max, IntKind.signed, IntKind.bits] using hat
  have hy : 0 ≤ bits' ∧ bits' ≤ 4294967295 := by simpa [Lit.wf, IntKind.min, IntKind.max, IntKind.signed, IntKind.bits] using hbits
  obtain ⟨b, rfl⟩ := Int.eq_ofNat_of_zero_le hy.1
  clear hat hbits
  by_cases h : s.size ≤ 3000
  · have hm : s.size + 3 ≤ maxLen := by unfold maxLen; omega
    have Hseal := Lib.hid (fun w => seal_any s w hm)
    have Hopen := Lib.hid (fun u w h => open_any u w h)
    have Hok := Lib.hid (seal_ok s)
    have hsz := seal_size s
    unfold SealPost at Hseal
    generalize sealS s = t at *
    have hconv := conv_in
    unfold maxLen at hs hm
    have hcase : b % 16777216 = 0 ∨ ¬ b % 16777216 = 0 := by omega
    rcases hcase with hb | hb
    · have hbl : ((b : Int) % 16777216 == 0) = true := beq_iff_eq.2 (by omega)
      go_enter Try.func12, Try.ntmps12
      go_wp2_with fail
      refine (Hw.out _).mono ?_
      rintro e w1 ⟨rfl, b1⟩
      go_wp2_with fail
      refine (Hseal.out _).mono ?_
      rintro e w2 ⟨rfl, b2⟩
      go_wp2_with fail
      obtain ⟨f, hf, hfl⟩ := first_of at' s.size (by omega)
      rw [hf]
      clear hf
      have hBl : 1 < 16777216 := by omega
      have bel : Below w.heap.size w w2 := b1.trans (b2.mono b1.size)
      have hN := size_list t
      have Hcell0 : Hid (∀ q, q < s.size + 3 → (bytesRow t (grownCap w2 (s.size + 3) 0 5))[q]? = some (.int .u8 ((t.data.toList.getD q 0).toNat : Int))) := Lib.hid fun q hq => by
        rw [bytesRow_at t _ q (by have : t.data.size = t.size := rfl; omega)]
        rw [List.getD_eq_getElem?_getD, List.getElem?_eq_getElem (by omega)]
        simp
      go_loopw [9, 10] (fun tn i wr => ∃ (k : Nat) (l : List UInt8) (tb : Bool), k ≤ 24 ∧ i = .int .i64 k ∧ tn = .bool tb ∧ l.length = s.size + 3 ∧
          Hid (∀ q, q < s.size + 3 → wr.cell? ⟨w2.heap.size, q, none⟩ = some (.int .u8 ((l.getD q 0).toNat : Int))) ∧ Hid (∀ q, q < s.size + 3 → wr.frozen? ⟨w2.heap.size, q, none⟩ = false) ∧ w2.heap.size < wr.heap.size ∧ Below w.heap.size w wr ∧
          Hid (∀ i, i < 8 * (s.size + 3) → bitAt l i = xor (bitAt t.data.toList i) (decide (f ≤ i ∧ i < f + k) && (1 : Nat).testBit (i - f))) ∧ Hid (tb = true ↔ ∃ j, j < k ∧ f + j < 8 * (s.size + 3) ∧ (1 : Nat).testBit j = true)) (fun _ i _ => 24 - (intOf i).toNat)
      case atStart =>
        refine ⟨0, t.data.toList, false, by omega, rfl, rfl, by omega, Lib.hid fun q hq => ?_, Lib.hid fun q hq => ?_, by simp, ((bel.drew).alloc (by simpa using bel.size) _), Lib.hid fun i _ => ?_, Lib.hid ⟨fun h => (by cases h), fun h => (by obtain ⟨j, hj, _⟩ := h; omega)⟩⟩
        · rw [← Hcell0.out q hq]
          exact cell_new _ _ _ _ _
        · have hq2 := Hcell0.out q hq
          have hq3 : q < (bytesRow t (grownCap w2 (s.size + 3) 0 5)).size := (Array.getElem?_eq_some_iff.1 hq2).1
          exact frozen_new _ _ _ _ hq3
        · have : decide (f ≤ i ∧ i < f + 0) = false := decide_eq_false (by omega)
          rw [this]; simp
      case round =>
        obtain ⟨k, l, tb, hk, rfl, rfl, hlen, hcell, hfr, hsz2, hbel, hbits, htb⟩ := hrel
        by_cases hgo : k < 24 ∧ f + k < 8 * (s.size + 3)
        · obtain ⟨hk24, hkN⟩ := hgo
          rcases hbit : (1 : Nat).testBit k with _ | _
          · have h1 : (bits BinOp.and IntKind.u32 (1 / 2 ^ k) 1 == 1) = (1 : Nat).testBit k := test_bit 1 k hBl
            rw [hbit] at h1
            have H1 : Hid (∀ i, i < 8 * (s.size + 3) → bitAt l i = xor (bitAt l i) (decide (i = f + k) && (1 : Nat).testBit k)) := Lib.hid fun i _ => by rw [hbit]; simp
            have H2 := Lib.hid (any_next tb f k 1 _ htb.out hkN)
            have Hb := Lib.hid hbit
            clear hbit
            go_wp2_with fail
            go_roundw
            case rel => exact ⟨k + 1, l, tb, by omega, by go_num, rfl, hlen, hcell, hfr, hsz2, hbel, Lib.hid (turned_next _ _ _ _ _ _ hbits.out l H1.out), Lib.hid (by have := H2.out; rw [Hb.out, Bool.or_false] at this; exact this)⟩
            case measure => simp [intOf]; omega
          · have hc := hcell.out ((f + k) / 8) (by omega)
            have hfz := hfr.out ((f + k) / 8) (by omega)
            have h1 : (bits BinOp.and IntKind.u32 (1 / 2 ^ k) 1 == 1) = (1 : Nat).testBit k := test_bit 1 k hBl
            rw [hbit] at h1
            have Hv := Lib.hid (flip_value l (f + k))
            have Hf := Lib.hid (fun i => flip_bit l (f + k) i (by omega))
            have H2 := Lib.hid (any_next tb f k 1 _ htb.out hkN)
            have Hb := Lib.hid hbit
            clear hbit
            go_wp2_with fail
            go_region
            go_wp2_with fail
            rw [Hv.out]
            go_roundw
            case rel =>
              have hx := (l.getD ((f + k) / 8) 0).toNat_lt
              refine ⟨k + 1, flip l (f + k), true, by omega, by go_num, rfl, by rw [flip_length]; exact hlen, Lib.hid fun q hq => ?_, Lib.hid fun q hq => ?_, by simpa [World.setCell] using hsz2, (hbel.setCell (by have := bel.size; simpa using this) _).drew, Lib.hid (turned_next _ _ _ _ _ _ hbits.out _ fun i _ => ?_), Lib.hid (by have := H2.out; rw [Hb.out, Bool.or_true] at this; exact this)⟩
              · by_cases he : (f + k) / 8 = q
                · subst he
                  have e : (wr.setCell ⟨w2.heap.size, (f + k) / 8, none⟩ (.int .u8 (((l.getD ((f + k) / 8) 0).toNat ^^^ 2 ^ (7 - (f + k) % 8) : Nat) : Int))).cell? ⟨w2.heap.size, (f + k) / 8, none⟩ = some (.int .u8 (((l.getD ((f + k) / 8) 0).toNat ^^^ 2 ^ (7 - (f + k) % 8) : Nat) : Int)) := World.cell?_setCell_same _ _ _ hc
                  show (wr.setCell _ _).cell? _ = _
                  rw [e]
                  unfold flip
                  rw [getD_set_same _ _ _ (by omega)]
                  have hl2 := flip_lt (l.getD ((f + k) / 8) 0).toNat ((f + k) % 8) (by omega)
                  have e3 : (UInt8.ofNat ((l.getD ((f + k) / 8) 0).toNat ^^^ 2 ^ (7 - (f + k) % 8))).toNat = (l.getD ((f + k) / 8) 0).toNat ^^^ 2 ^ (7 - (f + k) % 8) := by
                    show _ % 256 = _
                    omega
                  rw [e3]
                · have e : (wr.setCell ⟨w2.heap.size, (f + k) / 8, none⟩ (.int .u8 (((l.getD ((f + k) / 8) 0).toNat ^^^ 2 ^ (7 - (f + k) % 8) : Nat) : Int))).cell? ⟨w2.heap.size, q, none⟩ = wr.cell? ⟨w2.heap.size, q, none⟩ := World.cell?_setCell_other _ _ _ _ (by intro h; exact he (by injection h))
                  show (wr.setCell _ _).cell? _ = _
                  rw [e, hcell.out q hq]
                  unfold flip
                  rw [getD_set_other _ _ _ _ he]
              · show (wr.setCell _ _).frozen? _ = _
                rw [World.frozen?_setCell]
                exact hfr.out q hq
              · rw [Hf.out i, Hb.out, Bool.and_true]
            case measure => simp [intOf]; omega
        · have Hk : Hid (okS ⟨l.toArray⟩ = !tb) := Lib.hid (at_end t l f k 1 tb Hok.out (by omega) (by omega) (by rw [hsz]; exact hbits.out) hk (by omega) (by rw [hsz]; exact htb.out))
          have hconv2 : (convert 63 9 (.slice (some ⟨w2.heap.size, 0, none⟩) (s.size + 3) (grownCap w2 (s.size + 3) 0 5))).run Try.prog wr = .ok (.string ⟨l.toArray⟩) wr := by
            rw [← hlen]
            refine run_convert_bytes_back wr _ _ 5 _ _ l Try.underlying63 Try.underlying5 Try.underlying9 fun j hj => ?_
            have := hcell.out j (by omega)
            rw [Go.WideShapes.add_plain, Nat.zero_add, this, List.getD_eq_getElem?_getD, List.getElem?_eq_getElem hj]
            rfl
          have hus : (ByteArray.mk l.toArray).size = s.size + 3 := by rw [← hlen]; simp [ByteArray.size]
          have Hop := Lib.hid (fun w => Hopen.out ⟨l.toArray⟩ w (by rw [hus]; unfold maxLen; omega))
          unfold OpenPost at Hop
          rw [Hk.out] at Hop
          have hno : k < 24 → 8 * (s.size + 3) ≤ f + k := by omega
          by_cases hk24 : k < 24
          all_goals
            have hno2 := hno
            clear hno hgo
            try replace hno2 := hno2 hk24
            go_wp2_with fail
            refine (Hop.out _).mono ?_
            rintro e w5 ⟨rfl, b5⟩
            go_wp2_with fail
            go_ret
            exact ⟨by cases tb <;> rfl, hbel.trans (b5.mono hbel.size)⟩
    · have hbl : ¬ ((b : Int) % 16777216) = 0 := by omega
      go_enter Try.func12, Try.ntmps12
      go_wp2_with fail
      refine (Hw.out _).mono ?_
      rintro e w1 ⟨rfl, b1⟩
      go_wp2_with fail
      refine (Hseal.out _).mono ?_
      rintro e w2 ⟨rfl, b2⟩
      go_wp2_with fail
      obtain ⟨f, hf, hfl⟩ := first_of at' s.size (by omega)
      rw [hf]
      clear hf
      obtain ⟨B, hB, hBl⟩ : ∃ B : Nat, (b : Int) % 16777216 = B ∧ B < 16777216 := ⟨b % 16777216, by omega, by omega⟩
      rw [hB]
      clear hB
      have bel : Below w.heap.size w w2 := b1.trans (b2.mono b1.size)
      have hN := size_list t
      have Hcell0 : Hid (∀ q, q < s.size + 3 → (bytesRow t (grownCap w2 (s.size + 3) 0 5))[q]? = some (.int .u8 ((t.data.toList.getD q 0).toNat : Int))) := Lib.hid fun q hq => by
        rw [bytesRow_at t _ q (by have : t.data.size = t.size := rfl; omega)]
        rw [List.getD_eq_getElem?_getD, List.getElem?_eq_getElem (by omega)]
        simp
      go_loopw [9, 10] (fun tn i wr => ∃ (k : Nat) (l : List UInt8) (tb : Bool), k ≤ 24 ∧ i = .int .i64 k ∧ tn = .bool tb ∧ l.length = s.size + 3 ∧
          Hid (∀ q, q < s.size + 3 → wr.cell? ⟨w2.heap.size, q, none⟩ = some (.int .u8 ((l.getD q 0).toNat : Int))) ∧ Hid (∀ q, q < s.size + 3 → wr.frozen? ⟨w2.heap.size, q, none⟩ = false) ∧ w2.heap.size < wr.heap.size ∧ Below w.heap.size w wr ∧
          Hid (∀ i, i < 8 * (s.size + 3) → bitAt l i = xor (bitAt t.data.toList i) (decide (f ≤ i ∧ i < f + k) && B.testBit (i - f))) ∧ Hid (tb = true ↔ ∃ j, j < k ∧ f + j < 8 * (s.size + 3) ∧ B.testBit j = true)) (fun _ i _ => 24 - (intOf i).toNat)
      case atStart =>
        refine ⟨0, t.data.toList, false, by omega, rfl, rfl, by omega, Lib.hid fun q hq => ?_, Lib.hid fun q hq => ?_, by simp, ((bel.drew).alloc (by simpa using bel.size) _), Lib.hid fun i _ => ?_, Lib.hid ⟨fun h => (by cases h), fun h => (by obtain ⟨j, hj, _⟩ := h; omega)⟩⟩
        · rw [← Hcell0.out q hq]
          exact cell_new _ _ _ _ _
        · have hq2 := Hcell0.out q hq
          have hq3 : q < (bytesRow t (grownCap w2 (s.size + 3) 0 5)).size := (Array.getElem?_eq_some_iff.1 hq2).1
          exact frozen_new _ _ _ _ hq3
        · have : decide (f ≤ i ∧ i < f + 0) = false := decide_eq_false (by omega)
          rw [this]; simp
      case round =>
        obtain ⟨k, l, tb, hk, rfl, rfl, hlen, hcell, hfr, hsz2, hbel, hbits, htb⟩ := hrel
        by_cases hgo : k < 24 ∧ f + k < 8 * (s.size + 3)
        · obtain ⟨hk24, hkN⟩ := hgo
          rcases hbit : B.testBit k with _ | _
          · have h1 := test_bit B k hBl
            rw [hbit] at h1
            have H1 : Hid (∀ i, i < 8 * (s.size + 3) → bitAt l i = xor (bitAt l i) (decide (i = f + k) && B.testBit k)) := Lib.hid fun i _ => by rw [hbit]; simp
            have H2 := Lib.hid (any_next tb f k B _ htb.out hkN)
            have Hb := Lib.hid hbit
            clear hbit
            go_wp2_with fail
            go_roundw
            case rel => exact ⟨k + 1, l, tb, by omega, by go_num, rfl, hlen, hcell, hfr, hsz2, hbel, Lib.hid (turned_next _ _ _ _ _ _ hbits.out l H1.out), Lib.hid (by have := H2.out; rw [Hb.out, Bool.or_false] at this; exact this)⟩
            case measure => simp [intOf]; omega
          · have hc := hcell.out ((f + k) / 8) (by omega)
            have hfz := hfr.out ((f + k) / 8) (by omega)
            have h1 := test_bit B k hBl
            rw [hbit] at h1
            have Hv := Lib.hid (flip_value l (f + k))
            have Hf := Lib.hid (fun i => flip_bit l (f + k) i (by omega))
            have H2 := Lib.hid (any_next tb f k B _ htb.out hkN)
            have Hb := Lib.hid hbit
            clear hbit
            go_wp2_with fail
            go_region
            go_wp2_with fail
            rw [Hv.out]
            go_roundw
            case rel =>
              have hx := (l.getD ((f + k) / 8) 0).toNat_lt
              refine ⟨k + 1, flip l (f + k), true, by omega, by go_num, rfl, by rw [flip_length]; exact hlen, Lib.hid fun q hq => ?_, Lib.hid fun q hq => ?_, by simpa [World.setCell] using hsz2, (hbel.setCell (by have := bel.size; simpa using this) _).drew, Lib.hid (turned_next _ _ _ _ _ _ hbits.out _ fun i _ => ?_), Lib.hid (by have := H2.out; rw [Hb.out, Bool.or_true] at this; exact this)⟩
              · by_cases he : (f + k) / 8 = q
                · subst he
                  have e : (wr.setCell ⟨w2.heap.size, (f + k) / 8, none⟩ (.int .u8 (((l.getD ((f + k) / 8) 0).toNat ^^^ 2 ^ (7 - (f + k) % 8) : Nat) : Int))).cell? ⟨w2.heap.size, (f + k) / 8, none⟩ = some (.int .u8 (((l.getD ((f + k) / 8) 0).toNat ^^^ 2 ^ (7 - (f + k) % 8) : Nat) : Int)) := World.cell?_setCell_same _ _ _ hc
                  show (wr.setCell _ _).cell? _ = _
                  rw [e]
                  unfold flip
                  rw [getD_set_same _ _ _ (by omega)]
                  have hl2 := flip_lt (l.getD ((f + k) / 8) 0).toNat ((f + k) % 8) (by omega)
                  have e3 : (UInt8.ofNat ((l.getD ((f + k) / 8) 0).toNat ^^^ 2 ^ (7 - (f + k) % 8))).toNat = (l.getD ((f + k) / 8) 0).toNat ^^^ 2 ^ (7 - (f + k) % 8) := by
                    show _ % 256 = _
                    omega
                  rw [e3]
                · have e : (wr.setCell ⟨w2.heap.size, (f + k) / 8, none⟩ (.int .u8 (((l.getD ((f + k) / 8) 0).toNat ^^^ 2 ^ (7 - (f + k) % 8) : Nat) : Int))).cell? ⟨w2.heap.size, q, none⟩ = wr.cell? ⟨w2.heap.size, q, none⟩ := World.cell?_setCell_other _ _ _ _ (by intro h; exact he (by injection h))
                  show (wr.setCell _ _).cell? _ = _
                  rw [e, hcell.out q hq]
                  unfold flip
                  rw [getD_set_other _ _ _ _ he]
              · show (wr.setCell _ _).frozen? _ = _
                rw [World.frozen?_setCell]
                exact hfr.out q hq
              · rw [Hf.out i, Hb.out, Bool.and_true]
            case measure => simp [intOf]; omega
        · have Hk : Hid (okS ⟨l.toArray⟩ = !tb) := Lib.hid (at_end t l f k B tb Hok.out (by omega) (by omega) (by rw [hsz]; exact hbits.out) hk (by omega) (by rw [hsz]; exact htb.out))
          have hconv2 : (convert 63 9 (.slice (some ⟨w2.heap.size, 0, none⟩) (s.size + 3) (grownCap w2 (s.size + 3) 0 5))).run Try.prog wr = .ok (.string ⟨l.toArray⟩) wr := by
            rw [← hlen]
            refine run_convert_bytes_back wr _ _ 5 _ _ l Try.underlying63 Try.underlying5 Try.underlying9 fun j hj => ?_
            have := hcell.out j (by omega)
            rw [Go.WideShapes.add_plain, Nat.zero_add, this, List.getD_eq_getElem?_getD, List.getElem?_eq_getElem hj]
            rfl
          have hus : (ByteArray.mk l.toArray).size = s.size + 3 := by rw [← hlen]; simp [ByteArray.size]
          have Hop := Lib.hid (fun w => Hopen.out ⟨l.toArray⟩ w (by rw [hus]; unfold maxLen; omega))
          unfold OpenPost at Hop
          rw [Hk.out] at Hop
          have hno : k < 24 → 8 * (s.size + 3) ≤ f + k := by omega
          by_cases hk24 : k < 24
          all_goals
            have hno2 := hno
            clear hno hgo
            try replace hno2 := hno2 hk24
            go_wp2_with fail
            refine (Hop.out _).mono ?_
            rintro e w5 ⟨rfl, b5⟩
            go_wp2_with fail
            go_ret
            exact ⟨by cases tb <;> rfl, hbel.trans (b5.mono hbel.size)⟩
  · unfold maxLen at hs
    go_enter Try.func12, Try.ntmps12
    go_wp2_with fail
    refine (Hw.out _).mono ?_
    rintro e w1 ⟨rfl, b1⟩
    go_wp2_with fail
    go_ret
    exact ⟨rfl, b1⟩
end Go.Proofs.Ytidmcifckbpgbaa.cr
