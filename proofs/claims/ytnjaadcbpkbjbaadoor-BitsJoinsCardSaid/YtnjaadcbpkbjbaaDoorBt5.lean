/-
  Bits: where a number's block is.
-/
import Derived.Test.YtnjaadcbpkbjbaaDoorBt4
namespace Go.Proofs.YtnjaadcbpkbjbaaDoor.bt
open Go.RowKit Go.Sort Go.Proofs.YtnjaadcbpkbjbaaDoor.mem

/-- how many blocks stand ahead of a block of a number -/
def lb (q : Nat) : List Blk → Nat
  | [] => 0
  | b :: r => if b.1 < q then lb q r + 1 else 0

theorem lb_le (q : Nat) : ∀ B : List Blk, lb q B ≤ B.length
  | [] => Nat.le_refl _
  | b :: r => by
    unfold lb
    have := lb_le q r
    split <;> simp <;> omega

theorem lb_lt {q : Nat} : ∀ {B : List Blk} {i : Nat} (hi : i < B.length), i < lb q B → B[i].1 < q
  | b :: r, i, hi, h => by
    unfold lb at h
    split at h
    · cases i with
      | zero => assumption
      | succ i => exact lb_lt (B := r) (by simpa using hi) (by omega)
    · omega

theorem lb_ge {q : Nat} : ∀ {B : List Blk}, B.Pairwise (fun x y => x.1 < y.1) → ∀ {i : Nat} (hi : i < B.length), lb q B ≤ i → q ≤ B[i].1
  | b :: r, hB, i, hi, h => by
    have h1 := List.pairwise_cons.1 hB
    unfold lb at h
    split at h
    · cases i with
      | zero => omega
      | succ i => exact lb_ge (B := r) h1.2 (by simpa using hi) (by omega)
    · rename_i hn
      cases i with
      | zero => show q ≤ b.1; omega
      | succ i =>
        have hi' : i < r.length := by simpa using hi
        have := h1.1 r[i] (List.getElem_mem _)
        show q ≤ r[i].1
        omega

theorem lb_eq {q k : Nat} {B : List Blk} (hB : B.Pairwise (fun x y => x.1 < y.1)) (hk : k ≤ B.length) (h1 : ∀ i (hi : i < B.length), i < k → B[i].1 < q) (h2 : ∀ i (hi : i < B.length), k ≤ i → q ≤ B[i].1) : k = lb q B := by
  have hl := lb_le q B
  rcases Nat.lt_trichotomy k (lb q B) with h | h | h
  · have a := lb_lt (q := q) (B := B) (i := k) (by omega) h
    have b := h2 k (by omega) (Nat.le_refl _)
    omega
  · exact h
  · have a := lb_ge (q := q) hB (i := lb q B) (by omega) (Nat.le_refl _)
    have b := h1 (lb q B) (by omega) h
    omega

/-- is the block there? -/
def foundB (q : Nat) (B : List Blk) : Bool := B.any fun b => b.1 == q

theorem found_at {q : Nat} {B : List Blk} (hB : B.Pairwise (fun x y => x.1 < y.1)) : foundB q B = true ↔ ∃ h : lb q B < B.length, (B[lb q B]'h).1 = q := by
  unfold foundB
  rw [List.any_eq_true]
  constructor
  · rintro ⟨b, hb, he⟩
    have he : b.1 = q := by simpa using he
    obtain ⟨i, hi, rfl⟩ := List.getElem_of_mem hb
    have h1 : ¬ i < lb q B := fun h => by have := lb_lt (q := q) hi h; omega
    have h2 : ¬ lb q B < i := fun h => by
      have a := lb_ge (q := q) hB (i := lb q B) (by omega) (Nat.le_refl _)
      have b := (List.pairwise_iff_getElem.1 hB) (lb q B) i (by omega) hi h
      omega
    have h3 : i = lb q B := by omega
    subst h3
    exact ⟨hi, he⟩
  · rintro ⟨h, he⟩
    exact ⟨_, List.getElem_mem h, by simpa using he⟩

theorem cmp_run (x y : Int) (w : World) : Calls Tryd.prog 42 #[.int .i64 x, .int .i64 y] w fun e w' => e = .returned (.int .i64 (Lib.compareInt x y)) ∧ w = w' :=
  (Tryd.cmp_Compare_int x y w).mono fun _ _ h => ⟨h.1, h.2.symm⟩

set_option maxRecDepth 100000 in
theorem find1_any (w : World) (a h q : Int) :
    Calls Tryd.prog 41 #[.agg #[.int .i64 a, .int .u64 h], .int .i64 q] w fun e w' => e = .returned (.int .i64 (Lib.compareInt a q)) ∧ Below w.heap.size w w' := by
  have K := Lib.hid (fun w => cmp_run a q w)
  go_enter Tryd.func41, Tryd.ntmps41
  go_wp2_with fail
  refine (K.out _).mono ?_
  rintro e w2 ⟨rfl, rfl⟩
  go_wp2_with fail
  go_ret
  exact ⟨rfl, (Below.refl _ _).alloc (Nat.le_refl _) _⟩

theorem cmp_lt (a q : Int) : decide (Lib.compareInt a q < 0) = decide (a < q) := by
  unfold Lib.compareInt
  repeat' split
  all_goals simp <;> omega
theorem cmp_eq (a q : Int) : (Lib.compareInt a q == 0) = (a == q) := by
  unfold Lib.compareInt
  repeat' split
  all_goals simp <;> omega

set_option maxRecDepth 100000 in
set_option maxHeartbeats 1000000 in
theorem bs_any (w : World) (A : Option Addr) (cap : Nat) (B : List Blk) (q : Nat) (h : BA w A cap B) (hq : q ≤ 9223372036854775807) :
    Calls Tryd.prog 40 #[.slice A B.length cap, .int .i64 (q : Nat), .func (.func 41) #[] #[]] w fun e w' => e = .returned (.tuple #[.int .i64 (lb q B : Nat), .bool (foundB q B)]) ∧ Below w.heap.size w w' := by
  have K := Lib.hid (fun w (a h : Int) => find1_any w a h q)
  have HB := Lib.hid h
  have hf := h.few
  obtain ⟨L, hL⟩ : ∃ L, lb q B = L := ⟨_, rfl⟩
  obtain ⟨R, hR⟩ : ∃ R, foundB q B = R := ⟨_, rfl⟩
  have hfd := Lib.hid (found_at (q := q) h.ok.rise)
  rw [hR] at hfd ⊢
  have hlb := Lib.hid (fun k (a : k ≤ B.length) b c => (lb_eq (q := q) (k := k) h.ok.rise a b c).trans hL)
  rw [hL] at hfd ⊢
  clear h hL hR
  go_enter Tryd.func40, Tryd.ntmps40
  go_wp2_with fail
  go_loopw [9, 10] (fun vi vj wr => ∃ i j : Nat, i ≤ j ∧ j ≤ B.length ∧ vi = .int .i64 i ∧ vj = .int .i64 j ∧ Hid ((∀ k (hk : k < B.length), k < i → B[k].1 < q) ∧ ∀ k (hk : k < B.length), j ≤ k → q ≤ B[k].1) ∧ Hid (Below w.heap.size w wr)) (fun vi vj _ => (intOf vj - intOf vi).toNat)
  case atStart => exact ⟨0, B.length, by omega, by omega, rfl, rfl, Lib.hid ⟨fun k _ h => by omega, fun k h1 h2 => by omega⟩, Lib.hid (Below.refl _ _)⟩
  case round =>
    obtain ⟨i, j, hij, hj, rfl, rfl, hI, hb⟩ := hrel
    by_cases hlt : i < j
    · have e1 : decide ((i : Int) < (j : Int)) = true := decide_eq_true (by omega)
      obtain ⟨m, hm⟩ : ∃ m, m = (i + j) / 2 := ⟨_, rfl⟩
      have hm1 : i ≤ m := by omega
      have hm2 : m < j := by omega
      have hh : ((i : Int) + (j : Int)) / 2 = (m : Int) := by omega
      have hij2 : i + j ≤ 8388610 := by omega
      clear hm
      have HBk := Lib.hid (HB.out.below hb.out)
      have hml : m < B.length := by omega
      obtain ⟨b, off, rfl, hblt, k0, k1⟩ := HBk.out.at_ hml
      have hup := Lib.hid (fun (hlt : B[m].1 < q) k (hk : k < B.length) (hkm : k < m + 1) => show B[k].1 < q from by
        by_cases e : k = m
        · subst e; exact hlt
        · have := (List.pairwise_iff_getElem.1 HB.out.ok.rise) k m hk hml (by omega)
          omega)
      have hdn := Lib.hid (fun (hge : q ≤ B[m].1) k (hk : k < B.length) (hkm : m ≤ k) => show q ≤ B[k].1 from by
        by_cases e : k = m
        · subst e; exact hge
        · have := (List.pairwise_iff_getElem.1 HB.out.ok.rise) m k hml hk (by omega)
          omega)
      generalize B[m] = x at *
      obtain ⟨xa, xh⟩ := x
      simp only at k0 k1
      have hup : Hid (xa < q → ∀ k (hk : k < B.length), k < m + 1 → B[k].1 < q) := hup
      have hdn : Hid (q ≤ xa → ∀ k (hk : k < B.length), m ≤ k → q ≤ B[k].1) := hdn
      have KX := Lib.hid (fun w => K.out w xa xh)
      by_cases hx : xa < q
      · have c1 : decide (Lib.compareInt (xa : Int) (q : Int) < 0) = true := by rw [cmp_lt]; exact decide_eq_true (by omega)
        have hN := Lib.hid (And.intro (hup.out hx) hI.out.2)
        clear hup hdn hI
        go_wp2_with fail
        refine (KX.out _).mono ?_
        rintro e w3 ⟨rfl, b3⟩
        have HB3 := Lib.hid (hb.out.trans (b3.mono hb.out.size))
        clear b3 k0 k1 hb
        go_wp2_with fail
        go_roundw
        case rel => exact ⟨m + 1, j, by omega, hj, by go_num, rfl, hN, HB3⟩
        case measure => simp [intOf]; omega
      · have c1 : decide (Lib.compareInt (xa : Int) (q : Int) < 0) = false := by rw [cmp_lt]; exact decide_eq_false (by omega)
        have hN := Lib.hid (And.intro hI.out.1 (hdn.out (by omega)))
        clear hup hdn hI
        go_wp2_with fail
        refine (KX.out _).mono ?_
        rintro e w3 ⟨rfl, b3⟩
        have HB3 := Lib.hid (hb.out.trans (b3.mono hb.out.size))
        clear b3 k0 k1 hb
        go_wp2_with fail
        go_roundw
        case rel => exact ⟨i, m, by omega, by omega, rfl, rfl, hN, HB3⟩
        case measure => simp [intOf]; omega
    · obtain rfl : i = j := by omega
      have e1 : decide ((i : Int) < (i : Int)) = false := decide_eq_false (by omega)
      obtain rfl : i = L := hlb.out i hj hI.out.1 hI.out.2
      clear hI hlb
      by_cases hl : i < B.length
      · have e2 : decide ((i : Int) < (B.length : Int)) = true := decide_eq_true (by omega)
        have HBk := Lib.hid (HB.out.below hb.out)
        obtain ⟨b, off, rfl, hblt, k0, k1⟩ := HBk.out.at_ hl
        obtain ⟨d, hd⟩ : ∃ d, (B[i]).1 = d := ⟨_, rfl⟩
        have hr : Hid (R = decide (d = q)) := Lib.hid (by
          have e := hfd.out
          by_cases hq1 : d = q
          · rw [decide_eq_true hq1]; exact e.2 ⟨hl, hd.trans hq1⟩
          · rw [decide_eq_false hq1]
            exact Bool.eq_false_iff.2 fun h => hq1 (by obtain ⟨_, h2⟩ := e.1 h; rw [← hd]; exact h2))
        rw [hd] at k0
        obtain ⟨xh, hxh⟩ : ∃ xh, (B[i]).2 = xh := ⟨_, rfl⟩
        rw [hxh] at k1
        have KX := Lib.hid (fun w => K.out w d xh)
        have c1 : (Lib.compareInt (d : Int) (q : Int) == 0) = decide (d = q) := by
          rw [cmp_eq]
          by_cases hq1 : d = q
          · subst hq1; simp
          · rw [decide_eq_false hq1]; simp; omega
        clear hd hxh hfd
        go_wp2_with fail
        refine (KX.out _).mono ?_
        rintro e w3 ⟨rfl, b3⟩
        have HB3 := Lib.hid (hb.out.trans (b3.mono hb.out.size))
        clear b3 k0 k1 hb
        go_wp2_with fail
        go_ret2
        exact ⟨by rw [hr.out]; rfl, HB3.out⟩
      · have e2 : decide ((i : Int) < (B.length : Int)) = false := decide_eq_false (by omega)
        have hr : Hid (R = false) := Lib.hid (Bool.eq_false_iff.2 fun h => hl (by obtain ⟨h1, _⟩ := hfd.out.1 h; exact h1))
        clear hfd
        go_wp2_with fail
        go_ret2
        exact ⟨by rw [hr.out]; rfl, hb.out⟩

set_option maxRecDepth 100000 in
theorem find_any (w : World) (s : Nat) (A : Option Addr) (cap : Nat) (B : List Blk) (h : SA w s A cap B) (n : Nat) (hn : n ≤ 268435456) :
    Calls Tryd.prog 24 #[.pointer (some ⟨s, 0, none⟩), .int .i64 (n : Nat)] w fun e w' => e = .returned (.tuple #[.int .i64 (lb (n / 64) B : Nat), .bool (foundB (n / 64) B)]) ∧ Below w.heap.size w w' := by
  have K := Lib.hid (list_any w s A cap B h)
  have KS := Lib.hid (bs_any w A cap B (n / 64) h.ba (by omega))
  have hf := h.ba.few
  have hq : (n : Int).tdiv 64 = ((n / 64 : Nat) : Int) := by rw [Int.tdiv_eq_ediv_of_nonneg (by omega)]; omega
  have hlast := Lib.hid (fun (hl : 0 < B.length) (hx : (B[B.length - 1]'(by omega)).1 < n / 64) => show lb (n / 64) B = B.length ∧ foundB (n / 64) B = false from by
    have e : B.length = lb (n / 64) B := lb_eq h.ba.ok.rise (Nat.le_refl _) (fun i hi _ => by
      by_cases e : i = B.length - 1
      · subst e; exact hx
      · have := (List.pairwise_iff_getElem.1 h.ba.ok.rise) i (B.length - 1) hi (by omega) (by omega)
        omega) (fun i hi h2 => by omega)
    refine ⟨e.symm, Bool.eq_false_iff.2 fun h2 => ?_⟩
    obtain ⟨h3, _⟩ := (found_at h.ba.ok.rise).1 h2
    omega)
  have HB := Lib.hid h.ba
  obtain ⟨L, hL⟩ : ∃ L, lb (n / 64) B = L := ⟨_, rfl⟩
  obtain ⟨R, hR⟩ : ∃ R, foundB (n / 64) B = R := ⟨_, rfl⟩
  rw [hL, hR] at KS hlast ⊢
  clear h hL hR
  by_cases hl : 0 < B.length
  · have e1 : decide ((0 : Int) < (B.length : Int)) = true := decide_eq_true (by omega)
    obtain ⟨b, off, rfl, hblt, k0, k1⟩ := HB.out.at_ (i := B.length - 1) (by omega)
    have hlast := Lib.hid (hlast.out hl)
    generalize B[B.length - 1] = x at *
    obtain ⟨xa, xh⟩ := x
    have hlast : Hid (xa < n / 64 → L = B.length ∧ R = false) := hlast
    simp only at k0 k1
    obtain ⟨m, hm⟩ : ∃ m, B.length = m + 1 := ⟨B.length - 1, by omega⟩
    have hms : (B.length : Int) - 1 = (m : Int) := by omega
    have hk : off + (B.length - 1) * 2 = off + m * 2 := by omega
    rw [hk] at k0
    have k1 : w.cell? ⟨b, off + m * 2 + 1, none⟩ = some (.int .u64 xh) := by rw [← hk]; exact k1
    have hmb : (m : Int) < (B.length : Int) := by omega
    generalize hq2 : n / 64 = q at *
    by_cases hx : xa < q
    · have e2 : decide ((xa : Int) < (q : Int)) = true := decide_eq_true (by omega)
      obtain ⟨rfl, rfl⟩ := hlast.out hx
      clear KS HB hm hk
      go_enter Tryd.func24, Tryd.ntmps24
      go_wp2_with fail
      refine K.out.mono ?_
      rintro e w2 ⟨rfl, rfl⟩
      go_wp2_with fail
      go_ret2
      exact ⟨rfl, Below.refl _ _⟩
    · have e2 : decide ((xa : Int) < (q : Int)) = false := decide_eq_false (by omega)
      clear HB hm hk hlast
      go_enter Tryd.func24, Tryd.ntmps24
      go_wp2_with fail
      refine K.out.mono ?_
      rintro e w2 ⟨rfl, rfl⟩
      go_wp2_with fail
      refine KS.out.mono ?_
      rintro e w3 ⟨rfl, b3⟩
      go_wp2_with fail
      go_ret2
      exact ⟨rfl, b3⟩
  · have e1 : decide ((0 : Int) < (B.length : Int)) = false := decide_eq_false (by omega)
    generalize hq2 : n / 64 = q at *
    clear HB hlast
    go_enter Tryd.func24, Tryd.ntmps24
    go_wp2_with fail
    refine K.out.mono ?_
    rintro e w2 ⟨rfl, rfl⟩
    go_wp2_with fail
    refine KS.out.mono ?_
    rintro e w3 ⟨rfl, b3⟩
    go_wp2_with fail
    go_ret2
    exact ⟨rfl, b3⟩
end Go.Proofs.YtnjaadcbpkbjbaaDoor.bt
