import Derived.Test.YtohdcmmkbblhkaaGreatDoorV27
import Derived.Deep.RegionHeld3
import Derived.Deep.QuietTactic
import Derived.BigQuiet
import Derived.Lib.QuietBelow
import Derived.Test.YtohdcmmkbblhkaaGreatDoorV13
import Derived.Test.YtohdcmmkbblhkaaGreatDoorUTjK
/-
  tarjan: the reference: of each member to which ones it leads: the walk.
-/
set_option linter.all false
namespace Go.Proofs.YtohdcmmkbblhkaaGreatDoor.tj
open Go.RowKit Go.Proofs.YtohdcmmkbblhkaaGreatDoor.mem

set_option maxRecDepth 100000 in
theorem rmember_any (n k : Int) (w : World) :
    Calls Tryz.prog 82 #[.int .i64 n, .int .i64 k] w fun e w' => e = .returned (.bool (inG n k)) ∧ w = w' := by
  by_cases h0 : 0 ≤ k
  · have d0 : decide (0 ≤ k) = true := decide_eq_true h0
    have hr := Lib.hid (show decide (k < n) = inG n k by simp [inG, h0])
    go_enter Tryz.func82, Tryz.ntmps82
    go_wp2_with fail
    go_ret
    exact ⟨congrArg (fun b => Ending.returned (.bool b)) hr.out, rfl⟩
  · have d0 : decide (0 ≤ k) = false := decide_eq_false h0
    have hr := Lib.hid (show false = inG n k by simp [inG, h0])
    go_enter Tryz.func82, Tryz.ntmps82
    go_wp2_with fail
    go_ret
    exact ⟨congrArg (fun b => Ending.returned (.bool b)) hr.out, rfl⟩

def RePost (w : World) (g : G) (e : Ending) (W : World) : Prop := ∃ mb bi, e = .returned (.slice (some ⟨mb, 0, none⟩) g.n g.n) ∧ MX W w.heap.size mb bi g.n g.n g.R ∧ Below w.heap.size w W

/-- what a round keeps -/
structure RI (w W : World) (mb : Nat) (bi : Nat → Nat) (k n : Nat) (M : Nat → Nat → Bool) : Prop where
  mx : MX W w.heap.size mb bi k n M
  on : Below w.heap.size w W

theorem RI.set {w W : World} {mb : Nat} {bi : Nat → Nat} {k n : Nat} {M : Nat → Nat → Bool} (h : RI w W mb bi k n M) {i : Nat} (hi : i < k) (j : Nat) (v : Bool) : RI w (W.setCell ⟨bi i, j, none⟩ (.bool v)) mb bi k n (upd M i (upd (M i) j v)) :=
  ⟨h.mx.set hi j v, h.on.setCell (p := ⟨bi i, j, none⟩) (h.mx.ge i hi) _⟩
theorem RI.below {w W W' : World} {mb : Nat} {bi : Nat → Nat} {k n : Nat} {M : Nat → Nat → Bool} (h : RI w W mb bi k n M) (hb : Below W.heap.size W W') : RI w W' mb bi k n M := ⟨h.mx.on hb, h.on.trans (hb.mono h.on.size)⟩
theorem RI.congr {w W : World} {mb : Nat} {bi : Nat → Nat} {k n : Nat} {M M' : Nat → Nat → Bool} (h : RI w W mb bi k n M) (e : ∀ i j, i < k → j < n → M i j = M' i j) : RI w W mb bi k n M' := ⟨h.mx.congr e, h.on⟩
theorem RI.add {w W : World} {mb : Nat} {bi : Nat → Nat} {k n : Nat} {M : Nat → Nat → Bool} (h : RI w W mb bi k n M) (hk : k < n) : RI w ((W.alloc (.cells (bv (fun _ => false) n) 4)).setCell ⟨mb, k, none⟩ (.slice (some ⟨W.heap.size, 0, none⟩) n n)) mb (upd bi k W.heap.size) (k + 1) n (upd M k fun _ => false) :=
  ⟨h.mx.add hk h.on.size, (h.on.alloc h.on.size _).setCell (p := ⟨mb, k, none⟩) h.mx.gb _⟩
theorem RI.hd {w W : World} {mb : Nat} {bi : Nat → Nat} {k n : Nat} {M : Nat → Nat → Bool} (h : RI w W mb bi k n M) {i : Nat} (hi : i < k) (hn : i < n) : W.cell? ⟨mb, i, none⟩ = some (.slice (some ⟨bi i, 0, none⟩) n n) := (h.mx.bx.cell i).trans (mh_at _ hn hi)
theorem RI.at_ {w W : World} {mb : Nat} {bi : Nat → Nat} {k n : Nat} {M : Nat → Nat → Bool} (h : RI w W mb bi k n M) {i j : Nat} (hi : i < k) (hj : j < n) : W.cell? ⟨bi i, j, none⟩ = some (.bool (M i j)) ∧ W.frozen? ⟨bi i, j, none⟩ = false := ⟨((h.mx.rw_ i hi).cell j).trans (bv_at _ hj), (h.mx.rw_ i hi).free j⟩

theorem ri_own {w W : World} {mb : Nat} {bi : Nat → Nat} {k n : Nat} (h : RI w W mb bi k n (fun r c => r == c)) (hk : k < n) :
    RI w (((W.alloc (.cells (bv (fun _ => false) n) 4)).setCell ⟨mb, k, none⟩ (.slice (some ⟨W.heap.size, 0, none⟩) n n)).setCell ⟨W.heap.size, k, none⟩ (.bool true)) mb (upd bi k W.heap.size) (k + 1) n (fun r c => r == c) := by
  have h1 := (h.add hk).set (i := k) (by omega) k true
  rw [upd_same] at h1
  refine h1.congr fun i j hi hj => ?_
  by_cases e : i = k
  · subst e
    rw [upd_same]
    by_cases e2 : j = i
    · subst e2; rw [upd_same]; simp
    · rw [upd_ne _ _ e2, upd_same]; simp [Ne.symm e2]
  · rw [upd_ne _ _ e, upd_ne _ _ e]

set_option maxRecDepth 100000 in
set_option maxHeartbeats 4000000 in
theorem reach_any (n : Int) (hn : n ≤ 100) (A : Option Addr) (cap : Nat) (l : List (Int × Int)) (hl : l.length ≤ 1000) (w : World) (h : Eds w A l) :
    Calls Tryz.prog 59 #[.int .i64 n, .slice A l.length cap] w (RePost w (gof n l)) := by
  obtain ⟨m, hm⟩ : ∃ m, Hid (n.toNat = m) := ⟨_, Lib.hid rfl⟩
  have hm' : m ≤ 100 := by have := hm.out; omega
  have hmk := run_make_row' (P := Tryz.prog) 107 109 (.slice none 0 0) 24 Tryz.underlying107 info_brow rfl .i64 .i64 m (by omega) (by omega)
  rw [made_mh _ (fun _ => 0)] at hmk
  have hmk2 := run_make_row' (P := Tryz.prog) 109 4 (.bool false) 1 Tryz.underlying109 info_bool rfl .i64 .i64 m (by omega) (by omega)
  rw [made_bv] at hmk2
  have H := Lib.hid h
  have hR0 : Hid (RI w (w.alloc (.cells (mh (fun _ => 0) 0 m) 109)) w.heap.size (fun _ => 0) 0 m (fun r c => r == c)) := Lib.hid ⟨⟨Box.new _ _ _, fun i hi => by omega, fun i j hi => by omega, Nat.le_refl _, fun i hi => by omega⟩, (Below.refl _ _).alloc (Nat.le_refl _) _⟩
  clear h
  go_enter Tryz.func59, Tryz.ntmps59
  go_upto_region 1 with fail
  go_cut [0] (fun s0 wx => s0 = .int .i64 (m : Int) ∧ w = wx)
  case first =>
    clear hmk hmk2
    by_cases h1 : n < 0
    · have h2 : ¬ (0 < n) := by omega
      have h3 : ¬ (0 ≤ n) := by omega
      have h4 : n ≤ 0 := by omega
      have h5 := Lib.hid (show Value.int .i64 0 = .int .i64 (m : Int) by have := hm.out; congr 1; omega)
      go_wp2_with fail
      go_meet
      exact ⟨h5.out, rfl⟩
    · have h3 : 0 ≤ n := by omega
      have h5 := Lib.hid (show n = (m : Int) by have := hm.out; omega)
      go_wp2_with fail
      all_goals (go_meet; first | exact ⟨by rw [h5.out], rfl⟩ | exact ⟨by congr 1; have := h5.out; omega, rfl⟩)
  case rest =>
    obtain ⟨rfl, rfl⟩ := hcut
    go_upto_region 3 with fail
    clear hmk
    generalize hmb : w.heap.size = mb at *
    have HMB := Lib.hid hmb
    clear hmb
    generalize w.alloc (.cells (mh (fun _ => 0) 0 m) 109) = w1 at *
    go_wp2_with fail
    go_loopw [6] (fun i wr => ∃ (k : Nat) (bi : Nat → Nat), k ≤ m ∧ i = .int .i64 k ∧ Hid (RI w wr mb bi k m (fun r c => r == c))) (fun i _ => m - (intOf i).toNat)
    case atStart => exact ⟨0, _, by omega, rfl, hR0⟩
    case round =>
      obtain ⟨k, bi, hk, rfl, hR⟩ := hrel
      clear hR0
      rename World => wr
      by_cases hkm : k < m
      · have d1 : decide ((k : Int) < (m : Int)) = true := decide_eq_true (by omega)
        have hkI : (k : Int) < (m : Int) := by omega
        have hx : ∃ v, (wr.alloc (.cells (bv (fun _ => false) m) 4)).cell? ⟨mb, k, none⟩ = some v := ⟨_, ((hR.out.mx.on (W' := wr.alloc (.cells (bv (fun _ => false) m) 4)) ((Below.refl _ _).alloc (Nat.le_refl _) _)).bx.cell k).trans (mh_has _ hkm)⟩
        obtain ⟨v, hx⟩ := hx
        have hxf := (hR.out.mx.on (W' := wr.alloc (.cells (bv (fun _ => false) m) 4)) ((Below.refl _ _).alloc (Nat.le_refl _) _)).bx.free k
        have hadd := hR.out.add hkm
        have hh := hadd.hd (i := k) (by omega) hkm
        obtain ⟨ha, hf⟩ := hadd.at_ (i := k) (j := k) (by omega) hkm
        rw [upd_same] at hh ha hf
        have hown := Lib.hid (ri_own hR.out hkm)
        clear hadd hR
        go_wp2_with fail
        exact ⟨⟨k + 1, _, by omega, by go_num, hown⟩, by simp [intOf]; omega⟩
      · obtain rfl : k = m := by omega
        have d1 : decide ((k : Int) < (k : Int)) = false := decide_eq_false (by omega)
        have hR1 : Hid (RI w wr mb bi k k (rk (gof n (l.take 0)).E 0)) := Lib.hid (by rw [rk0_nil]; exact hR.out)
        clear hR hmk2
        go_wp2_with fail
        go_loopw [7] (fun i wr => ∃ (j : Nat), j ≤ l.length ∧ i = .int .i64 j ∧ Hid (RI w wr mb bi k k (rk (gof n (l.take j)).E 0))) (fun i _ => l.length - (intOf i).toNat)
        case atStart => exact ⟨0, by omega, rfl, hR1⟩
        case round =>
          obtain ⟨j, hj, rfl, hR⟩ := hrel
          clear hR1
          rename World => wr
          by_cases hjl : j < l.length
          · have d2 : decide ((j : Int) < (l.length : Int)) = true := decide_eq_true (by omega)
            obtain ⟨b, off, rfl, hlt, hcell⟩ := H.out (by omega)
            obtain ⟨ca0, cb0⟩ := hcell j hjl
            have ca := (hR.out.on.cell (p := ⟨b, off + j * 2, none⟩) hlt).trans ca0
            have cb := (hR.out.on.cell (p := ⟨b, off + j * 2 + 1, none⟩) hlt).trans cb0
            have hno := Lib.hid (fun (hn : inE n l[j] = false) => rk0_no hjl hn)
            have hin := Lib.hid (fun (hn : inE n l[j] = true) => rk0_in hjl hn)
            clear hcell ca0 cb0 hlt
            generalize l[j] = pk at *
            obtain ⟨x, y⟩ := pk
            simp only at ca cb
            have KA := Lib.hid (fun W => rmember_any (k : Int) x W)
            have KB := Lib.hid (fun W => rmember_any (k : Int) y W)
            have hia := Lib.hid (show inG (k : Int) x = inG n x by have := hm.out; unfold inG; by_cases h : 0 ≤ x <;> simp [h]; omega)
            have hib := Lib.hid (show inG (k : Int) y = inG n y by have := hm.out; unfold inG; by_cases h : 0 ≤ y <;> simp [h]; omega)
            by_cases hx : inG (k : Int) x = true
            · by_cases hy : inG (k : Int) y = true
              · have hx' := hx
                have hy' := hy
                unfold inG at hx' hy'
                simp only [Bool.and_eq_true, decide_eq_true_eq] at hx' hy'
                obtain ⟨a, rfl⟩ : ∃ a : Nat, x = a := ⟨x.toNat, by omega⟩
                obtain ⟨c, rfl⟩ : ∃ c : Nat, y = c := ⟨y.toNat, by omega⟩
                have ham : a < k := by omega
                have hcm : c < k := by omega
                have haI : (a : Int) < (k : Int) := by omega
                have hcI : (c : Int) < (k : Int) := by omega
                have Hnx := Lib.hid (hin.out (by unfold inE; rw [← hia.out, ← hib.out, hx, hy]; rfl))
                rw [hx] at KA
                rw [hy] at KB
                have hh := hR.out.hd ham ham
                obtain ⟨hc1, hf1⟩ := hR.out.at_ ham hcm
                have hset2 := Lib.hid ((hR.out.set ham c true).congr (M' := rk (gof n (l.take (j + 1))).E 0) (fun r q _ _ => by have := Hnx.out r q; simp only [Int.toNat_natCast] at this; exact this.symm) |>.below (((Fr.refl [] _).drew).all))
                clear hno hin hia hib hR hx hy hx' hy'
                go_wp2_with fail
                refine (KA.out _).mono ?_
                rintro e w2 ⟨rfl, rfl⟩
                clear KA
                go_wp2_with fail
                refine (KB.out _).mono ?_
                rintro e w2 ⟨rfl, rfl⟩
                clear KB
                go_wp2_with fail
                go_region
                go_wp2_with fail
                exact ⟨⟨j + 1, by omega, by go_num, hset2⟩, by simp [intOf]; omega⟩
              · have hy : inG (k : Int) y = false := by simpa using hy
                rw [hy] at KB hib
                rw [hx] at KA
                have hR2 : Hid (RI w wr mb bi k k (rk (gof n (l.take (j + 1))).E 0)) := Lib.hid (by rw [hno.out (by unfold inE; rw [← hib.out]; simp)]; exact hR.out)
                clear hno hin hia hib hx hy hR
                go_wp2_with fail
                refine (KA.out _).mono ?_
                rintro e w2 ⟨rfl, rfl⟩
                clear KA
                go_wp2_with fail
                refine (KB.out _).mono ?_
                rintro e w2 ⟨rfl, rfl⟩
                clear KB
                go_wp2_with fail
                go_roundw
                case rel => exact ⟨j + 1, by omega, by go_num, hR2⟩
                case measure => simp [intOf]; omega
            · have hx : inG (k : Int) x = false := by simpa using hx
              rw [hx] at KA hia
              have hR2 : Hid (RI w wr mb bi k k (rk (gof n (l.take (j + 1))).E 0)) := Lib.hid (by rw [hno.out (by unfold inE; rw [← hia.out]; rfl)]; exact hR.out)
              clear hno hin hia hib KB hx hR
              go_wp2_with fail
              refine (KA.out _).mono ?_
              rintro e w2 ⟨rfl, rfl⟩
              clear KA
              go_wp2_with fail
              go_roundw
              case rel => exact ⟨j + 1, by omega, by go_num, hR2⟩
              case measure => simp [intOf]; omega
          · obtain rfl : j = l.length := by omega
            have d2 : decide ((l.length : Int) < (l.length : Int)) = false := decide_eq_false (by omega)
            obtain ⟨E, hE⟩ : ∃ E, Hid ((gof n l).E = E) := ⟨_, Lib.hid rfl⟩
            have hR2 : Hid (RI w wr mb bi k k (rk E 0)) := Lib.hid (by have := hR.out; rw [List.take_length, hE.out] at this; exact this)
            clear hR H
            go_wp2_with fail
            go_loopw [8] (fun i wr => ∃ (z : Nat), z ≤ k ∧ i = .int .i64 z ∧ Hid (RI w wr mb bi k k (rk E z))) (fun i _ => k - (intOf i).toNat)
            case atStart => exact ⟨0, by omega, rfl, hR2⟩
            case round =>
              obtain ⟨z, hz, rfl, hR⟩ := hrel
              clear hR2
              rename World => wr
              by_cases hzk : z < k
              · have d3 : decide ((z : Int) < (k : Int)) = true := decide_eq_true (by omega)
                have hzI : (z : Int) < (k : Int) := by omega
                have hR3 : Hid (RI w wr mb bi k k (WM E z 0 0)) := Lib.hid (by rw [WM_start]; exact hR.out)
                clear hR
                go_wp2_with fail
                go_loopw [9] (fun i wr => ∃ (i' : Nat), i' ≤ k ∧ i = .int .i64 i' ∧ Hid (RI w wr mb bi k k (WM E z i' 0))) (fun i _ => k - (intOf i).toNat)
                case atStart => exact ⟨0, by omega, rfl, hR3⟩
                case round =>
                  obtain ⟨i, hi, rfl, hR⟩ := hrel
                  clear hR3
                  rename World => wr
                  by_cases hik : i < k
                  · have d4 : decide ((i : Int) < (k : Int)) = true := decide_eq_true (by omega)
                    have hiI : (i : Int) < (k : Int) := by omega
                    go_wp2_with fail
                    go_loopw [10] (fun s wr => ∃ (q : Nat), q ≤ k ∧ s = .int .i64 q ∧ Hid (RI w wr mb bi k k (WM E z i q)) ∧ (q ≠ 0 → rk E z i z = true)) (fun s _ => k - (intOf s).toNat)
                    case atStart => exact ⟨0, by omega, rfl, hR, by simp⟩
                    case round =>
                      obtain ⟨q, hq, rfl, hR2, hq0⟩ := hrel
                      clear hR
                      rename World => wr
                      by_cases hqk : q < k
                      · have d5 : decide ((q : Int) < (k : Int)) = true := decide_eq_true (by omega)
                        have hqI : (q : Int) < (k : Int) := by omega
                        have hh := hR2.out.hd hik hik
                        have hc := (hR2.out.at_ hik hzk).1
                        rw [WM_mid] at hc
                        clear hq0
                        by_cases hrz : rk E z i z = true
                        · rw [hrz] at hc
                          have hh2 := hR2.out.hd hzk hzk
                          obtain ⟨hc2, hf2⟩ := hR2.out.at_ hik hqk
                          have hc3 := (hR2.out.at_ hzk hqk).1
                          rw [WM_at] at hc2
                          rw [WM_own] at hc3
                          have hs := (hR2.out.set hik q (rk E z i q || rk E z z q)).below (((Fr.refl [] _).drew).all)
                          rw [WM_step hrz] at hs
                          have hs := Lib.hid hs
                          have HRZ := Lib.hid hrz
                          clear hrz hR2
                          generalize rk E z i q = u at *
                          generalize rk E z z q = v at *
                          cases u with
                          | true =>
                            simp only [Bool.true_or] at hs
                            go_wp2_with fail
                            go_region
                            go_wp2_with fail
                            exact ⟨⟨q + 1, by omega, by go_num, hs, fun _ => HRZ.out⟩, by simp [intOf]; omega⟩
                          | false =>
                            simp only [Bool.false_or] at hs
                            go_wp2_with fail
                            go_region
                            go_wp2_with fail
                            exact ⟨⟨q + 1, by omega, by go_num, hs, fun _ => HRZ.out⟩, by simp [intOf]; omega⟩
                        · have hrz : rk E z i z = false := by simpa using hrz
                          rw [hrz] at hc
                          have hR3 : Hid (RI w wr mb bi k k (WM E z (i + 1) 0)) := Lib.hid (by rw [← WM_skip hrz (j := q)]; exact hR2.out)
                          clear hR2 hrz
                          go_wp2_with fail
                          go_roundw
                          case rel => exact ⟨i + 1, by omega, by go_num, hR3⟩
                          case measure => simp [intOf]; omega
                      · obtain rfl : q = k := by omega
                        have d5 : decide ((q : Int) < (q : Int)) = false := decide_eq_false (by omega)
                        have hR3 : Hid (RI w wr mb bi q q (WM E z (i + 1) 0)) := Lib.hid (hR2.out.congr fun r c _ hc => WM_row hc)
                        clear hR2 hq0
                        go_wp2_with fail
                        go_roundw
                        case rel => exact ⟨i + 1, by omega, by go_num, hR3⟩
                        case measure => simp [intOf]; omega
                  · obtain rfl : i = k := by omega
                    have d4 : decide ((i : Int) < (i : Int)) = false := decide_eq_false (by omega)
                    have hR3 : Hid (RI w wr mb bi i i (rk E (z + 1))) := Lib.hid (hR.out.congr fun r c hr _ => WM_all hr)
                    clear hR
                    go_wp2_with fail
                    go_roundw
                    case rel => exact ⟨z + 1, by omega, by go_num, hR3⟩
                    case measure => simp [intOf]; omega
              · obtain rfl : z = k := by omega
                have d3 : decide ((z : Int) < (z : Int)) = false := decide_eq_false (by omega)
                have fin : Hid (RePost w (gof n l) (.returned (.slice (some ⟨mb, 0, none⟩) z z)) wr) := Lib.hid ⟨mb, bi, by show _ = Ending.returned (.slice (some ⟨mb, 0, none⟩) n.toNat n.toNat); rw [hm.out], by
                  have h1 := hR.out.mx
                  show MX wr w.heap.size mb bi n.toNat n.toNat (rk (gof n l).E n.toNat)
                  rw [hm.out, hE.out]
                  exact h1, hR.out.on⟩
                clear hR
                go_wp2_with fail
                go_ret
                exact fin.out
end Go.Proofs.YtohdcmmkbblhkaaGreatDoor.tj

/-
  tarjan: the reference's parts: the walks.
-/
set_option linter.all false
namespace Go.Proofs.YtohdcmmkbblhkaaGreatDoor.tj
open Go.RowKit Go.Proofs.YtohdcmmkbblhkaaGreatDoor.mem

theorem MX.hd {W : World} {n0 mb : Nat} {bi : Nat → Nat} {n : Nat} {M : Nat → Nat → Bool} (h : MX W n0 mb bi n n M) {i : Nat} (hn : i < n) : W.cell? ⟨mb, i, none⟩ = some (.slice (some ⟨bi i, 0, none⟩) n n) := (h.bx.cell i).trans (mh_at _ hn hn)
theorem MX.at_ {W : World} {n0 mb : Nat} {bi : Nat → Nat} {n : Nat} {M : Nat → Nat → Bool} (h : MX W n0 mb bi n n M) {i j : Nat} (hi : i < n) (hj : j < n) : W.cell? ⟨bi i, j, none⟩ = some (.bool (M i j)) := ((h.rw_ i hi).cell j).trans (bv_at _ hj)

def FePost (b : Bool) (w : World) (e : Ending) (W : World) : Prop := e = .returned (.bool b) ∧ w = W

/-- as far as j -/
def G.freeTo (g : G) (done : Nat → Bool) (i j : Nat) : Prop := ∀ c, c < j → g.R i c = true → g.R c i = false → done c = true

set_option maxRecDepth 100000 in
theorem free_any (g : G) (hn : g.n ≤ 100) (w : World) (n0 mb : Nat) (bi : Nat → Nat) (h : MX w n0 mb bi g.n g.n g.R) (db : Nat) (done : Nat → Bool) (hd : Box w db 4 (bv done g.n)) (i : Nat) (hi : i < g.n) :
    Calls Tryz.prog 60 #[.slice (some ⟨mb, 0, none⟩) g.n g.n, .slice (some ⟨db, 0, none⟩) g.n g.n, .int .i64 (i : Nat)] w (FePost (g.free done i) w) := by
  have H := Lib.hid h
  have HD := Lib.hid hd
  obtain ⟨n, hN⟩ : ∃ n, Hid (g.n = n) := ⟨_, Lib.hid rfl⟩
  have hn' : n ≤ 100 := by rw [← hN.out]; exact hn
  have hi' : i < n := by rw [← hN.out]; exact hi
  have hiI : (i : Int) < (n : Int) := by omega
  have hh := h.hd hi
  obtain ⟨r, hr⟩ : ∃ r, Hid (g.free done i = r) := ⟨_, Lib.hid rfl⟩
  rw [hr.out]
  rw [hN.out] at hh ⊢
  clear h hd hn hi
  go_enter Tryz.func60, Tryz.ntmps60
  go_wp2_with fail
  go_loop [7] (fun s => ∃ j : Nat, j ≤ n ∧ s = .int .i64 j ∧ Hid (g.freeTo done i j)) (fun s => n - (intOf s).toNat)
  case atStart => exact ⟨0, by omega, rfl, Lib.hid (fun c hc => by omega)⟩
  case round =>
    obtain ⟨j, hj, rfl, hf⟩ := hrel
    by_cases hjn : j < n
    · have d1 : decide ((j : Int) < (n : Int)) = true := decide_eq_true (by omega)
      have hjI : (j : Int) < (n : Int) := by omega
      have hjg : j < g.n := by rw [hN.out]; exact hjn
      have hig : i < g.n := by rw [hN.out]; exact hi'
      have hh2 := H.out.hd hjg
      have c1 := H.out.at_ hig hjg
      have c2 := H.out.at_ hjg hig
      have c3 := (HD.out.cell j).trans (bv_at _ hjg)
      rw [hN.out] at hh2
      have hno : Hid (g.R i j = true → g.R j i = false → done j = false → r = false) := Lib.hid (fun a b c => by
        rw [← hr.out, Bool.eq_false_iff]
        intro hfr
        have := g.free_iff.1 hfr j hjg a b
        rw [c] at this
        cases this)
      have hyes : Hid ((g.R i j = true → g.R j i = false → done j = true) → g.freeTo done i (j + 1)) := Lib.hid (fun h c hc a b => by
        by_cases e : c = j
        · subst e; exact h a b
        · exact hf.out c (by omega) a b)
      clear hjg hig hf
      generalize g.R i j = u at *
      generalize g.R j i = v at *
      generalize done j = x at *
      cases u with
      | false =>
        have hf2 := Lib.hid (hyes.out (fun a => by cases a))
        clear hno hyes
        go_wp2_with fail
        go_round
        case rel => exact ⟨j + 1, by omega, by go_num, hf2⟩
        case measure => simp [intOf]; omega
      | true =>
        cases v with
        | true =>
          have hf2 := Lib.hid (hyes.out (fun _ a => by cases a))
          clear hno hyes
          go_wp2_with fail
          go_round
          case rel => exact ⟨j + 1, by omega, by go_num, hf2⟩
          case measure => simp [intOf]; omega
        | false =>
          cases x with
          | true =>
            have hf2 := Lib.hid (hyes.out (fun _ _ => rfl))
            clear hno hyes
            go_wp2_with fail
            go_round
            case rel => exact ⟨j + 1, by omega, by go_num, hf2⟩
            case measure => simp [intOf]; omega
          | false =>
            have hf2 : Hid (FePost r w (.returned (.bool false)) w) := Lib.hid ⟨by rw [hno.out rfl rfl rfl], rfl⟩
            clear hno hyes
            go_wp2_with fail
            go_ret
            exact hf2.out
    · obtain rfl : j = n := by omega
      have d1 : decide ((j : Int) < (j : Int)) = false := decide_eq_false (by omega)
      have hf1 : r = true := by
        rw [← hr.out, g.free_iff]
        intro c hc a b
        exact hf.out c (by rw [hN.out] at hc; exact hc) a b
      have hf2 : Hid (FePost r w (.returned (.bool true)) w) := Lib.hid ⟨by rw [hf1], rfl⟩
      clear hf hf1
      go_wp2_with fail
      go_ret
      exact hf2.out

theorem seg_ne {w : World} {e e' : TypeId} {A B : Option Addr} {c d : Nat} {xs ys : List Value} (h : Seg w e A c xs) (k : Seg w e' B d ys) (hne : e ≠ e') : ∀ g ∈ blk A, g ∉ blk B := by
  intro g hg hg2
  cases A with
  | none => cases hg
  | some a =>
    cases B with
    | none => cases hg2
    | some b =>
      simp only [blk, List.mem_singleton] at hg hg2
      obtain ⟨_, cur, hc, _⟩ := h.2.2.2 a rfl
      obtain ⟨_, cur2, hc2, _⟩ := k.2.2.2 b rfl
      rw [← hg] at hc
      rw [← hg2, hc] at hc2
      injection hc2 with hc2
      injection hc2 with _ h2
      exact hne h2

/-- between two parts -/
structure RQ (w W : World) (g : G) (mb : Nat) (bi : Nat → Nat) (db : Nat) (done : Nat → Bool) (Ao : Option Addr) (co : Nat) (rows : List Row) : Prop where
  mx : MX W w.heap.size mb bi g.n g.n g.R
  nb : ∀ i, i < g.n → bi i ≠ db
  dn : Box W db 4 (bv done g.n)
  gd_ : w.heap.size ≤ db
  so : Seg W 71 Ao co (rows.map hdr)
  go : ∀ x ∈ blk Ao, w.heap.size ≤ x
  rw_ : ∀ r ∈ rows, Seg W 3 r.A r.cap (natI r.xs)
  on : Below w.heap.size w W

/-- in the midst of a part -/
structure RP (w wS W : World) (g : G) (mb : Nat) (bi : Nat → Nat) (db : Nat) (done : Nat → Bool) (Ao : Option Addr) (co : Nat) (rows : List Row) (i j : Nat) (Ap : Option Addr) (cp : Nat) (p : List Nat) : Prop where
  q : RQ w wS g mb bi db done Ao co rows
  fr : Fr [db] wS W
  dn : Box W db 4 (bv (fun c => done c || (decide (c < j) && g.Q i c)) g.n)
  sp : Seg W 3 Ap cp (natI p)
  gp : ∀ x ∈ blk Ap, wS.heap.size ≤ x
  pe : p = (List.range j).filter fun c => g.Q i c

section
variable {w wS W : World} {g : G} {mb : Nat} {bi : Nat → Nat} {db : Nat} {done : Nat → Bool} {Ao : Option Addr} {co : Nat} {rows : List Row} {i j : Nat} {Ap : Option Addr} {cp : Nat} {p : List Nat}

theorem RP.mx (h : RP w wS W g mb bi db done Ao co rows i j Ap cp p) : MX W w.heap.size mb bi g.n g.n g.R := by
  have m := h.q.mx
  have hdb : mb ≠ db := fun e => by
    have h1 := m.bx
    rw [e] at h1
    have := h1.symm.trans h.q.dn
    simp at this
  exact ⟨m.bx.kept h.fr (by simpa using hdb), fun q hq => (m.rw_ q hq).kept h.fr (by simpa using h.q.nb q hq), m.inj, m.gb, m.ge⟩

theorem RQ.start (h : RQ w W g mb bi db done Ao co rows) (i : Nat) : RP w W W g mb bi db done Ao co rows i 0 none 0 [] :=
  ⟨h, Fr.refl _ _, by simpa using h.dn, Seg.nil _ _, fun x hx => (by cases hx), rfl⟩

theorem RP.skip (h : RP w wS W g mb bi db done Ao co rows i j Ap cp p) (hq : g.Q i j = false) : RP w wS W g mb bi db done Ao co rows i (j + 1) Ap cp p := by
  refine ⟨h.q, h.fr, ?_, h.sp, h.gp, ?_⟩
  · have := h.dn
    rwa [bv_congr (f' := fun c => done c || (decide (c < j + 1) && g.Q i c)) (fun c _ => by
      by_cases e : c = j
      · subst e; simp [hq]
      · have : (decide (c < j + 1)) = decide (c < j) := by simp; omega
        simp [this])] at this
  · rw [List.range_succ, List.filter_append, ← h.pe]
    simp [hq]

/-- a member more -/
theorem RP.take (h : RP w wS W g mb bi db done Ao co rows i j Ap cp p) (hq : g.Q i j = true) {A' : Option Addr} {c' : Nat} {W1 : World} (hs : Seg W1 3 A' c' (natI p ++ [.int .i64 (j : Nat)])) (f : Fr (blk Ap) W W1) (b : ∀ g ∈ blk A', g ∈ blk Ap ∨ W.heap.size ≤ g) :
    RP w wS (W1.setCell ⟨db, j, none⟩ (.bool true)) g mb bi db done Ao co rows i (j + 1) A' c' (p ++ [j]) ∧ (∃ v, W1.cell? ⟨db, j, none⟩ = some v ∨ ¬ j < g.n) ∧ W1.frozen? ⟨db, j, none⟩ = false := by
  have hdA : db ∉ blk Ap := h.sp.ne_box h.dn (by decide)
  have hdn1 : Box W1 db 4 (bv (fun c => done c || (decide (c < j) && g.Q i c)) g.n) := h.dn.kept f hdA
  have hf2 : Fr [db] W1 (W1.setCell ⟨db, j, none⟩ (.bool true)) := (Fr.refl _ _).setCell (Or.inl (by simp)) _
  have hdA' : db ∉ blk A' := hs.ne_box hdn1 (by decide)
  refine ⟨⟨h.q, ?_, ?_, ?_, fun x hx => ?_, ?_⟩, ?_, hdn1.free j⟩
  · refine (h.fr.trans f (G := [db]) (fun g hg => Or.inl hg) (fun g hg => Or.inr (h.gp g hg))).trans hf2 (fun g hg => Or.inl hg) (fun g hg => Or.inl hg)
  · have := hdn1.put j (.bool true)
    rw [bv_set] at this
    rwa [bv_congr (f' := fun c => done c || (decide (c < j + 1) && g.Q i c)) (fun c _ => by
      by_cases e : c = j
      · subst e; rw [upd_same]; simp [hq]
      · have : (decide (c < j + 1)) = decide (c < j) := by simp; omega
        rw [upd_ne _ _ e]; simp [this])] at this
  · rw [← natI_snoc]
    exact hs.kept hf2 (fun g hg e => by rw [List.mem_singleton] at e; subst e; exact hdA' hg)
  · rcases b x hx with e | e
    · exact h.gp x e
    · exact Nat.le_trans h.fr.size e
  · rw [List.range_succ, List.filter_append, ← h.pe]
    simp [hq]
  · by_cases hj : j < g.n
    · exact ⟨_, Or.inl ((hdn1.cell j).trans (bv_at _ hj))⟩
    · exact ⟨.bool true, Or.inr hj⟩

/-- the part is told -/
theorem RP.close (h : RP w wS W g mb bi db done Ao co rows i g.n Ap cp p) {A' : Option Addr} {c' : Nat} {W1 : World} (hs : Seg W1 71 A' c' (rows.map hdr ++ [hdr ⟨Ap, cp, p⟩])) (f : Fr (blk Ao) W W1) (b : ∀ g ∈ blk A', g ∈ blk Ao ∨ W.heap.size ≤ g) :
    RQ w W1 g mb bi db (g.add done i) A' c' (rows ++ [⟨Ap, cp, p⟩]) ∧ p = g.cls i := by
  have hso : Seg W 71 Ao co (rows.map hdr) := h.q.so.kept h.fr (fun x hx e => by rw [List.mem_singleton] at e; subst e; exact (h.q.so.ne_box h.q.dn (by decide)) hx)
  have hrw : ∀ r ∈ rows, Seg W 3 r.A r.cap (natI r.xs) := fun r hr => (h.q.rw_ r hr).kept h.fr (fun x hx e => by rw [List.mem_singleton] at e; subst e; exact ((h.q.rw_ r hr).ne_box h.q.dn (by decide)) hx)
  have m := h.mx
  have hon : Below w.heap.size w W := h.q.on.trans (h.fr.below (fun x hx => by rw [List.mem_singleton] at hx; subst hx; exact h.q.gd_) h.q.on.size)
  refine ⟨⟨⟨m.bx.kept f (hso.ne_box m.bx (by decide)), fun q hq => (m.rw_ q hq).kept f (hso.ne_box (m.rw_ q hq) (by decide)), m.inj, m.gb, m.ge⟩, h.q.nb, ?_, h.q.gd_, by rw [List.map_append]; exact hs, fun x hx => ?_, fun r hr => ?_, hon.trans (f.below h.q.go hon.size)⟩, h.pe⟩
  · have := h.dn.kept f (hso.ne_box h.dn (by decide))
    rwa [bv_congr (f' := g.add done i) (fun c hc => by simp [G.add, hc])] at this
  · rcases b x hx with e | e
    · exact h.q.go x e
    · have := hon.size; omega
  · rcases List.mem_append.1 hr with hr | hr
    · exact (hrw r hr).kept f (seg_ne (hrw r hr) hso (by decide))
    · rw [List.mem_singleton] at hr
      subst hr
      exact h.sp.kept f (seg_ne h.sp hso (by decide))
end

theorem G.ord_none (g : G) {done : Nat → Bool} (h : g.next done = none) : ∀ f, g.ord f done = []
  | 0 => rfl
  | f + 1 => by simp [G.ord, h]
theorem G.ord_some (g : G) {done : Nat → Bool} {i : Nat} (h : g.next done = some i) (f : Nat) : g.ord (f + 1) done = g.cls i :: g.ord f (g.add done i) := by simp [G.ord, h]
end Go.Proofs.YtohdcmmkbblhkaaGreatDoor.tj
