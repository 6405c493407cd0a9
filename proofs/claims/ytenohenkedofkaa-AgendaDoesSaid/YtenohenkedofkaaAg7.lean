/-
  agenda: whatever is put and picked.
-/
import Derived.Test.YtenohenkedofkaaAg6
namespace Go.Proofs.Ytenohenkedofkaa.ag
open Go.RowKit Go.Proofs.Ytenohenkedofkaa.mem

def putL (xs : List Int) (x : Int) : List Int := if x ∈ xs then xs else xs ++ [x]
def takeL (xs : List Int) (n : Int) : List Int := if xs.length = 0 then xs else xs.eraseIdx (pickN n xs.length)
def takeV (xs : List Int) (n : Int) : Int := if xs.length = 0 then 0 else xs.getD (pickN n xs.length) 0
def takeB (xs : List Int) : Bool := decide (0 < xs.length)

/-- an agenda, and the list that it is held against -/
def DS (B : Nat) (w0 w : World) (b N : Nat) (xs : List Int) (Am : Option Addr) (capm : Nat) (ys : List Int) : Prop :=
  ∃ A cap m, Ag w b A cap m N xs ∧ Seg w 3 Am capm (vals ys) ∧ Below B w0 w ∧ (∀ g ∈ foot b A m, B ≤ g) ∧ (∀ g ∈ blk Am, B ≤ g ∧ g ∉ foot b A m) ∧ B ≤ w.heap.size

variable {B : Nat} {w0 w : World} {b N : Nat} {xs ys : List Int} {Am : Option Addr} {capm : Nat}

theorem DS.on (h : DS B w0 w b N xs Am capm ys) : Below B w0 w := by obtain ⟨_, _, _, _, _, h, _⟩ := h; exact h
theorem DS.size (h : DS B w0 w b N xs Am capm ys) : B ≤ w.heap.size := by obtain ⟨_, _, _, _, _, _, _, _, h⟩ := h; exact h
theorem DS.len (h : DS B w0 w b N xs Am capm ys) : xs.length ≤ N := by obtain ⟨_, _, _, h, _⟩ := h; exact h.len
theorem DS.mono (h : DS B w0 w b N xs Am capm ys) {N' : Nat} (hN : N ≤ N') : DS B w0 w b N' xs Am capm ys := by
  obtain ⟨A, cap, m, ha, r⟩ := h
  exact ⟨A, cap, m, ⟨ha.box, ha.seg, ha.set.mono hN, ha.nod, ha.wf, Nat.le_trans ha.len hN⟩, r⟩

/-- whatever leaves old memory alone -/
theorem DS.below {w' : World} (h : DS B w0 w b N xs Am capm ys) (f : Below w.heap.size w w') : DS B w0 w' b N xs Am capm ys := by
  obtain ⟨A, cap, m, ha, hs, hb, hf, hd, hB⟩ := h
  have f0 := Fr.of_below f []
  exact ⟨A, cap, m, ha.kept f0 (by simp), hs.kept f0 (by simp), on_below hb f hB, hf, hd, Nat.le_trans hB f.size⟩

theorem ds_put (h : DS B w0 w b N xs Am capm ys) (x : Int) (hx : WF x) (hN : N < 1000000) :
    Calls Try.prog 24 #[.pointer (some ⟨b, 0, none⟩), .int .i64 x] w fun e w' => e = .returned (.bool (decide (x ∉ xs))) ∧ DS B w0 w' b (N + 1) (putL xs x) Am capm ys := by
  unfold putL
  by_cases hin : x ∈ xs
  · rw [if_pos hin, decide_eq_false (fun h => h hin)]
    obtain ⟨A, cap, m, ha, _⟩ := id h
    refine (put_no w b A cap m N xs x ha hx hin).mono ?_
    rintro e w' ⟨rfl, f⟩
    exact ⟨rfl, (h.below f).mono (by omega)⟩
  · rw [if_neg hin, decide_eq_true hin]
    obtain ⟨A, cap, m, ha, hs, hb, hf, hd, hB⟩ := h
    refine (put_any w b A cap m N xs x ha hx hin hN).mono ?_
    rintro e w' ⟨rfl, f, A', cap', m', ha', hf'⟩
    refine ⟨rfl, A', cap', m', ha', hs.kept f (fun g hg => (hd g hg).2), on_fr hb f hf hB, fun g hg => ?_, fun g hg => ⟨(hd g hg).1, fun hg' => ?_⟩, Nat.le_trans hB f.size⟩
    · rcases hf' g hg with h | h
      · exact hf g h
      · omega
    · rcases hf' g hg' with h | h
      · exact (hd g hg).2 h
      · have := hs.lt g hg; omega

theorem ds_take (h : DS B w0 w b N xs Am capm ys) (n : Int) (hN : N < 1000000) :
    Calls Try.prog 26 #[.pointer (some ⟨b, 0, none⟩), .int .i64 n] w fun e w' => e = .returned (.tuple #[.int .i64 (takeV xs n), .bool (takeB xs)]) ∧ DS B w0 w' b N (takeL xs n) Am capm ys := by
  unfold takeV takeB takeL
  by_cases hz : xs.length = 0
  · rw [if_pos hz, if_pos hz, decide_eq_false (by omega)]
    obtain ⟨A, cap, m, ha, _⟩ := id h
    have hbx := ha.box
    rw [hz] at hbx
    refine (take_none w b A cap _ n hbx).mono ?_
    rintro e w' ⟨rfl, rfl⟩
    exact ⟨rfl, h⟩
  · rw [if_neg hz, if_neg hz, decide_eq_true (by omega)]
    obtain ⟨A, cap, m, ha, hs, hb, hf, hd, hB⟩ := h
    refine (take_any w b A cap m N xs n ha (by omega) hN).mono ?_
    rintro e w' ⟨rfl, f, A', cap', ha', hbl⟩
    have e1 : foot b A' m = foot b A m := by unfold foot; rw [hbl]
    exact ⟨rfl, A', cap', m, ha', hs.kept f (fun g hg => (hd g hg).2), on_fr hb f hf hB, e1 ▸ hf, fun g hg => ⟨(hd g hg).1, e1 ▸ (hd g hg).2⟩, Nat.le_trans hB f.size⟩

theorem ds_has (h : DS B w0 w b N xs Am capm ys) (x : Int) (hx : WF x) :
    Calls Try.prog 28 #[.pointer (some ⟨b, 0, none⟩), .int .i64 x] w fun e w' => e = .returned (.bool (decide (x ∈ xs))) ∧ DS B w0 w' b N xs Am capm ys := by
  obtain ⟨A, cap, m, ha, _⟩ := id h
  refine (has_any w b m N xs x _ ha.box ha.set hx).mono ?_
  rintro e w' ⟨rfl, f⟩
  exact ⟨rfl, h.below f⟩

theorem ds_len (h : DS B w0 w b N xs Am capm ys) : Calls Try.prog 30 #[.pointer (some ⟨b, 0, none⟩)] w fun e w' => e = .returned (.int .i64 xs.length) ∧ w = w' := by
  obtain ⟨A, cap, m, ha, _⟩ := h
  exact len_any w b A cap xs.length _ ha.box

/-- a new list in the place of the one that the agenda is held against -/
theorem DS.other {w' : World} {zs : List Int} {A' : Option Addr} {cap' : Nat} (h : DS B w0 w b N xs Am capm ys) (f : Below w.heap.size w w') (hs : Seg w' 3 A' cap' (vals zs)) (hA : ∀ g ∈ blk A', g ∈ blk Am ∨ w.heap.size ≤ g) : DS B w0 w' b N xs A' cap' zs := by
  obtain ⟨A, cap, m, ha, hs0, hb, hf, hd, hB⟩ := h
  refine ⟨A, cap, m, ha.kept (Fr.of_below f []) (by simp), hs, on_below hb f hB, hf, fun g hg => ?_, Nat.le_trans hB f.size⟩
  rcases hA g hg with h | h
  · exact hd g h
  · exact ⟨by omega, fun hm => by have := ha.lt g hm; omega⟩

theorem ds_rput (h : DS B w0 w b N xs Am capm ys) (x : Int) (hm : ys.length ≤ 1000000) :
    Calls Try.prog 25 #[.slice Am ys.length capm, .int .i64 x] w fun e w' => ∃ A' cap', e = .returned (.tuple #[.slice A' (putL ys x).length cap', .bool (decide (x ∉ ys))]) ∧ DS B w0 w' b N xs A' cap' (putL ys x) := by
  unfold putL
  have hs : Seg w 3 Am capm (vals ys) := by obtain ⟨_, _, _, _, h, _⟩ := h; exact h
  by_cases hin : x ∈ ys
  · rw [if_pos hin, decide_eq_false (fun h => h hin)]
    refine (rput_no w Am capm ys x hs hm hin).mono ?_
    rintro e w' ⟨A', cap', rfl, hs', f, hA⟩
    exact ⟨A', cap', rfl, h.other f hs' hA⟩
  · rw [if_neg hin, decide_eq_true hin]
    refine (rput_yes w Am capm ys x hs hm hin).mono ?_
    rintro e w' ⟨A', cap', rfl, hs', f, hA⟩
    exact ⟨A', cap', rfl, h.other f hs' hA⟩

theorem ds_rtake (h : DS B w0 w b N xs Am capm ys) (n : Int) (hm : ys.length ≤ 1000000) :
    Calls Try.prog 27 #[.slice Am ys.length capm, .int .i64 n] w fun e w' => ∃ A' cap', e = .returned (.tuple #[.slice A' (takeL ys n).length cap', .int .i64 (takeV ys n), .bool (takeB ys)]) ∧ DS B w0 w' b N xs A' cap' (takeL ys n) := by
  unfold takeV takeB takeL
  have hs : Seg w 3 Am capm (vals ys) := by obtain ⟨_, _, _, _, h, _⟩ := h; exact h
  by_cases hz : ys.length = 0
  · rw [if_pos hz, if_pos hz, decide_eq_false (by omega)]
    obtain rfl := List.eq_nil_of_length_eq_zero hz
    refine (rtake_none w Am capm n).mono ?_
    rintro e w' ⟨rfl, rfl⟩
    exact ⟨Am, capm, rfl, h⟩
  · rw [if_neg hz, if_neg hz, decide_eq_true (by omega)]
    refine (rtake_any w Am capm ys n hs hm (by omega)).mono ?_
    rintro e w' ⟨A', cap', rfl, hs', f, hA⟩
    exact ⟨A', cap', rfl, h.other f hs' hA⟩

theorem ds_rhas (h : DS B w0 w b N xs Am capm ys) (x : Int) (hm : ys.length ≤ 1000000) :
    Calls Try.prog 29 #[.slice Am ys.length capm, .int .i64 x] w fun e w' => e = .returned (.bool (decide (x ∈ ys))) ∧ w = w' := by
  obtain ⟨_, _, _, _, hs, _⟩ := h
  exact rhas_any w Am capm ys x hs hm

theorem putL_le (xs : List Int) (x : Int) : (putL xs x).length ≤ xs.length + 1 := by
  unfold putL; split <;> simp
theorem takeL_le (xs : List Int) (n : Int) : (takeL xs n).length ≤ xs.length := by
  unfold takeL; split
  · exact Nat.le_refl _
  · exact (List.eraseIdx_sublist _ _).length_le

/-- what is done, as it lies in memory -/
def Ops (w : World) (A : Option Addr) (l : List (Int × Int)) : Prop := 0 < l.length → ∃ b off, A = some ⟨b, off, none⟩ ∧ b < w.heap.size ∧ ∀ j (hj : j < l.length), w.cell? ⟨b, off + j * 2, none⟩ = some (.int .i64 l[j].1) ∧ w.cell? ⟨b, off + (j * 2 + 1), none⟩ = some (.int .i64 l[j].2)

set_option maxRecDepth 100000 in
set_option maxHeartbeats 800000 in
theorem law_does (A : Option Addr) (cap : Nat) (l : List (Int × Int)) (w : World) (h : Ops w A l) (hw : ∀ x ∈ l, WF x.2) (hm : l.length ≤ 9223372036854775807) :
    Calls Try.prog 6 #[.slice A l.length cap] w (WorksPost w) := by
  have H0 : Hid (DS w.heap.size w (w.alloc (.cells #[.slice none 0 0, .map none] 42)) w.heap.size 0 [] none 0 []) := Lib.hid ⟨none, 0, none, ag_new w, Seg.nil _ _, (Below.refl _ _).alloc (Nat.le_refl _) _, by simp [foot, blk], by simp [blk], by simp⟩
  have Hh := Lib.hid h
  have Hw := Lib.hid hw
  clear h hw
  go_enter Try.func6, Try.ntmps6
  go_wp2_with fail
  go_loopw [4, 5] (fun m i wr => ∃ (k : Nat) (xs : List Int) (Am : Option Addr) (capm : Nat), k ≤ l.length ∧ k ≤ 200 ∧ i = .int .i64 k ∧ m = .slice Am xs.length capm ∧ Hid (DS w.heap.size w wr w.heap.size k xs Am capm xs)) (fun _ i _ => 200 - (intOf i).toNat)
  case atStart => exact ⟨0, [], none, 0, by omega, by omega, rfl, rfl, H0⟩
  case round =>
    obtain ⟨k, xs, Am, capm, hk, hk2, rfl, rfl, hds⟩ := hrel
    rename_i wr _
    by_cases hkl : k < l.length ∧ k < 200
    · obtain ⟨hk3, hk4⟩ := hkl
      have hd1 : decide ((k : Int) < (l.length : Int)) = true := decide_eq_true (by omega)
      have hd2 : decide ((k : Int) < 200) = true := decide_eq_true (by omega)
      obtain ⟨g, off, rfl, hlt, hc⟩ := Hh.out (by omega)
      have hcw : ∀ o, wr.cell? ⟨g, o, none⟩ = w.cell? ⟨g, o, none⟩ := fun o => hds.out.on.cell (p := ⟨g, o, none⟩) hlt
      have hc1 : wr.cell? ⟨g, off + k * 2, none⟩ = some (.int .i64 l[k].1) := by rw [hcw]; exact (hc k hk3).1
      have hc2 : wr.cell? ⟨g, off + k * 2 + 1, none⟩ = some (.int .i64 l[k].2) := by rw [hcw]; exact (hc k hk3).2
      have hx := Hw.out l[k] (List.getElem_mem hk3)
      have hlen := hds.out.len
      clear hc hcw
      generalize l[k].1 = kd at *
      generalize l[k].2 = n at *
      have Hx := Lib.hid hx
      clear hx
      by_cases k0 : kd = 0
      · subst k0
        have K1 := Lib.hid (ds_put hds.out n Hx.out (by omega))
        have K2 := Lib.hid (fun w' (h : DS w.heap.size w w' w.heap.size (k + 1) (putL xs n) Am capm xs) => ds_rput h n (by omega))
        have K3 := Lib.hid (fun w' A' cap' (h : DS w.heap.size w w' w.heap.size (k + 1) (putL xs n) A' cap' (putL xs n)) => ds_len h)
        have hZ := putL_le xs n
        generalize decide (n ∉ xs) = P at *
        generalize putL xs n = Z at *
        have hP : (P != P) = false := by simp
        have hL : (((Z.length : Nat) : Int) != Z.length) = false := by simp
        go_wp2_with fail
        refine K1.out.mono ?_
        rintro e w1 ⟨rfl, h1⟩
        have H1 := Lib.hid h1
        clear h1
        go_wp2_with fail
        refine (K2.out _ H1.out).mono ?_
        rintro e w2 ⟨A2, cap2, rfl, h2⟩
        have H2 := Lib.hid h2
        clear h2
        go_wp2_with fail
        refine (K3.out _ _ _ H2.out).mono ?_
        rintro e w' ⟨rfl, rfl⟩
        go_wp2_with fail
        go_roundw
        case rel => exact ⟨k + 1, Z, A2, cap2, by omega, by omega, by go_num, rfl, H2⟩
        case measure => simp [intOf]; omega
      by_cases k1 : kd = 1
      · subst k1
        have K1 := Lib.hid (ds_take hds.out n (by omega))
        have K2 := Lib.hid (fun w' (h : DS w.heap.size w w' w.heap.size k (takeL xs n) Am capm xs) => ds_rtake h n (by omega))
        have K3 := Lib.hid (fun w' A' cap' (h : DS w.heap.size w w' w.heap.size k (takeL xs n) A' cap' (takeL xs n)) => ds_len h)
        have hZ := takeL_le xs n
        generalize takeV xs n = V at *
        generalize takeB xs = P at *
        generalize takeL xs n = Z at *
        have hP : (P != P) = false := by simp
        have hV : (V != V) = false := by simp
        have hL : (((Z.length : Nat) : Int) != Z.length) = false := by simp
        go_wp2_with fail
        refine K1.out.mono ?_
        rintro e w1 ⟨rfl, h1⟩
        have H1 := Lib.hid h1
        clear h1
        go_wp2_with fail
        refine (K2.out _ H1.out).mono ?_
        rintro e w2 ⟨A2, cap2, rfl, h2⟩
        have H2 := Lib.hid h2
        clear h2
        go_wp2_with fail
        refine (K3.out _ _ _ H2.out).mono ?_
        rintro e w' ⟨rfl, rfl⟩
        go_wp2_with fail
        go_roundw
        case rel => exact ⟨k + 1, Z, A2, cap2, by omega, by omega, by go_num, rfl, Lib.hid (H2.out.mono (by omega))⟩
        case measure => simp [intOf]; omega
      have K3 := Lib.hid (fun w' (h : DS w.heap.size w w' w.heap.size k xs Am capm xs) => ds_len h)
      by_cases k2 : kd = 2
      · subst k2
        have K1 := Lib.hid (ds_has hds.out n Hx.out)
        have K2 := Lib.hid (fun w' (h : DS w.heap.size w w' w.heap.size k xs Am capm xs) => ds_rhas h n (by omega))
        generalize decide (n ∈ xs) = P at *
        have hP : (P != P) = false := by simp
        have hL : (((xs.length : Nat) : Int) != xs.length) = false := by simp
        go_wp2_with fail
        refine K1.out.mono ?_
        rintro e w1 ⟨rfl, h1⟩
        have H1 := Lib.hid h1
        clear h1
        go_wp2_with fail
        refine (K2.out _ H1.out).mono ?_
        rintro e w' ⟨rfl, rfl⟩
        go_wp2_with fail
        refine (K3.out _ H1.out).mono ?_
        rintro e w' ⟨rfl, rfl⟩
        go_wp2_with fail
        go_roundw
        case rel => exact ⟨k + 1, xs, Am, capm, by omega, by omega, by go_num, rfl, Lib.hid (H1.out.mono (by omega))⟩
        case measure => simp [intOf]; omega
      · have b0 : (kd == 0) = false := beq_eq_false_iff_ne.2 k0
        have b1 : (kd == 1) = false := beq_eq_false_iff_ne.2 k1
        have b2 : (kd == 2) = false := beq_eq_false_iff_ne.2 k2
        have hL : (((xs.length : Nat) : Int) != xs.length) = false := by simp
        clear k0 k1 k2
        go_wp2_with fail
        refine (K3.out _ hds.out).mono ?_
        rintro e w' ⟨rfl, rfl⟩
        go_wp2_with fail
        go_roundw
        case rel => exact ⟨k + 1, xs, Am, capm, by omega, by omega, by go_num, rfl, Lib.hid (hds.out.mono (by omega))⟩
        case measure => simp [intOf]; omega
    · by_cases hk3 : k < l.length
      · have hd1 : decide ((k : Int) < (l.length : Int)) = true := decide_eq_true (by omega)
        have hd2 : decide ((k : Int) < 200) = false := decide_eq_false (by omega)
        clear hkl
        go_wp2_with fail
        refine (works_any _).mono ?_
        rintro e w3 ⟨rfl, b3⟩
        go_wp2_with fail
        go_ret
        exact ⟨rfl, on_below hds.out.on b3 hds.out.size⟩
      · have hd1 : decide ((k : Int) < (l.length : Int)) = false := decide_eq_false (by omega)
        clear hkl
        go_wp2_with fail
        refine (works_any _).mono ?_
        rintro e w3 ⟨rfl, b3⟩
        go_wp2_with fail
        go_ret
        exact ⟨rfl, on_below hds.out.on b3 hds.out.size⟩
end Go.Proofs.Ytenohenkedofkaa.ag
