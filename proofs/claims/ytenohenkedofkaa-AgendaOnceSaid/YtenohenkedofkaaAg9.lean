/-
  agenda: each once, whatever is picked: the walk.
-/
import Derived.Test.YtenohenkedofkaaAg8
namespace Go.Proofs.Ytenohenkedofkaa.ag
open Go.RowKit Go.Proofs.Ytenohenkedofkaa.mem

theorem putS_le (xs : List ByteArray) (x : ByteArray) : (putS xs x).length ≤ xs.length + 1 := by
  unfold putS; split <;> simp

theorem info_str : (Try.prog.info? 9).map (fun i => (i.zero, i.size, i.bytes)) = some (some (.string ByteArray.empty), 1, 16) := by kernel_rfl

theorem pick0 (L : Nat) : ags.pickN 0 L = 0 := by
  unfold ags.pickN
  rw [IntKind.wrap_u64]
  simp

/-- what is taken from one that has some -/
theorem taken_of (xa : List ByteArray) (n : Int) (hz : 0 < xa.length) (hn : xa.Nodup) : takeSB xa = true ∧ takeSV xa n ∈ xa ∧ takeSV xa n ∉ takeSL xa n ∧ (∀ y ∈ takeSL xa n, y ∈ xa) ∧ (takeSL xa n).length = xa.length - 1 := by
  have hk := ags.pick_lt n xa.length hz
  unfold takeSB takeSV takeSL
  rw [if_neg (by omega), if_neg (by omega)]
  generalize ags.pickN n xa.length = k at *
  have hx : xa.getD k ByteArray.empty = xa[k] := by simp [List.getD, List.getElem?_eq_getElem hk]
  rw [hx]
  refine ⟨decide_eq_true hz, List.getElem_mem hk, ?_, fun y hy => (List.eraseIdx_sublist _ _).mem hy, by rw [List.length_eraseIdx, if_pos hk]⟩
  intro hm
  rw [List.mem_eraseIdx_iff_getElem] at hm
  obtain ⟨i, hi, hne, e⟩ := hm
  exact hne ((List.getElem_inj hn).1 e)

theorem drop_take (xs : List ByteArray) (j : Nat) (hj : j < xs.length) : takeSB (xs.drop j) = true ∧ takeSV (xs.drop j) 0 = xs[j] ∧ takeSL (xs.drop j) 0 = xs.drop (j + 1) := by
  have hl : 0 < (xs.drop j).length := by rw [List.length_drop]; omega
  unfold takeSB takeSV takeSL
  rw [if_neg (by omega), if_neg (by omega), pick0, List.drop_eq_getElem_cons hj]
  exact ⟨by simp; omega, rfl, rfl⟩

theorem none_take (xa : List ByteArray) (n : Int) (hz : xa.length = 0) : takeSB xa = false ∧ takeSL xa n = xa := by
  unfold takeSB takeSL
  rw [if_pos hz]
  exact ⟨decide_eq_false (by omega), rfl⟩

theorem pushed {w : World} {o : Obj} {A' A : Option Addr} (h : blk A' = blk A ∨ blk A' = [(w.alloc o).heap.size]) : ∀ g ∈ blk A', g ∈ blk A ∨ w.heap.size ≤ g := by
  intro g hg
  rcases h with e | e
  · exact Or.inl (e ▸ hg)
  · right; rw [e, List.mem_singleton] at hg; subst hg; simp

def Pre2 (B : Nat) (w0 w : World) (ba bb bp : Nat) (xs : List ByteArray) (Am : Option Addr) (capm j : Nat) : Prop :=
  ∃ xa ps, Quad B w0 w ba bb bp 101 xa (xs.drop j) Am capm xs ps ∧ (∀ y ∈ xa, y ∈ xs) ∧ xa.length = xs.length - j ∧ ps.length ≤ 100

set_option maxRecDepth 100000 in
set_option maxHeartbeats 1600000 in
theorem law_once (A Ap : Option Addr) (cap capp : Nat) (l : List ByteArray) (ps : List Int) (w : World) (h : Rd w A (ags.vals l)) (hw : ∀ x ∈ l, x.size ≤ maxLen) (hm : l.length ≤ 9223372036854775807) (hp : Rd w Ap (vals ps)) (hmp : ps.length ≤ 9223372036854775807) :
    Calls Try.prog 8 #[.slice A l.length cap, .slice Ap ps.length capp] w (WorksPost w) := by
  have Hwk := Lib.hid (works_any w)
  unfold WorksPost at Hwk
  by_cases hl : l.length ≤ 100
  rotate_left
  · have hd1 : decide (100 < (l.length : Int)) = true := decide_eq_true (by omega)
    clear h hw hp
    go_enter Try.func8, Try.ntmps8
    go_wp2_with fail
    refine Hwk.out.mono ?_
    rintro e w1 ⟨rfl, b1⟩
    go_wp2_with fail
    go_ret
    exact ⟨rfl, b1⟩
  have hd1 : decide (100 < (l.length : Int)) = false := decide_eq_false (by omega)
  by_cases hlp : ps.length ≤ 100
  rotate_left
  · have hd2 : decide (100 < (ps.length : Int)) = true := decide_eq_true (by omega)
    clear h hw hp
    go_enter Try.func8, Try.ntmps8
    go_wp2_with fail
    refine Hwk.out.mono ?_
    rintro e w1 ⟨rfl, b1⟩
    go_wp2_with fail
    go_ret
    exact ⟨rfl, b1⟩
  have hd2 : decide (100 < (ps.length : Int)) = false := decide_eq_false (by omega)
  have Hh := Lib.hid h
  have Hw := Lib.hid hw
  have Hp := Lib.hid hp
  obtain ⟨i0, hi0, hz0, hz1, hz2⟩ := info_parts info_str
  have Hi := Lib.hid hi0
  have Hz0 := Lib.hid hz0
  have Hz1 := Lib.hid hz1
  have Hz2 := Lib.hid hz2
  clear h hw hp hi0 hz0 hz1 hz2
  go_enter Try.func8, Try.ntmps8
  go_wp2_with fail
  refine Hwk.out.mono ?_
  rintro e w1 ⟨rfl, b1⟩
  have B1 := Lib.hid b1
  have z1 := b1.size
  clear b1
  have H0 : Hid (Tri w.heap.size w ((w1.alloc (.cells #[.slice none 0 0, .map none] 62)).alloc (.cells #[.slice none 0 0, .map none] 62)) w1.heap.size (w1.heap.size + 1) 0 [] [] none 0 []) := Lib.hid (by
    have a2 := ags_new (w1.alloc (.cells #[.slice none 0 0, .map none] 62))
    have e1 : (w1.alloc (.cells #[.slice none 0 0, .map none] 62)).heap.size = w1.heap.size + 1 := by simp
    rw [e1] at a2
    exact ⟨none, 0, none, none, 0, none, (ags_new w1).kept ((Fr.refl [] _).alloc _) (by simp), a2, Seg.nil _ _, (B1.out.alloc z1 _).alloc (by simp; omega) _, by simp; omega, by simp [ags.foot, blk]; omega, by simp [ags.foot, blk]; omega, by simp [blk]⟩)
  go_wp2_with fail
  generalize w1.heap.size = ba at *
  go_loopw [7, 8] (fun m i wr => ∃ (k : Nat) (xs : List ByteArray) (Am : Option Addr) (capm : Nat), k ≤ l.length ∧ xs.length ≤ k ∧ i = .int .i64 k ∧ m = .slice Am xs.length capm ∧ Hid (Tri w.heap.size w wr ba (ba + 1) (2 * k) xs xs Am capm xs)) (fun _ i _ => l.length - (intOf i).toNat)
  case atStart => exact ⟨0, [], none, 0, by omega, by simp, rfl, rfl, H0⟩
  case round =>
    obtain ⟨k, xs, Am, capm, hk, hxl, rfl, rfl, ht⟩ := hrel
    rename_i wr _
    by_cases hkl : k < l.length
    · have hd3 : decide ((k : Int) < (l.length : Int)) = true := decide_eq_true (by omega)
      obtain ⟨g, off, rfl, hlt, hc⟩ := Hh.out (by rw [ags.vals_len]; omega)
      have hcw : wr.cell? ⟨g, off + k, none⟩ = some (.string l[k]) := by
        rw [ht.out.on.cell (p := ⟨g, off + k, none⟩) hlt, hc k (by rw [ags.vals_len]; exact hkl)]; simp [ags.vals]
      have hx := Hw.out l[k] (List.getElem_mem hkl)
      clear hc
      generalize l[k] = x at *
      have Hlt : Hid (g < w.heap.size) := Lib.hid hlt
      unfold maxLen at hx
      by_cases hs : x.size ≤ 200
      · have hd4 : decide (200 < (x.size : Int)) = false := decide_eq_false (by omega)
        have Hx : Hid (x.size ≤ maxLen) := Lib.hid hx
        have K1 := Lib.hid (tri_put_a ht.out x Hx.out (by omega))
        by_cases hin : x ∈ xs
        · have e1 : putS xs x = xs := if_pos hin
          rw [decide_eq_false (fun h => h hin), e1] at K1
          have K2 := Lib.hid (fun w' (h : Tri w.heap.size w w' ba (ba + 1) (2 * k + 1) xs xs Am capm xs) => tri_put_b h x Hx.out (by omega))
          rw [decide_eq_false (fun h => h hin), e1] at K2
          clear e1 hin
          go_wp2_with fail
          refine K1.out.mono ?_
          rintro e w2 ⟨rfl, h2⟩
          have H2 := Lib.hid h2
          have hcw2 : w2.cell? ⟨g, off + k, none⟩ = some (.string x) := by rw [h2.on.cell (p := ⟨g, off + k, none⟩) hlt, ← ht.out.on.cell (p := ⟨g, off + k, none⟩) hlt]; exact hcw
          clear h2
          go_wp2_with fail
          refine (K2.out _ H2.out).mono ?_
          rintro e w3 ⟨rfl, h3⟩
          have H3 : Hid (Tri w.heap.size w w3 ba (ba + 1) (2 * (k + 1)) xs xs Am capm xs) := Lib.hid (h3.mono (by omega))
          clear h3
          go_wp2_with fail
          go_roundw
          case rel => exact ⟨k + 1, xs, Am, capm, by omega, by omega, by go_num, rfl, H3⟩
          case measure => simp [intOf]; omega
        · have e1 : putS xs x = xs ++ [x] := if_neg hin
          rw [decide_eq_true hin, e1] at K1
          have K2 := Lib.hid (fun w' A' cap' (h : Tri w.heap.size w w' ba (ba + 1) (2 * k + 1) (xs ++ [x]) xs A' cap' (xs ++ [x])) => tri_put_b h x Hx.out (by omega))
          rw [decide_eq_true hin, e1] at K2
          clear e1 hin
          go_wp2_with fail
          refine K1.out.mono ?_
          rintro e w2 ⟨rfl, h2⟩
          have H2 := Lib.hid h2
          have hcw2 : w2.cell? ⟨g, off + k, none⟩ = some (.string x) := by rw [h2.on.cell (p := ⟨g, off + k, none⟩) hlt, ← ht.out.on.cell (p := ⟨g, off + k, none⟩) hlt]; exact hcw
          clear h2
          go_wp2_with (at_builtin
                       refine wpList_push (n := xs.length) rfl (.tmp 48) (.tmp 53) _ rfl (H2.out.seg.alloc _) (ags.vals_len xs).symm Try.underlying58 Hi.out Hz0.out Hz1.out Hz2.out rfl rfl rfl (new_cell _ _ _) rfl (by omega) (by omega) ?_
                       intro A3 cap3 w3 hs3 f3 hf3
                       have H3 : Hid (Tri w.heap.size w w3 ba (ba + 1) (2 * k + 1) (xs ++ [x]) xs A3 cap3 (xs ++ [x])) := Lib.hid (H2.out.other (((Fr.refl _ w2).alloc _).trans f3 (fun g hg => Or.inl hg) (fun g hg => Or.inl hg)) (by rw [← ags.vals_snoc]; exact hs3) (pushed hf3))
                       have hcw3 : w3.cell? ⟨g, off + k, none⟩ = some (.string x) := by rw [H3.out.on.cell (p := ⟨g, off + k, none⟩) hlt, ← ht.out.on.cell (p := ⟨g, off + k, none⟩) hlt]; exact hcw
                       clear hs3 f3 hf3)
          refine (K2.out _ _ _ H3.out).mono ?_
          rintro e w4 ⟨rfl, h4⟩
          have H4 : Hid (Tri w.heap.size w w4 ba (ba + 1) (2 * (k + 1)) (xs ++ [x]) (xs ++ [x]) A3 cap3 (xs ++ [x])) := Lib.hid (h4.mono (by omega))
          clear h4
          go_wp2_with fail
          go_roundw
          case rel => exact ⟨k + 1, xs ++ [x], A3, cap3, by omega, by simp; omega, by go_num, by simp, H4⟩
          case measure => simp [intOf]; omega
      · have hd4 : decide (200 < (x.size : Int)) = true := decide_eq_true (by omega)
        go_wp2_with fail
        go_ret
        exact ⟨rfl, ht.out.on⟩
    · obtain rfl : k = l.length := by omega
      have hd3 : decide (((l.length : Nat) : Int) < (l.length : Int)) = false := decide_eq_false (by omega)
      go_wp2_with fail
      have K1 := Lib.hid (fun w' (h : Rd w' Ap (vals ps)) => of_any w' Ap capp ps h (by omega))
      refine (K1.out wr (Hp.out.below ht.out.on)).mono ?_
      rintro e w2 ⟨bp, P, cp, rfl, hp2, f2, hn2⟩
      have HQ : Hid (Quad w.heap.size w w2 ba (ba + 1) bp (2 * l.length) xs xs Am capm xs ps) := Lib.hid (quad_of ht.out f2 hp2 hn2)
      clear hp2 f2 hn2
      go_wp2_with fail
      go_loopw [10, 11] (fun t i wq => ∃ (j : Nat) (xa : List ByteArray) (qs : List Int), j ≤ l.length ∧ i = .int .i64 j ∧ t = .int .i64 (min j xs.length : Nat) ∧ xa.length = xs.length - j ∧ qs.length ≤ 100 ∧ Hid (∀ y ∈ xa, y ∈ xs) ∧ Hid (Quad w.heap.size w wq ba (ba + 1) bp (2 * l.length) xa (xs.drop j) Am capm xs qs)) (fun _ i _ => l.length - (intOf i).toNat)
      case atStart => exact ⟨0, xs, ps, by omega, rfl, by simp, by omega, hlp, Lib.hid (fun _ h => h), HQ⟩
      case round =>
        obtain ⟨j, xa, qs, hj, rfl, rfl, hxa, hqs, hsub, hq⟩ := hrel
        rename_i wq _
        by_cases hjl : j < l.length
        · have hd5 : decide ((j : Int) < (l.length : Int)) = true := decide_eq_true (by omega)
          have K1 := Lib.hid (quad_next hq.out (by omega))
          have K2 := Lib.hid (fun w' (h : Quad w.heap.size w w' ba (ba + 1) bp (2 * l.length) xa (xs.drop j) Am capm xs qs.tail) => quad_take_a h (qs.headD 0) (by omega))
          have K3 := Lib.hid (fun w' (h : Quad w.heap.size w w' ba (ba + 1) bp (2 * l.length) (takeSL xa (qs.headD 0)) (xs.drop j) Am capm xs qs.tail) => quad_take_b h 0 (by omega))
          have hql : qs.tail.length ≤ 100 := by simp; omega
          by_cases hjx : j < xs.length
          · have hd6 : decide ((j : Int) < (xs.length : Int)) = true := decide_eq_true (by omega)
            obtain ⟨e1, e2, e3, e4, e5⟩ := taken_of xa (qs.headD 0) (by omega) hq.out.nod
            obtain ⟨e6, e7, e8⟩ := drop_take xs j hjx
            have Hwf := Lib.hid (hq.out.wf _ e2)
            rw [e1] at K2
            rw [e6, e7, e8] at K3
            have Hin := Lib.hid (hsub.out _ e2)
            have Hnot := Lib.hid e3
            have Hsub : Hid (∀ y ∈ takeSL xa (qs.headD 0), y ∈ xs) := Lib.hid (fun y hy => hsub.out y (e4 y hy))
            have hlen : (takeSL xa (qs.headD 0)).length = xs.length - (j + 1) := by omega
            clear e1 e2 e3 e4 e5 e6 e7 e8 hsub
            generalize takeSL xa (qs.headD 0) = Z at *
            generalize takeSV xa (qs.headD 0) = x at *
            generalize qs.headD 0 = z at *
            generalize qs.tail = qt at *
            have hmin : ((min j xs.length : Nat) : Int) = j := by omega
            have hmin2 : ((min (j + 1) xs.length : Nat) : Int) = (j : Int) + 1 := by omega
            have Hmin2 := Lib.hid hmin2
            clear hmin2
            go_wp2_with fail
            refine K1.out.mono ?_
            rintro e w3 ⟨rfl, h3⟩
            have H3 := Lib.hid h3
            clear h3
            go_wp2_with fail
            refine (K2.out _ H3.out).mono ?_
            rintro e w4 ⟨rfl, h4⟩
            have H4 := Lib.hid h4
            clear h4
            go_wp2_with fail
            refine (K3.out _ H4.out).mono ?_
            rintro e w5 ⟨rfl, h5⟩
            have H5 := Lib.hid h5
            obtain ⟨g, off, rfl, hlt, hc⟩ := h5.seg.at_ (by rw [ags.vals_len]; omega)
            have hcm : w5.cell? ⟨g, off + j, none⟩ = some (.string xs[j]) := by rw [hc j (by rw [ags.vals_len]; exact hjx)]; simp [ags.vals]
            clear h5 hc
            have K4 := Lib.hid (in_any w5 (some ⟨g, off, none⟩) capm xs x H5.out.seg.rd (by omega))
            rw [decide_eq_true Hin.out] at K4
            have K5 := Lib.hid (quad_has H5.out x Hwf.out)
            rw [decide_eq_false Hnot.out] at K5
            generalize xs[j] = y at *
            have hyy : (y.toList != y.toList) = false := by simp
            go_wp2_with fail
            refine K4.out.mono ?_
            rintro e w' ⟨rfl, rfl⟩
            go_wp2_with fail
            refine K5.out.mono ?_
            rintro e w6 ⟨rfl, h6⟩
            have H6 := Lib.hid h6
            clear h6
            go_wp2_with fail
            go_roundw
            case rel => exact ⟨j + 1, Z, qt, by omega, by go_num, by rw [Hmin2.out], hlen, hql, Hsub, H6⟩
            case measure => simp [intOf]; omega
          · have hd6 : decide ((j : Int) < (xs.length : Int)) = false := decide_eq_false (by omega)
            obtain ⟨e1, e2⟩ := none_take xa (qs.headD 0) (by omega)
            obtain ⟨e3, e4⟩ := none_take (xs.drop j) 0 (by rw [List.length_drop]; omega)
            have e5 : xs.drop j = xs.drop (j + 1) := by rw [List.drop_of_length_le (by omega), List.drop_of_length_le (by omega)]
            rw [e1, e2] at K2
            rw [e2, e3, e4] at K3
            have E5 := Lib.hid e5
            have hlen : xa.length = xs.length - (j + 1) := by omega
            clear e1 e2 e3 e4 e5
            generalize takeSV xa (qs.headD 0) = x at *
            generalize takeSV (xs.drop j) 0 = y at *
            generalize qs.headD 0 = z at *
            generalize qs.tail = qt at *
            have Hmin2 : Hid ((min (j + 1) xs.length : Nat) = min j xs.length) := Lib.hid (by omega)
            go_wp2_with fail
            refine K1.out.mono ?_
            rintro e w3 ⟨rfl, h3⟩
            have H3 := Lib.hid h3
            clear h3
            go_wp2_with fail
            refine (K2.out _ H3.out).mono ?_
            rintro e w4 ⟨rfl, h4⟩
            have H4 := Lib.hid h4
            clear h4
            go_wp2_with fail
            refine (K3.out _ H4.out).mono ?_
            rintro e w5 ⟨rfl, h5⟩
            have H5 := Lib.hid h5
            clear h5
            go_wp2_with fail
            go_roundw
            case rel => exact ⟨j + 1, xa, qt, by omega, by go_num, by rw [Hmin2.out], hlen, hql, hsub, Lib.hid (E5.out ▸ H5.out)⟩
            case measure => simp [intOf]; omega
        · obtain rfl : j = l.length := by omega
          have hd5 : decide (((l.length : Nat) : Int) < (l.length : Int)) = false := decide_eq_false (by omega)
          have K1 := Lib.hid (quad_len hq.out)
          have hx0 : xa.length = 0 := by omega
          rw [hx0] at K1
          have hmin : ((min l.length xs.length : Nat) : Int) = (xs.length : Int) := by omega
          have hb0 : (((xs.length : Nat) : Int) == (xs.length : Int)) = true := by simp
          clear hxa hx0
          go_wp2_with fail
          refine K1.out.mono ?_
          rintro e w' ⟨rfl, rfl⟩
          go_wp2_with fail
          go_ret
          exact ⟨rfl, hq.out.on⟩
end Go.Proofs.Ytenohenkedofkaa.ag
