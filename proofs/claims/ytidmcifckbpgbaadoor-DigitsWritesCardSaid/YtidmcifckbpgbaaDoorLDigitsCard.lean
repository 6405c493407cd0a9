/- The laws DigitsWrites and DigitsBack, walked. -/
import Derived.Test.YtidmcifckbpgbaaDoorDp
import Derived.WalkSmall
namespace Go.Proofs.YtidmcifckbpgbaaDoor.dg
open Go.RowKit

abbrev Tab (w : World) : Prop := Lib.TabIs Tryd.prog w "internal/strconv.uint64pow10" .u64 Lib.pow10Tab

theorem gTab : Tryd.prog.globalNamed "internal/strconv.uint64pow10" = some 0 := by kernel_rfl

theorem tab_below {w w' : World} (h : Tab w) (hb : Below w.heap.size w w') : Tab w' := by
  have h' : w.var? Tryd.prog "internal/strconv.uint64pow10" = _ := h
  have hlt : 0 < w.heap.size := by
    rcases Nat.lt_or_ge 0 w.heap.size with h1 | h1
    · exact h1
    · unfold World.var? at h'
      simp only [gTab, Option.bind_some] at h'
      rw [Array.getElem?_eq_none h1] at h'
      cases h'
  exact var?_below hb gTab hlt h'

theorem law_writes (n : Int) (hn : (Lit.int .i64 n).wf = true) (w : World) (htab : Tab w) :
    Calls Tryd.prog 3 #[.int .i64 n] w fun e w' => e = .returned (.bool true) ∧ Below w.heap.size w w' := by
  have hx : -9223372036854775808 ≤ n ∧ n ≤ 9223372036854775807 := by simpa [Lit.wf, IntKind.min, IntKind.max, IntKind.signed, IntKind.bits] using hn
  have h1 := Lib.hid (dt.text_any n w hx.1 hx.2 htab)
  have h2 := Lib.hid (fun w => dt.rtext_any n w hx.1 hx.2)
  unfold dt.Text1 at h1 h2
  generalize Lib.itoa n = D at *
  clear hn htab
  go_enter Tryd.func3, Tryd.ntmps3
  go_wp2_with fail
  refine h1.out.mono ?_
  rintro e w1 ⟨rfl, b1⟩
  go_wp2_with fail
  refine (h2.out _).mono ?_
  rintro e w2 ⟨rfl, b2⟩
  go_wp2_with fail
  go_ret
  exact ⟨rfl, b1.trans (b2.mono b1.size)⟩

theorem grown_below {w : World} (n : Nat) : Below w.heap.size w (w.drewN n) := dt.below_drewN (Below.refl _ _) n

def WPost (w : World) (e : Ending) (w' : World) : Prop := e = .returned (.bool true) ∧ Below w.heap.size w w'

theorem works_any (w : World) (htab : Tab w) : Calls Tryd.prog 7 #[] w (WPost w) := by
  have e1 : splN ⟨#[97, 98, 49, 43, 99]⟩ = 3 := by decide +kernel
  have e2 : nameB ⟨#[97, 95, 49]⟩ = true := by decide +kernel
  have e3 : (Lib.itoa (-5)) = [45, 53] := by decide +kernel
  have h1 := Lib.hid (split_any ⟨#[97, 98, 49, 43, 99]⟩ w (by decide))
  have h2 := Lib.hid (fun w h => dt.text_any (-5) w (by omega) (by omega) h)
  have h3 := Lib.hid (fun w => name_any ⟨#[97, 95, 49]⟩ w (by decide))
  unfold dt.Text1 at h2
  unfold SplitPost at h1
  have e4 : (ByteArray.mk #[97, 98, 49, 43, 99]).extract 0 3 = ⟨#[97, 98, 49]⟩ := by apply ByteArray.ext; decide +kernel
  have e5 : (ByteArray.mk #[97, 98, 49, 43, 99]).extract 3 (ByteArray.mk #[97, 98, 49, 43, 99]).size = ⟨#[43, 99]⟩ := by apply ByteArray.ext; decide +kernel
  rw [e1, e4, e5] at h1
  rw [e2] at h3
  rw [e3] at h2
  clear e1 e2 e3 e4 e5
  have Htab := Lib.hid htab
  clear htab
  go_enter Tryd.func7, Tryd.ntmps7
  go_wp2_with fail
  refine h1.out.mono ?_
  rintro e w1 ⟨rfl, n1, rfl⟩
  go_wp2_with fail
  refine (h2.out _ (tab_below Htab.out (grown_below n1))).mono ?_
  rintro e w2 ⟨rfl, b2⟩
  go_wp2_with fail
  refine (h3.out _).mono ?_
  rintro e w' ⟨rfl, rfl⟩
  go_wp2_with fail
  go_ret
  exact ⟨rfl, (grown_below n1).trans b2⟩

theorem small_mod (n : Int) : ∃ m : Nat, wrap64 ((IntKind.u64.wrap n).tmod 268435457) = m ∧ m ≤ 268435456 := by
  have h0 : IntKind.u64.wrap n = n % 18446744073709551616 := IntKind.wrap_u64 n
  have h1 : (IntKind.u64.wrap n).tmod 268435457 = n % 18446744073709551616 % 268435457 := by
    rw [h0, Int.tmod_eq_emod_of_nonneg (Int.emod_nonneg _ (by omega))]
  have h2 : 0 ≤ n % 18446744073709551616 % 268435457 := Int.emod_nonneg _ (by omega)
  have h3 : n % 18446744073709551616 % 268435457 < 268435457 := Int.emod_lt_of_pos _ (by omega)
  refine ⟨(n % 18446744073709551616 % 268435457).toNat, ?_, by omega⟩
  rw [h1, IntWalk.wrap64_in _ ⟨by omega, by omega⟩]
  omega

/-- the reading of any text, as far as the law asks: wrong; or what would be written is the text -/
theorem rd_cases (s : ByteArray) : ((rd s).2 != 0) = true ∨ ((rd s).2 = 0 ∧ 0 ≤ (rd s).1 ∧ (rd s).1 ≤ 268435456 ∧ (⟨(Lib.itoa (rd s).1).toArray⟩ : ByteArray) = s) := by
  rcases h : ((rd s).2 != 0) with _ | _
  · have h0 : (rd s).2 = 0 := by simpa using h
    exact Or.inr ⟨h0, rd_back s h0⟩
  · exact Or.inl rfl

set_option maxHeartbeats 1000000 in
theorem law_back (n : Int) (hn : (Lit.int .i64 n).wf = true) (s : ByteArray) (hs : s.size ≤ maxLen) (w : World) (htab : Tab w) :
    Calls Tryd.prog 4 #[.int .i64 n, .string s] w fun e w' => e = .returned (.bool true) ∧ Below w.heap.size w w' := by
  have hx : -9223372036854775808 ≤ n ∧ n ≤ 9223372036854775807 := by simpa [Lit.wf, IntKind.min, IntKind.max, IntKind.signed, IntKind.bits] using hn
  have h1 := Lib.hid (works_any w htab)
  have Htab := Lib.hid htab
  unfold WPost at h1
  obtain ⟨m, hm, hml⟩ := small_mod n
  have h2 := Lib.hid (fun w h => dt.text_any (m : Int) w (by omega) (by omega) h)
  have Hrd := rd_dec m hml
  have hlen := dt.len_le m (by omega)
  unfold dt.Text1 at h2
  have em : Lib.itoa (m : Int) = Lib.decDigits m := Lib.itoa_nonneg m
  rw [em] at h2
  clear em
  have h3 := Lib.hid (fun w => read_any ⟨(Lib.decDigits m).toArray⟩ w (by rw [list_size]; unfold maxLen; omega))
  rw [Hrd] at h3
  have h4 := Lib.hid (fun w => read_any s w hs)
  have h5 := Lib.hid (fun w => split_any s w hs)
  have h6 := Lib.hid (fun w => name_any s w hs)
  have Hrc := rd_cases s
  have hpw := parts_whole s (splN s) (splN_le s)
  have hpl : (s.extract 0 (splN s)).size + (s.extract (splN s) s.size).size ≤ 9223372036854775807 := by
    have e : (s.extract 0 (splN s) ++ s.extract (splN s) s.size).size = s.size := by rw [hpw]
    rw [ByteArray.size_append] at e
    unfold maxLen at hs
    omega
  have Hnm : nameB s = false ∨ (nameB s = true ∧ s.extract 0 (splN s) = s) := by
    rcases h : nameB s with _ | _
    · exact Or.inl rfl
    · exact Or.inr ⟨rfl, by rw [name_whole s h]; exact ByteArray.extract_zero_size⟩
  unfold SplitPost at h5
  have h7 := Lib.hid (fun b w h0 h1 h => dt.text_any b w h0 h1 h)
  unfold dt.Text1 at h7
  generalize s.extract 0 (splN s) = HD at *
  generalize s.extract (splN s) s.size = TL at *
  generalize nameB s = nb at *
  generalize (rd s).1 = vb at *
  generalize (rd s).2 = ve at *
  generalize Lib.decDigits m = dm at *
  clear hn htab Hrd
  unfold maxLen at hs
  have Hm := Lib.hid hm
  have Hhd : Hid (nb = false ∨ (nb = true ∧ HD = s)) := Lib.hid Hnm
  clear hm Hnm
  rcases Hrc with hve | ⟨rfl, hv0, hv1, hvs⟩
  · rcases Hhd.out with rfl | ⟨rfl, rfl⟩
    all_goals
      go_enter Tryd.func4, Tryd.ntmps4
      go_wp2_with fail
      refine h1.out.mono ?_
      rintro e w1 ⟨rfl, b1⟩
      go_wp2_with fail
      rw [Hm.out]
      refine (h2.out _ (tab_below Htab.out b1)).mono ?_
      rintro e w2 ⟨rfl, b2⟩
      go_wp2_with fail
      refine (h3.out _).mono ?_
      rintro e w' ⟨rfl, rfl⟩
      go_wp2_with fail
      refine (h4.out _).mono ?_
      rintro e w' ⟨rfl, rfl⟩
      go_wp2_with fail
      refine (h5.out _).mono ?_
      rintro e w' ⟨rfl, n3, rfl⟩
      go_wp2_with fail
      refine (h6.out _).mono ?_
      rintro e w' ⟨rfl, rfl⟩
      go_wp2_with fail
      go_ret
      exact ⟨rfl, dt.below_drewN (b1.trans (b2.mono b1.size)) _⟩
  · have Hvs := Lib.hid hvs
    clear hvs
    rcases Hhd.out with rfl | ⟨rfl, rfl⟩
    all_goals
      go_enter Tryd.func4, Tryd.ntmps4
      go_wp2_with fail
      refine h1.out.mono ?_
      rintro e w1 ⟨rfl, b1⟩
      go_wp2_with fail
      rw [Hm.out]
      refine (h2.out _ (tab_below Htab.out b1)).mono ?_
      rintro e w2 ⟨rfl, b2⟩
      go_wp2_with fail
      refine (h3.out _).mono ?_
      rintro e w' ⟨rfl, rfl⟩
      go_wp2_with fail
      refine (h4.out _).mono ?_
      rintro e w' ⟨rfl, rfl⟩
      go_wp2_with fail
      refine (h5.out _).mono ?_
      rintro e w' ⟨rfl, n3, rfl⟩
      go_wp2_with fail
      have bb := dt.below_drewN (b1.trans (b2.mono b1.size)) n3
      refine (h7.out _ _ (by omega) (by omega) (tab_below Htab.out bb)).mono ?_
      rintro e w4 ⟨rfl, b4⟩
      rw [Hvs.out]
      go_wp2_with fail
      refine (h6.out _).mono ?_
      rintro e w' ⟨rfl, rfl⟩
      go_wp2_with fail
      go_ret
      exact ⟨rfl, bb.trans (b4.mono bb.size)⟩
end Go.Proofs.YtidmcifckbpgbaaDoor.dg
