/- crc.Open, and the reference's. -/
import Derived.Test.YtidmcifckbpgbaaCr4
namespace Go.Proofs.Ytidmcifckbpgbaa.cr
open Go.RowKit

/-- is a text sealed? -/
def okS (s : ByteArray) : Bool := decide (3 ≤ s.size) && ((sealS (s.extract 0 (s.size - 3))).toList == s.toList)
def bodyS (s : ByteArray) : ByteArray := if okS s then s.extract 0 (s.size - 3) else ⟨#[]⟩

def OpenPost (s : ByteArray) (w : World) (e : Ending) (w' : World) : Prop := e = .returned (.tuple #[.string (bodyS s), .bool (okS s)]) ∧ Below w.heap.size w w'

theorem okS_short (s : ByteArray) (h : ¬ 3 ≤ s.size) : okS s = false := by unfold okS; rw [decide_eq_false h]; rfl
theorem okS_long (s : ByteArray) (h : 3 ≤ s.size) (b : Bool) (hb : ((sealS (s.extract 0 (s.size - 3))).toList == s.toList) = b) : okS s = b := by unfold okS; rw [decide_eq_true h, hb]; rfl
theorem openPost_no (s : ByteArray) (w w' : World) (h : okS s = false) (hb : Below w.heap.size w w') : OpenPost s w (.returned (.tuple #[.string ⟨#[]⟩, .bool false])) w' := by
  refine ⟨?_, hb⟩
  unfold bodyS
  rw [h]; rfl
theorem openPost_yes (s : ByteArray) (w w' : World) (h : okS s = true) (hb : Below w.heap.size w w') : OpenPost s w (.returned (.tuple #[.string (s.extract 0 (s.size - 3)), .bool true])) w' := by
  refine ⟨?_, hb⟩
  unfold bodyS
  rw [h]; rfl

set_option maxHeartbeats 400000 in
theorem open_any (s : ByteArray) (w : World) (hs : s.size + 3 ≤ maxLen) :
    Calls Try.prog 38 #[.string s] w (OpenPost s w) := by
  have H1 := Lib.hid (fun b h w => seal_any b w h)
  unfold SealPost at H1
  unfold maxLen at hs
  by_cases h3 : 3 ≤ s.size
  · rcases hc : ((sealS (s.extract 0 (s.size - 3))).toList == s.toList) with _ | _
    · have Hn := Lib.hid (okS_long s h3 _ hc)
      go_enter Try.func38, Try.ntmps38
      go_wp2_with fail
      refine (H1.out _ (by unfold maxLen; simp; omega) _).mono ?_
      rintro e w' ⟨rfl, hb⟩
      go_wp2_with fail
      go_ret2
      exact openPost_no s w w' Hn.out hb
    · have Hn := Lib.hid (okS_long s h3 _ hc)
      go_enter Try.func38, Try.ntmps38
      go_wp2_with fail
      refine (H1.out _ (by unfold maxLen; simp; omega) _).mono ?_
      rintro e w' ⟨rfl, hb⟩
      go_wp2_with fail
      go_ret2
      exact openPost_yes s w w' Hn.out hb
  · have Hn := Lib.hid (okS_short s h3)
    go_enter Try.func38, Try.ntmps38
    go_wp2_with fail
    go_ret2
    exact openPost_no s w _ Hn.out (Below.refl _ _)

set_option maxHeartbeats 400000 in
theorem ropen_any (s : ByteArray) (w : World) (hs : s.size + 3 ≤ maxLen) :
    Calls Try.prog 39 #[.string s] w (OpenPost s w) := by
  have H1 := Lib.hid (fun b h w => rseal_any b w h)
  unfold SealPost at H1
  unfold maxLen at hs
  by_cases h3 : 3 ≤ s.size
  · rcases hc : ((sealS (s.extract 0 (s.size - 3))).toList == s.toList) with _ | _
    · have Hn := Lib.hid (okS_long s h3 _ hc)
      go_enter Try.func39, Try.ntmps39
      go_wp2_with fail
      refine (H1.out _ (by unfold maxLen; simp; omega) _).mono ?_
      rintro e w' ⟨rfl, hb⟩
      go_wp2_with fail
      go_ret2
      exact openPost_no s w w' Hn.out hb
    · have Hn := Lib.hid (okS_long s h3 _ hc)
      go_enter Try.func39, Try.ntmps39
      go_wp2_with fail
      refine (H1.out _ (by unfold maxLen; simp; omega) _).mono ?_
      rintro e w' ⟨rfl, hb⟩
      go_wp2_with fail
      go_ret2
      exact openPost_yes s w w' Hn.out hb
  · have Hn := Lib.hid (okS_short s h3)
    go_enter Try.func39, Try.ntmps39
    go_wp2_with fail
    go_ret2
    exact openPost_no s w _ Hn.out (Below.refl _ _)

theorem law_opens (s : ByteArray) (hs : s.size ≤ maxLen) (w : World) :
    Calls Try.prog 10 #[.string s] w fun e w' => e = .returned (.bool true) ∧ Below w.heap.size w w' := by
  by_cases h : s.size ≤ 30000
  · have hm : s.size + 3 ≤ maxLen := by unfold maxLen; omega
    have h1 := Lib.hid (fun w => open_any s w hm)
    have h2 := Lib.hid (fun w => ropen_any s w hm)
    unfold OpenPost at h1 h2
    generalize bodyS s = z at *
    generalize okS s = t at *
    unfold maxLen at hs
    clear hm
    go_enter Try.func10, Try.ntmps10
    go_wp2_with fail
    refine (h1.out _).mono ?_
    rintro e w1 ⟨rfl, b1⟩
    go_wp2_with fail
    refine (h2.out _).mono ?_
    rintro e w2 ⟨rfl, b2⟩
    go_wp2_with fail
    go_ret
    exact ⟨rfl, b1.trans (b2.mono b1.size)⟩
  · unfold maxLen at hs
    go_enter Try.func10, Try.ntmps10
    go_wp2_with fail
    go_ret
    exact ⟨rfl, Below.refl _ _⟩
end Go.Proofs.Ytidmcifckbpgbaa.cr
