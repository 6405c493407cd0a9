/-
  names: what stands behind a mark; what kind a mark tells.
-/
import Derived.Test.YtenohenkedofkabDoorNm4
namespace Go.Proofs.YtenohenkedofkabDoor.nm
open Go.RowKit Go.Sort

theorem text_no (hd : Held) (d : Nd) (w : World) (hm : mayB d = false) (hsn : d.name.size ≤ maxLen) (hsf : d.fn.size ≤ maxLen) :
    Calls Tryd.prog 9 #[d.val] w (TextPost d w) := by
  have H := Lib.hid (fun w => may_any hd d w hsn hsf)
  rw [hm] at H
  unfold BPost at H
  have Hp : Hid (∀ w', Below w.heap.size w w' → TextPost d w (.returned (.tuple #[.string ⟨#[]⟩, .int .i64 11])) w') := Lib.hid fun w' hb => ⟨by unfold txt terr; rw [hm]; rfl, hb⟩
  obtain ⟨kind, fn, copy, name, n, cell⟩ := d
  unfold Nd.val Nd.cells at H ⊢
  clear hm hsn hsf hd
  go_enter Tryd.func9, Tryd.ntmps9
  go_wp2_with fail
  refine (H.out _).mono ?_
  rintro e w1 ⟨rfl, b1⟩
  go_wp2_with fail
  go_ret2
  exact Hp.out _ (below_on ((Below.refl _ _).alloc (Nat.le_refl _) _) b1)

theorem text_any (hd : Held) (d : Nd) (w : World) (hsn : d.name.size ≤ maxLen) (hsf : d.fn.size ≤ maxLen) (htab : Tab w) :
    Calls Tryd.prog 9 #[d.val] w (TextPost d w) := by
  rcases hm : mayB d with _ | _
  · exact text_no hd d w hm hsn hsf
  · obtain ⟨_, _, h1, h7⟩ := may_bounds d hm
    obtain ⟨kind, fn, copy, name, n, cell⟩ := d
    have h1' : 1 ≤ kind := h1
    have h7' : kind ≤ 7 := h7
    rcases (by omega : kind = 1 ∨ kind = 2 ∨ kind = 3 ∨ kind = 4 ∨ kind = 5 ∨ kind = 6 ∨ kind = 7) with rfl | rfl | rfl | rfl | rfl | rfl | rfl
    · exact text_1 hd _ _ _ _ _ w hm htab
    · exact text_2 hd _ _ _ _ _ w hm htab
    · exact text_3 hd _ _ _ _ _ w hm htab
    · exact text_4 hd _ _ _ _ _ w hm htab
    · exact text_5 hd _ _ _ _ _ w hm htab
    · exact text_6 hd _ _ _ _ _ w hm htab
    · exact text_7 hd _ _ _ _ _ w hm htab

/-- the byte that a text begins with -/
def headI (s : ByteArray) : Int := ((s.data.toList.headD 0).toNat : Int)

def kindS (s : ByteArray) : Int :=
  if s.size = 0 then 5
  else if headI s = 46 then 1 else if headI s = 36 then 2 else if headI s = 64 then 3 else if headI s = 40 then 4 else if headI s = 37 then 6 else if headI s = 35 then 7 else 5

set_option maxHeartbeats 1000000 in
theorem kind_any (s : ByteArray) (w : World) (hs : s.size ≤ maxLen) : Calls Tryd.prog 29 #[.string s] w fun e w' => e = .returned (.int .i64 (kindS s)) ∧ w = w' := by
  unfold maxLen at hs
  by_cases h0 : s.size = 0
  · have he : s.toList = [] := dg.empty_list s h0
    have Hk : Hid (kindS s = 5) := Lib.hid (by unfold kindS; rw [if_pos h0])
    clear h0
    go_enter Tryd.func29, Tryd.ntmps29
    go_wp2_with fail
    go_ret
    exact ⟨by rw [Hk.out]; rfl, rfl⟩
  · have he : s.toList.isEmpty = false := dg.not_empty s h0
    have hz : 0 < s.size := by omega
    have hh : headI s = (s[0].toNat : Int) := by unfold headI; rw [dg.headD_zero s hz]
    have Hk : Hid (kindS s = (if (s[0].toNat : Int) = 46 then 1 else if (s[0].toNat : Int) = 36 then 2 else if (s[0].toNat : Int) = 64 then 3 else if (s[0].toNat : Int) = 40 then 4 else if (s[0].toNat : Int) = 37 then 6 else if (s[0].toNat : Int) = 35 then 7 else 5)) := Lib.hid (by unfold kindS; rw [if_neg h0, hh])
    clear h0 hh
    rcases (by omega : (s[0].toNat : Int) = 46 ∨ (s[0].toNat : Int) = 36 ∨ (s[0].toNat : Int) = 64 ∨ (s[0].toNat : Int) = 40 ∨ (s[0].toNat : Int) = 37 ∨ (s[0].toNat : Int) = 35 ∨ ((s[0].toNat : Int) ≠ 46 ∧ (s[0].toNat : Int) ≠ 36 ∧ (s[0].toNat : Int) ≠ 64 ∧ (s[0].toNat : Int) ≠ 40 ∧ (s[0].toNat : Int) ≠ 37 ∧ (s[0].toNat : Int) ≠ 35)) with h | h | h | h | h | h | ⟨h1, h2, h3, h4, h5, h6⟩
    all_goals first
      | (have Hv : Hid (kindS s = 5) := Lib.hid (by rw [Hk.out, if_neg h1, if_neg h2, if_neg h3, if_neg h4, if_neg h5, if_neg h6])
         have b1 := beq_eq_false_iff_ne.2 h1
         have b2 := beq_eq_false_iff_ne.2 h2
         have b3 := beq_eq_false_iff_ne.2 h3
         have b4 := beq_eq_false_iff_ne.2 h4
         have b5 := beq_eq_false_iff_ne.2 h5
         have b6 := beq_eq_false_iff_ne.2 h6
         clear h1 h2 h3 h4 h5 h6 Hk
         go_enter Tryd.func29, Tryd.ntmps29
         go_wp2_with fail
         go_ret
         exact ⟨by rw [Hv.out]; rfl, rfl⟩)
      | (have hv := Hk.out
         rw [h] at hv
         have Hv := Lib.hid hv
         clear Hk hv
         go_enter Tryd.func29, Tryd.ntmps29
         go_wp2_with fail
         go_ret
         exact ⟨by rw [Hv.out]; rfl, rfl⟩)

/-- what stands behind a mark: a count, and the rest; without the mark what is absent, and the text -/
def behS (s : ByteArray) (mark : Int) (absent : Int) : Int × ByteArray :=
  if s.size = 0 ∨ headI s ≠ mark then (absent, s)
  else if (dg.rd ((s.extract 1 s.size).extract 0 (dg.splN (s.extract 1 s.size)))).2 = 0 then
    ((dg.rd ((s.extract 1 s.size).extract 0 (dg.splN (s.extract 1 s.size)))).1, (s.extract 1 s.size).extract (dg.splN (s.extract 1 s.size)) (s.extract 1 s.size).size)
  else (absent, ⟨#[]⟩)

def BehPost (s : ByteArray) (mark absent : Int) (w : World) (e : Ending) (w' : World) : Prop := e = .returned (.tuple #[.int .i64 (behS s mark absent).1, .string (behS s mark absent).2]) ∧ ∃ n, w' = w.drewN n

theorem ext_le (s : ByteArray) (a b : Nat) : (s.extract a b).size ≤ s.size := by simp; omega

set_option maxRecDepth 100000 in
set_option maxHeartbeats 2000000 in
theorem behind_any (s : ByteArray) (mark absent : Int) (w : World) (hs : s.size ≤ maxLen) :
    Calls Tryd.prog 28 #[.string s, .int .u8 mark, .int .i64 absent] w (BehPost s mark absent w) := by
  by_cases h0 : s.size = 0
  · have he : s.toList = [] := dg.empty_list s h0
    have Hb : Hid (behS s mark absent = (absent, s)) := Lib.hid (by unfold behS; rw [if_pos (Or.inl h0)])
    clear h0
    go_enter Tryd.func28, Tryd.ntmps28
    go_wp2_with fail
    go_ret2
    exact ⟨by rw [Hb.out]; rfl, 0, rfl⟩
  · have he : s.toList.isEmpty = false := dg.not_empty s h0
    have hz : 0 < s.size := by omega
    have hh : headI s = (s[0].toNat : Int) := by unfold headI; rw [dg.headD_zero s hz]
    by_cases hmk : (s[0].toNat : Int) = mark
    · have hne : ((s[0].toNat : Int) != mark) = false := by rw [hmk]; simp
      have hb1 : ¬ (s.size = 0 ∨ headI s ≠ mark) := by rintro (h | h); exact h0 h; exact h (by rw [hh]; exact hmk)
      have hle1 := ext_le s 1 s.size
      have hsp := dg.splN_le (s.extract 1 s.size)
      have Hbe : Hid (behS s mark absent = if (dg.rd ((s.extract 1 s.size).extract 0 (dg.splN (s.extract 1 s.size)))).2 = 0 then ((dg.rd ((s.extract 1 s.size).extract 0 (dg.splN (s.extract 1 s.size)))).1, (s.extract 1 s.size).extract (dg.splN (s.extract 1 s.size)) (s.extract 1 s.size).size) else (absent, ⟨#[]⟩)) := Lib.hid (by unfold behS; rw [if_neg hb1])
      have Hsp := Lib.hid (fun w => dg.split_any (s.extract 1 s.size) w (by omega))
      have Hrd := Lib.hid (fun w => dg.read_any ((s.extract 1 s.size).extract 0 (dg.splN (s.extract 1 s.size))) w (by have := ext_le (s.extract 1 s.size) 0 (dg.splN (s.extract 1 s.size)); omega))
      unfold dg.SplitPost at Hsp
      generalize (dg.rd ((s.extract 1 s.size).extract 0 (dg.splN (s.extract 1 s.size)))).1 = rv at *
      generalize (dg.rd ((s.extract 1 s.size).extract 0 (dg.splN (s.extract 1 s.size)))).2 = re at *
      generalize (s.extract 1 s.size).extract 0 (dg.splN (s.extract 1 s.size)) = t1 at *
      generalize (s.extract 1 s.size).extract (dg.splN (s.extract 1 s.size)) (s.extract 1 s.size).size = t2 at *
      clear h0 hh hmk hb1 hsp hle1
      unfold maxLen at hs
      by_cases hre : re = 0
      · have Hb : Hid (behS s mark absent = (rv, t2)) := Lib.hid (by rw [Hbe.out, if_pos hre])
        have hreb : (re != 0) = false := by rw [hre]; rfl
        clear Hbe hre
        go_enter Tryd.func28, Tryd.ntmps28
        go_wp2_with fail
        refine (Hsp.out _).mono ?_
        rintro e w' ⟨rfl, q, rfl⟩
        go_wp2_with fail
        refine (Hrd.out _).mono ?_
        rintro e w' ⟨rfl, rfl⟩
        go_wp2_with fail
        go_ret2
        exact ⟨by rw [Hb.out]; rfl, q, rfl⟩
      · have Hb : Hid (behS s mark absent = (absent, ⟨#[]⟩)) := Lib.hid (by rw [Hbe.out, if_neg hre])
        have hreb : (re != 0) = true := by rw [bne_iff_ne]; exact hre
        clear Hbe hre
        go_enter Tryd.func28, Tryd.ntmps28
        go_wp2_with fail
        refine (Hsp.out _).mono ?_
        rintro e w' ⟨rfl, q, rfl⟩
        go_wp2_with fail
        refine (Hrd.out _).mono ?_
        rintro e w' ⟨rfl, rfl⟩
        go_wp2_with fail
        go_ret2
        exact ⟨by rw [Hb.out]; rfl, q, rfl⟩
    · have hne : ((s[0].toNat : Int) != mark) = true := by rw [bne_iff_ne]; exact hmk
      have Hb : Hid (behS s mark absent = (absent, s)) := Lib.hid (by unfold behS; rw [if_pos (Or.inr (by rw [hh]; exact hmk))])
      clear h0 hh hmk
      unfold maxLen at hs
      go_enter Tryd.func28, Tryd.ntmps28
      go_wp2_with fail
      go_ret2
      exact ⟨by rw [Hb.out]; rfl, 0, rfl⟩
end Go.Proofs.YtenohenkedofkabDoor.nm
