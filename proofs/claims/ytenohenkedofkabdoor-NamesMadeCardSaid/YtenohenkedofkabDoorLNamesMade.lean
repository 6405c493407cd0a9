/-
  14.2: names made of parts, and cells of any objects, are as the chapter says.
-/
import Derived.Test.YtenohenkedofkabDoorNmW
import Derived.Test.YtenohenkedofkabDoorNmS
namespace Go.Proofs.YtenohenkedofkabDoor.nm
open Go.RowKit Go.Sort

set_option maxRecDepth 100000 in
set_option maxHeartbeats 1000000 in
theorem law_made_big (kind : Int) (name : ByteArray) (n : Int) (w : World) (hb : 300 < name.size) : Calls Tryd.prog 5 #[.int .i64 kind, .string name, .int .i64 n] w (WorksPost w) := by
  have hbb : decide (300 < (name.size : Int)) = true := decide_eq_true (by omega)
  go_enter Tryd.func5, Tryd.ntmps5
  go_wp2_with fail
  go_ret
  exact ⟨rfl, Below.refl _ _⟩

set_option maxRecDepth 100000 in
set_option maxHeartbeats 4000000 in
theorem law_made_small (hd : Held) (he : HeldE) (kind : Int) (name : ByteArray) (n : Int) (w : World) (hs : name.size ≤ maxLen) (htab : Tab w) (hb : ¬ 300 < name.size) : Calls Tryd.prog 5 #[.int .i64 kind, .string name, .int .i64 n] w (WorksPost w) := by
  have p1 : (⟨#[102]⟩ : ByteArray).size ≤ maxLen := small_le (by show 1 ≤ 16; decide)
  have p0 : (⟨#[]⟩ : ByteArray).size ≤ maxLen := Nat.zero_le _
  have A := Lib.hid (fun w h => of_any hd kind ⟨#[102]⟩ name n w p1 hs h)
  have Ar := Lib.hid (fun w => rof_any kind ⟨#[102]⟩ name n w p1 hs)
  have B := Lib.hid (fun w h => of_any hd kind ⟨#[102]⟩ ⟨#[]⟩ n w p1 p0 h)
  have Br := Lib.hid (fun w => rof_any kind ⟨#[102]⟩ ⟨#[]⟩ n w p1 p0)
  have C := Lib.hid (fun w h => of_any hd kind ⟨#[]⟩ name n w p0 hs h)
  have Cr := Lib.hid (fun w => rof_any kind ⟨#[]⟩ name n w p0 hs)
  have D := Lib.hid (fun w h => of_any hd kind name name n w hs hs h)
  have Dr := Lib.hid (fun w => rof_any kind name name n w hs hs)
  have E := Lib.hid (fun w h => of_any hd kind name ⟨#[]⟩ n w hs p0 h)
  have Er := Lib.hid (fun w => rof_any kind name ⟨#[]⟩ n w hs p0)
  have Hc := Lib.hid (fun w h => cell_any hd name n w hs h)
  have Hcr := Lib.hid (fun w => rcell_any name n w hs)
  have Hw := Lib.hid (fun w h => works_any hd he w h)
  unfold StrPost at A Ar B Br C Cr D Dr E Er Hc Hcr
  unfold WorksPost at Hw
  generalize cellTS name n = ct at *
  generalize txt ⟨kind, ⟨#[102]⟩, 0, name, n, -1⟩ = tA at *
  have xA : (tA.toList == tA.toList) = true := by simp
  generalize txt ⟨kind, ⟨#[102]⟩, 0, ⟨#[]⟩, n, -1⟩ = tB at *
  have xB : (tB.toList == tB.toList) = true := by simp
  generalize txt ⟨kind, ⟨#[]⟩, 0, name, n, -1⟩ = tC at *
  have xC : (tC.toList == tC.toList) = true := by simp
  generalize txt ⟨kind, name, 0, name, n, -1⟩ = tD at *
  have xD : (tD.toList == tD.toList) = true := by simp
  generalize txt ⟨kind, name, 0, ⟨#[]⟩, n, -1⟩ = tE at *
  have xE : (tE.toList == tE.toList) = true := by simp
  have xct : (ct.toList == ct.toList) = true := by simp
  have Htab := Lib.hid htab
  have hbb : decide (300 < (name.size : Int)) = false := decide_eq_false (by omega)
  clear hd he htab p0 p1
  go_enter Tryd.func5, Tryd.ntmps5
  go_wp2_with fail
  go_loopw [7] (fun i wr => ∃ k : Nat, k ≤ 2 ∧ i = .int .i64 k ∧ Hid (Below w.heap.size w wr)) (fun i _ => 2 - (intOf i).toNat)
  case atStart => exact ⟨0, by omega, rfl, Lib.hid (Below.refl _ _)⟩
  case round =>
    obtain ⟨k, hk, rfl, hr⟩ := hrel
    rename_i wr _
    by_cases hkl : k < 2
    · rcases k with _ | _ | k
      · have hb0 : Below w.heap.size w (wr.alloc (.cells #[.string ⟨#[102]⟩, .string name] 9)) := Below.alloc hr.out hr.out.size _
        go_wp2_with fail
        refine (A.out _ (tab_below Htab.out hb0)).mono ?_
        rintro e v1 ⟨rfl, b1⟩
        have hb1 := below_on hb0 b1
        clear b1 hb0
        go_wp2_with fail
        refine (Ar.out _).mono ?_
        rintro e v2 ⟨rfl, b2⟩
        have hb2 := below_on hb1 b2
        clear b2 hb1
        go_wp2_with fail
        refine (B.out _ (tab_below Htab.out hb2)).mono ?_
        rintro e v3 ⟨rfl, b3⟩
        have hb3 := below_on hb2 b3
        clear b3 hb2
        go_wp2_with fail
        refine (Br.out _).mono ?_
        rintro e v4 ⟨rfl, b4⟩
        have hb4 := below_on hb3 b4
        clear b4 hb3
        go_wp2_with fail
        refine (C.out _ (tab_below Htab.out hb4)).mono ?_
        rintro e v5 ⟨rfl, b5⟩
        have hb5 := below_on hb4 b5
        clear b5 hb4
        go_wp2_with fail
        refine (Cr.out _).mono ?_
        rintro e v6 ⟨rfl, b6⟩
        have hb6 := below_on hb5 b6
        clear b6 hb5
        go_wp2_with fail
        go_roundw
        case rel => exact ⟨1, by omega, rfl, Lib.hid hb6⟩
        case measure => simp [intOf]
      · have hb0 : Below w.heap.size w (wr.alloc (.cells #[.string ⟨#[102]⟩, .string name] 9)) := Below.alloc hr.out hr.out.size _
        go_wp2_with fail
        refine (D.out _ (tab_below Htab.out hb0)).mono ?_
        rintro e v1 ⟨rfl, b1⟩
        have hb1 := below_on hb0 b1
        clear b1 hb0
        go_wp2_with fail
        refine (Dr.out _).mono ?_
        rintro e v2 ⟨rfl, b2⟩
        have hb2 := below_on hb1 b2
        clear b2 hb1
        go_wp2_with fail
        refine (E.out _ (tab_below Htab.out hb2)).mono ?_
        rintro e v3 ⟨rfl, b3⟩
        have hb3 := below_on hb2 b3
        clear b3 hb2
        go_wp2_with fail
        refine (Er.out _).mono ?_
        rintro e v4 ⟨rfl, b4⟩
        have hb4 := below_on hb3 b4
        clear b4 hb3
        go_wp2_with fail
        refine (C.out _ (tab_below Htab.out hb4)).mono ?_
        rintro e v5 ⟨rfl, b5⟩
        have hb5 := below_on hb4 b5
        clear b5 hb4
        go_wp2_with fail
        refine (Cr.out _).mono ?_
        rintro e v6 ⟨rfl, b6⟩
        have hb6 := below_on hb5 b6
        clear b6 hb5
        go_wp2_with fail
        go_roundw
        case rel => exact ⟨2, by omega, rfl, Lib.hid hb6⟩
        case measure => simp [intOf]
      · omega
    · obtain rfl : k = 2 := by omega
      have hb0 := hr.out
      clear A Ar B Br C Cr D Dr E Er hr
      go_wp2_with fail
      refine (Hc.out _ (tab_below Htab.out hb0)).mono ?_
      rintro e v1 ⟨rfl, b1⟩
      have hb1 := below_on hb0 b1
      clear b1 hb0
      go_wp2_with fail
      refine (Hcr.out _).mono ?_
      rintro e v2 ⟨rfl, b2⟩
      have hb2 := below_on hb1 b2
      clear b2 hb1
      go_wp2_with fail
      refine (Hw.out _ (tab_below Htab.out hb2)).mono ?_
      rintro e v3 ⟨rfl, b3⟩
      have hb3 := below_on hb2 b3
      clear b3 hb2
      go_wp2_with fail
      go_ret
      exact ⟨rfl, hb3⟩

theorem law_made (hd : Held) (he : HeldE) (kind : Int) (name : ByteArray) (n : Int) (w : World) (hs : name.size ≤ maxLen) (htab : Tab w) : Calls Tryd.prog 5 #[.int .i64 kind, .string name, .int .i64 n] w (WorksPost w) := by
  by_cases hb : 300 < name.size
  · exact law_made_big kind name n w hb
  · exact law_made_small hd he kind name n w hs htab hb
end Go.Proofs.YtenohenkedofkabDoor.nm
