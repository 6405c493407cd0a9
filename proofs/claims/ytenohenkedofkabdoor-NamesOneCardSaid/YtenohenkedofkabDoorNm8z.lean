/-
  weftref14.Right: whether a node may be, by definition.
-/
import Derived.Test.YtenohenkedofkabDoorNm8a
import Derived.Test.YtenohenkedofkabDoorNm8b
import Derived.Test.YtenohenkedofkabDoorNm8c
import Derived.Test.YtenohenkedofkabDoorNm8d
namespace Go.Proofs.YtenohenkedofkabDoor.nm
open Go.RowKit Go.Sort

theorem right_1m (fn name : ByteArray) (copy n : Int) (w : World) (hsf : fn.size ≤ maxLen) (hsn : name.size ≤ maxLen) (hc1 : rcB copy = true) (hc2 : rcB n = true) :
    Calls Tryd.prog 25 #[Nd.val ⟨1, fn, copy, name, n, -1⟩] w (RPost (rightB ⟨1, fn, copy, name, n, -1⟩) w) := by
  have Hc1 := cnt_val hc1
  have Hc2 := cnt_val hc2
  rcases hf : fn.toList.isEmpty with _ | _
  rotate_left
  · exact right_1m_f fn name copy n w Hc1 hc1 Hc2 hc2 hf
  rcases hnf : dg.nameB fn with _ | _
  · have Hnf := nam_val hsf hnf
    exact right_1m_fn fn name copy n w Hc1 hc1 Hc2 hc2 hf Hnf hnf
  have Hnf := nam_val hsf hnf
  rcases hn : name.toList.isEmpty with _ | _
  rotate_left
  · exact right_1m_n fn name copy n w Hc1 hc1 Hc2 hc2 hf Hnf hnf hn
  rcases hnn : dg.nameB name with _ | _
  · have Hnn := nam_val hsn hnn
    exact right_1m_nn fn name copy n w Hc1 hc1 Hc2 hc2 hf Hnf hnf hn Hnn hnn
  have Hnn := nam_val hsn hnn
  by_cases hz0 : n = 0
  · subst hz0
    exact right_1m_zz fn name copy w Hc1 hc1 Hc2 hc2 hf Hnf hnf hn Hnn hnn
  have hz1 : (n == 0) = false := by rw [beq_eq_false_iff_ne]; exact hz0
  have hz2 : (n != 0) = true := by rw [bne_iff_ne]; exact hz0
  exact right_1m_nz fn name copy n w Hc1 hc1 Hc2 hc2 hf Hnf hnf hn Hnn hnn hz1 hz2

theorem right_1c (fn name : ByteArray) (copy n cell : Int) (w : World) (hsf : fn.size ≤ maxLen) (hsn : name.size ≤ maxLen) (hc1 : rcB copy = true) (hc2 : rcB n = true) (hc3 : rcB cell = true) (hz3 : (cell == -1) = false) (hz4 : (cell != -1) = true) :
    Calls Tryd.prog 25 #[Nd.val ⟨1, fn, copy, name, n, cell⟩] w (RPost (rightB ⟨1, fn, copy, name, n, cell⟩) w) := by
  have Hc1 := cnt_val hc1
  have Hc2 := cnt_val hc2
  have Hc3 := cnt_val hc3
  rcases hf : fn.toList.isEmpty with _ | _
  rotate_left
  · exact right_1c_f fn name copy n cell w Hc1 hc1 Hc2 hc2 hz3 hz4 Hc3 hc3 hf
  rcases hnf : dg.nameB fn with _ | _
  · have Hnf := nam_val hsf hnf
    exact right_1c_fn fn name copy n cell w Hc1 hc1 Hc2 hc2 hz3 hz4 Hc3 hc3 hf Hnf hnf
  have Hnf := nam_val hsf hnf
  rcases hn : name.toList.isEmpty with _ | _
  rotate_left
  · exact right_1c_n fn name copy n cell w Hc1 hc1 Hc2 hc2 hz3 hz4 Hc3 hc3 hf Hnf hnf hn
  rcases hnn : dg.nameB name with _ | _
  · have Hnn := nam_val hsn hnn
    exact right_1c_nn fn name copy n cell w Hc1 hc1 Hc2 hc2 hz3 hz4 Hc3 hc3 hf Hnf hnf hn Hnn hnn
  have Hnn := nam_val hsn hnn
  by_cases hz0 : n = 0
  · subst hz0
    exact right_1c_zz fn name copy cell w Hc1 hc1 Hc2 hc2 hz3 hz4 Hc3 hc3 hf Hnf hnf hn Hnn hnn
  have hz1 : (n == 0) = false := by rw [beq_eq_false_iff_ne]; exact hz0
  have hz2 : (n != 0) = true := by rw [bne_iff_ne]; exact hz0
  exact right_1c_nz fn name copy n cell w Hc1 hc1 Hc2 hc2 hz3 hz4 Hc3 hc3 hf Hnf hnf hn Hnn hnn hz1 hz2

theorem right_2m (fn name : ByteArray) (copy n : Int) (w : World) (hsf : fn.size ≤ maxLen) (hsn : name.size ≤ maxLen) (hc1 : rcB copy = true) (hc2 : rcB n = true) :
    Calls Tryd.prog 25 #[Nd.val ⟨2, fn, copy, name, n, -1⟩] w (RPost (rightB ⟨2, fn, copy, name, n, -1⟩) w) := by
  have Hc1 := cnt_val hc1
  have Hc2 := cnt_val hc2
  rcases hf : fn.toList.isEmpty with _ | _
  rotate_left
  · exact right_2m_f fn name copy n w Hc1 hc1 Hc2 hc2 hf
  rcases hnf : dg.nameB fn with _ | _
  · have Hnf := nam_val hsf hnf
    exact right_2m_fn fn name copy n w Hc1 hc1 Hc2 hc2 hf Hnf hnf
  have Hnf := nam_val hsf hnf
  rcases hn : name.toList.isEmpty with _ | _
  · exact right_2m_n fn name copy n w Hc1 hc1 Hc2 hc2 hf Hnf hnf hn
  by_cases hz0 : n = 0
  · subst hz0
    exact right_2m_zz fn name copy w Hc1 hc1 Hc2 hc2 hf Hnf hnf hn
  have hz1 : (n == 0) = false := by rw [beq_eq_false_iff_ne]; exact hz0
  have hz2 : (n != 0) = true := by rw [bne_iff_ne]; exact hz0
  exact right_2m_nz fn name copy n w Hc1 hc1 Hc2 hc2 hf Hnf hnf hn hz1 hz2

theorem right_2c (fn name : ByteArray) (copy n cell : Int) (w : World) (hsf : fn.size ≤ maxLen) (hsn : name.size ≤ maxLen) (hc1 : rcB copy = true) (hc2 : rcB n = true) (hc3 : rcB cell = true) (hz3 : (cell == -1) = false) (hz4 : (cell != -1) = true) :
    Calls Tryd.prog 25 #[Nd.val ⟨2, fn, copy, name, n, cell⟩] w (RPost (rightB ⟨2, fn, copy, name, n, cell⟩) w) := by
  have Hc1 := cnt_val hc1
  have Hc2 := cnt_val hc2
  have Hc3 := cnt_val hc3
  rcases hf : fn.toList.isEmpty with _ | _
  rotate_left
  · exact right_2c_f fn name copy n cell w Hc1 hc1 Hc2 hc2 hz3 hz4 Hc3 hc3 hf
  rcases hnf : dg.nameB fn with _ | _
  · have Hnf := nam_val hsf hnf
    exact right_2c_fn fn name copy n cell w Hc1 hc1 Hc2 hc2 hz3 hz4 Hc3 hc3 hf Hnf hnf
  have Hnf := nam_val hsf hnf
  rcases hn : name.toList.isEmpty with _ | _
  · exact right_2c_n fn name copy n cell w Hc1 hc1 Hc2 hc2 hz3 hz4 Hc3 hc3 hf Hnf hnf hn
  by_cases hz0 : n = 0
  · subst hz0
    exact right_2c_zz fn name copy cell w Hc1 hc1 Hc2 hc2 hz3 hz4 Hc3 hc3 hf Hnf hnf hn
  have hz1 : (n == 0) = false := by rw [beq_eq_false_iff_ne]; exact hz0
  have hz2 : (n != 0) = true := by rw [bne_iff_ne]; exact hz0
  exact right_2c_nz fn name copy n cell w Hc1 hc1 Hc2 hc2 hz3 hz4 Hc3 hc3 hf Hnf hnf hn hz1 hz2

theorem right_3m (fn name : ByteArray) (copy n : Int) (w : World) (hsf : fn.size ≤ maxLen) (hsn : name.size ≤ maxLen) (hc1 : rcB copy = true) (hc2 : rcB n = true) :
    Calls Tryd.prog 25 #[Nd.val ⟨3, fn, copy, name, n, -1⟩] w (RPost (rightB ⟨3, fn, copy, name, n, -1⟩) w) := by
  have Hc1 := cnt_val hc1
  have Hc2 := cnt_val hc2
  rcases hf : fn.toList.isEmpty with _ | _
  rotate_left
  · exact right_3m_f fn name copy n w Hc1 hc1 Hc2 hc2 hf
  rcases hnf : dg.nameB fn with _ | _
  · have Hnf := nam_val hsf hnf
    exact right_3m_fn fn name copy n w Hc1 hc1 Hc2 hc2 hf Hnf hnf
  have Hnf := nam_val hsf hnf
  rcases hn : name.toList.isEmpty with _ | _
  · exact right_3m_n fn name copy n w Hc1 hc1 Hc2 hc2 hf Hnf hnf hn
  by_cases hz0 : n = 0
  · subst hz0
    exact right_3m_zz fn name copy w Hc1 hc1 Hc2 hc2 hf Hnf hnf hn
  have hz1 : (n == 0) = false := by rw [beq_eq_false_iff_ne]; exact hz0
  have hz2 : (n != 0) = true := by rw [bne_iff_ne]; exact hz0
  exact right_3m_nz fn name copy n w Hc1 hc1 Hc2 hc2 hf Hnf hnf hn hz1 hz2

theorem right_3c (fn name : ByteArray) (copy n cell : Int) (w : World) (hsf : fn.size ≤ maxLen) (hsn : name.size ≤ maxLen) (hc1 : rcB copy = true) (hc2 : rcB n = true) (hc3 : rcB cell = true) (hz3 : (cell == -1) = false) (hz4 : (cell != -1) = true) :
    Calls Tryd.prog 25 #[Nd.val ⟨3, fn, copy, name, n, cell⟩] w (RPost (rightB ⟨3, fn, copy, name, n, cell⟩) w) := by
  have Hc1 := cnt_val hc1
  have Hc2 := cnt_val hc2
  have Hc3 := cnt_val hc3
  rcases hf : fn.toList.isEmpty with _ | _
  rotate_left
  · exact right_3c_f fn name copy n cell w Hc1 hc1 Hc2 hc2 hz3 hz4 Hc3 hc3 hf
  rcases hnf : dg.nameB fn with _ | _
  · have Hnf := nam_val hsf hnf
    exact right_3c_fn fn name copy n cell w Hc1 hc1 Hc2 hc2 hz3 hz4 Hc3 hc3 hf Hnf hnf
  have Hnf := nam_val hsf hnf
  rcases hn : name.toList.isEmpty with _ | _
  · exact right_3c_n fn name copy n cell w Hc1 hc1 Hc2 hc2 hz3 hz4 Hc3 hc3 hf Hnf hnf hn
  by_cases hz0 : n = 0
  · subst hz0
    exact right_3c_zz fn name copy cell w Hc1 hc1 Hc2 hc2 hz3 hz4 Hc3 hc3 hf Hnf hnf hn
  have hz1 : (n == 0) = false := by rw [beq_eq_false_iff_ne]; exact hz0
  have hz2 : (n != 0) = true := by rw [bne_iff_ne]; exact hz0
  exact right_3c_nz fn name copy n cell w Hc1 hc1 Hc2 hc2 hz3 hz4 Hc3 hc3 hf Hnf hnf hn hz1 hz2

theorem right_4m (fn name : ByteArray) (copy n : Int) (w : World) (hsf : fn.size ≤ maxLen) (hsn : name.size ≤ maxLen) (hc1 : rcB copy = true) (hc2 : rcB n = true) :
    Calls Tryd.prog 25 #[Nd.val ⟨4, fn, copy, name, n, -1⟩] w (RPost (rightB ⟨4, fn, copy, name, n, -1⟩) w) := by
  have Hc1 := cnt_val hc1
  have Hc2 := cnt_val hc2
  rcases hf : fn.toList.isEmpty with _ | _
  rotate_left
  · exact right_4m_f fn name copy n w Hc1 hc1 Hc2 hc2 hf
  rcases hnf : dg.nameB fn with _ | _
  · have Hnf := nam_val hsf hnf
    exact right_4m_fn fn name copy n w Hc1 hc1 Hc2 hc2 hf Hnf hnf
  have Hnf := nam_val hsf hnf
  rcases hn : name.toList.isEmpty with _ | _
  · exact right_4m_n fn name copy n w Hc1 hc1 Hc2 hc2 hf Hnf hnf hn
  by_cases hz0 : n = 0
  · subst hz0
    exact right_4m_zz fn name copy w Hc1 hc1 Hc2 hc2 hf Hnf hnf hn
  have hz1 : (n == 0) = false := by rw [beq_eq_false_iff_ne]; exact hz0
  have hz2 : (n != 0) = true := by rw [bne_iff_ne]; exact hz0
  exact right_4m_nz fn name copy n w Hc1 hc1 Hc2 hc2 hf Hnf hnf hn hz1 hz2

theorem right_4c (fn name : ByteArray) (copy n cell : Int) (w : World) (hsf : fn.size ≤ maxLen) (hsn : name.size ≤ maxLen) (hc1 : rcB copy = true) (hc2 : rcB n = true) (hc3 : rcB cell = true) (hz3 : (cell == -1) = false) (hz4 : (cell != -1) = true) :
    Calls Tryd.prog 25 #[Nd.val ⟨4, fn, copy, name, n, cell⟩] w (RPost (rightB ⟨4, fn, copy, name, n, cell⟩) w) := by
  have Hc1 := cnt_val hc1
  have Hc2 := cnt_val hc2
  have Hc3 := cnt_val hc3
  rcases hf : fn.toList.isEmpty with _ | _
  rotate_left
  · exact right_4c_f fn name copy n cell w Hc1 hc1 Hc2 hc2 hz3 hz4 Hc3 hc3 hf
  rcases hnf : dg.nameB fn with _ | _
  · have Hnf := nam_val hsf hnf
    exact right_4c_fn fn name copy n cell w Hc1 hc1 Hc2 hc2 hz3 hz4 Hc3 hc3 hf Hnf hnf
  have Hnf := nam_val hsf hnf
  rcases hn : name.toList.isEmpty with _ | _
  · exact right_4c_n fn name copy n cell w Hc1 hc1 Hc2 hc2 hz3 hz4 Hc3 hc3 hf Hnf hnf hn
  by_cases hz0 : n = 0
  · subst hz0
    exact right_4c_zz fn name copy cell w Hc1 hc1 Hc2 hc2 hz3 hz4 Hc3 hc3 hf Hnf hnf hn
  have hz1 : (n == 0) = false := by rw [beq_eq_false_iff_ne]; exact hz0
  have hz2 : (n != 0) = true := by rw [bne_iff_ne]; exact hz0
  exact right_4c_nz fn name copy n cell w Hc1 hc1 Hc2 hc2 hz3 hz4 Hc3 hc3 hf Hnf hnf hn hz1 hz2

theorem right_5m (fn name : ByteArray) (copy n : Int) (w : World) (hsf : fn.size ≤ maxLen) (hsn : name.size ≤ maxLen) (hc1 : rcB copy = true) (hc2 : rcB n = true) :
    Calls Tryd.prog 25 #[Nd.val ⟨5, fn, copy, name, n, -1⟩] w (RPost (rightB ⟨5, fn, copy, name, n, -1⟩) w) := by
  have Hc1 := cnt_val hc1
  have Hc2 := cnt_val hc2
  rcases hf : fn.toList.isEmpty with _ | _
  · exact right_5m_f fn name copy n w Hc1 hc1 Hc2 hc2 hf
  by_cases hz : copy = 0
  rotate_left
  · have hz5 : (copy != 0) = true := by rw [bne_iff_ne]; exact hz
    exact right_5m_cp fn name copy n w Hc1 hc1 Hc2 hc2 hf hz5
  subst hz
  rcases hn : name.toList.isEmpty with _ | _
  rotate_left
  · exact right_5m_n fn name n w Hc1 hc1 Hc2 hc2 hf hn
  rcases hnn : dg.nameB name with _ | _
  · have Hnn := nam_val hsn hnn
    exact right_5m_nn fn name n w Hc1 hc1 Hc2 hc2 hf hn Hnn hnn
  have Hnn := nam_val hsn hnn
  by_cases hz0 : n = 0
  · subst hz0
    exact right_5m_zz fn name w Hc1 hc1 Hc2 hc2 hf hn Hnn hnn
  have hz1 : (n == 0) = false := by rw [beq_eq_false_iff_ne]; exact hz0
  have hz2 : (n != 0) = true := by rw [bne_iff_ne]; exact hz0
  exact right_5m_nz fn name n w Hc1 hc1 Hc2 hc2 hf hn Hnn hnn hz1 hz2

theorem right_5c (fn name : ByteArray) (copy n cell : Int) (w : World) (hsf : fn.size ≤ maxLen) (hsn : name.size ≤ maxLen) (hc1 : rcB copy = true) (hc2 : rcB n = true) (hc3 : rcB cell = true) (hz3 : (cell == -1) = false) (hz4 : (cell != -1) = true) :
    Calls Tryd.prog 25 #[Nd.val ⟨5, fn, copy, name, n, cell⟩] w (RPost (rightB ⟨5, fn, copy, name, n, cell⟩) w) := by
  have Hc1 := cnt_val hc1
  have Hc2 := cnt_val hc2
  have Hc3 := cnt_val hc3
  rcases hf : fn.toList.isEmpty with _ | _
  · exact right_5c_f fn name copy n cell w Hc1 hc1 Hc2 hc2 hz3 hz4 Hc3 hc3 hf
  by_cases hz : copy = 0
  rotate_left
  · have hz5 : (copy != 0) = true := by rw [bne_iff_ne]; exact hz
    exact right_5c_cp fn name copy n cell w Hc1 hc1 Hc2 hc2 hz3 hz4 Hc3 hc3 hf hz5
  subst hz
  rcases hn : name.toList.isEmpty with _ | _
  rotate_left
  · exact right_5c_n fn name n cell w Hc1 hc1 Hc2 hc2 hz3 hz4 Hc3 hc3 hf hn
  rcases hnn : dg.nameB name with _ | _
  · have Hnn := nam_val hsn hnn
    exact right_5c_nn fn name n cell w Hc1 hc1 Hc2 hc2 hz3 hz4 Hc3 hc3 hf hn Hnn hnn
  have Hnn := nam_val hsn hnn
  by_cases hz0 : n = 0
  · subst hz0
    exact right_5c_zz fn name cell w Hc1 hc1 Hc2 hc2 hz3 hz4 Hc3 hc3 hf hn Hnn hnn
  have hz1 : (n == 0) = false := by rw [beq_eq_false_iff_ne]; exact hz0
  have hz2 : (n != 0) = true := by rw [bne_iff_ne]; exact hz0
  exact right_5c_nz fn name n cell w Hc1 hc1 Hc2 hc2 hz3 hz4 Hc3 hc3 hf hn Hnn hnn hz1 hz2

theorem right_6m (fn name : ByteArray) (copy n : Int) (w : World) (hsf : fn.size ≤ maxLen) (hsn : name.size ≤ maxLen) (hc1 : rcB copy = true) (hc2 : rcB n = true) :
    Calls Tryd.prog 25 #[Nd.val ⟨6, fn, copy, name, n, -1⟩] w (RPost (rightB ⟨6, fn, copy, name, n, -1⟩) w) := by
  have Hc1 := cnt_val hc1
  have Hc2 := cnt_val hc2
  rcases hf : fn.toList.isEmpty with _ | _
  rotate_left
  · exact right_6m_f fn name copy n w Hc1 hc1 Hc2 hc2 hf
  rcases hnf : dg.nameB fn with _ | _
  · have Hnf := nam_val hsf hnf
    exact right_6m_fn fn name copy n w Hc1 hc1 Hc2 hc2 hf Hnf hnf
  have Hnf := nam_val hsf hnf
  rcases hn : name.toList.isEmpty with _ | _
  rotate_left
  · exact right_6m_n fn name copy n w Hc1 hc1 Hc2 hc2 hf Hnf hnf hn
  rcases hnn : dg.nameB name with _ | _
  · have Hnn := nam_val hsn hnn
    exact right_6m_nn fn name copy n w Hc1 hc1 Hc2 hc2 hf Hnf hnf hn Hnn hnn
  have Hnn := nam_val hsn hnn
  by_cases hz0 : n = 0
  · subst hz0
    exact right_6m_zz fn name copy w Hc1 hc1 Hc2 hc2 hf Hnf hnf hn Hnn hnn
  have hz1 : (n == 0) = false := by rw [beq_eq_false_iff_ne]; exact hz0
  have hz2 : (n != 0) = true := by rw [bne_iff_ne]; exact hz0
  exact right_6m_nz fn name copy n w Hc1 hc1 Hc2 hc2 hf Hnf hnf hn Hnn hnn hz1 hz2

theorem right_6c (fn name : ByteArray) (copy n cell : Int) (w : World) (hsf : fn.size ≤ maxLen) (hsn : name.size ≤ maxLen) (hc1 : rcB copy = true) (hc2 : rcB n = true) (hc3 : rcB cell = true) (hz3 : (cell == -1) = false) (hz4 : (cell != -1) = true) :
    Calls Tryd.prog 25 #[Nd.val ⟨6, fn, copy, name, n, cell⟩] w (RPost (rightB ⟨6, fn, copy, name, n, cell⟩) w) := by
  have Hc1 := cnt_val hc1
  have Hc2 := cnt_val hc2
  have Hc3 := cnt_val hc3
  rcases hf : fn.toList.isEmpty with _ | _
  rotate_left
  · exact right_6c_f fn name copy n cell w Hc1 hc1 Hc2 hc2 hz3 hz4 Hc3 hc3 hf
  rcases hnf : dg.nameB fn with _ | _
  · have Hnf := nam_val hsf hnf
    exact right_6c_fn fn name copy n cell w Hc1 hc1 Hc2 hc2 hz3 hz4 Hc3 hc3 hf Hnf hnf
  have Hnf := nam_val hsf hnf
  rcases hn : name.toList.isEmpty with _ | _
  rotate_left
  · exact right_6c_n fn name copy n cell w Hc1 hc1 Hc2 hc2 hz3 hz4 Hc3 hc3 hf Hnf hnf hn
  rcases hnn : dg.nameB name with _ | _
  · have Hnn := nam_val hsn hnn
    exact right_6c_nn fn name copy n cell w Hc1 hc1 Hc2 hc2 hz3 hz4 Hc3 hc3 hf Hnf hnf hn Hnn hnn
  have Hnn := nam_val hsn hnn
  by_cases hz0 : n = 0
  · subst hz0
    exact right_6c_zz fn name copy cell w Hc1 hc1 Hc2 hc2 hz3 hz4 Hc3 hc3 hf Hnf hnf hn Hnn hnn
  have hz1 : (n == 0) = false := by rw [beq_eq_false_iff_ne]; exact hz0
  have hz2 : (n != 0) = true := by rw [bne_iff_ne]; exact hz0
  exact right_6c_nz fn name copy n cell w Hc1 hc1 Hc2 hc2 hz3 hz4 Hc3 hc3 hf Hnf hnf hn Hnn hnn hz1 hz2

theorem right_7m (fn name : ByteArray) (copy n : Int) (w : World) (hsf : fn.size ≤ maxLen) (hsn : name.size ≤ maxLen) (hc1 : rcB copy = true) (hc2 : rcB n = true) :
    Calls Tryd.prog 25 #[Nd.val ⟨7, fn, copy, name, n, -1⟩] w (RPost (rightB ⟨7, fn, copy, name, n, -1⟩) w) := by
  have Hc1 := cnt_val hc1
  have Hc2 := cnt_val hc2
  rcases hf : fn.toList.isEmpty with _ | _
  rotate_left
  · exact right_7m_f fn name copy n w Hc1 hc1 Hc2 hc2 hf
  rcases hnf : dg.nameB fn with _ | _
  · have Hnf := nam_val hsf hnf
    exact right_7m_fn fn name copy n w Hc1 hc1 Hc2 hc2 hf Hnf hnf
  have Hnf := nam_val hsf hnf
  rcases hn : name.toList.isEmpty with _ | _
  · exact right_7m_n fn name copy n w Hc1 hc1 Hc2 hc2 hf Hnf hnf hn
  by_cases hz0 : n = 0
  · subst hz0
    exact right_7m_zz fn name copy w Hc1 hc1 Hc2 hc2 hf Hnf hnf hn
  have hz1 : (n == 0) = false := by rw [beq_eq_false_iff_ne]; exact hz0
  have hz2 : (n != 0) = true := by rw [bne_iff_ne]; exact hz0
  exact right_7m_nz fn name copy n w Hc1 hc1 Hc2 hc2 hf Hnf hnf hn hz1 hz2

theorem right_7c (fn name : ByteArray) (copy n cell : Int) (w : World) (hsf : fn.size ≤ maxLen) (hsn : name.size ≤ maxLen) (hc1 : rcB copy = true) (hc2 : rcB n = true) (hc3 : rcB cell = true) (hz3 : (cell == -1) = false) (hz4 : (cell != -1) = true) :
    Calls Tryd.prog 25 #[Nd.val ⟨7, fn, copy, name, n, cell⟩] w (RPost (rightB ⟨7, fn, copy, name, n, cell⟩) w) := by
  have Hc1 := cnt_val hc1
  have Hc2 := cnt_val hc2
  have Hc3 := cnt_val hc3
  rcases hf : fn.toList.isEmpty with _ | _
  rotate_left
  · exact right_7c_f fn name copy n cell w Hc1 hc1 Hc2 hc2 hz3 hz4 Hc3 hc3 hf
  rcases hnf : dg.nameB fn with _ | _
  · have Hnf := nam_val hsf hnf
    exact right_7c_fn fn name copy n cell w Hc1 hc1 Hc2 hc2 hz3 hz4 Hc3 hc3 hf Hnf hnf
  have Hnf := nam_val hsf hnf
  rcases hn : name.toList.isEmpty with _ | _
  · exact right_7c_n fn name copy n cell w Hc1 hc1 Hc2 hc2 hz3 hz4 Hc3 hc3 hf Hnf hnf hn
  by_cases hz0 : n = 0
  · subst hz0
    exact right_7c_zz fn name copy cell w Hc1 hc1 Hc2 hc2 hz3 hz4 Hc3 hc3 hf Hnf hnf hn
  have hz1 : (n == 0) = false := by rw [beq_eq_false_iff_ne]; exact hz0
  have hz2 : (n != 0) = true := by rw [bne_iff_ne]; exact hz0
  exact right_7c_nz fn name copy n cell w Hc1 hc1 Hc2 hc2 hz3 hz4 Hc3 hc3 hf Hnf hnf hn hz1 hz2

theorem right_any (d : Nd) (w : World) (hsn : d.name.size ≤ maxLen) (hsf : d.fn.size ≤ maxLen) : Calls Tryd.prog 25 #[d.val] w (RPost (rightB d) w) := by
  obtain ⟨kind, fn, copy, name, n, cell⟩ := d
  have hsn : name.size ≤ maxLen := hsn
  have hsf : fn.size ≤ maxLen := hsf
  by_cases hk : 1 ≤ kind ∧ kind ≤ 7
  rotate_left
  · have hv : rightB ⟨kind, fn, copy, name, n, cell⟩ = false := by unfold rightB rightF; rw [show decide (1 ≤ kind ∧ kind ≤ 7) = false from decide_eq_false hk]; simp only [Bool.false_and]
    rw [hv]; exact right_kind kind fn copy name n cell w hk
  obtain ⟨h1, h7⟩ := hk
  rcases hc1 : rcB copy with _ | _
  · exact right_copy kind fn copy name n cell w h1 h7 (cnt_val hc1) hc1
  rcases hc2 : rcB n with _ | _
  · exact right_n kind fn copy name n cell w h1 h7 (cnt_val hc1) (cnt_val hc2) hc2
  by_cases hz : cell = -1
  · subst hz
    rcases (by omega : kind = 1 ∨ kind = 2 ∨ kind = 3 ∨ kind = 4 ∨ kind = 5 ∨ kind = 6 ∨ kind = 7) with rfl | rfl | rfl | rfl | rfl | rfl | rfl
    · exact right_1m fn name copy n w hsf hsn hc1 hc2
    · exact right_2m fn name copy n w hsf hsn hc1 hc2
    · exact right_3m fn name copy n w hsf hsn hc1 hc2
    · exact right_4m fn name copy n w hsf hsn hc1 hc2
    · exact right_5m fn name copy n w hsf hsn hc1 hc2
    · exact right_6m fn name copy n w hsf hsn hc1 hc2
    · exact right_7m fn name copy n w hsf hsn hc1 hc2
  · have hz3 : (cell == -1) = false := by rw [beq_eq_false_iff_ne]; exact hz
    have hz4 : (cell != -1) = true := by rw [bne_iff_ne]; exact hz
    rcases hc3 : rcB cell with _ | _
    · exact right_cell kind fn copy name n cell w h1 h7 (cnt_val hc1) (cnt_val hc2) (cnt_val hc3) hc3 hz3 hz4
    rcases (by omega : kind = 1 ∨ kind = 2 ∨ kind = 3 ∨ kind = 4 ∨ kind = 5 ∨ kind = 6 ∨ kind = 7) with rfl | rfl | rfl | rfl | rfl | rfl | rfl
    · exact right_1c fn name copy n cell w hsf hsn hc1 hc2 hc3 hz3 hz4
    · exact right_2c fn name copy n cell w hsf hsn hc1 hc2 hc3 hz3 hz4
    · exact right_3c fn name copy n cell w hsf hsn hc1 hc2 hc3 hz3 hz4
    · exact right_4c fn name copy n cell w hsf hsn hc1 hc2 hc3 hz3 hz4
    · exact right_5c fn name copy n cell w hsf hsn hc1 hc2 hc3 hz3 hz4
    · exact right_6c fn name copy n cell w hsf hsn hc1 hc2 hc3 hz3 hz4
    · exact right_7c fn name copy n cell w hsf hsn hc1 hc2 hc3 hz3 hz4
end Go.Proofs.YtenohenkedofkabDoor.nm
