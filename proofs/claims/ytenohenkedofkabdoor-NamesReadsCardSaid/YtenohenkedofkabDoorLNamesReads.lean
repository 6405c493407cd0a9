/-
  14.1, 14.2: any text as a node, its base and its object are as the chapter says.
-/
import Derived.Test.YtenohenkedofkabDoorLNamesTexts
import Derived.Test.YtenohenkedofkabDoorNmS
import Derived.Lib.QuietBelow
namespace Go.Proofs.YtenohenkedofkabDoor.nm
open Go.RowKit Go.Sort

set_option maxRecDepth 100000 in
set_option maxHeartbeats 1000000 in
theorem law_reads_big (s : ByteArray) (w : World) (hb : 300 < s.size) : Calls Tryd.prog 4 #[.string s] w (WorksPost w) := by
  have hbb : decide (300 < (s.size : Int)) = true := decide_eq_true (by omega)
  go_enter Tryd.func4, Tryd.ntmps4
  go_wp2_with fail
  go_ret
  exact ⟨rfl, Below.refl _ _⟩

set_option maxRecDepth 100000 in
set_option maxHeartbeats 4000000 in
theorem law_reads_small (hd : Held) (he : HeldE) (s : ByteArray) (w : World) (hs : s.size ≤ maxLen) (htab : Tab w) (hb : ¬ 300 < s.size) : Calls Tryd.prog 4 #[.string s] w (WorksPost w) := by
  have Hr := Lib.hid (fun w h => read_any hd s w hs h)
  have Hq := Lib.hid (fun w => rread_node s w hs)
  have Ho := Lib.hid (fun w h => object_any hd s w hs h)
  have Hp := Lib.hid (fun w => robject_any s w hs)
  unfold ReadPost at Hr Hq
  unfold ObjPost at Ho Hp
  have HO : Hid (∀ (W : World) (d : Nat) (os : Array Obj), Calls Tryd.prog 10 #[(readN s).val] (grow (redrawn W d) os) fun e w'' => e = .returned (readN s).val ∧ ∃ p : Regrown, w'' = grow (redrawn W p.d) p.os) := Lib.hid (fun W d os => Calls.regrown_of (lown_any (readN s) _))
  have HB : Hid (∀ (W : World) (h : Tab W) (d : Nat) (os : Array Obj), Calls Tryd.prog 17 #[.string s] (grow (redrawn W d) os) fun e w'' => e = .returned (.string (baseS s)) ∧ ∃ p : Regrown, w'' = grow (redrawn W p.d) p.os) := Lib.hid (fun W h d os => Calls.regrown_of (base_any hd s _ hs (tab_below h (below_regrown W d os))))
  have HC : Hid (∀ (W : World) (d : Nat) (os : Array Obj), Calls Tryd.prog 18 #[.string s] (grow (redrawn W d) os) fun e w'' => e = .returned (.string (baseS s)) ∧ ∃ p : Regrown, w'' = grow (redrawn W p.d) p.os) := Lib.hid (fun W d os => Calls.regrown_of (rbase_any s _ hs))
  have HW : Hid (∀ (W : World) (h : Tab W) (d : Nat) (os : Array Obj), Calls Tryd.prog 12 #[] (grow (redrawn W d) os) fun e w'' => e = .returned (.bool true) ∧ ∃ p : Regrown, w'' = grow (redrawn W p.d) p.os) := Lib.hid (fun W h d os => Calls.regrown_of (works_any hd he _ (tab_below h (below_regrown W d os))))
  have heq : Hid (∀ w, (binOp .eql 28 (readN s).val (readN s).val).run Tryd.prog w = .ok (.bool true) w) := Lib.hid (fun w => by
    have := he.eql (readN s) (readN s) w
    rw [show sameB (readN s) (readN s) = true from by unfold sameB; simp] at this
    exact this)
  have hgd := he.guard
  have Htab := Lib.hid htab
  generalize readN s = d at *
  generalize readE s = re at *
  generalize baseS s = bs at *
  generalize objS s = o at *
  generalize objN s = on at *
  generalize objB s = ob at *
  obtain ⟨kind, fn, copy, name, n, cell⟩ := d
  unfold Nd.val Nd.cells at Hr Hq HO heq
  have hbb : decide (300 < (s.size : Int)) = false := decide_eq_false (by omega)
  have heqq := heq.out
  clear htab hd he heq
  go_enter Tryd.func4, Tryd.ntmps4
  go_wp2_with fail
  refine (Hr.out _ Htab.out).mono ?_
  rintro e w1 ⟨rfl, b1⟩
  have hb2 : Below w.heap.size w (w1.alloc (.cells #[.int .i64 kind, .string fn, .int .i64 copy, .string name, .int .i64 n, .int .i64 cell] 28)) := Below.alloc b1 b1.size _
  have s2 : Six ⟨kind, fn, copy, name, n, cell⟩ w1.heap.size (w1.alloc (.cells #[.int .i64 kind, .string fn, .int .i64 copy, .string name, .int .i64 n, .int .i64 cell] 28)) := Six.new _ _ _
  clear b1 Hr
  go_wp2_with fail
  refine (Hq.out _).mono ?_
  rintro e w3 ⟨rfl, b3⟩
  have hb3 := below_on hb2 b3
  have s3 := s2.on b3
  have hb4 : Below w.heap.size w (w3.alloc (.cells #[.int .i64 kind, .string fn, .int .i64 copy, .string name, .int .i64 n, .int .i64 cell] 23)) := Below.alloc hb3 hb3.size _
  have s4 := Lib.hid (s3.on (Below.alloc (Below.refl _ _) (Nat.le_refl _) (.cells #[.int .i64 kind, .string fn, .int .i64 copy, .string name, .int .i64 n, .int .i64 cell] 23)))
  have t4 : Six ⟨kind, fn, copy, name, n, cell⟩ w3.heap.size (w3.alloc (.cells #[.int .i64 kind, .string fn, .int .i64 copy, .string name, .int .i64 n, .int .i64 cell] 23)) := Six.new _ _ _
  clear b3 hb2 hb3 s2 s3 Hq
  generalize w1.heap.size = g1 at *
  go_wp2_with fail
  refine (Ho.out _ (tab_below Htab.out hb4)).mono ?_
  rintro e w5 ⟨rfl, b5⟩
  have hb5 := below_on hb4 b5
  have s5 := Lib.hid (s4.out.on b5)
  have t5 := Lib.hid (t4.on b5)
  clear b5 hb4 s4 t4 Ho
  generalize w3.heap.size = g2 at *
  go_wp2_with fail
  refine (Hp.out _).mono ?_
  rintro e w6 ⟨rfl, b6⟩
  have hb6 := below_on hb5 b6
  obtain ⟨k0, k1, k2, k3, k4, k5⟩ := s5.out.on b6
  obtain ⟨m0, m1, m2, m3, m4, m5⟩ := t5.out.on b6
  have k0 := cell_regrown k0
  have k1 := cell_regrown k1
  have k2 := cell_regrown k2
  have k3 := cell_regrown k3
  have k4 := cell_regrown k4
  have k5 := cell_regrown k5
  have m0 := cell_regrown m0
  have m1 := cell_regrown m1
  have m2 := cell_regrown m2
  have m3 := cell_regrown m3
  have m4 := cell_regrown m4
  have m5 := cell_regrown m5
  have HB6 := Lib.hid (HB.out w6 (tab_below Htab.out hb6))
  have HW6 := Lib.hid (HW.out w6 (tab_below Htab.out hb6))
  clear b6 hb5 s5 t5 Hp HB HW
  have hx1 : (bs.toList == bs.toList) = true := by simp
  have hx2 : (o.toList == o.toList) = true := by simp
  go_wp2_with fail
  refine wp_region_quiet_below (by kernel_rfl) (by kernel_rfl) ?_
  repeat (quiet_step (first | exact HO.out _ _ _ | exact HB6.out _ _ | exact HC.out _ _ _ | exact HW6.out _ _))
  refine wpQuiet_nil ?_
  intro _ hw'
  obtain ⟨⟨dq, osq⟩, hw''⟩ := hw'
  subst hw''
  have hbq := below_on hb6 (below_regrown w6 dq osq)
  go_wp2_with fail
  go_ret
  exact ⟨rfl, hbq⟩

theorem law_reads (hd : Held) (he : HeldE) (s : ByteArray) (w : World) (hs : s.size ≤ maxLen) (htab : Tab w) : Calls Tryd.prog 4 #[.string s] w (WorksPost w) := by
  by_cases hb : 300 < s.size
  · exact law_reads_big s w hb
  · exact law_reads_small hd he s w hs htab hb
end Go.Proofs.YtenohenkedofkabDoor.nm
