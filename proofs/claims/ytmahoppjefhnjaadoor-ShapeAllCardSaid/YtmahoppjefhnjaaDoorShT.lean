/-
  Shape: the closure of Cells at an array.
-/
import Derived.Test.YtmahoppjefhnjaaDoorShR
import Derived.Deep.RegionHeld3
namespace Go.Proofs.YtmahoppjefhnjaaDoor.sh
open Go.RowKit Go.Sort Go.Proofs.YtmahoppjefhnjaaDoor.mem

set_option maxRecDepth 100000 in
set_option maxHeartbeats 2000000 in
theorem put_arr (w0 w : World) (n q : Nat) (A : Option Addr) (cap : Nat) (ss : List St) (name : ByteArray) (num : Int) (E : Ty) (v0 v1 v2 v3 : Value) (h : Arg w n q A ss (.mk 4 name num [E]) v0 v1 v2 v3) (f : Nat) (m : Nat) (hm4 : 4 < m) (hdp : deepB m E = false)
    (g1 g2 g0 gp : Nat) (KI0 : ∀ (T : Ty) (v0 v1 v2 v3 : Value) (w : World) (x : Pk) (M : Option Addr) (mc : Nat), Arg w n n A ss T v0 v1 v2 v3 → faultC ss f T = 0 → LC w A cap ss g1 g2 g0 gp x M mc → x.1.length + 9 ^ f ≤ 1000000 → x.2.length + 9 ^ f ≤ 1000000 → (∃ m, f + 3 < m ∧ deepB m T = false) → TBs w0 w (g1 :: g2 :: blk M) →
      Calls Tryd.prog 57 #[.agg #[v0, v1, v2, v3], .pointer (some ⟨g1, 0, none⟩), .pointer (some ⟨g2, 0, none⟩), .pointer (some ⟨g0, 0, none⟩), .pointer (some ⟨gp, 0, none⟩)] w (CxPost w A cap ss g1 g2 g0 gp M (putC ss f T x)))
    (hl8 : (withinL ss (.mk 4 name num [E])).length ≤ 8) (hex : ∀ E' ∈ withinL ss (.mk 4 name num [E]), faultC ss f E' = 0 ∧ ∃ m, f + 3 < m ∧ deepB m E' = false)
    (x : Pk) (M : Option Addr) (mc : Nat) (hle : LC w A cap ss g1 g2 g0 gp x M mc) (hn1 : x.1.length + 9 ^ (f + 1) ≤ 1000000) (hn2 : x.2.length + 9 ^ (f + 1) ≤ 1000000) (htb : TBs w0 w (g1 :: g2 :: blk M)) :
    Calls Tryd.prog 57 #[.agg #[v0, v1, v2, v3], .pointer (some ⟨g1, 0, none⟩), .pointer (some ⟨g2, 0, none⟩), .pointer (some ⟨g0, 0, none⟩), .pointer (some ⟨gp, 0, none⟩)] w (CxPost w A cap ss g1 g2 g0 gp M (putC ss (f + 1) (.mk 4 name num [E]) x)) := by
  obtain ⟨P, ms⟩ := x
  obtain ⟨TE, hTE⟩ : ∃ TE, [91, 93] ++ txt 4 E = TE := ⟨_, rfl⟩
  have hst : putStep (.mk 4 name num [E]) (P, ms) = (P, ms ++ [((P.length : Int), TE)]) := by
    rw [← hTE]
    unfold putStep
    rw [if_neg (show ¬ (Ty.mk 4 name num [E]).kind = 1 by simp [Ty.kind]), if_neg (show ¬ (Ty.mk 4 name num [E]).kind = 2 by simp [Ty.kind]), if_neg (show ¬ (Ty.mk 4 name num [E]).kind = 3 by simp [Ty.kind]), if_pos (show (Ty.mk 4 name num [E]).kind = 4 from rfl)]
    rfl
  obtain ⟨R, hR⟩ : ∃ R, putC ss (f + 1) (.mk 4 name num [E]) (P, ms) = R := ⟨_, rfl⟩
  rw [hR]
  unfold putC at hR
  rw [hst] at hR
  have HR := Lib.hid hR
  have h9 : 9 ^ f * (withinL ss (.mk 4 name num [E])).length ≤ 9 ^ f * 8 := Nat.mul_le_mul (Nat.le_refl _) hl8
  have h1 : 1 ≤ 9 ^ f := Nat.pow_pos (by omega)
  have h2 : 9 ^ (f + 1) = 9 ^ f * 9 := rfl
  simp only at hn1 hn2
  have N1 : Hid (P.length + 9 ^ f * (withinL ss (.mk 4 name num [E])).length ≤ 1000000) := Lib.hid (by omega)
  have N2 : Hid ((ms ++ [((P.length : Int), TE)]).length + 9 ^ f * (withinL ss (.mk 4 name num [E])).length ≤ 1000000) := Lib.hid (by rw [List.length_append, List.length_singleton]; omega)
  have hP : P.length ≤ 1000000 := by omega
  have hms : ms.length + 1 ≤ 1000000 := by omega
  have hm := h.hm
  have few := Lib.hid h.few
  have HEX := Lib.hid hex
  have KI := Lib.hid KI0
  clear KI0
  obtain ⟨b, off, cap3, e0, e1', e2, e3, rfl, hbl, j0, j1, j2, j3, hAE⟩ := h.elem
  obtain ⟨A4, cap4, rfl, rfl, rfl, rfl⟩ := hAE.cells
  have KT := Lib.hid (fun w' (hb : Below w.heap.size w w') => sTag_any E n _ _ _ _ w' ((hAE.kept hb).ty) m hm4 hdp (tabS_below htb.tab hb))
  have KW' := Lib.hid (fun w' (ha : Arg w' n q A ss (.mk 4 name num [E]) v0 v1 v2 (.slice (some ⟨b, off, none⟩) 1 cap3)) => ha.within (cap := cap))
  unfold WiPost at KW'
  unfold CxPost at KI
  unfold TagPost at KT
  rw [hTE] at KT
  clear hst hR h9 h1 h2 hn1 hn2 hl8 hex hTE hAE hm4 hdp
  have HA := Lib.hid h
  have HW := Lib.hid hle
  have HT := Lib.hid htb
  obtain ⟨A2, cap2, rfl, rfl, rfl, hsl⟩ := h.cells
  cases hsl
  simp only [Ty.kind, Ty.name, Ty.num, Ty.of] at *
  have BA : Below w.heap.size w (w.alloc (.cells #[.int .i64 4, .string name, .int .i64 num, .slice (some ⟨b, off, none⟩) 1 cap3] 51)) := (Below.refl _ _).alloc (Nat.le_refl _) _
  have BAH := Lib.hid BA
  have L1 := Lib.hid (hle.kept BA)
  have BX : Hid (Box (w.alloc (.cells #[.int .i64 4, .string name, .int .i64 num, .slice (some ⟨b, off, none⟩) 1 cap3] 51)) w.heap.size 51 #[.int .i64 4, .string name, .int .i64 num, .slice (some ⟨b, off, none⟩) 1 cap3]) := Lib.hid (Box.new w _ _)
  have HJ : Hid (∀ w', Below w.heap.size w w' → w'.cell? ⟨b, off, none⟩ = some (.int .i64 E.kind) ∧ w'.cell? ⟨b, off + 1, none⟩ = some (.string E.name) ∧ w'.cell? ⟨b, off + 2, none⟩ = some (.int .i64 E.num) ∧ w'.cell? ⟨b, off + 3, none⟩ = some (.slice A4 E.of.length cap4)) :=
    Lib.hid (fun w' hb => ⟨(hb.cell (p := ⟨b, off, none⟩) hbl).trans j0, (hb.cell (p := ⟨b, off + 1, none⟩) hbl).trans j1, (hb.cell (p := ⟨b, off + 2, none⟩) hbl).trans j2, (hb.cell (p := ⟨b, off + 3, none⟩) hbl).trans j3⟩)
  have hng : b ∉ g2 :: blk M := by
    have := hle.noSl.out j3 (by omega)
    simp only [List.mem_cons, not_or] at this ⊢
    exact ⟨this.2.1, this.2.2⟩
  have hnw : w.heap.size ∉ g2 :: blk M := by
    have l2 := hle.b2.lt
    intro hg
    simp only [List.mem_cons] at hg
    rcases hg with h1 | h1
    · omega
    · have := hle.sg.lt _ h1
      omega
  have hn1 : g1 ∉ g2 :: blk M := by
    intro hg
    simp only [List.mem_cons] at hg
    rcases hg with h1 | h1
    · exact hle.ne.1 h1
    · exact (hle.ap _ h1).1 rfl
  have hb1 : b < (w.alloc (.cells #[.int .i64 4, .string name, .int .i64 num, .slice (some ⟨b, off, none⟩) 1 cap3] 51)).heap.size := by rw [World.size_alloc]; omega
  obtain ⟨i0, hi0, hz0, hz1, hz2⟩ := info_parts info_mark
  have Hi := Lib.hid hi0
  have Hz0 := Lib.hid hz0
  have Hz1 := Lib.hid hz1
  have Hz2 := Lib.hid hz2
  clear hi0 hz0 hz1 hz2 h hle htb BA j0 j1 j2 j3
  go_enter Tryd.func57, Tryd.ntmps57
  go_upto_region 9 with fail
  generalize (w.alloc (.cells #[.int .i64 4, .string name, .int .i64 num, .slice (some ⟨b, off, none⟩) 1 cap3] 51)) = w1 at *
  obtain ⟨i0, i1, i2, i3⟩ := HJ.out w1 BAH.out
  have c1 : w1.cell? ⟨g1, 0, none⟩ = some (.string ⟨P.toArray⟩) := L1.out.b1.cell 0
  have c2 : w1.cell? ⟨g2, 0, none⟩ = some (.slice M ms.length mc) := L1.out.b2.cell 0
  have t3 : w1.cell? ⟨w.heap.size, 3, none⟩ = some (.slice (some ⟨b, off, none⟩) 1 cap3) := BX.out.cell 3
  have keep : Hid (∀ w', Fr (g2 :: blk M) w1 w' → w'.cell? ⟨g1, 0, none⟩ = some (.string ⟨P.toArray⟩) ∧ w'.cell? ⟨w.heap.size, 3, none⟩ = some (.slice (some ⟨b, off, none⟩) 1 cap3) ∧ w'.cell? ⟨b, off, none⟩ = some (.int .i64 E.kind) ∧ w'.cell? ⟨b, off + 1, none⟩ = some (.string E.name) ∧ w'.cell? ⟨b, off + 2, none⟩ = some (.int .i64 E.num) ∧ w'.cell? ⟨b, off + 3, none⟩ = some (.slice A4 E.of.length cap4)) :=
    Lib.hid (fun w' hf => ⟨(L1.out.b1.kept hf hn1).cell 0, (BX.out.kept hf hnw).cell 3, (cell_frs hf hb1 hng).trans i0, (cell_frs hf hb1 hng).trans i1, (cell_frs hf hb1 hng).trans i2, (cell_frs hf hb1 hng).trans i3⟩)
  have KT1 := Lib.hid (KT.out w1.drew BAH.out.drew)
  have FA : Hid (∀ w2 o, Below w1.drew.heap.size w1.drew w2 → Fr (g2 :: blk M) w1 w2 ∧ Fr (g2 :: blk M) w1 (w2.alloc o) ∧ Below w.heap.size w (w2.alloc o) ∧ w2.cell? ⟨g2, 0, none⟩ = some (.slice M ms.length mc) ∧ (w2.alloc o).cell? ⟨g2, 0, none⟩ = some (.slice M ms.length mc) ∧ Box (w2.alloc o) w.heap.size 51 #[.int .i64 4, .string name, .int .i64 num, .slice (some ⟨b, off, none⟩) 1 cap3]) :=
    Lib.hid (fun w2 o hb => by
      have h1 : Below w1.heap.size w1 w2 := ((Below.refl w1.heap.size w1).drew).trans (hb.mono (Nat.le_refl _))
      have h2 : Below w1.heap.size w1 (w2.alloc o) := h1.alloc h1.size o
      exact ⟨Fr.of_below h1 _, Fr.of_below h2 _, BAH.out.trans (h2.mono BAH.out.size), (L1.out.kept h1).b2.cell 0, (L1.out.kept h2).b2.cell 0, BX.out.kept (Fr.of_below h2 []) (by simp)⟩)
  have SGA : Hid (∀ w2 o, Below w1.drew.heap.size w1.drew w2 → Sg 2 (w2.alloc o) 64 M mc ms.length (marksV ms)) := Lib.hid (fun w2 o hb => (HW.out.kept (FA.out w2 o hb).2.2.1).sg)
  clear HJ KT hng hnw hn1 hb1
  refine wp_region_held_drew (S := (fun w' => w'.cell? ⟨g1, 0, none⟩ = some (.string ⟨P.toArray⟩) ∧ w'.cell? ⟨w.heap.size, 3, none⟩ = some (.slice (some ⟨b, off, none⟩) 1 cap3) ∧ w'.cell? ⟨b, off, none⟩ = some (.int .i64 E.kind) ∧ w'.cell? ⟨b, off + 1, none⟩ = some (.string E.name) ∧ w'.cell? ⟨b, off + 2, none⟩ = some (.int .i64 E.num) ∧ w'.cell? ⟨b, off + 3, none⟩ = some (.slice A4 E.of.length cap4))) (by kernel_rfl) ⟨c1, t3, i0, i1, i2, i3⟩ (fun hS => ?_)
  refine wpAnyH_take (i := 1) (v := .string ⟨P.toArray⟩) rfl (by kernel_rfl) (by kernel_rfl) (by kernel_rfl) (fun _ _ _ h => h) (Or.inl ⟨by kernel_rfl, ?_⟩) hS ?_
  · intro W' hSw
    obtain ⟨q0, q1, q2, q3, q4, q5⟩ := hSw
    go_simp
  change wpAnyH _ _ _ _ _ _ _ (Act.put _ (some 31) _) _
  try simp only [Act.put, List.setIfInBounds_toArray, List.set_cons_zero, List.set_cons_succ]
  refine wpAnyH_take (i := 2) (v := .int .i64 P.length) rfl (by kernel_rfl) (by kernel_rfl) (by kernel_rfl) (fun _ _ _ h => h) (Or.inl ⟨by kernel_rfl, ?_⟩) hS ?_
  · intro W' hSw
    obtain ⟨q0, q1, q2, q3, q4, q5⟩ := hSw
    go_simp
  change wpAnyH _ _ _ _ _ _ _ (Act.put _ (some 32) _) _
  try simp only [Act.put, List.setIfInBounds_toArray, List.set_cons_zero, List.set_cons_succ]
  refine wpAnyH_take (i := 3) (v := .pointer (some ⟨w.heap.size, 3, none⟩)) rfl (by kernel_rfl) (by kernel_rfl) (by kernel_rfl) (fun _ _ _ h => h) (Or.inl ⟨by kernel_rfl, ?_⟩) hS ?_
  · intro W' hSw
    obtain ⟨q0, q1, q2, q3, q4, q5⟩ := hSw
    go_simp
  change wpAnyH _ _ _ _ _ _ _ (Act.put _ (some 33) _) _
  try simp only [Act.put, List.setIfInBounds_toArray, List.set_cons_zero, List.set_cons_succ]
  refine wpAnyH_take (i := 4) (v := .slice (some ⟨b, off, none⟩) 1 cap3) rfl (by kernel_rfl) (by kernel_rfl) (by kernel_rfl) (fun _ _ _ h => h) (Or.inl ⟨by kernel_rfl, ?_⟩) hS ?_
  · intro W' hSw
    obtain ⟨q0, q1, q2, q3, q4, q5⟩ := hSw
    go_simp
  change wpAnyH _ _ _ _ _ _ _ (Act.put _ (some 34) _) _
  try simp only [Act.put, List.setIfInBounds_toArray, List.set_cons_zero, List.set_cons_succ]
  refine wpAnyH_take (i := 5) (v := .pointer (some ⟨b, off, none⟩)) rfl (by kernel_rfl) (by kernel_rfl) (by kernel_rfl) (fun _ _ _ h => h) (Or.inl ⟨by kernel_rfl, ?_⟩) hS ?_
  · intro W' hSw
    obtain ⟨q0, q1, q2, q3, q4, q5⟩ := hSw
    go_simp
  change wpAnyH _ _ _ _ _ _ _ (Act.put _ (some 35) _) _
  try simp only [Act.put, List.setIfInBounds_toArray, List.set_cons_zero, List.set_cons_succ]
  refine wpAnyH_take (i := 6) (v := .agg #[.int .i64 E.kind, .string E.name, .int .i64 E.num, .slice A4 E.of.length cap4]) rfl (by kernel_rfl) (by kernel_rfl) (by kernel_rfl) (fun _ _ _ h => h) (Or.inl ⟨by kernel_rfl, ?_⟩) hS ?_
  · intro W' hSw
    obtain ⟨q0, q1, q2, q3, q4, q5⟩ := hSw
    go_simp
  change wpAnyH _ _ _ _ _ _ _ (Act.put _ (some 36) _) _
  try simp only [Act.put, List.setIfInBounds_toArray, List.set_cons_zero, List.set_cons_succ]
  refine wpAnyH_ready (rs := [0, 7]) (by kernel_rfl) (by simp) ?_
  refine AllReadyH.cons rfl (fun K hK => ?_) (AllReadyH.cons rfl (fun K hK => ?_) AllReadyH.nil)
  · go_simp
    refine hK.out _ _ hS (fun _ => ?_)
    clear hK K
    try change wpAnyH _ _ _ _ _ _ _ (Act.put _ (some 30) _) _
    try simp only [Act.put, List.setIfInBounds_toArray, List.set_cons_zero, List.set_cons_succ]
    refine wpAnyH_ready (rs := [7]) (by kernel_rfl) (by simp) ?_
    refine AllReadyH.cons rfl (fun K hK => ?_) AllReadyH.nil
    go_simp
    refine KT1.out.mono ?_
    rintro e w2 ⟨rfl, b2⟩
    have B2 := Lib.hid b2
    have fA := Lib.hid (FA.out w2 (.cells #[] 0) b2).1
    have cA := (FA.out w2 (.cells #[] 0) b2).2.2.2.1
    have cB : (w2.alloc (.cells #[.int .i64 P.length, .string ⟨TE.toArray⟩] 64)).cell? ⟨g2, 0, none⟩ = some (.slice M ms.length mc) := (FA.out w2 _ b2).2.2.2.2.1
    clear b2 hS
    have hS := keep.out _ fA.out
    refine hK.out _ _ hS (fun _ => ?_)
    clear hK K
    try change wpAnyH _ _ _ _ _ _ _ (Act.put _ (some 37) _) _
    try simp only [Act.put, List.setIfInBounds_toArray, List.set_cons_zero, List.set_cons_succ]
    refine wpAnyH_take (i := 8) (v := .agg #[.int .i64 P.length, .string ⟨TE.toArray⟩]) rfl (by kernel_rfl) (by kernel_rfl) (by kernel_rfl) (fun _ _ _ h => h) (Or.inl ⟨by kernel_rfl, ?_⟩) hS ?_
    · intro W' hSw
      obtain ⟨q0, q1, q2, q3, q4, q5⟩ := hSw
      go_simp
    change wpAnyH _ _ _ _ _ _ _ (Act.put _ (some 38) _) _
    try simp only [Act.put, List.setIfInBounds_toArray, List.set_cons_zero, List.set_cons_succ]
    refine wpAnyH_ready (rs := [9]) (by kernel_rfl) (by simp) ?_
    refine AllReadyH.cons rfl (fun K hK => ?_) AllReadyH.nil
    go_simp
    clear hS
    have hS := keep.out (w2.alloc (.cells #[.int .i64 P.length, .string ⟨TE.toArray⟩] 64)) (fA.out.alloc _)
    refine hK.out _ _ hS (fun _ => ?_)
    clear hK K
    try change wpAnyH _ _ _ _ _ _ _ (Act.put _ (some 39) _) _
    try simp only [Act.put, List.setIfInBounds_toArray, List.set_cons_zero, List.set_cons_succ]
    refine wpAnyH_ready (rs := [10]) (by kernel_rfl) (by simp) ?_
    refine AllReadyH.cons rfl (fun K hK => ?_) AllReadyH.nil
    refine step_rowAll NotSl (us := [.int .i64 P.length, .string ⟨TE.toArray⟩]) rfl _ _ _ rfl (SGA.out _ _ B2.out) Tryd.underlying56 Hi.out Hz0.out Hz1.out Hz2.out rfl rfl rfl rfl (two_cells0 _ _ _ _) (two_one _ _) (by omega) (by omega) (HW.out.kept (FA.out _ _ B2.out).2.2.1).ns (notSl_marks _) (two_not _ _) mark_zero ?_
    intro M3 mc3 w3 hs3 f3 b3 ha3
    have fS : Hid (Fr (g2 :: blk M) w1 w3) := Lib.hid ((FA.out _ _ B2.out).2.1.trans f3 (fun q hq => Or.inl hq) (fun q hq => Or.inl (by simp [hq])))
    have PA3 : Hid (PA w (w3.setCell ⟨g2, 0, none⟩ (.slice M3 (ms.length + 1) mc3)) w0 n q A cap ss g1 g2 g0 gp M (.mk 4 name num [E]) (.int .i64 4) (.string name) (.int .i64 num) (.slice (some ⟨b, off, none⟩) 1 cap3) (P, ms ++ [((P.length : Int), TE)]) M3 mc3) := Lib.hid (pa_mark HW.out HT.out (FA.out _ _ B2.out).2.2.1 HA.out (FA.out _ _ B2.out).2.2.2.2.2 _ _ hs3 f3 b3 ha3)
    have K2 := ((HW.out.kept (FA.out _ _ B2.out).2.2.1).b2.kept f3 (fun hg => (HW.out.ap _ hg).2.1 rfl))
    have k3 : w3.cell? ⟨g2, 0, none⟩ = some (.slice M ms.length mc) := K2.cell 0
    have y3 : w3.frozen? ⟨g2, 0, none⟩ = false := K2.free 0
    clear hs3 f3 b3 ha3 K2 hS
    have hS := keep.out _ fS.out
    refine hK.out _ _ hS (fun _ => ?_)
    clear hK K
    try change wpAnyH _ _ _ _ _ _ _ (Act.put _ (some 40) _) _
    try simp only [Act.put, List.setIfInBounds_toArray, List.set_cons_zero, List.set_cons_succ]
    refine wpAnyH_ready (rs := [11]) (by kernel_rfl) (by simp) ?_
    refine AllReadyH.cons rfl (fun K hK => ?_) AllReadyH.nil
    go_simp
    refine hK.out _ _ (keep.out _ (fS.out.setCell (Or.inl (by simp)) _)) (fun _ => ?_)
    clear hK K hS
    refine wpAnyH_done (by kernel_rfl) ?_ _
    have i0 : (w3.setCell ⟨g2, 0, none⟩ (.slice M3 (ms.length + 1) mc3)).cell? ⟨g0, 0, none⟩ = some (.slice A ss.length cap) := PA3.out.lc.b0.cell 0
    have u0 : (w3.setCell ⟨g2, 0, none⟩ (.slice M3 (ms.length + 1) mc3)).cell? ⟨w.heap.size, 0, none⟩ = some (.int .i64 4) := PA3.out.box.cell 0
    have u1 : (w3.setCell ⟨g2, 0, none⟩ (.slice M3 (ms.length + 1) mc3)).cell? ⟨w.heap.size, 1, none⟩ = some (.string name) := PA3.out.box.cell 1
    have u2 : (w3.setCell ⟨g2, 0, none⟩ (.slice M3 (ms.length + 1) mc3)).cell? ⟨w.heap.size, 2, none⟩ = some (.int .i64 num) := PA3.out.box.cell 2
    have u3 : (w3.setCell ⟨g2, 0, none⟩ (.slice M3 (ms.length + 1) mc3)).cell? ⟨w.heap.size, 3, none⟩ = some (.slice (some ⟨b, off, none⟩) 1 cap3) := PA3.out.box.cell 3
    clear keep KT1 FA SGA c1 c2 t3 L1 BX
    go_wp2_with fail
    refine (KW'.out _ PA3.out.arg).mono ?_
    rintro e w5 ⟨B, cb, rfl, b5, hty, hLm⟩
    have D0 := Lib.hid (PL.of PA3.out b5 hty HR.out N1.out N2.out)
    clear PA3 KW' b5 hty HR N1 N2 HA HT HW
    generalize withinL ss (.mk 4 name num [E]) = L at *
    go_wp2_with fail
    go_loopw [45] (fun i wr => ∃ j : Nat, j ≤ L.length ∧ i = .int .i64 j ∧ ∃ y M' mc', Hid (PL w wr w0 n A cap ss g1 g2 g0 gp M f B L j y M' mc' R)) (fun i _ => L.length - (intOf i).toNat)
    case atStart => exact ⟨0, by omega, rfl, _, _, _, D0⟩
    case round =>
      obtain ⟨j, hj, rfl, y, M', mc', hpl⟩ := hrel
      rename_i wr
      by_cases hjl : j < L.length
      · have e1 : decide ((j : Int) < (L.length : Int)) = true := decide_eq_true (by omega)
        obtain ⟨bb, off, rfl, hbl⟩ := hpl.out.ty.1 (by omega)
        obtain ⟨d0, d1, d2, d3, k0, k1, k2, k3', hTy⟩ := hpl.out.ty.2 j hjl bb off rfl
        have hTy2 := hTy
        obtain ⟨hz, hdm⟩ := HEX.out _ (List.getElem_mem hjl)
        have BAr := Lib.hid (fun o => (Below.refl wr.heap.size wr).alloc (Nat.le_refl _) o)
        have HP := Lib.hid (fun o => hpl.out.kept (BAr.out o))
        obtain ⟨tp, hgp⟩ := hpl.out.lc.bp
        have HGP := Lib.hid (fun o => (hgp.kept (Fr.of_below (BAr.out o) []) (by simp)).cell 0)
        have hK1 : y.1.length + 9 ^ f ≤ 1000000 ∧ y.2.length + 9 ^ f ≤ 1000000 := by
          have n1 := hpl.out.n1
          have n2 := hpl.out.n2
          have hK : 9 ^ f * (L.length - j) = 9 ^ f * (L.length - (j + 1)) + 9 ^ f := by
            rw [show L.length - j = (L.length - (j + 1)) + 1 by omega, Nat.mul_add, Nat.mul_one]
          omega
        have KD := Lib.hid (fun o => KI.out L[j] d0 d1 d2 d3 _ y M' mc' (⟨(HP.out o).at_, hm, few.out, hTy.kept (BAr.out o), Nat.le_refl _⟩ : Arg (wr.alloc o) n n A ss L[j] d0 d1 d2 d3) hz (HP.out o).lc hK1.1 hK1.2 hdm (HP.out o).tb)
        have NX := Lib.hid (fun o w2 M2 mc2 hl hf hb => (HP.out o).next (w2 := w2) (M2 := M2) (mc2 := mc2) hjl hz hl hf hb)
        clear hTy hz hdm hK1 hpl hgp HP
        generalize putC ss f L[j] y = y2 at *
        generalize L[j] = E9 at *
        cases n with
        | zero => exact hTy2.elim
        | succ n =>
        obtain ⟨rfl, _, rfl, _, rfl, _, A3, cap3, rfl, _, _, _⟩ := hTy2
        have gf : (wr.alloc (.cells #[.int .i64 E9.kind, .string E9.name, .int .i64 E9.num, .slice A3 E9.of.length cap3] 51)).cell? ⟨gp, 0, none⟩ = some (.func (.func 57) #[] #[.pointer (some ⟨g1, 0, none⟩), .pointer (some ⟨g2, 0, none⟩), .pointer (some ⟨g0, 0, none⟩), .pointer (some ⟨gp, 0, none⟩)]) := HGP.out _
        have KDE := Lib.hid (KD.out (.cells #[.int .i64 E9.kind, .string E9.name, .int .i64 E9.num, .slice A3 E9.of.length cap3] 51))
        have NXE := Lib.hid (NX.out (.cells #[.int .i64 E9.kind, .string E9.name, .int .i64 E9.num, .slice A3 E9.of.length cap3] 51))
        clear KD NX HGP
        go_wp2_with fail
        refine KDE.out.mono ?_
        rintro e w6 ⟨rfl, M6, mc6, hl6, hf6, hb6⟩
        have N6 := Lib.hid (NXE.out _ _ _ hl6 hf6 hb6)
        clear hl6 hf6 hb6 KDE NXE gf k0 k1 k2 k3'
        go_wp2_with fail
        go_roundw
        case rel => exact ⟨j + 1, by omega, by go_num, _, _, _, N6⟩
        case measure => simp [intOf]; omega
      · obtain rfl : j = L.length := by omega
        have e1 : decide ((L.length : Int) < (L.length : Int)) = false := decide_eq_false (by omega)
        have fin := Lib.hid (cxpost_loop hpl.out)
        clear hpl
        go_wp2_with fail
        go_end0
        exact fin.out
  · go_simp
    refine KT1.out.mono ?_
    rintro e w2 ⟨rfl, b2⟩
    have B2 := Lib.hid b2
    have fA := Lib.hid (FA.out w2 (.cells #[] 0) b2).1
    have cA := (FA.out w2 (.cells #[] 0) b2).2.2.2.1
    have cB : (w2.alloc (.cells #[.int .i64 P.length, .string ⟨TE.toArray⟩] 64)).cell? ⟨g2, 0, none⟩ = some (.slice M ms.length mc) := (FA.out w2 _ b2).2.2.2.2.1
    clear b2 hS
    have hS := keep.out _ fA.out
    refine hK.out _ _ hS (fun _ => ?_)
    clear hK K
    try change wpAnyH _ _ _ _ _ _ _ (Act.put _ (some 37) _) _
    try simp only [Act.put, List.setIfInBounds_toArray, List.set_cons_zero, List.set_cons_succ]
    refine wpAnyH_take (i := 8) (v := .agg #[.int .i64 P.length, .string ⟨TE.toArray⟩]) rfl (by kernel_rfl) (by kernel_rfl) (by kernel_rfl) (fun _ _ _ h => h) (Or.inl ⟨by kernel_rfl, ?_⟩) hS ?_
    · intro W' hSw
      obtain ⟨q0, q1, q2, q3, q4, q5⟩ := hSw
      go_simp
    change wpAnyH _ _ _ _ _ _ _ (Act.put _ (some 38) _) _
    try simp only [Act.put, List.setIfInBounds_toArray, List.set_cons_zero, List.set_cons_succ]
    refine wpAnyH_ready (rs := [0, 9]) (by kernel_rfl) (by simp) ?_
    refine AllReadyH.cons rfl (fun K hK => ?_) (AllReadyH.cons rfl (fun K hK => ?_) AllReadyH.nil)
    · go_simp
      refine hK.out _ _ hS (fun _ => ?_)
      clear hK K
      try change wpAnyH _ _ _ _ _ _ _ (Act.put _ (some 30) _) _
      try simp only [Act.put, List.setIfInBounds_toArray, List.set_cons_zero, List.set_cons_succ]
      refine wpAnyH_ready (rs := [9]) (by kernel_rfl) (by simp) ?_
      refine AllReadyH.cons rfl (fun K hK => ?_) AllReadyH.nil
      go_simp
      clear hS
      have hS := keep.out (w2.alloc (.cells #[.int .i64 P.length, .string ⟨TE.toArray⟩] 64)) (fA.out.alloc _)
      refine hK.out _ _ hS (fun _ => ?_)
      clear hK K
      try change wpAnyH _ _ _ _ _ _ _ (Act.put _ (some 39) _) _
      try simp only [Act.put, List.setIfInBounds_toArray, List.set_cons_zero, List.set_cons_succ]
      refine wpAnyH_ready (rs := [10]) (by kernel_rfl) (by simp) ?_
      refine AllReadyH.cons rfl (fun K hK => ?_) AllReadyH.nil
      refine step_rowAll NotSl (us := [.int .i64 P.length, .string ⟨TE.toArray⟩]) rfl _ _ _ rfl (SGA.out _ _ B2.out) Tryd.underlying56 Hi.out Hz0.out Hz1.out Hz2.out rfl rfl rfl rfl (two_cells0 _ _ _ _) (two_one _ _) (by omega) (by omega) (HW.out.kept (FA.out _ _ B2.out).2.2.1).ns (notSl_marks _) (two_not _ _) mark_zero ?_
      intro M3 mc3 w3 hs3 f3 b3 ha3
      have fS : Hid (Fr (g2 :: blk M) w1 w3) := Lib.hid ((FA.out _ _ B2.out).2.1.trans f3 (fun q hq => Or.inl hq) (fun q hq => Or.inl (by simp [hq])))
      have PA3 : Hid (PA w (w3.setCell ⟨g2, 0, none⟩ (.slice M3 (ms.length + 1) mc3)) w0 n q A cap ss g1 g2 g0 gp M (.mk 4 name num [E]) (.int .i64 4) (.string name) (.int .i64 num) (.slice (some ⟨b, off, none⟩) 1 cap3) (P, ms ++ [((P.length : Int), TE)]) M3 mc3) := Lib.hid (pa_mark HW.out HT.out (FA.out _ _ B2.out).2.2.1 HA.out (FA.out _ _ B2.out).2.2.2.2.2 _ _ hs3 f3 b3 ha3)
      have K2 := ((HW.out.kept (FA.out _ _ B2.out).2.2.1).b2.kept f3 (fun hg => (HW.out.ap _ hg).2.1 rfl))
      have k3 : w3.cell? ⟨g2, 0, none⟩ = some (.slice M ms.length mc) := K2.cell 0
      have y3 : w3.frozen? ⟨g2, 0, none⟩ = false := K2.free 0
      clear hs3 f3 b3 ha3 K2 hS
      have hS := keep.out _ fS.out
      refine hK.out _ _ hS (fun _ => ?_)
      clear hK K
      try change wpAnyH _ _ _ _ _ _ _ (Act.put _ (some 40) _) _
      try simp only [Act.put, List.setIfInBounds_toArray, List.set_cons_zero, List.set_cons_succ]
      refine wpAnyH_ready (rs := [11]) (by kernel_rfl) (by simp) ?_
      refine AllReadyH.cons rfl (fun K hK => ?_) AllReadyH.nil
      go_simp
      refine hK.out _ _ (keep.out _ (fS.out.setCell (Or.inl (by simp)) _)) (fun _ => ?_)
      clear hK K hS
      refine wpAnyH_done (by kernel_rfl) ?_ _
      have i0 : (w3.setCell ⟨g2, 0, none⟩ (.slice M3 (ms.length + 1) mc3)).cell? ⟨g0, 0, none⟩ = some (.slice A ss.length cap) := PA3.out.lc.b0.cell 0
      have u0 : (w3.setCell ⟨g2, 0, none⟩ (.slice M3 (ms.length + 1) mc3)).cell? ⟨w.heap.size, 0, none⟩ = some (.int .i64 4) := PA3.out.box.cell 0
      have u1 : (w3.setCell ⟨g2, 0, none⟩ (.slice M3 (ms.length + 1) mc3)).cell? ⟨w.heap.size, 1, none⟩ = some (.string name) := PA3.out.box.cell 1
      have u2 : (w3.setCell ⟨g2, 0, none⟩ (.slice M3 (ms.length + 1) mc3)).cell? ⟨w.heap.size, 2, none⟩ = some (.int .i64 num) := PA3.out.box.cell 2
      have u3 : (w3.setCell ⟨g2, 0, none⟩ (.slice M3 (ms.length + 1) mc3)).cell? ⟨w.heap.size, 3, none⟩ = some (.slice (some ⟨b, off, none⟩) 1 cap3) := PA3.out.box.cell 3
      clear keep KT1 FA SGA c1 c2 t3 L1 BX
      go_wp2_with fail
      refine (KW'.out _ PA3.out.arg).mono ?_
      rintro e w5 ⟨B, cb, rfl, b5, hty, hLm⟩
      have D0 := Lib.hid (PL.of PA3.out b5 hty HR.out N1.out N2.out)
      clear PA3 KW' b5 hty HR N1 N2 HA HT HW
      generalize withinL ss (.mk 4 name num [E]) = L at *
      go_wp2_with fail
      go_loopw [45] (fun i wr => ∃ j : Nat, j ≤ L.length ∧ i = .int .i64 j ∧ ∃ y M' mc', Hid (PL w wr w0 n A cap ss g1 g2 g0 gp M f B L j y M' mc' R)) (fun i _ => L.length - (intOf i).toNat)
      case atStart => exact ⟨0, by omega, rfl, _, _, _, D0⟩
      case round =>
        obtain ⟨j, hj, rfl, y, M', mc', hpl⟩ := hrel
        rename_i wr
        by_cases hjl : j < L.length
        · have e1 : decide ((j : Int) < (L.length : Int)) = true := decide_eq_true (by omega)
          obtain ⟨bb, off, rfl, hbl⟩ := hpl.out.ty.1 (by omega)
          obtain ⟨d0, d1, d2, d3, k0, k1, k2, k3', hTy⟩ := hpl.out.ty.2 j hjl bb off rfl
          have hTy2 := hTy
          obtain ⟨hz, hdm⟩ := HEX.out _ (List.getElem_mem hjl)
          have BAr := Lib.hid (fun o => (Below.refl wr.heap.size wr).alloc (Nat.le_refl _) o)
          have HP := Lib.hid (fun o => hpl.out.kept (BAr.out o))
          obtain ⟨tp, hgp⟩ := hpl.out.lc.bp
          have HGP := Lib.hid (fun o => (hgp.kept (Fr.of_below (BAr.out o) []) (by simp)).cell 0)
          have hK1 : y.1.length + 9 ^ f ≤ 1000000 ∧ y.2.length + 9 ^ f ≤ 1000000 := by
            have n1 := hpl.out.n1
            have n2 := hpl.out.n2
            have hK : 9 ^ f * (L.length - j) = 9 ^ f * (L.length - (j + 1)) + 9 ^ f := by
              rw [show L.length - j = (L.length - (j + 1)) + 1 by omega, Nat.mul_add, Nat.mul_one]
            omega
          have KD := Lib.hid (fun o => KI.out L[j] d0 d1 d2 d3 _ y M' mc' (⟨(HP.out o).at_, hm, few.out, hTy.kept (BAr.out o), Nat.le_refl _⟩ : Arg (wr.alloc o) n n A ss L[j] d0 d1 d2 d3) hz (HP.out o).lc hK1.1 hK1.2 hdm (HP.out o).tb)
          have NX := Lib.hid (fun o w2 M2 mc2 hl hf hb => (HP.out o).next (w2 := w2) (M2 := M2) (mc2 := mc2) hjl hz hl hf hb)
          clear hTy hz hdm hK1 hpl hgp HP
          generalize putC ss f L[j] y = y2 at *
          generalize L[j] = E9 at *
          cases n with
          | zero => exact hTy2.elim
          | succ n =>
          obtain ⟨rfl, _, rfl, _, rfl, _, A3, cap3, rfl, _, _, _⟩ := hTy2
          have gf : (wr.alloc (.cells #[.int .i64 E9.kind, .string E9.name, .int .i64 E9.num, .slice A3 E9.of.length cap3] 51)).cell? ⟨gp, 0, none⟩ = some (.func (.func 57) #[] #[.pointer (some ⟨g1, 0, none⟩), .pointer (some ⟨g2, 0, none⟩), .pointer (some ⟨g0, 0, none⟩), .pointer (some ⟨gp, 0, none⟩)]) := HGP.out _
          have KDE := Lib.hid (KD.out (.cells #[.int .i64 E9.kind, .string E9.name, .int .i64 E9.num, .slice A3 E9.of.length cap3] 51))
          have NXE := Lib.hid (NX.out (.cells #[.int .i64 E9.kind, .string E9.name, .int .i64 E9.num, .slice A3 E9.of.length cap3] 51))
          clear KD NX HGP
          go_wp2_with fail
          refine KDE.out.mono ?_
          rintro e w6 ⟨rfl, M6, mc6, hl6, hf6, hb6⟩
          have N6 := Lib.hid (NXE.out _ _ _ hl6 hf6 hb6)
          clear hl6 hf6 hb6 KDE NXE gf k0 k1 k2 k3'
          go_wp2_with fail
          go_roundw
          case rel => exact ⟨j + 1, by omega, by go_num, _, _, _, N6⟩
          case measure => simp [intOf]; omega
        · obtain rfl : j = L.length := by omega
          have e1 : decide ((L.length : Int) < (L.length : Int)) = false := decide_eq_false (by omega)
          have fin := Lib.hid (cxpost_loop hpl.out)
          clear hpl
          go_wp2_with fail
          go_end0
          exact fin.out
    · go_simp
      clear hS
      have hS := keep.out (w2.alloc (.cells #[.int .i64 P.length, .string ⟨TE.toArray⟩] 64)) (fA.out.alloc _)
      refine hK.out _ _ hS (fun _ => ?_)
      clear hK K
      try change wpAnyH _ _ _ _ _ _ _ (Act.put _ (some 39) _) _
      try simp only [Act.put, List.setIfInBounds_toArray, List.set_cons_zero, List.set_cons_succ]
      refine wpAnyH_ready (rs := [0]) (by kernel_rfl) (by simp) ?_
      refine AllReadyH.cons rfl (fun K hK => ?_) AllReadyH.nil
      go_simp
      refine hK.out _ _ hS (fun _ => ?_)
      clear hK K
      try change wpAnyH _ _ _ _ _ _ _ (Act.put _ (some 30) _) _
      try simp only [Act.put, List.setIfInBounds_toArray, List.set_cons_zero, List.set_cons_succ]
      refine wpAnyH_ready (rs := [10]) (by kernel_rfl) (by simp) ?_
      refine AllReadyH.cons rfl (fun K hK => ?_) AllReadyH.nil
      refine step_rowAll NotSl (us := [.int .i64 P.length, .string ⟨TE.toArray⟩]) rfl _ _ _ rfl (SGA.out _ _ B2.out) Tryd.underlying56 Hi.out Hz0.out Hz1.out Hz2.out rfl rfl rfl rfl (two_cells0 _ _ _ _) (two_one _ _) (by omega) (by omega) (HW.out.kept (FA.out _ _ B2.out).2.2.1).ns (notSl_marks _) (two_not _ _) mark_zero ?_
      intro M3 mc3 w3 hs3 f3 b3 ha3
      have fS : Hid (Fr (g2 :: blk M) w1 w3) := Lib.hid ((FA.out _ _ B2.out).2.1.trans f3 (fun q hq => Or.inl hq) (fun q hq => Or.inl (by simp [hq])))
      have PA3 : Hid (PA w (w3.setCell ⟨g2, 0, none⟩ (.slice M3 (ms.length + 1) mc3)) w0 n q A cap ss g1 g2 g0 gp M (.mk 4 name num [E]) (.int .i64 4) (.string name) (.int .i64 num) (.slice (some ⟨b, off, none⟩) 1 cap3) (P, ms ++ [((P.length : Int), TE)]) M3 mc3) := Lib.hid (pa_mark HW.out HT.out (FA.out _ _ B2.out).2.2.1 HA.out (FA.out _ _ B2.out).2.2.2.2.2 _ _ hs3 f3 b3 ha3)
      have K2 := ((HW.out.kept (FA.out _ _ B2.out).2.2.1).b2.kept f3 (fun hg => (HW.out.ap _ hg).2.1 rfl))
      have k3 : w3.cell? ⟨g2, 0, none⟩ = some (.slice M ms.length mc) := K2.cell 0
      have y3 : w3.frozen? ⟨g2, 0, none⟩ = false := K2.free 0
      clear hs3 f3 b3 ha3 K2 hS
      have hS := keep.out _ fS.out
      refine hK.out _ _ hS (fun _ => ?_)
      clear hK K
      try change wpAnyH _ _ _ _ _ _ _ (Act.put _ (some 40) _) _
      try simp only [Act.put, List.setIfInBounds_toArray, List.set_cons_zero, List.set_cons_succ]
      refine wpAnyH_ready (rs := [11]) (by kernel_rfl) (by simp) ?_
      refine AllReadyH.cons rfl (fun K hK => ?_) AllReadyH.nil
      go_simp
      refine hK.out _ _ (keep.out _ (fS.out.setCell (Or.inl (by simp)) _)) (fun _ => ?_)
      clear hK K hS
      refine wpAnyH_done (by kernel_rfl) ?_ _
      have i0 : (w3.setCell ⟨g2, 0, none⟩ (.slice M3 (ms.length + 1) mc3)).cell? ⟨g0, 0, none⟩ = some (.slice A ss.length cap) := PA3.out.lc.b0.cell 0
      have u0 : (w3.setCell ⟨g2, 0, none⟩ (.slice M3 (ms.length + 1) mc3)).cell? ⟨w.heap.size, 0, none⟩ = some (.int .i64 4) := PA3.out.box.cell 0
      have u1 : (w3.setCell ⟨g2, 0, none⟩ (.slice M3 (ms.length + 1) mc3)).cell? ⟨w.heap.size, 1, none⟩ = some (.string name) := PA3.out.box.cell 1
      have u2 : (w3.setCell ⟨g2, 0, none⟩ (.slice M3 (ms.length + 1) mc3)).cell? ⟨w.heap.size, 2, none⟩ = some (.int .i64 num) := PA3.out.box.cell 2
      have u3 : (w3.setCell ⟨g2, 0, none⟩ (.slice M3 (ms.length + 1) mc3)).cell? ⟨w.heap.size, 3, none⟩ = some (.slice (some ⟨b, off, none⟩) 1 cap3) := PA3.out.box.cell 3
      clear keep KT1 FA SGA c1 c2 t3 L1 BX
      go_wp2_with fail
      refine (KW'.out _ PA3.out.arg).mono ?_
      rintro e w5 ⟨B, cb, rfl, b5, hty, hLm⟩
      have D0 := Lib.hid (PL.of PA3.out b5 hty HR.out N1.out N2.out)
      clear PA3 KW' b5 hty HR N1 N2 HA HT HW
      generalize withinL ss (.mk 4 name num [E]) = L at *
      go_wp2_with fail
      go_loopw [45] (fun i wr => ∃ j : Nat, j ≤ L.length ∧ i = .int .i64 j ∧ ∃ y M' mc', Hid (PL w wr w0 n A cap ss g1 g2 g0 gp M f B L j y M' mc' R)) (fun i _ => L.length - (intOf i).toNat)
      case atStart => exact ⟨0, by omega, rfl, _, _, _, D0⟩
      case round =>
        obtain ⟨j, hj, rfl, y, M', mc', hpl⟩ := hrel
        rename_i wr
        by_cases hjl : j < L.length
        · have e1 : decide ((j : Int) < (L.length : Int)) = true := decide_eq_true (by omega)
          obtain ⟨bb, off, rfl, hbl⟩ := hpl.out.ty.1 (by omega)
          obtain ⟨d0, d1, d2, d3, k0, k1, k2, k3', hTy⟩ := hpl.out.ty.2 j hjl bb off rfl
          have hTy2 := hTy
          obtain ⟨hz, hdm⟩ := HEX.out _ (List.getElem_mem hjl)
          have BAr := Lib.hid (fun o => (Below.refl wr.heap.size wr).alloc (Nat.le_refl _) o)
          have HP := Lib.hid (fun o => hpl.out.kept (BAr.out o))
          obtain ⟨tp, hgp⟩ := hpl.out.lc.bp
          have HGP := Lib.hid (fun o => (hgp.kept (Fr.of_below (BAr.out o) []) (by simp)).cell 0)
          have hK1 : y.1.length + 9 ^ f ≤ 1000000 ∧ y.2.length + 9 ^ f ≤ 1000000 := by
            have n1 := hpl.out.n1
            have n2 := hpl.out.n2
            have hK : 9 ^ f * (L.length - j) = 9 ^ f * (L.length - (j + 1)) + 9 ^ f := by
              rw [show L.length - j = (L.length - (j + 1)) + 1 by omega, Nat.mul_add, Nat.mul_one]
            omega
          have KD := Lib.hid (fun o => KI.out L[j] d0 d1 d2 d3 _ y M' mc' (⟨(HP.out o).at_, hm, few.out, hTy.kept (BAr.out o), Nat.le_refl _⟩ : Arg (wr.alloc o) n n A ss L[j] d0 d1 d2 d3) hz (HP.out o).lc hK1.1 hK1.2 hdm (HP.out o).tb)
          have NX := Lib.hid (fun o w2 M2 mc2 hl hf hb => (HP.out o).next (w2 := w2) (M2 := M2) (mc2 := mc2) hjl hz hl hf hb)
          clear hTy hz hdm hK1 hpl hgp HP
          generalize putC ss f L[j] y = y2 at *
          generalize L[j] = E9 at *
          cases n with
          | zero => exact hTy2.elim
          | succ n =>
          obtain ⟨rfl, _, rfl, _, rfl, _, A3, cap3, rfl, _, _, _⟩ := hTy2
          have gf : (wr.alloc (.cells #[.int .i64 E9.kind, .string E9.name, .int .i64 E9.num, .slice A3 E9.of.length cap3] 51)).cell? ⟨gp, 0, none⟩ = some (.func (.func 57) #[] #[.pointer (some ⟨g1, 0, none⟩), .pointer (some ⟨g2, 0, none⟩), .pointer (some ⟨g0, 0, none⟩), .pointer (some ⟨gp, 0, none⟩)]) := HGP.out _
          have KDE := Lib.hid (KD.out (.cells #[.int .i64 E9.kind, .string E9.name, .int .i64 E9.num, .slice A3 E9.of.length cap3] 51))
          have NXE := Lib.hid (NX.out (.cells #[.int .i64 E9.kind, .string E9.name, .int .i64 E9.num, .slice A3 E9.of.length cap3] 51))
          clear KD NX HGP
          go_wp2_with fail
          refine KDE.out.mono ?_
          rintro e w6 ⟨rfl, M6, mc6, hl6, hf6, hb6⟩
          have N6 := Lib.hid (NXE.out _ _ _ hl6 hf6 hb6)
          clear hl6 hf6 hb6 KDE NXE gf k0 k1 k2 k3'
          go_wp2_with fail
          go_roundw
          case rel => exact ⟨j + 1, by omega, by go_num, _, _, _, N6⟩
          case measure => simp [intOf]; omega
        · obtain rfl : j = L.length := by omega
          have e1 : decide ((L.length : Int) < (L.length : Int)) = false := decide_eq_false (by omega)
          have fin := Lib.hid (cxpost_loop hpl.out)
          clear hpl
          go_wp2_with fail
          go_end0
          exact fin.out
end Go.Proofs.YtmahoppjefhnjaaDoor.sh
