/-
  Shape: the law on types in writing.
-/
import Derived.Test.YtmahoppjefhnjaaDoorShV
import Derived.Test.YtmahoppjefhnjaaDoorSh2
namespace Go.Proofs.YtmahoppjefhnjaaDoor.sh
open Go.RowKit Go.Sort Go.Proofs.YtmahoppjefhnjaaDoor.mem Go.ChangeShapes Go.WideShapes

/-- the law's own box -/
structure WX (w : World) (n : Nat) (T : Ty) (v0 v1 v2 v3 : Value) (wx : World) : Prop where
  on : Below w.heap.size w wx
  box : Box wx w.heap.size 51 #[v0, v1, v2, v3]
  ty : TyAt wx n T v0 v1 v2 v3
  tab : TabS wx
theorem WX.kept {w : World} {n : Nat} {T : Ty} {v0 v1 v2 v3 : Value} {wx wy : World} (h : WX w n T v0 v1 v2 v3 wx) (hb : Below wx.heap.size wx wy) : WX w n T v0 v1 v2 v3 wy := ⟨h.on.trans (hb.mono h.on.size), h.box.kept (Fr.of_below hb []) (by simp), h.ty.kept hb, tabS_below h.tab hb⟩
theorem WX.drew {w : World} {n : Nat} {T : Ty} {v0 v1 v2 v3 : Value} {wx : World} (h : WX w n T v0 v1 v2 v3 wx) : WX w n T v0 v1 v2 v3 wx.drew := h.kept (Below.refl _ _).drew
theorem WX.cells {w : World} {n : Nat} {T : Ty} {v0 v1 v2 v3 : Value} {wx : World} (h : WX w n T v0 v1 v2 v3 wx) : wx.cell? ⟨w.heap.size, 0, none⟩ = some v0 ∧ wx.cell? ⟨w.heap.size, 1, none⟩ = some v1 ∧ wx.cell? ⟨w.heap.size, 2, none⟩ = some v2 ∧ wx.cell? ⟨w.heap.size, 3, none⟩ = some v3 := ⟨h.box.cell 0, h.box.cell 1, h.box.cell 2, h.box.cell 3⟩

set_option maxRecDepth 100000 in
set_option maxHeartbeats 1000000 in
theorem law_texts (w : World) (n : Nat) (T : Ty) (v0 v1 v2 v3 : Value) (ht : TyAt w n T v0 v1 v2 v3) (htab : TabS w) : Calls Tryd.prog 5 #[.agg #[v0, v1, v2, v3]] w (WkPost w) := by
  have KG := Lib.hid (fun wx (h : WX w n T v0 v1 v2 v3 wx) => great_none T n v0 v1 v2 v3 wx h.ty)
  have KK := Lib.hid (fun wx (h : WX w n T v0 v1 v2 v3 wx) => works_any wx h.tab)
  have WX := Lib.hid (show WX w n T v0 v1 v2 v3 (w.alloc (.cells #[v0, v1, v2, v3] 51)) from ⟨(Below.refl _ _).alloc (Nat.le_refl _) _, Box.new w _ _, ht.kept ((Below.refl _ _).alloc (Nat.le_refl _) _), tabS_below htab ((Below.refl _ _).alloc (Nat.le_refl _) _)⟩)
  unfold WkPost at KK
  cases hd : deepB 8 T with
  | true =>
    rw [hd] at KG
    clear ht htab hd KK
    cases n with
    | zero => exact WX.out.ty.elim
    | succ n =>
    obtain ⟨rfl, _, rfl, _, rfl, _, A, cap, rfl, _, _, _⟩ := WX.out.ty
    generalize hv0 : Value.int .i64 T.kind = v0 at *
    generalize hv1 : Value.string T.name = v1 at *
    generalize hv2 : Value.int .i64 T.num = v2 at *
    generalize hv3 : Value.slice A T.of.length cap = v3 at *
    go_enter Tryd.func5, Tryd.ntmps5
    go_upto_region 1 with fail
    generalize (w.alloc (.cells #[v0, v1, v2, v3] 51)) = w1 at *
    obtain ⟨c0, c1, c2, c3⟩ := WX.out.drew.cells
    refine wp_region_held_drew (S := fun w' => w'.cell? ⟨w.heap.size, 0, none⟩ = some v0 ∧ w'.cell? ⟨w.heap.size, 1, none⟩ = some v1 ∧ w'.cell? ⟨w.heap.size, 2, none⟩ = some v2 ∧ w'.cell? ⟨w.heap.size, 3, none⟩ = some v3) (by kernel_rfl) ⟨c0, c1, c2, c3⟩ (fun hS => ?_)
    refine wpAnyH_take (i := 0) (v := .agg #[v0, v1, v2, v3]) rfl (by kernel_rfl) (by kernel_rfl) (by kernel_rfl) (fun _ _ _ h => h) (Or.inl ⟨by kernel_rfl, ?_⟩) hS ?_
    · intro W' hSw
      obtain ⟨q0, q1, q2, q3⟩ := hSw
      go_simp
    change wpAnyH _ _ _ _ _ _ _ (Act.put _ (some 3) _) _
    try simp only [Act.put, List.setIfInBounds_toArray, List.set_cons_zero, List.set_cons_succ]
    refine wpAnyH_ready (rs := [1]) (by kernel_rfl) (by simp) ?_
    refine AllReadyH.cons rfl (fun K hK => ?_) AllReadyH.nil
    go_simp
    refine (KG.out _ WX.out.drew).mono ?_
    rintro e w2 ⟨rfl, b2⟩
    have W2 := Lib.hid (WX.out.drew.kept b2)
    clear b2 hS
    have hS := W2.out.cells
    refine hK.out _ _ hS (fun _ => ?_)
    clear hK K
    try change wpAnyH _ _ _ _ _ _ _ (Act.put _ (some 4) _) _
    try simp only [Act.put, List.setIfInBounds_toArray, List.set_cons_zero, List.set_cons_succ]
    refine wpAnyH_take (i := 2) (v := .bool true) rfl (by kernel_rfl) (by kernel_rfl) (by kernel_rfl) (fun _ _ _ h => h) (Or.inl ⟨by kernel_rfl, ?_⟩) hS ?_
    · intro W' hSw
      obtain ⟨q0, q1, q2, q3⟩ := hSw
      go_simp
    change wpAnyH _ _ _ _ _ _ _ (Act.put _ (some 5) _) _
    try simp only [Act.put, List.setIfInBounds_toArray, List.set_cons_zero, List.set_cons_succ]
    refine wpAnyH_take (i := 3) (v := undef) rfl (by kernel_rfl) (by kernel_rfl) (by kernel_rfl) (fun _ _ _ h => h) (Or.inr ⟨by kernel_rfl, rfl⟩) hS ?_
    change wpAnyH _ _ _ _ _ _ _ (Act.put _ (some 6) _) _
    try simp only [Act.put, List.setIfInBounds_toArray, List.set_cons_zero, List.set_cons_succ]
    refine wpAnyH_take (i := 4) (v := undef) rfl (by kernel_rfl) (by kernel_rfl) (by kernel_rfl) (fun _ _ _ h => h) (Or.inr ⟨by kernel_rfl, rfl⟩) hS ?_
    change wpAnyH _ _ _ _ _ _ _ (Act.put _ (some 7) _) _
    try simp only [Act.put, List.setIfInBounds_toArray, List.set_cons_zero, List.set_cons_succ]
    refine wpAnyH_take (i := 5) (v := undef) rfl (by kernel_rfl) (by kernel_rfl) (by kernel_rfl) (fun _ _ _ h => h) (Or.inr ⟨by kernel_rfl, rfl⟩) hS ?_
    change wpAnyH _ _ _ _ _ _ _ (Act.put _ (some 8) _) _
    try simp only [Act.put, List.setIfInBounds_toArray, List.set_cons_zero, List.set_cons_succ]
    refine wpAnyH_take (i := 6) (v := undef) rfl (by kernel_rfl) (by kernel_rfl) (by kernel_rfl) (fun _ _ _ h => h) (Or.inr ⟨by kernel_rfl, rfl⟩) hS ?_
    change wpAnyH _ _ _ _ _ _ _ (Act.put _ (some 9) _) _
    try simp only [Act.put, List.setIfInBounds_toArray, List.set_cons_zero, List.set_cons_succ]
    refine wpAnyH_take (i := 7) (v := undef) rfl (by kernel_rfl) (by kernel_rfl) (by kernel_rfl) (fun _ _ _ h => h) (Or.inr ⟨by kernel_rfl, rfl⟩) hS ?_
    change wpAnyH _ _ _ _ _ _ _ (Act.put _ (some 10) _) _
    try simp only [Act.put, List.setIfInBounds_toArray, List.set_cons_zero, List.set_cons_succ]
    refine wpAnyH_take (i := 8) (v := undef) rfl (by kernel_rfl) (by kernel_rfl) (by kernel_rfl) (fun _ _ _ h => h) (Or.inr ⟨by kernel_rfl, rfl⟩) hS ?_
    change wpAnyH _ _ _ _ _ _ _ (Act.put _ (some 11) _) _
    try simp only [Act.put, List.setIfInBounds_toArray, List.set_cons_zero, List.set_cons_succ]
    refine wpAnyH_take (i := 9) (v := undef) rfl (by kernel_rfl) (by kernel_rfl) (by kernel_rfl) (fun _ _ _ h => h) (Or.inr ⟨by kernel_rfl, rfl⟩) hS ?_
    change wpAnyH _ _ _ _ _ _ _ (Act.put _ (some 12) _) _
    try simp only [Act.put, List.setIfInBounds_toArray, List.set_cons_zero, List.set_cons_succ]
    refine wpAnyH_take (i := 10) (v := undef) rfl (by kernel_rfl) (by kernel_rfl) (by kernel_rfl) (fun _ _ _ h => h) (Or.inr ⟨by kernel_rfl, rfl⟩) hS ?_
    change wpAnyH _ _ _ _ _ _ _ (Act.put _ (some 13) _) _
    try simp only [Act.put, List.setIfInBounds_toArray, List.set_cons_zero, List.set_cons_succ]
    refine wpAnyH_take (i := 11) (v := undef) rfl (by kernel_rfl) (by kernel_rfl) (by kernel_rfl) (fun _ _ _ h => h) (Or.inr ⟨by kernel_rfl, rfl⟩) hS ?_
    change wpAnyH _ _ _ _ _ _ _ (Act.put _ (some 14) _) _
    try simp only [Act.put, List.setIfInBounds_toArray, List.set_cons_zero, List.set_cons_succ]
    refine wpAnyH_take (i := 12) (v := undef) rfl (by kernel_rfl) (by kernel_rfl) (by kernel_rfl) (fun _ _ _ h => h) (Or.inr ⟨by kernel_rfl, rfl⟩) hS ?_
    change wpAnyH _ _ _ _ _ _ _ (Act.put _ (some 15) _) _
    try simp only [Act.put, List.setIfInBounds_toArray, List.set_cons_zero, List.set_cons_succ]
    refine wpAnyH_take (i := 13) (v := undef) rfl (by kernel_rfl) (by kernel_rfl) (by kernel_rfl) (fun _ _ _ h => h) (Or.inr ⟨by kernel_rfl, rfl⟩) hS ?_
    change wpAnyH _ _ _ _ _ _ _ (Act.put _ (some 16) _) _
    try simp only [Act.put, List.setIfInBounds_toArray, List.set_cons_zero, List.set_cons_succ]
    refine wpAnyH_take (i := 14) (v := undef) rfl (by kernel_rfl) (by kernel_rfl) (by kernel_rfl) (fun _ _ _ h => h) (Or.inr ⟨by kernel_rfl, rfl⟩) hS ?_
    change wpAnyH _ _ _ _ _ _ _ (Act.put _ (some 17) _) _
    try simp only [Act.put, List.setIfInBounds_toArray, List.set_cons_zero, List.set_cons_succ]
    refine wpAnyH_take (i := 15) (v := undef) rfl (by kernel_rfl) (by kernel_rfl) (by kernel_rfl) (fun _ _ _ h => h) (Or.inr ⟨by kernel_rfl, rfl⟩) hS ?_
    change wpAnyH _ _ _ _ _ _ _ (Act.put _ (some 18) _) _
    try simp only [Act.put, List.setIfInBounds_toArray, List.set_cons_zero, List.set_cons_succ]
    refine wpAnyH_take (i := 16) (v := undef) rfl (by kernel_rfl) (by kernel_rfl) (by kernel_rfl) (fun _ _ _ h => h) (Or.inr ⟨by kernel_rfl, rfl⟩) hS ?_
    change wpAnyH _ _ _ _ _ _ _ (Act.put _ (some 19) _) _
    try simp only [Act.put, List.setIfInBounds_toArray, List.set_cons_zero, List.set_cons_succ]
    refine wpAnyH_take (i := 17) (v := undef) rfl (by kernel_rfl) (by kernel_rfl) (by kernel_rfl) (fun _ _ _ h => h) (Or.inr ⟨by kernel_rfl, rfl⟩) hS ?_
    change wpAnyH _ _ _ _ _ _ _ (Act.put _ (some 20) _) _
    try simp only [Act.put, List.setIfInBounds_toArray, List.set_cons_zero, List.set_cons_succ]
    refine wpAnyH_take (i := 18) (v := .bool true) rfl (by kernel_rfl) (by kernel_rfl) (by kernel_rfl) (fun _ _ _ h => h) (Or.inl ⟨by kernel_rfl, ?_⟩) hS ?_
    · intro W' hSw
      obtain ⟨q0, q1, q2, q3⟩ := hSw
      go_simp
    change wpAnyH _ _ _ _ _ _ _ (Act.put _ (some 21) _) _
    try simp only [Act.put, List.setIfInBounds_toArray, List.set_cons_zero, List.set_cons_succ]
    refine wpAnyH_take (i := 19) (v := .bool true) rfl (by kernel_rfl) (by kernel_rfl) (by kernel_rfl) (fun _ _ _ h => h) (Or.inl ⟨by kernel_rfl, ?_⟩) hS ?_
    · intro W' hSw
      obtain ⟨q0, q1, q2, q3⟩ := hSw
      go_simp
    change wpAnyH _ _ _ _ _ _ _ (Act.put _ (some 2) _) _
    try simp only [Act.put, List.setIfInBounds_toArray, List.set_cons_zero, List.set_cons_succ]
    refine wpAnyH_done (by kernel_rfl) ?_ _
    go_wp2_with fail
    go_ret
    exact ⟨rfl, W2.out.on⟩
  | false =>
    have KS := Lib.hid (fun wx (h : sh.WX w n T v0 v1 v2 v3 wx) => sText_any T n v0 v1 v2 v3 wx h.ty 8 (by omega) hd h.tab)
    have KR := Lib.hid (fun wx (h : sh.WX w n T v0 v1 v2 v3 wx) => rText_any T n v0 v1 v2 v3 wx h.ty 8 (by omega) hd)
    have KT := Lib.hid (fun wx (h : sh.WX w n T v0 v1 v2 v3 wx) => sTag_any T n v0 v1 v2 v3 wx h.ty 8 (by omega) hd h.tab)
    have KU := Lib.hid (fun wx (h : sh.WX w n T v0 v1 v2 v3 wx) => rTag_any T n v0 v1 v2 v3 wx h.ty 8 (by omega) hd)
    unfold TxPost at KS KR
    unfold TagPost at KT KU
    rw [hd] at KG
    generalize [91, 93] ++ txt 4 T = X2 at *
    generalize txt 4 T = X1 at *
    clear ht htab hd
    cases n with
    | zero => exact WX.out.ty.elim
    | succ n =>
    obtain ⟨rfl, _, rfl, _, rfl, _, A, cap, rfl, _, _, _⟩ := WX.out.ty
    go_enter Tryd.func5, Tryd.ntmps5
    go_upto_region 1 with fail
    generalize (w.alloc (.cells #[.int .i64 T.kind, .string T.name, .int .i64 T.num, .slice A T.of.length cap] 51)) = w1 at *
    obtain ⟨c0, c1, c2, c3⟩ := WX.out.drew.cells
    go_region_held3 (fun w' => w'.cell? ⟨w.heap.size, 0, none⟩ = some (.int .i64 T.kind) ∧ w'.cell? ⟨w.heap.size, 1, none⟩ = some (.string T.name) ∧ w'.cell? ⟨w.heap.size, 2, none⟩ = some (.int .i64 T.num) ∧ w'.cell? ⟨w.heap.size, 3, none⟩ = some (.slice A T.of.length cap))
      (first | exact ⟨c0, c1, c2, c3⟩ | exact W7.out.cells | exact W6.out.cells | exact W5.out.cells | exact W4.out.cells | exact W3.out.cells | exact W2.out.cells | go_keep)
      (first | (go_at_call 25; refine (KG.out _ (WX.out.drew)).mono ?_; rintro e w2 ⟨rfl, b2⟩; have W2 := Lib.hid ((WX.out.drew).kept b2); clear b2)
             | (go_at_call 26; refine (KS.out _ (W2.out)).mono ?_; rintro e w3 ⟨rfl, b3⟩; have W3 := Lib.hid ((W2.out).kept b3); clear b3)
             | (go_at_call 27; refine (KR.out _ (W3.out)).mono ?_; rintro e w4 ⟨rfl, b4⟩; have W4 := Lib.hid ((W3.out).kept b4); clear b4)
             | (go_at_call 28; refine (KT.out _ (W4.out)).mono ?_; rintro e w5 ⟨rfl, b5⟩; have W5 := Lib.hid ((W4.out).kept b5); clear b5)
             | (go_at_call 29; refine (KU.out _ (W5.out)).mono ?_; rintro e w6 ⟨rfl, b6⟩; have W6 := Lib.hid ((W5.out).kept b6); clear b6)
             | (go_at_call 30; refine (KK.out _ (W6.out)).mono ?_; rintro e w7 ⟨rfl, b7⟩; have W7 := Lib.hid ((W6.out).kept b7); clear b7))
    go_wp2_with fail
    go_ret
    exact ⟨rfl, W7.out.on⟩

/-- the type api.Type, as it is read -/
theorem ty_is : ∃ f0 f1 f2 f3, IsTy Tryd.prog 51 f0 f1 f2 f3 := by
  have hu : Tryd.prog.underlying 51 = some (.struct (Tryd.prog.fieldsOf 51)) := by kernel_rfl
  have hf : (Tryd.prog.fieldsOf 51).toList.map (fun f => (f.type, f.offset)) = [(3, 0), (9, 1), (3, 2), (49, 3)] := by kernel_rfl
  generalize Tryd.prog.fieldsOf 51 = fs at *
  obtain ⟨l⟩ := fs
  rcases l with _ | ⟨f0, _ | ⟨f1, _ | ⟨f2, _ | ⟨f3, _ | ⟨f4, l⟩⟩⟩⟩⟩ <;> simp only [List.map_cons, List.map_nil, List.cons.injEq, Prod.mk.injEq, and_true, reduceCtorEq, and_false] at hf
  obtain ⟨⟨a0, b0⟩, ⟨a1, b1⟩, ⟨a2, b2⟩, a3, b3⟩ := hf
  exact ⟨f0, f1, f2, f3, ⟨hu, by kernel_rfl, b0, b1, b2, b3, by rw [a0]; kernel_rfl, by rw [a1]; kernel_rfl, by rw [a2]; kernel_rfl, by rw [a3]; kernel_rfl, by rw [a0]; exact Tryd.underlying3, by rw [a1]; exact Tryd.underlying9, by rw [a2]; exact Tryd.underlying3, by rw [a3]; exact Tryd.underlying49⟩⟩

theorem rCellsT : Tryd.prog.cellsOf 51 = 4 := by kernel_rfl
theorem rUnderT : Tryd.prog.underlying 51 = some (.struct (Tryd.prog.fieldsOf 51)) := by kernel_rfl

set_option maxRecDepth 100000 in
theorem pf_texts (H : Type) (enc : TypeId × Value → H) (W : World) {base : Nat} (v : Value) (d : DataW H) (p : List MemPlace) (k : DataW.Trod enc Tryd.prog W 0 (fun _ => true) true 51 v d p) (o : Value.okWide Tryd.prog W .any base 51 v) (htab : TabS W) :
    Calls Tryd.prog 5 #[v] W (WkPost W) := by
  obtain ⟨cs, rfl, hsz⟩ := okWide_struct rUnderT o
  obtain ⟨f0, f1, f2, f3, I⟩ := ty_is
  obtain ⟨n, T, v0, v1, v2, v3, h1, h2⟩ := ty_arg I k
  obtain ⟨l⟩ := cs
  have h1 : l = [v0, v1, v2, v3] := h1
  subst h1
  exact law_texts W n T v0 v1 v2 v3 h2 htab
end Go.Proofs.YtmahoppjefhnjaaDoor.sh
