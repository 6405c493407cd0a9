/-
  bound: any system's size, and fuel that is enough: the law.
-/
import Derived.Test.YtdmmkjijgoiecaaGreatDoorBd3
import Derived.Test.YtdmmkjijgoiecaaGreatDoorBd6
import Derived.Test.YtdmmkjijgoiecaaGreatDoorBd7
set_option linter.all false
namespace Go.Proofs.YtdmmkjijgoiecaaGreatDoor.bd
open Go.RowKit Go.ChangeShapes Go.WideShapes Go.Proofs.YtdmmkjijgoiecaaGreatDoor.mem Go.Proofs.YtdmmkjijgoiecaaGreatDoor.sy
open Go.Proofs.YtdmmkjijgoiecaaGreatDoor.nm (Tab tab_below)

theorem cZ : Tryz.prog.cellsOf 48 = 2 := by kernel_rfl
theorem fZ : (Tryz.prog.fieldsOf 48).toList.map (fun f => (f.type, f.offset)) = [(3, 0), (3, 1)] := by kernel_rfl
set_option maxRecDepth 100000 in
theorem size_of {H : Type} {enc : TypeId × Value → H} {W : World} {base : Nat} (v : Value) (d : DataW H) (p : List MemPlace) (k : DataW.Trod enc Tryz.prog W 0 (fun _ => true) true 48 v d p) (o : Value.okWide Tryz.prog W .any base 48 v) (hw : ∀ m ∈ d.weights Tryz.prog 48, m ≤ reachBytes) :
    ∃ a b : Int, v = szV a b := by
  obtain ⟨cs, rfl, hcs⟩ := okWide_struct uZ o
  have h2 : cs.size = 2 := hcs.trans cZ
  obtain ⟨l⟩ := cs
  match l, h2 with
  | [c0, c1], _ =>
    obtain ⟨fuel, hk⟩ := k
    obtain ⟨ys, m, _, hx, _, hl2, hf⟩ := DataW.trod_struct uZ hk
    have hd : d = .agg (ys.map (·.1)) := congrArg Prod.fst hx
    rw [hd] at hw
    obtain ⟨y0, h0, w0⟩ := fld fZ hl2 hf uZ hw 0 3 0 rfl
    obtain ⟨y1, h1, w1⟩ := fld fZ hl2 hf uZ hw 1 3 1 rfl
    rw [cInt] at h0 h1
    obtain ⟨a0, rfl, _⟩ := int_el (u := c0) h0
    obtain ⟨a1, rfl, _⟩ := int_el (u := c1) h1
    exact ⟨a0, a1, rfl⟩

/-- the system's block, the other size's, and the answer's -/
structure S3 (w W : World) (xs ys : Array Value) : Prop where
  fr : Below w.heap.size w W
  sb : Box W w.heap.size 27 xs
  zb : Box W (w.heap.size + 1) 48 ys
theorem S3.on {w W W2 : World} {xs ys : Array Value} (h : S3 w W xs ys) (hb : Below W.heap.size W W2) : S3 w W2 xs ys :=
  ⟨h.fr.trans (hb.mono h.fr.size), h.sb.kept (Fr.of_below hb []) (by simp), h.zb.kept (Fr.of_below hb []) (by simp)⟩
theorem S3.new (w : World) (xs ys : Array Value) : S3 w ((w.alloc (.cells xs 27)).alloc (.cells ys 48)) xs ys := by
  refine ⟨(((Fr.refl [] w).alloc _).alloc _).all, (Box.new w _ xs).kept ((Fr.refl [] _).alloc _) (by simp), ?_⟩
  have := Box.new (w.alloc (.cells xs 27)) 48 ys
  rwa [show (w.alloc (.cells xs 27)).heap.size = w.heap.size + 1 by simp] at this

set_option maxHeartbeats 8000000 in
set_option maxRecDepth 100000 in
theorem law_bound (hm : HeldM) (hz : HeldZ) (s : MS) (a b : Int) (w : World) (hs : SysM w s) (hcl : ∀ x ∈ s.cs, x.c.args.length ≤ 8796093022208) (htab : Tab w) :
    Calls Tryz.prog 7 #[s.val, szV a b] w (BPost true w) := by
  have HG := Lib.hid (fun W (hb : Below w.heap.size w W) => great_any s 100 W (hs.below hb))
  have HO := Lib.hid (fun W (hb : Below w.heap.size w W) => of_any s W (hs.below hb) (tab_below htab hb))
  have HRO := Lib.hid (fun W (hb : Below w.heap.size w W) => rof_any hm s W (hs.below hb) hcl)
  have HFu := Lib.hid (fun W => fuel_any hz a b W)
  have HRF := Lib.hid (fun W => rfuel_any a b W)
  have HW := Lib.hid (fun W (hb : Below w.heap.size w W) => works_any hz W (tab_below htab hb))
  have heq := fun W => hz.eq (nodesZ s.sys : Nat) (consZ s.sys : Nat) (nodesZ s.sys : Nat) (consZ s.sys : Nat) W
  have hgu := hz.guard
  rw [show ∀ x y : Int, sameZ x y x y = true from fun x y => by simp [sameZ]] at heq
  unfold BPost at HG HW ⊢
  unfold ZPost at HO
  unfold TPost at HRO
  unfold WPost at HFu HRF
  clear hs hcl htab hm hz
  generalize greatB s.sys 100 = gb at *
  generalize nodesZ s.sys = n at *
  generalize consZ s.sys = k at *
  generalize fuelZ a b = z at *
  unfold szV at *
  unfold MS.val at *
  generalize s.os.length = no at *
  generalize s.fs.length = nf at *
  generalize s.cs.length = nc at *
  generalize s.oA = oA at *
  generalize s.fA = fA at *
  generalize s.cA = cA at *
  generalize s.oc = oc at *
  generalize s.fc = fc at *
  generalize s.cc = cc at *
  have X0 := Lib.hid (S3.new w #[.slice oA no oc, .slice fA nf fc, .slice cA nc cc] #[.int .i64 a, .int .i64 b])
  go_enter Tryz.func7, Tryz.ntmps7
  go_wp2_with fail
  refine (HG.out _ X0.out.fr).mono ?_
  rintro e w1 ⟨rfl, b1⟩
  have X1 := Lib.hid (X0.out.on b1)
  clear X0 HG b1
  rcases gb with _ | _
  rotate_left
  · go_wp2_with fail
    go_ret
    exact ⟨rfl, X1.out.fr⟩
  have s0 := X1.out.sb.cell 0
  have s1 := X1.out.sb.cell 1
  have s2 := X1.out.sb.cell 2
  simp only [List.getElem?_toArray, List.getElem?_cons_zero, List.getElem?_cons_succ] at s0 s1 s2
  go_wp2_with fail
  refine (HO.out _ X1.out.fr).mono ?_
  rintro e w2 ⟨rfl, b2⟩
  have X2 := Lib.hid (X1.out.on b2)
  clear X1 HO b2 s0 s1 s2
  have fa := (Fr.refl [] w2).alloc (.cells #[.int .i64 (n : Nat), .int .i64 (k : Nat)] 48)
  have X3 := Lib.hid (X2.out.on fa.all)
  have Z3 := Lib.hid (Box.new w2 48 #[.int .i64 (n : Nat), .int .i64 (k : Nat)])
  have s0 := X3.out.sb.cell 0
  have s1 := X3.out.sb.cell 1
  have s2 := X3.out.sb.cell 2
  simp only [List.getElem?_toArray, List.getElem?_cons_zero, List.getElem?_cons_succ] at s0 s1 s2
  clear fa X2
  go_upto_region 4 with fail
  generalize hW3 : w2.alloc (.cells #[.int .i64 (n : Nat), .int .i64 (k : Nat)] 48) = w3 at *
  generalize hz3 : w2.heap.size = bz at *
  clear hW3 hz3
  go_wp2_with fail
  refine (HRO.out _ X3.out.fr).mono ?_
  rintro e w4 ⟨rfl, b4⟩
  have X4 := Lib.hid (X3.out.on b4)
  have Z4 := Lib.hid (Z3.out.kept (Fr.of_below b4 []) (by simp))
  clear X3 Z3 HRO b4 s0 s1 s2
  go_upto_region 5 with fail
  have X5 := Lib.hid (X4.out.on (Fr.refl [] w4).drew.all)
  have Z5 := Lib.hid (Z4.out.kept (Fr.of_below (Fr.refl [] w4).drew.all []) (by simp))
  obtain ⟨S, hSd⟩ : ∃ S : World → Prop, Hid (∀ W', S W' ↔ ((W'.cell? ⟨bz, 0, none⟩ = some (.int .i64 (n : Nat)) ∧ W'.cell? ⟨bz, 1, none⟩ = some (.int .i64 (k : Nat))) ∧ W'.cell? ⟨w.heap.size + 1, 0, none⟩ = some (.int .i64 a) ∧ W'.cell? ⟨w.heap.size + 1, 1, none⟩ = some (.int .i64 b))) := ⟨_, Lib.hid fun _ => Iff.rfl⟩
  have keepS : Hid (∀ W, Below w4.drew.heap.size w4.drew W → S W) := Lib.hid (fun W hb => by
    have h1 := Z5.out.kept (Fr.of_below hb []) (by simp)
    have h2 := X5.out.zb.kept (Fr.of_below hb []) (by simp)
    exact (hSd.out _).2 ⟨⟨h1.cell 0, h1.cell 1⟩, h2.cell 0, h2.cell 1⟩)
  have hS5 : S w4.drew := keepS.out _ (Below.refl _ _)
  have B5 := Lib.hid X5.out.fr
  refine wp_region_held_drew (S := S) (by kernel_rfl) hS5 (fun _ => ?_)
  clear X4 Z4 X5 Z5
  generalize w4.drew = w5 at *
  have T5 := Lib.hid (Below.refl w5.heap.size w5)
  refine wpAnyH_take (i := 0) (v := (.agg #[.int .i64 (n : Nat), .int .i64 (k : Nat)])) rfl (by kernel_rfl) (by kernel_rfl) (by kernel_rfl) (fun _ _ _ h => h) (Or.inl ⟨by kernel_rfl, ?_⟩) hS5 ?_
  · intro W' hSw
    obtain ⟨⟨s0, s1⟩, s2, s3⟩ := (hSd.out _).1 hSw
    go_simp
  try change wpAnyH _ _ _ _ _ _ _ (Act.put _ (some 17) _) _
  try simp only [Act.put, List.setIfInBounds_toArray, List.set_cons_zero, List.set_cons_succ]
  refine wpAnyH_take (i := 1) (v := (.int .i64 (n : Nat))) rfl (by kernel_rfl) (by kernel_rfl) (by kernel_rfl) (fun _ _ _ h => h) (Or.inl ⟨by kernel_rfl, ?_⟩) hS5 ?_
  · intro W' hSw
    obtain ⟨⟨s0, s1⟩, s2, s3⟩ := (hSd.out _).1 hSw
    go_simp
  try change wpAnyH _ _ _ _ _ _ _ (Act.put _ (some 18) _) _
  try simp only [Act.put, List.setIfInBounds_toArray, List.set_cons_zero, List.set_cons_succ]
  refine wpAnyH_take (i := 2) (v := (.int .i64 (k : Nat))) rfl (by kernel_rfl) (by kernel_rfl) (by kernel_rfl) (fun _ _ _ h => h) (Or.inl ⟨by kernel_rfl, ?_⟩) hS5 ?_
  · intro W' hSw
    obtain ⟨⟨s0, s1⟩, s2, s3⟩ := (hSd.out _).1 hSw
    go_simp
  try change wpAnyH _ _ _ _ _ _ _ (Act.put _ (some 19) _) _
  try simp only [Act.put, List.setIfInBounds_toArray, List.set_cons_zero, List.set_cons_succ]
  refine wpAnyH_take (i := 3) (v := (.agg #[.int .i64 (n : Nat), .int .i64 (k : Nat)])) rfl (by kernel_rfl) (by kernel_rfl) (by kernel_rfl) (fun _ _ _ h => h) (Or.inl ⟨by kernel_rfl, ?_⟩) hS5 ?_
  · intro W' hSw
    obtain ⟨⟨s0, s1⟩, s2, s3⟩ := (hSd.out _).1 hSw
    go_simp
  try change wpAnyH _ _ _ _ _ _ _ (Act.put _ (some 20) _) _
  try simp only [Act.put, List.setIfInBounds_toArray, List.set_cons_zero, List.set_cons_succ]
  refine wpAnyH_take (i := 4) (v := (.bool true)) rfl (by kernel_rfl) (by kernel_rfl) (by kernel_rfl) (fun _ _ _ h => h) (Or.inl ⟨by kernel_rfl, ?_⟩) hS5 ?_
  · intro W' hSw
    obtain ⟨⟨s0, s1⟩, s2, s3⟩ := (hSd.out _).1 hSw
    go_simp
  try change wpAnyH _ _ _ _ _ _ _ (Act.put _ (some 21) _) _
  try simp only [Act.put, List.setIfInBounds_toArray, List.set_cons_zero, List.set_cons_succ]
  refine wpAnyH_take (i := 5) (v := (.bool true)) rfl (by kernel_rfl) (by kernel_rfl) (by kernel_rfl) (fun _ _ _ h => h) (Or.inl ⟨by kernel_rfl, ?_⟩) hS5 ?_
  · intro W' hSw
    obtain ⟨⟨s0, s1⟩, s2, s3⟩ := (hSd.out _).1 hSw
    go_simp
  try change wpAnyH _ _ _ _ _ _ _ (Act.put _ (some 22) _) _
  try simp only [Act.put, List.setIfInBounds_toArray, List.set_cons_zero, List.set_cons_succ]
  refine wpAnyH_take (i := 6) (v := (.agg #[.int .i64 a, .int .i64 b])) rfl (by kernel_rfl) (by kernel_rfl) (by kernel_rfl) (fun _ _ _ h => h) (Or.inl ⟨by kernel_rfl, ?_⟩) hS5 ?_
  · intro W' hSw
    obtain ⟨⟨s0, s1⟩, s2, s3⟩ := (hSd.out _).1 hSw
    go_simp
  try change wpAnyH _ _ _ _ _ _ _ (Act.put _ (some 23) _) _
  try simp only [Act.put, List.setIfInBounds_toArray, List.set_cons_zero, List.set_cons_succ]
  refine wpAnyH_take (i := 8) (v := (.pointer (some ⟨w.heap.size + 1, 0, none⟩))) rfl (by kernel_rfl) (by kernel_rfl) (by kernel_rfl) (fun _ _ _ h => h) (Or.inl ⟨by kernel_rfl, ?_⟩) hS5 ?_
  · intro W' hSw
    obtain ⟨⟨s0, s1⟩, s2, s3⟩ := (hSd.out _).1 hSw
    go_simp
  try change wpAnyH _ _ _ _ _ _ _ (Act.put _ (some 25) _) _
  try simp only [Act.put, List.setIfInBounds_toArray, List.set_cons_zero, List.set_cons_succ]
  refine wpAnyH_take (i := 9) (v := (.int .i64 a)) rfl (by kernel_rfl) (by kernel_rfl) (by kernel_rfl) (fun _ _ _ h => h) (Or.inl ⟨by kernel_rfl, ?_⟩) hS5 ?_
  · intro W' hSw
    obtain ⟨⟨s0, s1⟩, s2, s3⟩ := (hSd.out _).1 hSw
    go_simp
  try change wpAnyH _ _ _ _ _ _ _ (Act.put _ (some 26) _) _
  try simp only [Act.put, List.setIfInBounds_toArray, List.set_cons_zero, List.set_cons_succ]
  refine wpAnyH_take (i := 10) (v := (.pointer (some ⟨w.heap.size + 1, 1, none⟩))) rfl (by kernel_rfl) (by kernel_rfl) (by kernel_rfl) (fun _ _ _ h => h) (Or.inl ⟨by kernel_rfl, ?_⟩) hS5 ?_
  · intro W' hSw
    obtain ⟨⟨s0, s1⟩, s2, s3⟩ := (hSd.out _).1 hSw
    go_simp
  try change wpAnyH _ _ _ _ _ _ _ (Act.put _ (some 27) _) _
  try simp only [Act.put, List.setIfInBounds_toArray, List.set_cons_zero, List.set_cons_succ]
  refine wpAnyH_take (i := 11) (v := (.int .i64 b)) rfl (by kernel_rfl) (by kernel_rfl) (by kernel_rfl) (fun _ _ _ h => h) (Or.inl ⟨by kernel_rfl, ?_⟩) hS5 ?_
  · intro W' hSw
    obtain ⟨⟨s0, s1⟩, s2, s3⟩ := (hSd.out _).1 hSw
    go_simp
  try change wpAnyH _ _ _ _ _ _ _ (Act.put _ (some 28) _) _
  try simp only [Act.put, List.setIfInBounds_toArray, List.set_cons_zero, List.set_cons_succ]
  refine wpAnyH_ready (rs := [7]) (by kernel_rfl) (by simp) ?_
  refine AllReadyH.cons rfl (fun K hK => ?_) AllReadyH.nil
  go_simp
  refine (HFu.out _).mono ?_
  rintro e w6 ⟨rfl, b6⟩
  have B6 := Lib.hid (B5.out.trans (b6.mono B5.out.size))
  have T6 := Lib.hid (T5.out.trans (b6.mono T5.out.size))
  have hS6 := keepS.out _ T6.out
  refine hK.out _ _ hS6 (fun _ => ?_)
  clear hK hS5 B5 T5 b6 HFu
  try simp only [Act.put, List.setIfInBounds_toArray, List.set_cons_zero, List.set_cons_succ]
  refine wpAnyH_ready (rs := [12]) (by kernel_rfl) (by simp) ?_
  refine AllReadyH.cons rfl (fun K hK => ?_) AllReadyH.nil
  go_simp
  refine (HRF.out _).mono ?_
  rintro e w7 ⟨rfl, b7⟩
  have B7 := Lib.hid (B6.out.trans (b7.mono B6.out.size))
  have T7 := Lib.hid (T6.out.trans (b7.mono T6.out.size))
  have hS7 := keepS.out _ T7.out
  refine hK.out _ _ hS7 (fun _ => ?_)
  clear hK hS6 B6 T6 b7 HRF
  try simp only [Act.put, List.setIfInBounds_toArray, List.set_cons_zero, List.set_cons_succ]
  refine wpAnyH_take (i := 13) (v := (.bool true)) rfl (by kernel_rfl) (by kernel_rfl) (by kernel_rfl) (fun _ _ _ h => h) (Or.inl ⟨by kernel_rfl, ?_⟩) hS7 ?_
  · intro W' hSw
    obtain ⟨⟨s0, s1⟩, s2, s3⟩ := (hSd.out _).1 hSw
    go_simp
  try change wpAnyH _ _ _ _ _ _ _ (Act.put _ (some 30) _) _
  try simp only [Act.put, List.setIfInBounds_toArray, List.set_cons_zero, List.set_cons_succ]
  refine wpAnyH_take (i := 14) (v := (.bool true)) rfl (by kernel_rfl) (by kernel_rfl) (by kernel_rfl) (fun _ _ _ h => h) (Or.inl ⟨by kernel_rfl, ?_⟩) hS7 ?_
  · intro W' hSw
    obtain ⟨⟨s0, s1⟩, s2, s3⟩ := (hSd.out _).1 hSw
    go_simp
  try change wpAnyH _ _ _ _ _ _ _ (Act.put _ (some 31) _) _
  try simp only [Act.put, List.setIfInBounds_toArray, List.set_cons_zero, List.set_cons_succ]
  refine wpAnyH_take (i := 15) (v := (.bool true)) rfl (by kernel_rfl) (by kernel_rfl) (by kernel_rfl) (fun _ _ _ h => h) (Or.inl ⟨by kernel_rfl, ?_⟩) hS7 ?_
  · intro W' hSw
    obtain ⟨⟨s0, s1⟩, s2, s3⟩ := (hSd.out _).1 hSw
    go_simp
  try change wpAnyH _ _ _ _ _ _ _ (Act.put _ (some 32) _) _
  try simp only [Act.put, List.setIfInBounds_toArray, List.set_cons_zero, List.set_cons_succ]
  refine wpAnyH_ready (rs := [16]) (by kernel_rfl) (by simp) ?_
  refine AllReadyH.cons rfl (fun K hK => ?_) AllReadyH.nil
  go_simp
  refine (HW.out _ B7.out).mono ?_
  rintro e w8 ⟨rfl, b8⟩
  have B8 := Lib.hid (B7.out.trans (b8.mono B7.out.size))
  have T8 := Lib.hid (T7.out.trans (b8.mono T7.out.size))
  have hS8 := keepS.out _ T8.out
  refine hK.out _ _ hS8 (fun _ => ?_)
  clear hK hS7 B7 T7 b8 HW
  try simp only [Act.put, List.setIfInBounds_toArray, List.set_cons_zero, List.set_cons_succ]
  refine wpAnyH_take (i := 17) (v := (.bool true)) rfl (by kernel_rfl) (by kernel_rfl) (by kernel_rfl) (fun _ _ _ h => h) (Or.inl ⟨by kernel_rfl, ?_⟩) hS8 ?_
  · intro W' hSw
    obtain ⟨⟨s0, s1⟩, s2, s3⟩ := (hSd.out _).1 hSw
    go_simp
  try change wpAnyH _ _ _ _ _ _ _ (Act.put _ (some 34) _) _
  try simp only [Act.put, List.setIfInBounds_toArray, List.set_cons_zero, List.set_cons_succ]
  refine wpAnyH_take (i := 18) (v := (.bool true)) rfl (by kernel_rfl) (by kernel_rfl) (by kernel_rfl) (fun _ _ _ h => h) (Or.inl ⟨by kernel_rfl, ?_⟩) hS8 ?_
  · intro W' hSw
    obtain ⟨⟨s0, s1⟩, s2, s3⟩ := (hSd.out _).1 hSw
    go_simp
  try change wpAnyH _ _ _ _ _ _ _ (Act.put _ (some 4) _) _
  try simp only [Act.put, List.setIfInBounds_toArray, List.set_cons_zero, List.set_cons_succ]
  refine wpAnyH_done (by kernel_rfl) ?_ _
  go_wp2_with fail
  go_ret
  exact ⟨rfl, B8.out⟩

set_option maxRecDepth 100000 in
theorem pf_bound (H : Type) (enc : TypeId × Value → H) (W : World) {base base2 : Nat} (v : Value) (d : DataW H) (p : List MemPlace) (k : DataW.Trod enc Tryz.prog W 0 (fun _ => true) true 27 v d p) (o : Value.okWide Tryz.prog W .any base 27 v) (hw : ∀ n ∈ d.weights Tryz.prog 27, n ≤ reachBytes)
    (v2 : Value) (d2 : DataW H) (p2 : List MemPlace) (k2 : DataW.Trod enc Tryz.prog W 0 (fun _ => true) true 48 v2 d2 p2) (o2 : Value.okWide Tryz.prog W .any base2 48 v2) (hw2 : ∀ n ∈ d2.weights Tryz.prog 48, n ≤ reachBytes) (htab : Tab W) :
    Calls Tryz.prog 7 #[v, v2] W (BPost true W) := by
  obtain ⟨s, rfl, hs, hc⟩ := sys_of v d p k o hw
  obtain ⟨a, b, rfl⟩ := size_of v2 d2 p2 k2 o2 hw2
  have hr : reachBytes ≤ 140737488355328 := of_decide_eq_true (by kernel_rfl)
  exact law_bound held_mk heldZ s a b W hs (fun x hx => by have := Nat.le_trans (hc x hx) hr; generalize x.c.args.length = n at this ⊢; clear hc hw hr; omega) htab
end Go.Proofs.YtdmmkjijgoiecaaGreatDoor.bd
