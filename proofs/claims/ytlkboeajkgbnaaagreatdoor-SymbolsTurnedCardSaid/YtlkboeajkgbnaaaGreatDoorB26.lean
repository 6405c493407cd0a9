import Derived.Test.YtlkboeajkgbnaaaGreatDoorB25
import Derived.Test.YtlkboeajkgbnaaaGreatDoorB29
set_option linter.all false
set_option maxHeartbeats 4000000
namespace Go.Proofs.YtlkboeajkgbnaaaGreatDoor.ym
open Go.RowKit Go.Sort Go.Proofs.YtlkboeajkgbnaaaGreatDoor.sy
open Go.Proofs.YtlkboeajkgbnaaaGreatDoor.re (tx SU)
open Go.Proofs.YtlkboeajkgbnaaaGreatDoor.sf (namesL esC fst0 orE risB inD)
open Go.Proofs.YtlkboeajkgbnaaaGreatDoor.inn (rsS intoAll_spec ordS)
theorem risB_pair : ∀ (l : List (List UInt8)), risB l = true → l.Pairwise (fun a b => a < b) := by
  intro l
  induction l with
  | nil => intro _; exact List.Pairwise.nil
  | cons x t ih =>
    intro h
    cases t with
    | nil => exact List.pairwise_singleton _ _
    | cons y r =>
      unfold risB at h
      rw [Bool.and_eq_true, decide_eq_true_eq] at h
      have hp := ih h.2
      refine List.Pairwise.cons (fun z hz => ?_) hp
      rcases List.mem_cons.1 hz with e | e
      · rw [e]; exact h.1
      · exact List.lt_trans h.1 ((List.pairwise_cons.1 hp).1 z e)
theorem gives_rise (u : SU) (h : fst0 (esC u) = 0) : (u.gives.map tx).Pairwise (fun a b => a < b) := by
  have hz := fst0_zero _ h
  have h1 : orE (risB (u.gives.map tx)) 13 = 0 := hz _ (by unfold esC; simp)
  unfold orE at h1
  cases hb : risB (u.gives.map tx) with
  | false => rw [hb] at h1; exact absurd h1 (by decide)
  | true => exact risB_pair _ hb
theorem use_gives {l : List SU} {n : List UInt8} {x : Use} (hx : x ∈ usesN (usesL l) n) (hg : x.g = true) : ∃ u ∈ l, n ∈ u.gives.map tx := by
  unfold usesN at hx
  obtain ⟨p, hp, rfl⟩ := List.mem_map.1 hx
  obtain ⟨hp1, hp2⟩ := List.mem_filter.1 hp
  have hp2 := of_decide_eq_true hp2
  unfold usesL at hp1
  obtain ⟨u, hu, hq⟩ := List.mem_flatMap.1 hp1
  refine ⟨u, hu, ?_⟩
  unfold usesOf at hq
  rcases List.mem_append.1 hq with hq | hq
  · obtain ⟨o, _, rfl⟩ := List.mem_map.1 hq
    rw [← hp2]; exact of_decide_eq_true hg
  · obtain ⟨o, _, rfl⟩ := List.mem_map.1 hq
    rw [← hp2]; exact of_decide_eq_true hg
theorem gives_count (l : List SU) (h : chkFrom [] l = none) (hs : ∀ n ∈ rsS ((usesL l).map (·.1)), symE 12 (usesN (usesL l) n) = 0) :
    (l.map (fun u => u.gives.length)).sum = ((rsS ((usesL l).map (·.1))).filter (fun n => decide (0 < gCount (usesN (usesL l) n)))).length := by
  obtain ⟨c1, c2, _⟩ := chk_none l [] h
  have hlen : (l.map (fun u => u.gives.length)).sum = (l.flatMap (fun u => u.gives.map tx)).length := by
    rw [List.length_flatMap]; congr 1; apply List.map_congr_left; intro u _; simp
  rw [hlen]
  have n1 : (l.flatMap (fun u => u.gives.map tx)).Nodup := by
    rw [List.nodup_iff_pairwise_ne, List.pairwise_flatMap]
    refine ⟨fun u hu => (gives_rise u (c1 u hu)).imp (fun {a b} hab e => by rw [e] at hab; exact List.lt_irrefl _ hab), ?_⟩
    rw [List.nodup_iff_pairwise_ne, List.pairwise_map] at c2
    refine List.Pairwise.imp_of_mem (fun {a b} ha hb hab x hx y hy e => ?_) c2
    obtain ⟨s, hs1, e1⟩ := List.mem_map.1 hx
    obtain ⟨t, ht1, e2⟩ := List.mem_map.1 hy
    have g1 := (told_gives h hs ha hs1).2.2
    have g2 := (told_gives h hs hb ht1).2.2
    rw [e1, e, ← e2] at g1
    rw [g1] at g2
    exact hab (by rw [g2])
  have n2 : ((rsS ((usesL l).map (·.1))).filter (fun n => decide (0 < gCount (usesN (usesL l) n)))).Nodup := by
    have hp : (rsS ((usesL l).map (·.1))).Pairwise (fun a b => a < b) := (intoAll_spec ordS _).1
    rw [List.nodup_iff_pairwise_ne]
    exact (hp.imp (fun {a b} hab e => by rw [e] at hab; exact List.lt_irrefl _ hab)).filter _
  have hm : ∀ n, n ∈ l.flatMap (fun u => u.gives.map tx) ↔ n ∈ (rsS ((usesL l).map (·.1))).filter (fun n => decide (0 < gCount (usesN (usesL l) n))) := by
    intro n
    rw [List.mem_flatMap, List.mem_filter, decide_eq_true_eq]
    constructor
    · rintro ⟨u, hu, hx⟩
      obtain ⟨s, hs1, rfl⟩ := List.mem_map.1 hx
      obtain ⟨k1, k2, _⟩ := told_gives h hs hu hs1
      exact ⟨k1, k2⟩
    · rintro ⟨_, hc⟩
      unfold gCount at hc
      obtain ⟨x, hx⟩ := List.exists_mem_of_length_pos hc
      obtain ⟨hx1, hx2⟩ := List.mem_filter.1 hx
      exact use_gives hx1 hx2
  exact ((List.perm_ext_iff_of_nodup n1 n2).2 hm).length_eq
end Go.Proofs.YtlkboeajkgbnaaaGreatDoor.ym
namespace Go.Proofs.YtlkboeajkgbnaaaGreatDoor.ym
open Go.RowKit Go.Proofs.YtlkboeajkgbnaaaGreatDoor.mem Go.Proofs.YtlkboeajkgbnaaaGreatDoor.sy
open Go.Proofs.YtlkboeajkgbnaaaGreatDoor.re (tx SU MU SumM)
open Go.Proofs.YtlkboeajkgbnaaaGreatDoor.sf (map_tx enc_tx)
def use0 (u : SU) (n : ByteArray) : MUs := ⟨mkUse u n oZ fZ, none, 0⟩
theorem cSm : Tryz.prog.underlying 83 = some (.struct (Tryz.prog.fieldsOf 83)) := by kernel_rfl
theorem nine_put {w : World} {b : Nat} {t : TypeId} {z0 z1 z2 z3 z4 z5 z6 z7 z8 : Value} (h : Box w b t #[z0, z1, z2, z3, z4, z5, z6, z7, z8]) (v0 v1 v2 v3 v4 v5 v6 v7 v8 : Value) :
    Box (((((((((w.setCell ⟨b, 0, none⟩ v0).setCell ⟨b, 1, none⟩ v1).setCell ⟨b, 2, none⟩ v2).setCell ⟨b, 3, none⟩ v3).setCell ⟨b, 4, none⟩ v4).setCell ⟨b, 5, none⟩ v5).setCell ⟨b, 6, none⟩ v6).setCell ⟨b, 7, none⟩ v7).setCell ⟨b, 8, none⟩ v8) b t #[v0, v1, v2, v3, v4, v5, v6, v7, v8] := by
  have := ((((((((h.put 0 v0).put 1 v1).put 2 v2).put 3 v3).put 4 v4).put 5 v5).put 6 v6).put 7 v7).put 8 v8
  simpa using this
theorem nine_fr (w : World) (b : Nat) (v0 v1 v2 v3 v4 v5 v6 v7 v8 : Value) :
    Fr [b] w (((((((((w.setCell ⟨b, 0, none⟩ v0).setCell ⟨b, 1, none⟩ v1).setCell ⟨b, 2, none⟩ v2).setCell ⟨b, 3, none⟩ v3).setCell ⟨b, 4, none⟩ v4).setCell ⟨b, 5, none⟩ v5).setCell ⟨b, 6, none⟩ v6).setCell ⟨b, 7, none⟩ v7).setCell ⟨b, 8, none⟩ v8) := by
  have p : ∀ i : Nat, (⟨b, i, none⟩ : Addr).block ∈ [b] ∨ w.heap.size ≤ (⟨b, i, none⟩ : Addr).block := fun i => Or.inl (by simp)
  exact (((((((((Fr.refl [b] w).setCell (p 0) v0).setCell (p 1) v1).setCell (p 2) v2).setCell (p 3) v3).setCell (p 4) v4).setCell (p 5) v5).setCell (p 6) v6).setCell (p 7) v7).setCell (p 8) v8
def UsePost (w : World) (u : SU) (n : ByteArray) (e : Ending) (w' : World) : Prop := e = .returned (use0 u n).val ∧ Below w.heap.size w w'
theorem search_b (w : World) (A : Option Addr) (c : Nat) (l : List ByteArray) (n : ByteArray) (h : Rd w A (l.map Value.string)) (hp : (l.map tx).Pairwise (fun a b => a < b)) (hm : l.length ≤ 1000000) :
    Calls Tryz.prog 39 #[.slice A l.length c, .string n] w fun e w' => ∃ k : Nat, e = .returned (.tuple #[.int .i64 k, .bool (decide (tx n ∈ l.map tx))]) ∧ Below w.heap.size w w' := by
  have k := po.search_any w A c (l.map tx) (tx n) (by rw [map_tx]; exact h) hp (by rw [List.length_map]; exact hm)
  rw [List.length_map, enc_tx] at k
  refine k.mono ?_
  rintro e w' ⟨rfl, hb⟩
  exact ⟨_, rfl, hb⟩
set_option maxRecDepth 100000 in
theorem use_any (w : World) (sb : Nat) (u : MU) (n : ByteArray) (hs : SumM w u) (hB : Box w sb 43 u.row) (hg : (u.gives.map tx).Pairwise (fun a b => a < b)) (hw : (u.wants.map tx).Pairwise (fun a b => a < b)) (gl : u.gives.length ≤ 1000000) (wl : u.wants.length ≤ 1000000) :
    Calls Tryz.prog 38 #[.string n, .pointer (some ⟨sb, 0, none⟩)] w (UsePost w u.su n) := by
  obtain ⟨W, hWe⟩ : ∃ W, Hid (W = w.alloc (.cells #[.string ⟨#[]⟩, .bool false, .bool false, .string ⟨#[]⟩, .string ⟨#[]⟩, .slice none 0 0, .string ⟨#[]⟩, .string ⟨#[]⟩, .string ⟨#[]⟩] 83)) := ⟨_, Lib.hid rfl⟩
  have B : Box W w.heap.size 83 #[.string ⟨#[]⟩, .bool false, .bool false, .string ⟨#[]⟩, .string ⟨#[]⟩, .slice none 0 0, .string ⟨#[]⟩, .string ⟨#[]⟩, .string ⟨#[]⟩] := by rw [hWe.out]; exact Box.new _ _ _
  have b0 : Below w.heap.size w W := by rw [hWe.out]; exact (Below.refl _ _).alloc (Nat.le_refl _) _
  have KG := Lib.hid (fun (w2 : World) (b : Below W.heap.size W w2) => search_b w2 u.gA u.gc u.gives n ((hs.below b0).below b).gr hg gl)
  have KW := Lib.hid (fun (w2 : World) (b : Below W.heap.size W w2) => search_b w2 u.wA u.wc u.wants n ((hs.below b0).below b).wr hw wl)
  have HC : Hid (∀ w2, Below W.heap.size W w2 → w2.cell? ⟨sb, 0, none⟩ = some (.string u.name) ∧ w2.cell? ⟨sb, 1, none⟩ = some (.slice u.gA u.gives.length u.gc) ∧ w2.cell? ⟨sb, 2, none⟩ = some (.slice u.wA u.wants.length u.wc)) := Lib.hid (fun w2 b => by
    have x := (hB.kept (Fr.of_below b0 []) (by simp)).kept (Fr.of_below b []) (by simp)
    exact ⟨x.cell 0, x.cell 1, x.cell 2⟩)
  have HB : Hid (∀ w2, Below W.heap.size W w2 → Box w2 w.heap.size 83 #[.string ⟨#[]⟩, .bool false, .bool false, .string ⟨#[]⟩, .string ⟨#[]⟩, .slice none 0 0, .string ⟨#[]⟩, .string ⟨#[]⟩, .string ⟨#[]⟩]) := Lib.hid (fun w2 b => B.kept (Fr.of_below b []) (by simp))
  have HT : Hid (∀ w2 w3, Below W.heap.size W w2 → Below w2.heap.size w2 w3 → Below W.heap.size W w3) := Lib.hid (fun w2 w3 a b => a.trans (b.mono a.size))
  have HE : Hid (∀ w2, Below W.heap.size W w2 → Below w.heap.size w w2) := Lib.hid (fun w2 b => b0.trans (b.mono b0.size))
  have hwl : w.heap.size ≤ W.heap.size := b0.size
  have R0 := Lib.hid (Below.refl W.heap.size W)
  obtain ⟨x0, x1, x2⟩ := HC.out W R0.out
  have K1 := Lib.hid (KG.out W R0.out)
  unfold UsePost use0 mkUse MUs.val oZ fZ MU.su
  dsimp only [List.length_nil]
  clear hs hB B b0 hg hw gl wl KG R0
  generalize decide (tx n ∈ u.gives.map tx) = g at *
  generalize decide (tx n ∈ u.wants.map tx) = q at *
  go_enter Tryz.func38, Tryz.ntmps38
  go_upto_region 1 with fail
  rw [← hWe.out]
  clear hWe
  generalize hbx : w.heap.size = bx at *
  replace hbx := Lib.hid hbx
  go_wp2_with fail
  refine K1.out.mono ?_
  rintro e w2 ⟨k1, rfl, b2⟩
  have B2 := Lib.hid b2
  have K2 := Lib.hid (KW.out w2 b2)
  clear b2 K1 KW x0 x1 x2
  obtain ⟨x0, x1, x2⟩ := HC.out w2 B2.out
  go_wp2_with fail
  refine K2.out.mono ?_
  rintro e w3 ⟨k2, rfl, b3⟩
  have B3 := Lib.hid (HT.out _ _ B2.out b3)
  clear b3 K2 x0 x1 x2
  obtain ⟨x0, x1, x2⟩ := HC.out w3 B3.out
  have BX := HB.out w3 B3.out
  have z0 : w3.cell? ⟨bx, 0, none⟩ = some (.string ⟨#[]⟩) := BX.cell 0
  have v0 := BX.free 0
  have z1 : w3.cell? ⟨bx, 1, none⟩ = some (.bool false) := BX.cell 1
  have v1 := BX.free 1
  have z2 : w3.cell? ⟨bx, 2, none⟩ = some (.bool false) := BX.cell 2
  have v2 := BX.free 2
  have z3 : w3.cell? ⟨bx, 3, none⟩ = some (.string ⟨#[]⟩) := BX.cell 3
  have v3 := BX.free 3
  have z4 : w3.cell? ⟨bx, 4, none⟩ = some (.string ⟨#[]⟩) := BX.cell 4
  have v4 := BX.free 4
  have z5 : w3.cell? ⟨bx, 5, none⟩ = some (.slice none 0 0) := BX.cell 5
  have v5 := BX.free 5
  have z6 : w3.cell? ⟨bx, 6, none⟩ = some (.string ⟨#[]⟩) := BX.cell 6
  have v6 := BX.free 6
  have z7 : w3.cell? ⟨bx, 7, none⟩ = some (.string ⟨#[]⟩) := BX.cell 7
  have v7 := BX.free 7
  have z8 : w3.cell? ⟨bx, 8, none⟩ = some (.string ⟨#[]⟩) := BX.cell 8
  have v8 := BX.free 8
  have hb9 := nine_put BX (.string u.name) (.bool g) (.bool q) (.string ⟨#[]⟩) (.string ⟨#[]⟩) (.slice none 0 0) (.string ⟨#[]⟩) (.string ⟨#[]⟩) (.string ⟨#[]⟩)
  have HB9 := Lib.hid hb9
  have hfin : Hid (Below bx w ((((((((((w3).setCell ⟨bx, 0, none⟩ (.string u.name)).setCell ⟨bx, 1, none⟩ (.bool g)).setCell ⟨bx, 2, none⟩ (.bool q)).setCell ⟨bx, 3, none⟩ (.string ⟨#[]⟩)).setCell ⟨bx, 4, none⟩ (.string ⟨#[]⟩)).setCell ⟨bx, 5, none⟩ (.slice none 0 0)).setCell ⟨bx, 6, none⟩ (.string ⟨#[]⟩)).setCell ⟨bx, 7, none⟩ (.string ⟨#[]⟩)).setCell ⟨bx, 8, none⟩ (.string ⟨#[]⟩))) := Lib.hid ((HE.out w3 B3.out).trans ((nine_fr w3 bx (.string u.name) (.bool g) (.bool q) (.string ⟨#[]⟩) (.string ⟨#[]⟩) (.slice none 0 0) (.string ⟨#[]⟩) (.string ⟨#[]⟩) (.string ⟨#[]⟩)).below (by simp) (Nat.le_trans hwl B3.out.size)))
  clear hb9 BX
  go_wp2_with fail
  (try simp only [Exit.inBlock, Exit.then])
  refine bodyPost_ret (results_cell_row rfl _ _ _ _ _ _ _ rfl HB9.out cSm rfl (by kernel_rfl)) rfl ?_
  exact ⟨rfl, by rw [hbx.out]; exact hfin.out⟩
set_option maxRecDepth 100000 in
theorem alone_any (w : World) (x : MUs) : Calls Tryz.prog 43 #[x.val] w (BPost x.u.alone w) := by
  obtain ⟨W, hWe⟩ : ∃ W, Hid (W = w.alloc (.cells x.row.toArray 83)) := ⟨_, Lib.hid rfl⟩
  have B : Box W w.heap.size 83 x.row.toArray := by rw [hWe.out]; exact Box.new _ _ _
  have b0 : Hid (Below w.heap.size w W) := by rw [hWe.out]; exact Lib.hid ((Below.refl _ _).alloc (Nat.le_refl _) _)
  have x1 : W.cell? ⟨w.heap.size, 1, none⟩ = some (.bool x.u.g) := B.cell 1
  have x2 : W.cell? ⟨w.heap.size, 2, none⟩ = some (.bool x.u.w) := B.cell 2
  clear B
  unfold BPost Use.alone MUs.val
  unfold MUs.row at hWe
  generalize hbx : w.heap.size = bx at *
  replace hbx := Lib.hid hbx
  rcases hg : x.u.g with _ | _
  · rw [hg] at x1
    rcases hw : x.u.w with _ | _
    all_goals
      rw [hw] at x2
      rw [hg, hw] at hWe
      clear hg hw
      go_enter Tryz.func43, Tryz.ntmps43
      go_upto_region 1 with fail
      rw [← hWe.out]
      try rw [hbx.out]
      clear hWe
      go_wp2_with fail
      go_ret
      exact ⟨rfl, b0.out⟩
  · rw [hg] at x1 hWe
    clear hg x2
    go_enter Tryz.func43, Tryz.ntmps43
    go_upto_region 1 with fail
    rw [← hWe.out]
    try rw [hbx.out]
    clear hWe
    go_wp2_with fail
    go_ret
    exact ⟨by simp, b0.out⟩
noncomputable def eqMs (a b : List Mk) : Bool := @decide (a = b) (Classical.propDecidable _)
theorem eqMs_iff {a b : List Mk} : eqMs a b = true ↔ a = b := by unfold eqMs; exact @decide_eq_true_iff _ (Classical.propDecidable _)
theorem eqMs_no {a b : List Mk} (h : ¬ a = b) : eqMs a b = false := by
  rcases hb : eqMs a b with _ | _
  · rfl
  · exact absurd (eqMs_iff.1 hb) h
set_option maxRecDepth 100000 in
theorem eqmarks_any (hm : HeldM) (w : World) (A B : Option Addr) (c d : Nat) (a b : List Mk) (hA : Tbl w A 2 (a.map mkRow)) (hB : Tbl w B 2 (b.map mkRow)) (hla : a.length ≤ maxLen) (hlb : b.length ≤ maxLen) :
    Calls Tryz.prog 76 #[.slice A a.length c, .slice B b.length d] w (BPost (eqMs a b) w) := by
  have HA := Lib.hid (fun (w2 : World) (x : Below w.heap.size w w2) => hA.below x)
  have HB := Lib.hid (fun (w2 : World) (x : Below w.heap.size w w2) => hB.below x)
  have HM := Lib.hid hm
  unfold maxLen at hla hlb
  clear hA hB hm
  obtain ⟨V, hV⟩ : ∃ V, Hid (V = eqMs a b) := ⟨_, Lib.hid rfl⟩
  rw [← hV.out]
  unfold BPost
  obtain ⟨n, hN⟩ : ∃ n, Hid (n = a.length) := ⟨_, Lib.hid rfl⟩
  obtain ⟨m, hMm⟩ : ∃ n, Hid (n = b.length) := ⟨_, Lib.hid rfl⟩
  rw [← hN.out] at hla ⊢
  rw [← hMm.out] at hlb ⊢
  by_cases hnm : n = m
  rotate_left
  · have d0 : (((n : Nat) : Int) != (m : Int)) = true := by simp; omega
    have hv : Hid (V = false) := Lib.hid (by rw [hV.out]; exact eqMs_no (fun e => hnm (by rw [hN.out, hMm.out, e])))
    go_enter Tryz.func76, Tryz.ntmps76
    go_wp2_with fail
    go_ret
    exact ⟨by rw [hv.out]; rfl, Below.refl _ _⟩
  · subst hnm
    have d0 : (((n : Nat) : Int) != (n : Int)) = false := by simp
    have HL : Hid (a.length = b.length) := Lib.hid (by rw [← hN.out, ← hMm.out])
    have hY : Hid ((∀ k (h1 : k < a.length) (h2 : k < b.length), a[k] = b[k]) → V = true) := Lib.hid (fun h => by
      rw [hV.out, eqMs_iff]
      exact List.ext_getElem HL.out (fun k h1 h2 => h k h1 h2))
    have hNo : Hid (∀ k (h1 : k < a.length) (h2 : k < b.length), ¬ a[k] = b[k] → V = false) := Lib.hid (fun k h1 h2 hne => by
      rw [hV.out]
      exact eqMs_no (fun e => hne (by subst e; rfl)))
    clear hV
    go_enter Tryz.func76, Tryz.ntmps76
    go_wp2_with fail
    go_loopw [5, 13] (fun _ i wr => ∃ k : Nat, k ≤ n ∧ i = .int .i64 k ∧ Hid (∀ j (h1 : j < a.length) (h2 : j < b.length), j < k → a[j] = b[j]) ∧ Hid (Below w.heap.size w wr)) (fun _ i _ => n - (intOf i).toNat)
    case atStart => exact ⟨0, by omega, rfl, Lib.hid (fun j _ _ h => by omega), Lib.hid (Below.refl _ _)⟩
    case round =>
      obtain ⟨k, hk, rfl, hG, hb⟩ := hrel
      rename World => wr
      by_cases hkl : k < n
      · have e1 : decide ((k : Int) < (n : Int)) = true := decide_eq_true (by omega)
        have k1 : k < a.length := by rw [← hN.out]; exact hkl
        have k2 : k < b.length := by rw [← hMm.out]; exact hkl
        obtain ⟨g1, o1, rfl, hg1, c0, c1⟩ := tbl_mk (HA.out wr hb.out) k1
        obtain ⟨g2, o2, rfl, hg2, c2, c3⟩ := tbl_mk (HB.out wr hb.out) k2
        have NE := Lib.hid (HM.out.ne a[k] b[k])
        have GU := HM.out.guard
        have hsame : Hid (sameMk a[k] b[k] = true → ∀ j (h1 : j < a.length) (h2 : j < b.length), j < k + 1 → a[j] = b[j]) := Lib.hid (fun h j h1 h2 hj => by
          by_cases e : j = k
          · subst e; exact sameMk_iff.1 h
          · exact hG.out j h1 h2 (by omega))
        have hdiff : Hid (sameMk a[k] b[k] = false → V = false) := Lib.hid (fun h => hNo.out k k1 k2 (fun e => by rw [sameMk_iff.2 e] at h; cases h))
        generalize a[k] = x at *
        generalize b[k] = y at *
        clear hG k1 k2 hg1 hg2
        generalize hs : sameMk x y = s at *
        unfold mkV at NE
        rcases s with _ | _
        · have hv := Lib.hid (hdiff.out rfl)
          have NE2 : ∀ w : World, (binOp .neq 101 (.agg #[.int .i64 x.at_, .string x.tag]) (.agg #[.int .i64 y.at_, .string y.tag])).run Tryz.prog w = .ok (.bool true) w := NE.out
          clear hs hsame hdiff NE
          go_wp2_with fail
          go_quiet (fail)
          have hb2 := Lib.hid (sf.below_drewQ hb.out hb.out.size nq)
          go_wp2_with fail
          go_ret
          exact ⟨by rw [hv.out]; rfl, hb2.out⟩
        · have hG2 := Lib.hid (hsame.out rfl)
          have NE2 : ∀ w : World, (binOp .neq 101 (.agg #[.int .i64 x.at_, .string x.tag]) (.agg #[.int .i64 y.at_, .string y.tag])).run Tryz.prog w = .ok (.bool false) w := NE.out
          clear hs hsame hdiff NE
          go_wp2_with fail
          go_quiet (fail)
          have hb2 := Lib.hid (sf.below_drewQ hb.out hb.out.size nq)
          go_wp2_with fail
          go_roundw
          case rel => exact ⟨k + 1, by omega, by go_num, hG2, hb2⟩
          case measure => simp [intOf]; omega
      · obtain rfl : k = n := by omega
        have e1 : decide ((k : Int) < (k : Int)) = false := decide_eq_false (by omega)
        have hv : Hid (V = true) := Lib.hid (hY.out (fun j h1 h2 => hG.out j h1 h2 (by rw [hN.out]; exact h1)))
        go_wp2_with fail
        go_ret
        exact ⟨by rw [hv.out]; rfl, hb.out⟩
end Go.Proofs.YtlkboeajkgbnaaaGreatDoor.ym
namespace Go.Proofs.YtlkboeajkgbnaaaGreatDoor.ym
open Go.RowKit Go.Proofs.YtlkboeajkgbnaaaGreatDoor.mem Go.Proofs.YtlkboeajkgbnaaaGreatDoor.sy
open Go.Proofs.YtlkboeajkgbnaaaGreatDoor.ins (foot WF Held vals noOf)
open Go.Proofs.YtlkboeajkgbnaaaGreatDoor.re (tx SU MU SumM)
open Go.Proofs.YtlkboeajkgbnaaaGreatDoor.sf (map_tx enc_tx wf_tx)
def useO (u : MU) (o : MO) : MUs := ⟨mkUse u.su o.o.name o.o fZ, o.mA, o.mc⟩
def useF (u : MU) (f : SF) : MUs := ⟨mkUse u.su f.name oZ f, none, 0⟩
def usesM (u : MU) : List (List UInt8 × MUs) := u.s.os.map (fun o => (tx o.o.name, useO u o)) ++ u.s.fs.map (fun f => (tx f.name, useF u f))
theorem usesM_plain (u : MU) : (usesM u).map (fun p => (p.1, p.2.u)) = usesOf u.su := by
  unfold usesM usesOf MU.su MS.sys useO useF
  simp [List.map_map, Function.comp_def, MU.su, MS.sys]
theorem fold_plain : ∀ (l : List (List UInt8 × MUs)) (s : List (List UInt8) × List (List MUs)), plainU (l.foldl putM s) = (l.map (fun p => (p.1, p.2.u))).foldl putU (plainU s)
  | [], s => rfl
  | p :: l, s => by
    rw [List.foldl_cons, List.map_cons, List.foldl_cons, fold_plain l, putM_plain]
structure SumR (w : World) (u : MU) : Prop where
  m : SumM w u
  g : (u.gives.map tx).Pairwise (fun a b => a < b)
  w : (u.wants.map tx).Pairwise (fun a b => a < b)
  gl : u.gives.length ≤ 1000000
  wl : u.wants.length ≤ 1000000
  n : u.name.size ≤ maxLen
theorem SumR.below {w w' : World} {u : MU} (h : SumR w u) (hb : Below w.heap.size w w') : SumR w' u := ⟨h.m.below hb, h.g, h.w, h.gl, h.wl, h.n⟩
def APost (w0 : World) (b N : Nat) (s : List (List UInt8) × List (List MUs)) (F : List Nat) (w : World) (e : Ending) (w' : World) : Prop := e = .returned (.tuple #[]) ∧ ∃ F', UM w0 b N s F' w' ∧ UStep F w F' w'
theorem foldl_takeM (l : List (List UInt8 × MUs)) (s : List (List UInt8) × List (List MUs)) {k : Nat} (hk : k < l.length) : (l.take (k + 1)).foldl putM s = putM ((l.take k).foldl putM s) l[k] := by
  rw [List.take_succ_eq_append_getElem hk, List.foldl_append]
  rfl
structure AL (w0 W : World) (b N : Nat) (s : List (List UInt8) × List (List MUs)) (F : List Nat) (w : World) : Prop where
  ex : ∃ F', UM w0 b N s F' w ∧ UStep F W F' w
  on : Below w0.heap.size w0 w
theorem AL.start {w0 W : World} {b N : Nat} {s : List (List UInt8) × List (List MUs)} {F : List Nat} (h : UM w0 b N s F W) : AL w0 W b N s F W := ⟨⟨F, h, UStep.refl _ _⟩, h.on⟩
theorem AL.below {w0 W w w' : World} {b N : Nat} {s : List (List UInt8) × List (List MUs)} {F : List Nat} (h : AL w0 W b N s F w) (hb : Below w.heap.size w w') : AL w0 W b N s F w' := by
  obtain ⟨F', hu, hs⟩ := h.ex
  exact ⟨⟨F', hu.below hb, hs.trans (UStep.of_below hb)⟩, h.on.trans (hb.mono h.on.size)⟩
theorem AL.box {w0 W w : World} {b N : Nat} {s : List (List UInt8) × List (List MUs)} {F : List Nat} (h : AL w0 W b N s F w) {g : Nat} {t : TypeId} {cs : Array Value} (hb : Box W g t cs) (hn : g ∉ F) : Box w g t cs := by
  obtain ⟨F', hu, hs⟩ := h.ex
  exact hb.kept hs.1 hn
theorem al_put {w0 W w : World} {b N : Nat} {s : List (List UInt8) × List (List MUs)} {F : List Nat} (h : AL w0 W b N s F w) (x : List UInt8) (u : MUs) (hx : WF x) (hN : N < 900000) :
    Calls Tryz.prog 40 #[.pointer (some ⟨b, 0, none⟩), encStr x, u.val] w (fun e w' => e = .returned (.tuple #[]) ∧ AL w0 W b (N + 1) (putM s (x, u)) F w' ∧ ∀ g, g < w.heap.size → (∀ F', UM w0 b N s F' w → UStep F W F' w → g ∉ F') → w'.heap[g]? = w.heap[g]?) := by
  obtain ⟨F', hu, hs⟩ := h.ex
  refine (uput_any w0 w b N s F' x u hu hx hN).mono ?_
  rintro e w' ⟨rfl, F2, h2, k2⟩
  exact ⟨rfl, ⟨⟨F2, h2, hs.trans k2⟩, h2.on⟩, fun g hg hn => k2.1.block g hg (hn F' hu hs)⟩
set_option maxRecDepth 100000 in
set_option maxHeartbeats 8000000 in
theorem all_any (w0 w : World) (b N : Nat) (s : List (List UInt8) × List (List MUs)) (F : List Nat) (u : MU) (hu : SumR w0 u) (h : UM w0 b N s F w) (hN : N + u.s.os.length + u.s.fs.length < 900000) :
    Calls Tryz.prog 14 #[.pointer (some ⟨b, 0, none⟩), u.val] w (APost w0 b (N + u.s.os.length + u.s.fs.length) ((usesM u).foldl putM s) F w) := by
  obtain ⟨W, hWe⟩ : ∃ W, Hid (W = w.alloc (.cells u.row 43)) := ⟨_, Lib.hid rfl⟩
  have B : Box W w.heap.size 43 u.row := by rw [hWe.out]; exact Box.new _ _ _
  have b0 : Below w.heap.size w W := by rw [hWe.out]; exact (Below.refl _ _).alloc (Nat.le_refl _) _
  have hsF : w.heap.size ∉ F := fun hm => by have := (h.foot _ hm).2; omega
  have A0 := Lib.hid (AL.start (h.below b0))
  have HB : Hid (∀ N' s' w2, AL w0 W b N' s' F w2 → Box w2 w.heap.size 43 u.row) := Lib.hid (fun N' s' w2 ha => ha.box B hsF)
  have HU : Hid (∀ N' s' w2, AL w0 W b N' s' F w2 → SumR w2 u) := Lib.hid (fun N' s' w2 ha => hu.below ha.on)
  have HK : Hid (∀ N' s' w2 (n : ByteArray), AL w0 W b N' s' F w2 → Calls Tryz.prog 38 #[.string n, .pointer (some ⟨w.heap.size, 0, none⟩)] w2 (UsePost w2 u.su n)) := Lib.hid (fun N' s' w2 n ha => by
    have q := hu.below ha.on
    exact use_any w2 w.heap.size u n q.m (ha.box B hsF) q.g q.w q.gl q.wl)
  have HE : Hid (∀ w2, AL w0 W b (N + u.s.os.length + u.s.fs.length) ((usesM u).foldl putM s) F w2 → APost w0 b (N + u.s.os.length + u.s.fs.length) ((usesM u).foldl putM s) F w (.returned (.tuple #[])) w2) := Lib.hid (fun w2 ha => by
    obtain ⟨F', h1, h2⟩ := ha.ex
    exact ⟨rfl, F', h1, (UStep.of_below b0).trans h2⟩)
  obtain ⟨L, hL⟩ : ∃ L, Hid (L = usesM u) := ⟨_, Lib.hid rfl⟩
  obtain ⟨Q, hQ⟩ : ∃ Q : Ending → World → Prop, Hid (Q = APost w0 b (N + u.s.os.length + u.s.fs.length) ((usesM u).foldl putM s) F w) := ⟨_, Lib.hid rfl⟩
  rw [← hQ.out] at HE ⊢
  rw [← hL.out] at HE
  have hLl : Hid (L.length = u.s.os.length + u.s.fs.length) := Lib.hid (by rw [hL.out]; unfold usesM; rw [List.length_append, List.length_map, List.length_map])
  have hLo : Hid (∀ k (h1 : k < u.s.os.length) (h2 : k < L.length), L[k] = (tx u.s.os[k].o.name, useO u u.s.os[k])) := Lib.hid (fun k h1 h2 => by
    have : L[k] = (usesM u)[k]'(by rw [← hL.out]; exact h2) := List.getElem_of_eq hL.out h2
    rw [this]; unfold usesM
    rw [List.getElem_append_left (by rw [List.length_map]; exact h1), List.getElem_map])
  have hLf : Hid (∀ k (h1 : k < u.s.fs.length) (h2 : u.s.os.length + k < L.length), L[u.s.os.length + k] = (tx u.s.fs[k].name, useF u u.s.fs[k])) := Lib.hid (fun k h1 h2 => by
    have : L[u.s.os.length + k] = (usesM u)[u.s.os.length + k]'(by rw [← hL.out]; exact h2) := List.getElem_of_eq hL.out h2
    rw [this]; unfold usesM
    rw [List.getElem_append_right (by rw [List.length_map]; omega), List.getElem_map]
    simp)
  clear h hu B b0 hsF hL hQ
  have x4 : W.cell? ⟨w.heap.size, 4, none⟩ = some (.slice u.s.oA u.s.os.length u.s.oc) := (HB.out _ _ W A0.out).cell 4
  obtain ⟨nm, gA, gc, gs, wA, wc, ws, kA, kc, ks, ⟨oA, oc, os, fA, fc, fs, cA, cc, cs⟩⟩ := u
  unfold MU.val
  unfold MU.row at *
  dsimp only at *
  obtain ⟨no, hno⟩ : ∃ no, Hid (no = os.length) := ⟨_, Lib.hid rfl⟩
  obtain ⟨nf, hnf⟩ : ∃ nf, Hid (nf = fs.length) := ⟨_, Lib.hid rfl⟩
  rw [← hno.out] at hWe HB HE hN hLl hLf x4 ⊢
  rw [← hnf.out] at hWe HB HE hN hLl ⊢
  have A0' : Hid (AL w0 W b (N + 0) ((L.take 0).foldl putM s) F W) := A0
  clear A0
  go_enter Tryz.func14, Tryz.ntmps14
  go_upto_region 1 with fail
  rw [← hWe.out]
  clear hWe
  generalize hbx : w.heap.size = sb at *
  clear hbx
  go_wp2_with fail
  go_loopw [6, 7, 16] (fun _ _ i wr => ∃ k : Nat, k ≤ no ∧ i = .int .i64 k ∧ Hid (AL w0 W b (N + k) ((L.take k).foldl putM s) F wr)) (fun _ _ i _ => no - (intOf i).toNat)
  case atStart => exact ⟨0, by omega, rfl, A0'⟩
  case round =>
    obtain ⟨k, hk, rfl, HA⟩ := hrel
    rename World => wr
    clear A0'
    by_cases hkl : k < no
    · have e1 : decide ((k : Int) < (no : Int)) = true := decide_eq_true (by omega)
      have hkx : k < os.length := by rw [← hno.out]; exact hkl
      have hkL : k < L.length := by rw [hLl.out]; omega
      have hU := HU.out _ _ wr HA.out
      obtain ⟨g, off, rfl, hg, c0, c1, c2⟩ := tbl_obj hU.m.sr.o hkx
      have hx : WF (tx os[k].o.name) := wf_tx (hU.m.sr.ok os[k] (List.getElem_mem hkx)).n
      have hnx := Lib.hid (foldl_takeM L s hkL)
      have hLk := Lib.hid (hLo.out k hkx hkL)
      rw [hLk.out] at hnx
      clear hLk hkL hU hg
      generalize os[k] = x at *
      obtain ⟨⟨xn, xk, xm⟩, xA, xc⟩ := x
      dsimp only at c0 c1 c2 hx hnx
      obtain ⟨w1, hw1⟩ : ∃ w1, Hid (w1 = wr.alloc (.cells #[.string xn, .string xk, .slice xA xm.length xc] 70)) := ⟨_, Lib.hid rfl⟩
      have b1 : Below wr.heap.size wr w1 := by rw [hw1.out]; exact ((Fr.refl [] wr).alloc _).all
      have B1 : Box w1 wr.heap.size 70 #[.string xn, .string xk, .slice xA xm.length xc] := by rw [hw1.out]; exact Box.new wr _ _
      have KU := Lib.hid (HK.out _ _ w1 xn (HA.out.below b1))
      have HP : Hid (∀ w2, Below wr.heap.size wr w2 → Calls Tryz.prog 40 #[.pointer (some ⟨b, 0, none⟩), encStr (tx xn), (useO _ _).val] w2 _) := Lib.hid (fun w2 b2 => al_put (HA.out.below b2) (tx xn) (useO ⟨nm, gA, gc, gs, wA, wc, ws, kA, kc, ks, ⟨some ⟨g, off, none⟩, oc, os, fA, fc, fs, cA, cc, cs⟩⟩ ⟨⟨xn, xk, xm⟩, xA, xc⟩) hx (by omega))
      unfold UsePost use0 mkUse MUs.val oZ fZ MU.su at KU
      rw [← hnx.out] at HP
      rw [enc_tx] at HP
      unfold useO mkUse MUs.val fZ MU.su at HP
      dsimp only [List.length_nil] at KU HP
      have hb1 := Lib.hid b1
      have HB1 := Lib.hid B1
      have y0 : w1.cell? ⟨wr.heap.size, 0, none⟩ = some (.string xn) := B1.cell 0
      clear hnx hx b1 B1
      generalize decide (tx xn ∈ gs.map tx) = ug at *
      generalize decide (tx xn ∈ ws.map tx) = uw at *
      generalize xm.length = ml at *
      go_upto_region 5 with fail
      rw [← hw1.out]
      clear hw1 c0 c1 c2
      go_wp2_with fail
      refine KU.out.mono ?_
      rintro e w2 ⟨rfl, b2⟩
      have b12 := Lib.hid (hb1.out.trans (b2.mono hb1.out.size))
      have B2 := Lib.hid (HB1.out.kept (Fr.of_below b2 []) (by simp))
      clear b2 KU y0
      go_upto_region 6 with fail
      obtain ⟨w3, hw3⟩ : ∃ w3, Hid (w3 = w2.alloc (.cells #[.string nm, .bool ug, .bool uw, .string ⟨#[]⟩, .string ⟨#[]⟩, .slice none 0 0, .string ⟨#[]⟩, .string ⟨#[]⟩, .string ⟨#[]⟩] 83)) := ⟨_, Lib.hid rfl⟩
      have B3 : Box w3 w2.heap.size 83 #[.string nm, .bool ug, .bool uw, .string ⟨#[]⟩, .string ⟨#[]⟩, .slice none 0 0, .string ⟨#[]⟩, .string ⟨#[]⟩, .string ⟨#[]⟩] := by rw [hw3.out]; exact Box.new w2 _ _
      have B3o : Box w3 wr.heap.size 70 #[.string xn, .string xk, .slice xA ml xc] := by rw [hw3.out]; exact B2.out.kept ((Fr.refl [] w2).alloc _) (by simp)
      have b3 : Below wr.heap.size wr w3 := by rw [hw3.out]; exact b12.out.trans (((Fr.refl [] w2).alloc _).below (by simp) b12.out.size)
      have hle2 : wr.heap.size ≤ w2.heap.size := b12.out.size
      have hlt2 : wr.heap.size < w2.heap.size := B2.out.lt
      have hb3 := Lib.hid b3
      have HB3 := Lib.hid B3
      have HB3o := Lib.hid B3o
      rw [← hw3.out]
      clear hw3 b3
      generalize hub : w2.heap.size = ub at *
      generalize htb : wr.heap.size = tb at *
      have y0 : w3.cell? ⟨tb, 0, none⟩ = some (.string xn) := B3o.cell 0
      have y1 : w3.cell? ⟨tb, 1, none⟩ = some (.string xk) := B3o.cell 1
      have y2 : w3.cell? ⟨tb, 2, none⟩ = some (.slice xA ml xc) := B3o.cell 2
      have z3 : w3.cell? ⟨ub, 3, none⟩ = some (.string ⟨#[]⟩) := B3.cell 3
      have z4 : w3.cell? ⟨ub, 4, none⟩ = some (.string ⟨#[]⟩) := B3.cell 4
      have z5 : w3.cell? ⟨ub, 5, none⟩ = some (.slice none 0 0) := B3.cell 5
      have v3 := B3.free 3
      have v4 := B3.free 4
      have v5 := B3.free 5
      clear B3 B3o b12 B2
      go_upto_region 7 with fail
      obtain ⟨w4, hw4⟩ : ∃ w4, Hid (w4 = ((w3.setCell ⟨ub, 3, none⟩ (.string xn)).setCell ⟨ub, 4, none⟩ (.string xk)).setCell ⟨ub, 5, none⟩ (.slice xA ml xc)) := ⟨_, Lib.hid rfl⟩
      have f4 : Fr [ub] w3 w4 := by
        have p : ∀ i : Nat, (⟨ub, i, none⟩ : Addr).block ∈ [ub] ∨ w3.heap.size ≤ (⟨ub, i, none⟩ : Addr).block := fun i => Or.inl (by simp)
        rw [hw4.out]
        exact (((Fr.refl [ub] w3).setCell (p 3) _).setCell (p 4) _).setCell (p 5) _
      have B4 : Box w4 ub 83 #[.string nm, .bool ug, .bool uw, .string xn, .string xk, .slice xA ml xc, .string ⟨#[]⟩, .string ⟨#[]⟩, .string ⟨#[]⟩] := by
        have := ((HB3.out.put 3 (.string xn)).put 4 (.string xk)).put 5 (.slice xA ml xc)
        rw [hw4.out]
        simpa using this
      have B4o := HB3o.out.kept f4 (by simp; omega)
      have b4 : Below tb wr w4 := hb3.out.trans (f4.below (by simp; omega) (by have := hb3.out.size; omega))
      rw [← hw4.out]
      have KP := Lib.hid (HP.out w4 b4)
      have q0 : w4.cell? ⟨ub, 0, none⟩ = some (.string nm) := B4.cell 0
      have q1 : w4.cell? ⟨ub, 1, none⟩ = some (.bool ug) := B4.cell 1
      have q2 : w4.cell? ⟨ub, 2, none⟩ = some (.bool uw) := B4.cell 2
      have q3 : w4.cell? ⟨ub, 3, none⟩ = some (.string xn) := B4.cell 3
      have q4 : w4.cell? ⟨ub, 4, none⟩ = some (.string xk) := B4.cell 4
      have q5 : w4.cell? ⟨ub, 5, none⟩ = some (.slice xA ml xc) := B4.cell 5
      have q6 : w4.cell? ⟨ub, 6, none⟩ = some (.string ⟨#[]⟩) := B4.cell 6
      have q7 : w4.cell? ⟨ub, 7, none⟩ = some (.string ⟨#[]⟩) := B4.cell 7
      have q8 : w4.cell? ⟨ub, 8, none⟩ = some (.string ⟨#[]⟩) := B4.cell 8
      have r0 : w4.cell? ⟨tb, 0, none⟩ = some (.string xn) := B4o.cell 0
      clear hw4 f4 B4 B4o b4 y0 y1 y2 z3 z4 z5 v3 v4 v5 hb3 HB3 HB3o HP hb1 HB1
      go_wp2_with fail
      refine KP.out.mono ?_
      rintro e w5 ⟨rfl, ha, _⟩
      have HA2 := Lib.hid ha
      clear ha KP HA q0 q1 q2 q3 q4 q5 q6 q7 q8 r0
      go_wp2_with fail
      go_roundw
      case rel => exact ⟨k + 1, by omega, by go_num, HA2⟩
      case measure => simp [intOf]; omega
    · obtain rfl : k = no := by omega
      have e1 : decide ((k : Int) < (k : Int)) = false := decide_eq_false (by omega)
      obtain ⟨kO, hkO⟩ : ∃ kO, Hid (kO = k) := ⟨_, Lib.hid rfl⟩
      have HA3 : Hid (AL w0 W b (N + kO + 0) ((L.take (kO + 0)).foldl putM s) F wr) := by rw [hkO.out]; exact HA
      have x5 : wr.cell? ⟨sb, 5, none⟩ = some (.slice fA nf fc) := (HB.out _ _ wr HA.out).cell 5
      clear HA
      go_wp2_with fail
      clear x5
      go_loopw [9, 10, 36] (fun _ _ i wr => ∃ j : Nat, j ≤ nf ∧ i = .int .i64 j ∧ Hid (AL w0 W b (N + kO + j) ((L.take (kO + j)).foldl putM s) F wr)) (fun _ _ i _ => nf - (intOf i).toNat)
      case atStart => exact ⟨0, by omega, rfl, HA3⟩
      case round =>
        obtain ⟨j, hj, rfl, HA⟩ := hrel
        rename World => wr2
        clear HA3 x4
        by_cases hjl : j < nf
        · have e1 : decide ((j : Int) < (nf : Int)) = true := decide_eq_true (by omega)
          have hjx : j < fs.length := by rw [← hnf.out]; exact hjl
          have hjL : kO + j < L.length := by rw [hLl.out, ← hkO.out]; omega
          have hU := HU.out _ _ wr2 HA.out
          obtain ⟨g, off, rfl, hg, c0, c1, c2⟩ := tbl_fn hU.m.sr.f hjx
          have hx : WF (tx fs[j].name) := wf_tx (hU.m.sr.fk fs[j] (List.getElem_mem hjx)).n
          have hnx := Lib.hid (foldl_takeM L s hjL)
          have hLk : Hid (L[kO + j] = (tx fs[j].name, useF _ fs[j])) := Lib.hid (by
            have := hLf.out j hjx (by rw [← hkO.out]; exact hjL)
            simpa only [← hkO.out] using this)
          rw [hLk.out] at hnx
          have hN9 : N + kO + j < 900000 := by rw [hkO.out]; omega
          clear hLk hjL hU hg
          generalize fs[j] = x at *
          obtain ⟨xn, xk, xr⟩ := x
          dsimp only at c0 c1 c2 hx hnx
          obtain ⟨w1, hw1⟩ : ∃ w1, Hid (w1 = wr2.alloc (.cells #[.string xn, .string xk, .string xr] 72)) := ⟨_, Lib.hid rfl⟩
          have b1 : Below wr2.heap.size wr2 w1 := by rw [hw1.out]; exact ((Fr.refl [] wr2).alloc _).all
          have B1 : Box w1 wr2.heap.size 72 #[.string xn, .string xk, .string xr] := by rw [hw1.out]; exact Box.new wr2 _ _
          have KU := Lib.hid (HK.out _ _ w1 xn (HA.out.below b1))
          have HP : Hid (∀ w2, Below wr2.heap.size wr2 w2 → Calls Tryz.prog 40 #[.pointer (some ⟨b, 0, none⟩), encStr (tx xn), (useF _ _).val] w2 _) := Lib.hid (fun w2 b2 => al_put (HA.out.below b2) (tx xn) (useF ⟨nm, gA, gc, gs, wA, wc, ws, kA, kc, ks, ⟨oA, oc, os, some ⟨g, off, none⟩, fc, fs, cA, cc, cs⟩⟩ ⟨xn, xk, xr⟩) hx hN9)
          unfold UsePost use0 mkUse MUs.val oZ fZ MU.su at KU
          have hnx2 : putM ((L.take (kO + j)).foldl putM s) (tx xn, useF ⟨nm, gA, gc, gs, wA, wc, ws, kA, kc, ks, ⟨oA, oc, os, some ⟨g, off, none⟩, fc, fs, cA, cc, cs⟩⟩ ⟨xn, xk, xr⟩) = (L.take (kO + j + 1)).foldl putM s := hnx.out.symm
          rw [hnx2] at HP
          clear hnx2
          rw [enc_tx] at HP
          unfold useF mkUse MUs.val oZ MU.su at HP
          dsimp only [List.length_nil] at KU HP
          have hb1 := Lib.hid b1
          have HB1 := Lib.hid B1
          have y0 : w1.cell? ⟨wr2.heap.size, 0, none⟩ = some (.string xn) := B1.cell 0
          clear hnx hx b1 B1
          generalize decide (tx xn ∈ gs.map tx) = ug at *
          generalize decide (tx xn ∈ ws.map tx) = uw at *
          go_upto_region 12 with fail
          rw [← hw1.out]
          clear hw1 c0 c1 c2
          go_wp2_with fail
          refine KU.out.mono ?_
          rintro e w2 ⟨rfl, b2⟩
          have b12 := Lib.hid (hb1.out.trans (b2.mono hb1.out.size))
          have B2 := Lib.hid (HB1.out.kept (Fr.of_below b2 []) (by simp))
          clear b2 KU y0
          go_upto_region 13 with fail
          obtain ⟨w3, hw3⟩ : ∃ w3, Hid (w3 = w2.alloc (.cells #[.string nm, .bool ug, .bool uw, .string ⟨#[]⟩, .string ⟨#[]⟩, .slice none 0 0, .string ⟨#[]⟩, .string ⟨#[]⟩, .string ⟨#[]⟩] 83)) := ⟨_, Lib.hid rfl⟩
          have B3 : Box w3 w2.heap.size 83 #[.string nm, .bool ug, .bool uw, .string ⟨#[]⟩, .string ⟨#[]⟩, .slice none 0 0, .string ⟨#[]⟩, .string ⟨#[]⟩, .string ⟨#[]⟩] := by rw [hw3.out]; exact Box.new w2 _ _
          have B3o : Box w3 wr2.heap.size 72 #[.string xn, .string xk, .string xr] := by rw [hw3.out]; exact B2.out.kept ((Fr.refl [] w2).alloc _) (by simp)
          have b3 : Below wr2.heap.size wr2 w3 := by rw [hw3.out]; exact b12.out.trans (((Fr.refl [] w2).alloc _).below (by simp) b12.out.size)
          have hlt2 : wr2.heap.size < w2.heap.size := B2.out.lt
          have hb3 := Lib.hid b3
          have HB3 := Lib.hid B3
          have HB3o := Lib.hid B3o
          rw [← hw3.out]
          clear hw3 b3
          generalize hub : w2.heap.size = ub at *
          generalize htb : wr2.heap.size = tb at *
          have y0 : w3.cell? ⟨tb, 0, none⟩ = some (.string xn) := B3o.cell 0
          have y1 : w3.cell? ⟨tb, 1, none⟩ = some (.string xk) := B3o.cell 1
          have y2 : w3.cell? ⟨tb, 2, none⟩ = some (.string xr) := B3o.cell 2
          have z3 : w3.cell? ⟨ub, 6, none⟩ = some (.string ⟨#[]⟩) := B3.cell 6
          have z4 : w3.cell? ⟨ub, 7, none⟩ = some (.string ⟨#[]⟩) := B3.cell 7
          have z5 : w3.cell? ⟨ub, 8, none⟩ = some (.string ⟨#[]⟩) := B3.cell 8
          have v3 := B3.free 6
          have v4 := B3.free 7
          have v5 := B3.free 8
          clear B3 B3o b12 B2
          go_upto_region 14 with fail
          obtain ⟨w4, hw4⟩ : ∃ w4, Hid (w4 = ((w3.setCell ⟨ub, 6, none⟩ (.string xn)).setCell ⟨ub, 7, none⟩ (.string xk)).setCell ⟨ub, 8, none⟩ (.string xr)) := ⟨_, Lib.hid rfl⟩
          have f4 : Fr [ub] w3 w4 := by
            have p : ∀ i : Nat, (⟨ub, i, none⟩ : Addr).block ∈ [ub] ∨ w3.heap.size ≤ (⟨ub, i, none⟩ : Addr).block := fun i => Or.inl (by simp)
            rw [hw4.out]
            exact (((Fr.refl [ub] w3).setCell (p 6) _).setCell (p 7) _).setCell (p 8) _
          have B4 : Box w4 ub 83 #[.string nm, .bool ug, .bool uw, .string ⟨#[]⟩, .string ⟨#[]⟩, .slice none 0 0, .string xn, .string xk, .string xr] := by
            have := ((HB3.out.put 6 (.string xn)).put 7 (.string xk)).put 8 (.string xr)
            rw [hw4.out]
            simpa using this
          have B4o := HB3o.out.kept f4 (by simp; omega)
          have b4 : Below tb wr2 w4 := hb3.out.trans (f4.below (by simp; omega) (by have := hb3.out.size; omega))
          rw [← hw4.out]
          have KP := Lib.hid (HP.out w4 b4)
          have q0 : w4.cell? ⟨ub, 0, none⟩ = some (.string nm) := B4.cell 0
          have q1 : w4.cell? ⟨ub, 1, none⟩ = some (.bool ug) := B4.cell 1
          have q2 : w4.cell? ⟨ub, 2, none⟩ = some (.bool uw) := B4.cell 2
          have q3 : w4.cell? ⟨ub, 3, none⟩ = some (.string ⟨#[]⟩) := B4.cell 3
          have q4 : w4.cell? ⟨ub, 4, none⟩ = some (.string ⟨#[]⟩) := B4.cell 4
          have q5 : w4.cell? ⟨ub, 5, none⟩ = some (.slice none 0 0) := B4.cell 5
          have q6 : w4.cell? ⟨ub, 6, none⟩ = some (.string xn) := B4.cell 6
          have q7 : w4.cell? ⟨ub, 7, none⟩ = some (.string xk) := B4.cell 7
          have q8 : w4.cell? ⟨ub, 8, none⟩ = some (.string xr) := B4.cell 8
          have r0 : w4.cell? ⟨tb, 0, none⟩ = some (.string xn) := B4o.cell 0
          clear hw4 f4 B4 B4o b4 y0 y1 y2 z3 z4 z5 v3 v4 v5 hb3 HB3 HB3o HP hb1 HB1
          go_wp2_with fail
          refine KP.out.mono ?_
          rintro e w5 ⟨rfl, ha, _⟩
          have HA2 := Lib.hid ha
          clear ha KP HA q0 q1 q2 q3 q4 q5 q6 q7 q8 r0
          go_wp2_with fail
          go_roundw
          case rel => exact ⟨j + 1, by omega, by go_num, HA2⟩
          case measure => simp [intOf]; omega
        · obtain rfl : j = nf := by omega
          have e1 : decide ((j : Int) < (j : Int)) = false := decide_eq_false (by omega)
          have hfin : Hid (Q (.returned (.tuple #[])) wr2) := Lib.hid (by
            apply HE.out
            have := HA.out
            rw [hkO.out, List.take_of_length_le (by rw [hLl.out]; omega)] at this
            exact this)
          clear HA
          go_wp2_with fail
          (try simp only [Exit.inBlock, Exit.then])
          refine bodyPost_ret (results_none rfl _ _ _) rfl ?_
          exact hfin.out
end Go.Proofs.YtlkboeajkgbnaaaGreatDoor.ym
namespace Go.Proofs.YtlkboeajkgbnaaaGreatDoor.ym
open Go.RowKit Go.Proofs.YtlkboeajkgbnaaaGreatDoor.mem Go.Proofs.YtlkboeajkgbnaaaGreatDoor.sy
open Go.Proofs.YtlkboeajkgbnaaaGreatDoor.re (tx SU MU SumM)
open Go.Proofs.YtlkboeajkgbnaaaGreatDoor.sf (map_tx enc_tx SumK putL esC fst0 orE risB)
open Go.Proofs.YtlkboeajkgbnaaaGreatDoor.inn (rsS)
def rowS (u : MU) : List Value := [.string u.name, .slice u.gA u.gives.length u.gc, .slice u.wA u.wants.length u.wc, .slice u.kA u.keeps.length u.kc, .slice u.s.oA u.s.os.length u.s.oc, .slice u.s.fA u.s.fs.length u.s.fc, .slice u.s.cA u.s.cs.length u.s.cc]
structure SusM (w : World) (A : Option Addr) (l : List MU) : Prop where
  t : Tbl w A 7 (l.map rowS)
  k : ∀ u ∈ l, SumK w u
  n : ∀ u ∈ l, u.s.os.length + u.s.fs.length ≤ 1000
theorem SusM.below {w w' : World} {A : Option Addr} {l : List MU} (h : SusM w A l) (hb : Below w.heap.size w w') : SusM w' A l := ⟨h.t.below hb, fun u hu => (h.k u hu).below hb, h.n⟩
theorem SusM.at_ {w : World} {A : Option Addr} {l : List MU} (h : SusM w A l) {k : Nat} (hk : k < l.length) : ∃ g off, A = some ⟨g, off, none⟩ ∧ g < w.heap.size ∧ ∀ i v, (rowS l[k])[i]? = some v → w.cell? ⟨g, off + k * 7 + i, none⟩ = some v := by
  obtain ⟨b, off, e, hl, hc⟩ := h.t (by rw [List.length_map]; omega)
  exact ⟨b, off, e, hl, fun i v hv => hc k (by rw [List.length_map]; exact hk) i v (by rw [List.getElem_map]; exact hv)⟩
theorem wants_rise (u : SU) (h : fst0 (esC u) = 0) : (u.wants.map tx).Pairwise (fun a b => a < b) := by
  have hz := fst0_zero _ h
  have h1 : orE (risB (u.wants.map tx)) 13 = 0 := hz _ (by unfold esC; simp)
  unfold orE at h1
  cases hb : risB (u.wants.map tx) with
  | false => rw [hb] at h1; exact absurd h1 (by decide)
  | true => exact risB_pair _ hb
theorem sumR_of {w : World} {u : MU} (h : SumK w u) (h0 : fst0 (esC u.su) = 0) : SumR w u := ⟨h.m, gives_rise u.su h0, wants_rise u.su h0, h.gl, Nat.le_trans h.wl (by decide), h.n⟩
structure RS (w : World) (X : List Nat) (N1 : Nat) (ms : List (List UInt8)) (N2 : Nat) (s : List (List UInt8) × List (List MUs)) (wr : World) : Prop where
  ex : ∃ A cap m F, ins.Tb wr (w.heap.size + 3) A cap m N1 ms ∧ UM w (w.heap.size + 4) N2 s F wr ∧ (∀ g ∈ ins.foot (w.heap.size + 3) A m, w.heap.size ≤ g ∧ g ∉ F) ∧ ∀ x ∈ X, x < wr.heap.size ∧ x ∉ ins.foot (w.heap.size + 3) A m ∧ x ∉ F
  on : Below w.heap.size w wr
section
variable {w wr w' : World} {X : List Nat} {N1 N2 : Nat} {ms : List (List UInt8)} {s : List (List UInt8) × List (List MUs)}
theorem RS.below (h : RS w X N1 ms N2 s wr) (hb : Below wr.heap.size wr w') : RS w X N1 ms N2 s w' := by
  obtain ⟨A, cap, m, F, h1, h2, h3, h4⟩ := h.ex
  exact ⟨⟨A, cap, m, F, h1.kept (Fr.of_below hb []) (by simp), h2.below hb, h3, fun x hx => ⟨Nat.lt_of_lt_of_le (h4 x hx).1 hb.size, (h4 x hx).2⟩⟩, h.on.trans (hb.mono h.on.size)⟩
theorem RS.add (h : RS w X N1 ms N2 s wr) (o : Obj) : RS w (wr.heap.size :: X) N1 ms N2 s (wr.alloc o) := by
  obtain ⟨A, cap, m, F, h1, h2, h3, h4⟩ := h.ex
  have hb : Below wr.heap.size wr (wr.alloc o) := ((Fr.refl [] wr).alloc o).all
  refine ⟨⟨A, cap, m, F, h1.kept (Fr.of_below hb []) (by simp), h2.below hb, h3, fun x hx => ?_⟩, h.on.trans (hb.mono h.on.size)⟩
  rcases List.mem_cons.1 hx with e | e
  · subst e
    refine ⟨by simp, fun hm => ?_, fun hm => ?_⟩
    · have := h1.lt _ hm; omega
    · have := (h2.foot _ hm).2; omega
  · exact ⟨Nat.lt_of_lt_of_le (h4 x e).1 hb.size, (h4 x e).2⟩
theorem RS.less {x : Nat} (h : RS w (x :: X) N1 ms N2 s wr) : RS w X N1 ms N2 s wr := by
  obtain ⟨A, cap, m, F, h1, h2, h3, h4⟩ := h.ex
  exact ⟨⟨A, cap, m, F, h1, h2, h3, fun y hy => h4 y (List.mem_cons_of_mem _ hy)⟩, h.on⟩
theorem rs_put (h : RS w X N1 ms N2 s wr) (x : List UInt8) (hx : ins.WF x) (hN : N1 < 900000) :
    Calls Tryz.prog 13 #[.pointer (some ⟨w.heap.size + 3, 0, none⟩), encStr x] wr (fun e w' => (∃ i : Int, e = .returned (.tuple #[.int .i64 i, .bool (!decide (x ∈ ms))])) ∧ RS w X (N1 + 1) (putL ms x) N2 s w' ∧ ∀ q ∈ X, w'.heap[q]? = wr.heap[q]?) := by
  obtain ⟨A, cap, m, F, h1, h2, h3, h4⟩ := h.ex
  by_cases hin : x ∈ ms
  · refine (ins.put_old wr _ A cap m N1 ms x h1 hx hin).mono ?_
    rintro e w' ⟨rfl, hb⟩
    have hp : putL ms x = ms := by unfold putL; rw [if_pos hin]
    rw [hp]
    have h5 := h.below hb
    obtain ⟨A2, cap2, m2, F2, k1, k2, k3, k4⟩ := h5.ex
    exact ⟨⟨_, by rw [decide_eq_true hin]; rfl⟩, ⟨⟨A2, cap2, m2, F2, ⟨k1.box, k1.seg, k1.set.mono (Nat.le_succ _), k1.nod, k1.wf, Nat.le_succ_of_le k1.len⟩, k2, k3, k4⟩, h5.on⟩, fun q hq => hb.block q (h4 q hq).1⟩
  · refine (ins.put_any wr _ A cap m N1 ms x h1 hx hin (by omega)).mono ?_
    rintro e w' ⟨rfl, hF, A2, cap2, m2, ht, hf⟩
    have hp : putL ms x = ms ++ [x] := by unfold putL; rw [if_neg hin]
    rw [hp]
    have hge : ∀ g ∈ ins.foot (w.heap.size + 3) A m, w.heap.size ≤ g := fun g hg => (h3 g hg).1
    refine ⟨⟨_, by rw [decide_eq_false hin]; rfl⟩, ⟨⟨A2, cap2, m2, F, ht, h2.kept hF (fun g hg hm => (h3 g hm).2 hg) hge, fun g hg => ?_, fun q hq => ?_⟩, h.on.trans (hF.below hge h.on.size)⟩, fun q hq => hF.block q (h4 q hq).1 (h4 q hq).2.1⟩
    · rcases hf g hg with h5 | h5
      · exact h3 g h5
      · exact ⟨Nat.le_trans h.on.size h5, fun hm => by have := (h2.foot g hm).2; omega⟩
    · refine ⟨Nat.lt_of_lt_of_le (h4 q hq).1 hF.size, fun hm => ?_, (h4 q hq).2.2⟩
      rcases hf q hm with h5 | h5
      · exact (h4 q hq).2.1 h5
      · have := (h4 q hq).1; omega
theorem rs_all (h : RS w X N1 ms N2 s wr) (u : MU) (hu : SumR w u) (hN : N2 + u.s.os.length + u.s.fs.length < 900000) :
    Calls Tryz.prog 14 #[.pointer (some ⟨w.heap.size + 4, 0, none⟩), u.val] wr (fun e w' => e = .returned (.tuple #[]) ∧ RS w X N1 ms (N2 + u.s.os.length + u.s.fs.length) ((usesM u).foldl putM s) w' ∧ ∀ q ∈ X, w'.heap[q]? = wr.heap[q]?) := by
  obtain ⟨A, cap, m, F, h1, h2, h3, h4⟩ := h.ex
  refine (all_any w wr (w.heap.size + 4) N2 s F u hu h2 hN).mono ?_
  rintro e w' ⟨rfl, F2, k1, k2⟩
  have hge : ∀ g ∈ F, w.heap.size ≤ g := fun g hg => (h2.foot g hg).1
  refine ⟨rfl, ⟨⟨A, cap, m, F2, h1.kept k2.1 (fun g hg => (h3 g hg).2), k1, fun g hg => ⟨(h3 g hg).1, fun hm => ?_⟩, fun q hq => ⟨Nat.lt_of_lt_of_le (h4 q hq).1 k2.1.size, (h4 q hq).2.1, fun hm => ?_⟩⟩, k1.on⟩, fun q hq => k2.1.block q (h4 q hq).1 (h4 q hq).2.2⟩
  · rcases k2.2 g hm with h5 | h5
    · exact (h3 g hg).2 h5
    · have := h1.lt g hg; omega
  · rcases k2.2 q hm with h5 | h5
    · exact (h4 q hq).2.2 h5
    · have := (h4 q hq).1; omega
end
theorem box_same {w w' : World} {g : Nat} {t : TypeId} {cs : Array Value} (h : Box w g t cs) (e : w'.heap[g]? = w.heap[g]?) : Box w' g t cs := e.trans h
theorem rs_new (w : World) (w5 : World) (h5 : w5 = ((((w.alloc (.cells #[.slice none 0 0] 24)).alloc (.cells #[.string ⟨#[]⟩] 9)).alloc (.cells #[.int .i64 0] 25)).alloc (.cells #[.map none, .slice none 0 0] 48)).alloc (.cells #[.map none, .slice none 0 0, .slice none 0 0] 51)) :
    RS w [w.heap.size, w.heap.size + 1, w.heap.size + 2] 0 [] 0 ([], []) w5 ∧ Box w5 w.heap.size 24 #[.slice none 0 0] ∧ Box w5 (w.heap.size + 1) 9 #[.string ⟨#[]⟩] ∧ Box w5 (w.heap.size + 2) 25 #[.int .i64 0] := by
  subst h5
  have z1 : (w.alloc (.cells #[.slice none 0 0] 24)).heap.size = w.heap.size + 1 := Array.size_push _
  have z2 : ((w.alloc (.cells #[.slice none 0 0] 24)).alloc (.cells #[.string ⟨#[]⟩] 9)).heap.size = w.heap.size + 2 := by rw [World.size_alloc, z1]
  have z3 : (((w.alloc (.cells #[.slice none 0 0] 24)).alloc (.cells #[.string ⟨#[]⟩] 9)).alloc (.cells #[.int .i64 0] 25)).heap.size = w.heap.size + 3 := by rw [World.size_alloc, z2]
  have b0 := Box.new w 24 #[.slice none 0 0]
  have b1 := Box.new (w.alloc (.cells #[.slice none 0 0] 24)) 9 #[.string ⟨#[]⟩]
  have b2 := Box.new ((w.alloc (.cells #[.slice none 0 0] 24)).alloc (.cells #[.string ⟨#[]⟩] 9)) 25 #[.int .i64 0]
  rw [z1] at b1
  rw [z2] at b2
  have c0 := (b0.kept ((Fr.refl [] _).alloc (.cells #[.string ⟨#[]⟩] 9)) (by simp)).kept ((Fr.refl [] _).alloc (.cells #[.int .i64 0] 25)) (by simp)
  have c1 := b1.kept ((Fr.refl [] _).alloc (.cells #[.int .i64 0] 25)) (by simp)
  generalize hw3 : ((w.alloc (.cells #[.slice none 0 0] 24)).alloc (.cells #[.string ⟨#[]⟩] 9)).alloc (.cells #[.int .i64 0] 25) = w3 at *
  have on3 : Below w.heap.size w w3 := by
    rw [← hw3]
    exact ((((Fr.refl [] w).alloc _).alloc _).alloc _).all
  clear hw3 b0 b1 z1 z2
  have t3 := ins.ts_new w3
  have u4 := um_new w (w3.alloc (.cells #[.map none, .slice none 0 0] 48)) (on3.alloc on3.size _)
  rw [z3] at t3
  rw [World.size_alloc, z3] at u4
  have f : Fr [] (w3.alloc (.cells #[.map none, .slice none 0 0] 48)) ((w3.alloc (.cells #[.map none, .slice none 0 0] 48)).alloc (.cells #[.map none, .slice none 0 0, .slice none 0 0] 51)) := (Fr.refl [] _).alloc _
  have f2 : Fr [] w3 ((w3.alloc (.cells #[.map none, .slice none 0 0] 48)).alloc (.cells #[.map none, .slice none 0 0, .slice none 0 0] 51)) := ((Fr.refl [] _).alloc _).alloc _
  refine ⟨⟨⟨none, 0, none, [w.heap.size + 4], t3.kept f (by simp), u4, fun g hg => ?_, fun x hx => ?_⟩, u4.on⟩, c0.kept f2 (by simp), c1.kept f2 (by simp), b2.kept f2 (by simp)⟩
  · have : g = w.heap.size + 3 := by simpa [ins.foot, blk] using hg
    subst this
    exact ⟨by omega, by simp⟩
  · have hs : ((w3.alloc (.cells #[.map none, .slice none 0 0] 48)).alloc (.cells #[.map none, .slice none 0 0, .slice none 0 0] 51)).heap.size = w.heap.size + 5 := by rw [World.size_alloc, World.size_alloc, z3]
    rw [hs]
    simp only [List.mem_cons, List.not_mem_nil, or_false] at hx
    rcases hx with rfl | rfl | rfl <;> refine ⟨by omega, by simp [ins.foot, blk], by simp⟩
end Go.Proofs.YtlkboeajkgbnaaaGreatDoor.ym
namespace Go.Proofs.YtlkboeajkgbnaaaGreatDoor.re
open Go.RowKit Go.Sort Go.Shelf Go.Proofs.YtlkboeajkgbnaaaGreatDoor.mem
theorem map_tx (l : List ByteArray) : (l.map tx).map encStr = l.map Value.string := by
  rw [List.map_map]
  rfl
def GTPost (w : World) (l : List (List UInt8)) (N : Nat) (e : Ending) (w' : World) : Prop := ∃ r, e = .returned (.bool r) ∧ w = w' ∧ (r = false → l.length ≤ N ∧ ∀ s ∈ l, s.length ≤ 100)
theorem len_take {l : List (List UInt8)} {k : Nat} (hk : k < l.length) (h : ∀ s ∈ l.take k, s.length ≤ 100) (h2 : l[k].length ≤ 100) : ∀ s ∈ l.take (k + 1), s.length ≤ 100 := fun s hs => by
  rw [List.take_succ_eq_append_getElem hk, List.mem_append, List.mem_singleton] at hs
  rcases hs with hs | rfl
  · exact h s hs
  · exact h2
theorem rd_at {w : World} {A : Option Addr} {l : List (List UInt8)} (h : Rd w A (l.map encStr)) {k : Nat} (hk : k < l.length) : ∃ g o, A = some ⟨g, o, none⟩ ∧ g < w.heap.size ∧ w.cell? ⟨g, o + k, none⟩ = some (encStr l[k]) := by
  obtain ⟨g, o, e, hl, hc⟩ := h (by rw [List.length_map]; omega)
  refine ⟨g, o, e, hl, ?_⟩
  rw [hc k (by rw [List.length_map]; exact hk), List.getElem_map]
set_option maxRecDepth 100000 in
theorem greatT_any (w : World) (A : Option Addr) (cap : Nat) (l : List (List UInt8)) (h : Rd w A (l.map encStr)) (hm : l.length ≤ maxLen) :
    Calls Tryz.prog 23 #[.slice A l.length cap] w (GTPost w l 60) := by
  have Hh := Lib.hid h
  unfold maxLen at hm
  clear h
  unfold GTPost
  obtain ⟨n, hN⟩ : ∃ n, Hid (n = l.length) := ⟨_, Lib.hid rfl⟩
  rw [← hN.out] at hm ⊢
  go_enter Tryz.func23, Tryz.ntmps23
  go_wp2_with fail
  go_loopw [3] (fun i wr => ∃ k : Nat, k ≤ n ∧ k ≤ 60 ∧ i = .int .i64 k ∧ Hid (∀ s ∈ l.take k, s.length ≤ 100) ∧ w = wr) (fun i _ => n - (intOf i).toNat)
  case atStart => exact ⟨0, by omega, by omega, rfl, Lib.hid (fun s hs => by simp at hs), rfl⟩
  case round =>
    obtain ⟨k, hk, hk6, rfl, hG, rfl⟩ := hrel
    by_cases hkl : k < n
    · have e1 : decide ((k : Int) < (n : Int)) = true := decide_eq_true (by omega)
      have hkx : k < l.length := by rw [← hN.out]; exact hkl
      by_cases h6 : 60 ≤ k
      · have e2 : decide ((60 : Int) ≤ (k : Int)) = true := decide_eq_true (by omega)
        go_wp2_with fail
        go_ret
        exact ⟨true, rfl, rfl, fun h => by cases h⟩
      · have e2 : decide ((60 : Int) ≤ (k : Int)) = false := decide_eq_false (by omega)
        obtain ⟨g, o, rfl, hg, c3⟩ := rd_at Hh.out hkx
        have hG2 := Lib.hid (len_take hkx hG.out)
        clear hG
        unfold encStr at c3
        generalize l[k] = tx at *
        by_cases h100 : 100 < tx.length
        · have e3 : decide ((100 : Int) < (tx.length : Int)) = true := decide_eq_true (by omega)
          go_wp2_with fail
          go_ret
          exact ⟨true, rfl, rfl, fun h => by cases h⟩
        · have e3 : decide ((100 : Int) < (tx.length : Int)) = false := decide_eq_false (by omega)
          have hG3 := Lib.hid (hG2.out (by omega))
          clear hG2
          go_wp2_with fail
          go_roundw
          case rel => exact ⟨k + 1, by omega, by omega, by go_num, hG3, trivial⟩
          case measure => simp [intOf]; omega
    · obtain rfl : k = n := by omega
      have e1 : decide ((k : Int) < (k : Int)) = false := decide_eq_false (by omega)
      have hall : Hid (∀ s ∈ l, s.length ≤ 100) := Lib.hid (by
        have := hG.out
        rwa [List.take_of_length_le (by rw [hN.out]; exact Nat.le_refl _)] at this)
      go_wp2_with fail
      go_ret
      exact ⟨false, rfl, rfl, fun _ => ⟨hk6, hall.out⟩⟩
set_option maxRecDepth 100000 in
theorem greatK_any (w : World) (A : Option Addr) (cap : Nat) (l : List (List UInt8)) (h : Rd w A (l.map encStr)) (hm : l.length ≤ maxLen) (h2 : l.length ≤ 200) :
    Calls Tryz.prog 24 #[.slice A l.length cap] w (GTPost w l 200) := by
  have Hh := Lib.hid h
  unfold maxLen at hm
  clear h
  unfold GTPost
  obtain ⟨n, hN⟩ : ∃ n, Hid (n = l.length) := ⟨_, Lib.hid rfl⟩
  rw [← hN.out] at hm h2 ⊢
  go_enter Tryz.func24, Tryz.ntmps24
  go_wp2_with fail
  go_loopw [3] (fun i wr => ∃ k : Nat, k ≤ n ∧ i = .int .i64 k ∧ Hid (∀ s ∈ l.take k, s.length ≤ 100) ∧ w = wr) (fun i _ => n - (intOf i).toNat)
  case atStart => exact ⟨0, by omega, rfl, Lib.hid (fun s hs => by simp at hs), rfl⟩
  case round =>
    obtain ⟨k, hk, rfl, hG, rfl⟩ := hrel
    by_cases hkl : k < n
    · have e1 : decide ((k : Int) < (n : Int)) = true := decide_eq_true (by omega)
      have hkx : k < l.length := by rw [← hN.out]; exact hkl
      obtain ⟨g, o, rfl, hg, c3⟩ := rd_at Hh.out hkx
      have hG2 := Lib.hid (len_take hkx hG.out)
      clear hG
      unfold encStr at c3
      generalize l[k] = tx at *
      by_cases h100 : 100 < tx.length
      · have e3 : decide ((100 : Int) < (tx.length : Int)) = true := decide_eq_true (by omega)
        go_wp2_with fail
        go_ret
        exact ⟨true, rfl, rfl, fun h => by cases h⟩
      · have e3 : decide ((100 : Int) < (tx.length : Int)) = false := decide_eq_false (by omega)
        have hG3 := Lib.hid (hG2.out (by omega))
        clear hG2
        go_wp2_with fail
        go_roundw
        case rel => exact ⟨k + 1, by omega, by go_num, hG3, trivial⟩
        case measure => simp [intOf]; omega
    · obtain rfl : k = n := by omega
      have e1 : decide ((k : Int) < (k : Int)) = false := decide_eq_false (by omega)
      have hall : Hid (∀ s ∈ l, s.length ≤ 100) := Lib.hid (by
        have := hG.out
        rwa [List.take_of_length_le (by rw [hN.out]; exact Nat.le_refl _)] at this)
      go_wp2_with fail
      go_ret
      exact ⟨false, rfl, rfl, fun _ => ⟨h2, hall.out⟩⟩
end Go.Proofs.YtlkboeajkgbnaaaGreatDoor.re
namespace Go.Proofs.YtlkboeajkgbnaaaGreatDoor.re
open Go.RowKit Go.ChangeShapes Go.WideShapes Go.Proofs.YtlkboeajkgbnaaaGreatDoor.mem Go.Proofs.YtlkboeajkgbnaaaGreatDoor.sy
theorem cSu : Tryz.prog.cellsOf 43 = 7 := by kernel_rfl
theorem uSu : Tryz.prog.underlying 43 = some (.struct (Tryz.prog.fieldsOf 43)) := by kernel_rfl
theorem fSu : (Tryz.prog.fieldsOf 43).toList.map (fun f => (f.type, f.offset)) = [(9, 0), (31, 1), (31, 2), (31, 3), (41, 4)] := by kernel_rfl
structure MB (B : Nat) (x : Mk) : Prop where
  t : x.tag.size ≤ B
structure OB (B : Nat) (x : SO) : Prop where
  n : x.name.size ≤ B
  k : x.kinds.size ≤ B
  l : x.marks.length * 24 ≤ B
  m : ∀ y ∈ x.marks, y.tag.size ≤ B
structure FB (B : Nat) (x : SF) : Prop where
  n : x.name.size ≤ B
  k : x.kinds.size ≤ B
  r : x.ret.size ≤ B
structure CB (B : Nat) (x : SC) : Prop where
  a : x.a.size ≤ B
  b : x.b.size ≤ B
  t : x.tag.size ≤ B
  l : x.args.length * 16 ≤ B
  g : ∀ y ∈ x.args, y.size ≤ B
structure SumB (B : Nat) (u : MU) : Prop where
  n : u.name.size ≤ B
  g : u.gives.length ≤ maxLen ∧ (∀ s ∈ u.gives, s.size ≤ B) ∧ u.gives.length * 16 ≤ B
  w : u.wants.length ≤ maxLen ∧ (∀ s ∈ u.wants, s.size ≤ B) ∧ u.wants.length * 16 ≤ B
  k : u.keeps.length ≤ maxLen ∧ (∀ s ∈ u.keeps, s.size ≤ B) ∧ u.keeps.length * 16 ≤ B
  os : ∀ x ∈ u.s.os, OB B x.o
  fs : ∀ x ∈ u.s.fs, FB B x
  cs : ∀ x ∈ u.s.cs, CB B x.c
section
variable {H : Type} {enc : TypeId × Value → H} {W : World} {B : Nat}
theorem bMk : Tryz.prog.bytesOf 101 = 24 := by kernel_rfl
theorem str_elB {n : Nat} {u : Value} {y : DataW H × List MemPlace} (h : DataW.trod enc Tryz.prog W 0 (fun _ => true) true n 9 [u] = some y) (hw : ∀ m ∈ y.1.weights Tryz.prog 9, m ≤ B) : ∃ a : ByteArray, u = .string a ∧ a.size ≤ maxLen ∧ a.size ≤ B := by
  obtain ⟨a, e, hd, hs⟩ := DataW.trod_string Tryz.underlying9 h
  simp only [List.cons.injEq, and_true] at e
  refine ⟨a, e, hs, ?_⟩
  rw [hd] at hw
  have := hw a.data.toList.length (by simp [DataW.weights])
  rw [Array.length_toList] at this
  exact this
theorem mk_elB (n : Nat) (cs : List Value) (y : DataW H × List MemPlace) (h : DataW.trod enc Tryz.prog W 0 (fun _ => true) true n 101 cs = some y) (hl : cs.length = 2) (hw : ∀ m ∈ y.1.weights Tryz.prog 101, m ≤ B) :
    ∃ x : Mk, cs = mkRow x ∧ (x.tag.size ≤ maxLen ∧ (Lit.int .i64 x.at_).wf = true) ∧ MB B x := by
  match cs, hl with
  | [c0, c1], _ =>
    obtain ⟨ys, m, _, hx, _, hl2, hf⟩ := DataW.trod_struct sy.uMk h
    rw [hx] at hw
    obtain ⟨y0, h0, w0⟩ := fld fMk hl2 hf sy.uMk hw 0 3 0 rfl
    obtain ⟨y1, h1, w1⟩ := fld fMk hl2 hf sy.uMk hw 1 9 1 rfl
    rw [cInt] at h0
    rw [cStr] at h1
    obtain ⟨a0, rfl, s0⟩ := int_el (u := c0) h0
    obtain ⟨a1, rfl, s1, b1⟩ := str_elB (u := c1) h1 w1
    exact ⟨⟨a0, a1⟩, rfl, ⟨s1, s0⟩, ⟨b1⟩⟩
theorem obj_elB (n : Nat) (cs : List Value) (y : DataW H × List MemPlace) (h : DataW.trod enc Tryz.prog W 0 (fun _ => true) true n 70 cs = some y) (hl : cs.length = 3) (hw : ∀ m ∈ y.1.weights Tryz.prog 70, m ≤ B) :
    ∃ x : MO, cs = x.row ∧ MOk W x ∧ OB B x.o := by
  match cs, hl with
  | [c0, c1, c2], _ =>
    obtain ⟨ys, m, _, hx, _, hl2, hf⟩ := DataW.trod_struct uOb h
    rw [hx] at hw
    obtain ⟨y0, h0, w0⟩ := fld fOb hl2 hf uOb hw 0 9 0 rfl
    obtain ⟨y1, h1, w1⟩ := fld fOb hl2 hf uOb hw 1 9 1 rfl
    obtain ⟨y2, h2, w2⟩ := fld fOb hl2 hf uOb hw 2 68 2 rfl
    rw [cStr] at h0 h1
    rw [cMs] at h2
    obtain ⟨a0, rfl, s0, b0⟩ := str_elB (u := c0) h0 w0
    obtain ⟨a1, rfl, s1, b1⟩ := str_elB (u := c1) h1 w1
    have : Inhabited Mk := ⟨⟨0, ⟨#[]⟩⟩⟩
    obtain ⟨A, cap, ms, rfl, ht, hq, hle, hmax, hby⟩ := wide_of (u := c2) (B := B) mkRow _ Tryz.underlying68 cMk (by decide) (fun _ => rfl) (fun n cs y => mk_elB n cs y) h2 w2
    rw [bMk] at hby
    exact ⟨⟨⟨a0, a1, ms⟩, A, cap⟩, rfl, ⟨s0, s1, ht, Nat.le_trans hle hmax, fun x hx => (hq x hx).1.1, fun x hx => (hq x hx).1.2, hle⟩, ⟨b0, b1, hby, fun x hx => (hq x hx).2.t⟩⟩
theorem fn_elB (n : Nat) (cs : List Value) (y : DataW H × List MemPlace) (h : DataW.trod enc Tryz.prog W 0 (fun _ => true) true n 72 cs = some y) (hl : cs.length = 3) (hw : ∀ m ∈ y.1.weights Tryz.prog 72, m ≤ B) :
    ∃ x : SF, cs = fnRow x ∧ FOk x ∧ FB B x := by
  match cs, hl with
  | [c0, c1, c2], _ =>
    obtain ⟨ys, m, _, hx, _, hl2, hf⟩ := DataW.trod_struct uFn h
    rw [hx] at hw
    obtain ⟨y0, h0, w0⟩ := fld fFn hl2 hf uFn hw 0 9 0 rfl
    obtain ⟨y1, h1, w1⟩ := fld fFn hl2 hf uFn hw 1 9 1 rfl
    obtain ⟨y2, h2, w2⟩ := fld fFn hl2 hf uFn hw 2 9 2 rfl
    rw [cStr] at h0 h1 h2
    obtain ⟨a0, rfl, s0, b0⟩ := str_elB (u := c0) h0 w0
    obtain ⟨a1, rfl, s1, b1⟩ := str_elB (u := c1) h1 w1
    obtain ⟨a2, rfl, s2, b2⟩ := str_elB (u := c2) h2 w2
    exact ⟨⟨a0, a1, a2⟩, rfl, ⟨s0, s1, s2⟩, ⟨b0, b1, b2⟩⟩
theorem txt_elB (n : Nat) (cs : List Value) (y : DataW H × List MemPlace) (h : DataW.trod enc Tryz.prog W 0 (fun _ => true) true n 9 cs = some y) (hl : cs.length = 1) (hw : ∀ m ∈ y.1.weights Tryz.prog 9, m ≤ B) :
    ∃ x : ByteArray, cs = [.string x] ∧ x.size ≤ maxLen ∧ x.size ≤ B := by
  match cs, hl with
  | [c0], _ =>
    obtain ⟨a0, rfl, s0, b0⟩ := str_elB (u := c0) h hw
    exact ⟨a0, rfl, s0, b0⟩
theorem txts_el {n : Nat} {c : Value} {y : DataW H × List MemPlace} (h : DataW.trod enc Tryz.prog W 0 (fun _ => true) true n 31 [c] = some y) (hw : ∀ m ∈ y.1.weights Tryz.prog 31, m ≤ B) :
    ∃ (A : Option Addr) (cap : Nat) (l : List ByteArray), c = .slice A l.length cap ∧ Rd W A (l.map Value.string) ∧ l.length ≤ maxLen ∧ l.length ≤ cap ∧ (∀ s ∈ l, s.size ≤ maxLen ∧ s.size ≤ B) ∧ l.length * 16 ≤ B := by
  have : Inhabited ByteArray := ⟨⟨#[]⟩⟩
  obtain ⟨A, cap, l, rfl, ht, hq, hle, hmax, hby⟩ := wide_of (u := c) (B := B) (fun s : ByteArray => [Value.string s]) _ Tryz.underlying31 cStr (by decide) (fun _ => rfl) (fun n cs y => txt_elB n cs y) h hw
  rw [bStr] at hby
  exact ⟨A, cap, l, rfl, tbl_rd ht, Nat.le_trans hle hmax, hle, hq, hby⟩
theorem con_elB (n : Nat) (cs : List Value) (y : DataW H × List MemPlace) (h : DataW.trod enc Tryz.prog W 0 (fun _ => true) true n 103 cs = some y) (hl : cs.length = 6) (hw : ∀ m ∈ y.1.weights Tryz.prog 103, m ≤ B) :
    ∃ x : MC, cs = x.row ∧ COk W x ∧ CB B x.c := by
  match cs, hl with
  | [c0, c1, c2, c3, c4, c5], _ =>
    obtain ⟨ys, m, _, hx, _, hl2, hf⟩ := DataW.trod_struct uCo h
    rw [hx] at hw
    obtain ⟨y0, h0, w0⟩ := fld fCo hl2 hf uCo hw 0 3 0 rfl
    obtain ⟨y1, h1, w1⟩ := fld fCo hl2 hf uCo hw 1 9 1 rfl
    obtain ⟨y2, h2, w2⟩ := fld fCo hl2 hf uCo hw 2 9 2 rfl
    obtain ⟨y3, h3, w3⟩ := fld fCo hl2 hf uCo hw 3 3 3 rfl
    obtain ⟨y4, h4, w4⟩ := fld fCo hl2 hf uCo hw 4 9 4 rfl
    obtain ⟨y5, h5, w5⟩ := fld fCo hl2 hf uCo hw 5 31 5 rfl
    rw [cStr] at h1 h2 h4
    rw [cInt] at h0 h3
    rw [cSs] at h5
    obtain ⟨a0, rfl, s0⟩ := int_el (u := c0) h0
    obtain ⟨a1, rfl, s1, b1⟩ := str_elB (u := c1) h1 w1
    obtain ⟨a2, rfl, s2, b2⟩ := str_elB (u := c2) h2 w2
    obtain ⟨a3, rfl, s3⟩ := int_el (u := c3) h3
    obtain ⟨a4, rfl, s4, b4⟩ := str_elB (u := c4) h4 w4
    obtain ⟨A, cap, l, rfl, hr, hl, hlc, hq, hby⟩ := txts_el (c := c5) h5 w5
    exact ⟨⟨⟨a0, a1, a2, a3, a4, l⟩, A, cap⟩, rfl, ⟨s1, s2, s4, hr, hl, hlc, fun s hs => (hq s hs).1⟩, ⟨b1, b2, b4, hby, fun s hs => (hq s hs).2⟩⟩
theorem sys_el {n : Nat} {c0 c1 c2 : Value} {y : DataW H × List MemPlace} (h : DataW.trod enc Tryz.prog W 0 (fun _ => true) true n 41 [c0, c1, c2] = some y) (hw : ∀ m ∈ y.1.weights Tryz.prog 41, m ≤ B) :
    ∃ s : MS, [c0, c1, c2] = [.slice s.oA s.os.length s.oc, .slice s.fA s.fs.length s.fc, .slice s.cA s.cs.length s.cc] ∧ SysM W s ∧ (∀ x ∈ s.os, OB B x.o) ∧ (∀ x ∈ s.fs, FB B x) ∧ ∀ x ∈ s.cs, CB B x.c := by
  obtain ⟨ys, m, _, hx, _, hl2, hf⟩ := DataW.trod_struct uSy h
  rw [hx] at hw
  obtain ⟨y0, h0, w0⟩ := fld fSy hl2 hf uSy hw 0 37 0 rfl
  obtain ⟨y1, h1, w1⟩ := fld fSy hl2 hf uSy hw 1 38 1 rfl
  obtain ⟨y2, h2, w2⟩ := fld fSy hl2 hf uSy hw 2 39 2 rfl
  rw [cOs] at h0
  rw [cFs] at h1
  rw [cCs] at h2
  have i0 : Inhabited MO := ⟨⟨⟨⟨#[]⟩, ⟨#[]⟩, []⟩, none, 0⟩⟩
  have i1 : Inhabited SF := ⟨⟨⟨#[]⟩, ⟨#[]⟩, ⟨#[]⟩⟩⟩
  have i2 : Inhabited MC := ⟨⟨⟨0, ⟨#[]⟩, ⟨#[]⟩, 0, ⟨#[]⟩, []⟩, none, 0⟩⟩
  obtain ⟨A0, cap0, l0, rfl, t0, q0, le0, m0, _⟩ := wide_of (u := c0) (B := B) MO.row _ Tryz.underlying37 cOb (by decide) (fun _ => rfl) (fun n cs y => obj_elB n cs y) h0 w0
  obtain ⟨A1, cap1, l1, rfl, t1, q1, le1, m1, _⟩ := wide_of (u := c1) (B := B) fnRow _ Tryz.underlying38 cFn (by decide) (fun _ => rfl) (fun n cs y => fn_elB n cs y) h1 w1
  obtain ⟨A2, cap2, l2, rfl, t2, q2, le2, m2, _⟩ := wide_of (u := c2) (B := B) MC.row _ Tryz.underlying39 cCo (by decide) (fun _ => rfl) (fun n cs y => con_elB n cs y) h2 w2
  exact ⟨⟨A0, cap0, l0, A1, cap1, l1, A2, cap2, l2⟩, rfl, ⟨t0, t1, t2, fun x hx => (q0 x hx).1, fun x hx => (q1 x hx).1, fun x hx => (q2 x hx).1, Nat.le_trans le0 m0, Nat.le_trans le1 m1, Nat.le_trans le2 m2⟩, fun x hx => (q0 x hx).2, fun x hx => (q1 x hx).2, fun x hx => (q2 x hx).2⟩
end
end Go.Proofs.YtlkboeajkgbnaaaGreatDoor.re
namespace Go.Proofs.YtlkboeajkgbnaaaGreatDoor.ym
open Go.RowKit Go.Proofs.YtlkboeajkgbnaaaGreatDoor.sy
open Go.Proofs.YtlkboeajkgbnaaaGreatDoor.re (tx SU)
open Go.Proofs.YtlkboeajkgbnaaaGreatDoor.sf (namesL fst0 esC orE inD inW)
open Go.Proofs.YtlkboeajkgbnaaaGreatDoor.inn (rsS)
def wNm : ByteArray := ⟨#[102, 40, 41]⟩
def wFn : SF := ⟨wNm, ⟨#[112]⟩, ⟨#[118]⟩⟩
def wSys : SS := ⟨[], [wFn], []⟩
def uN : SU := ⟨⟨#[110]⟩, [], [wNm], [], wSys⟩
def uM : SU := ⟨⟨#[109]⟩, [wNm], [], [], wSys⟩
theorem w_check : checkE wSys = 0 := by
  unfold checkE
  rw [if_neg (by decide)]
  have h2 : goE fnE badF none wSys.fns = 0 := by kernel_rfl
  have h1 : goE objE badO none wSys.objs = 0 := rfl
  have h3 : goE conE badC none wSys.cons = 0 := rfl
  rw [h1, h2, h3]
  rfl
theorem uN_ok : fst0 (esC uN) = 0 := by
  unfold esC
  rw [show checkE uN.sys = 0 from w_check]
  kernel_rfl
theorem uM_ok : fst0 (esC uM) = 0 := by
  unfold esC
  rw [show checkE uM.sys = 0 from w_check]
  kernel_rfl
theorem w_uses2 : usesN (usesL [uN, uM]) [102, 40, 41] = [⟨⟨#[110]⟩, false, true, oZ, wFn⟩, ⟨⟨#[109]⟩, true, false, oZ, wFn⟩] := by kernel_rfl
theorem w_uses1 : usesN (usesL [uN]) [102, 40, 41] = [⟨⟨#[110]⟩, false, true, oZ, wFn⟩] := by kernel_rfl
theorem w_names2 : rsS ((usesL [uN, uM]).map (·.1)) = [[102, 40, 41]] := by kernel_rfl
theorem w_names1 : rsS ((usesL [uN]).map (·.1)) = [[102, 40, 41]] := by kernel_rfl
theorem w_sym2 : symE 12 (usesN (usesL [uN, uM]) [102, 40, 41]) = 0 := by
  rw [w_uses2]
  unfold symE
  rw [if_neg (by decide), if_neg, if_neg (by decide)]
  have : like ⟨⟨#[109]⟩, true, false, oZ, wFn⟩ ⟨⟨#[110]⟩, false, true, oZ, wFn⟩ = true := by rw [like_iff]; exact ⟨rfl, rfl⟩
  simp only [sameFrom, this]
  decide
theorem w_sym1 : symE 12 (usesN (usesL [uN]) [102, 40, 41]) = 7 := by
  rw [w_uses1]
  unfold symE
  rw [if_neg (by decide), if_neg, if_pos (by decide)]
  simp only [sameFrom]
  decide
theorem w_chk2 : chkFrom [] [uN, uM] = none := by
  rw [chkFrom, if_pos uN_ok, if_neg (by simp), chkFrom, if_pos uM_ok, if_neg (by decide)]
  rfl
theorem w_chk1 : chkFrom [] [uN] = none := by
  rw [chkFrom, if_pos uN_ok, if_neg (by simp)]
  rfl
theorem w_res2 : resP [uN, uM] = ([⟨[102, 40, 41], ⟨#[109]⟩, [[110]]⟩], [], 0) := by
  unfold resP
  rw [if_neg (by decide), w_chk2]
  dsimp only
  rw [w_names2, resFrom, if_pos w_sym2, resFrom, w_uses2]
  kernel_rfl
theorem w_res1 : resP [uN] = ([], [102, 40, 41], 7) := by
  unfold resP
  rw [if_neg (by decide), w_chk1]
  dsimp only
  rw [w_names1, resFrom, if_neg (by rw [w_sym1]; decide), w_sym1]
end Go.Proofs.YtlkboeajkgbnaaaGreatDoor.ym
