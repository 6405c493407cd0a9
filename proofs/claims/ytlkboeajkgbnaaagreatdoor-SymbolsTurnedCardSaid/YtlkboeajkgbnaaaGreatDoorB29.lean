import Derived.Test.YtlkboeajkgbnaaaGreatDoorB27
import Derived.Test.YtlkboeajkgbnaaaGreatDoorB28
set_option linter.all false
set_option maxHeartbeats 4000000
namespace Go.Proofs.YtlkboeajkgbnaaaGreatDoor.ym
open Go.RowKit Go.Proofs.YtlkboeajkgbnaaaGreatDoor.mem Go.Proofs.YtlkboeajkgbnaaaGreatDoor.sy
open Go.Proofs.YtlkboeajkgbnaaaGreatDoor.ins (foot WF Held vals noOf)
theorem info_use : (Tryz.prog.info? 83).map (fun i => (i.zero, i.size, i.bytes)) = some (some (.agg #[.string ByteArray.empty, .bool false, .bool false, .string ByteArray.empty, .string ByteArray.empty, .slice none 0 0, .string ByteArray.empty, .string ByteArray.empty, .string ByteArray.empty]), 9, 128) := by kernel_rfl
theorem info_uses : (Tryz.prog.info? 60).map (fun i => (i.zero, i.size, i.bytes)) = some (some (.slice none 0 0), 1, 24) := by kernel_rfl
theorem nine_cells (w : World) (t : TypeId) (vs : List Value) : ∀ (j : Nat) (v : Value), vs[j]? = some v → (w.alloc (.cells vs.toArray t)).cell? ((⟨w.heap.size, 0, none⟩ : Addr).add j) = some v := by
  intro j v h
  have e1 : (⟨w.heap.size, 0, none⟩ : Addr).add j = ⟨w.heap.size, j, none⟩ := by unfold Addr.add; split <;> simp_all
  rw [e1, (Box.new w t vs.toArray).cell j]
  simpa using h
def PuPost (w0 : World) (b N : Nat) (xs : List (List UInt8)) (f : Nat → RowU) (x : List UInt8) (u : MUs) (F : List Nat) (w : World) (e : Ending) (w' : World) : Prop :=
  e = .returned (.tuple #[]) ∧ ∃ F', UM w0 b (N + 1) (putM (xs, contU f xs.length) (x, u)) F' w' ∧ UStep F w F' w'
theorem pu_new {w0 w wS : World} {F : List Nat} {b N : Nat} {xs : List (List UInt8)} {f : Nat → RowU} {x : List UInt8} {u : MUs} {A : Option Addr} {cap : Nat} {m : Option Nat} {H : Option Addr} {hc : Nat} {A3 : Option Addr} {cap3 : Nat} (hin : x ∉ xs) (h : UW w0 b (N + 1) (xs ++ [x]) (updU (updU f xs.length rowU0) xs.length ⟨A3, cap3, (updU f xs.length rowU0 xs.length).us ++ [u]⟩) A cap m H hc w) (hst : UStep F wS (footU b (updU (updU f xs.length rowU0) xs.length ⟨A3, cap3, (updU f xs.length rowU0 xs.length).us ++ [u]⟩) (xs ++ [x]).length A m H) w) : PuPost w0 b N xs f x u F wS (.returned (.tuple #[])) w := by
  have e1 : putM (xs, contU f xs.length) (x, u) = (xs ++ [x], contU (updU (updU f xs.length rowU0) xs.length ⟨A3, cap3, (updU f xs.length rowU0 xs.length).us ++ [u]⟩) (xs ++ [x]).length) := by
    unfold putM
    rw [if_neg hin]
    dsimp only
    have e : ∀ r : RowU, updU (updU f xs.length rowU0) xs.length r = updU f xs.length r := fun r => by
      funext j
      by_cases hj : j = xs.length
      · subst hj; rw [updU_same, updU_same]
      · rw [updU_ne _ _ hj, updU_ne _ _ hj, updU_ne _ _ hj]
    rw [e, List.length_append, List.length_singleton, cont_snoc, updU_same]
    rfl
  unfold PuPost
  rw [e1]
  exact ⟨rfl, _, ⟨_, _, _, _, _, _, h, rfl, rfl⟩, hst⟩
theorem pu_old {w0 w wS : World} {F : List Nat} {b N : Nat} {xs : List (List UInt8)} {f : Nat → RowU} {x : List UInt8} {u : MUs} {A : Option Addr} {cap : Nat} {m : Option Nat} {H : Option Addr} {hc : Nat} {A3 : Option Addr} {cap3 : Nat} (hin : x ∈ xs) (h : UW w0 b (N + 1) xs (updU f (noOf xs x) ⟨A3, cap3, (f (noOf xs x)).us ++ [u]⟩) A cap m H hc w) (hst : UStep F wS (footU b (updU f (noOf xs x) ⟨A3, cap3, (f (noOf xs x)).us ++ [u]⟩) xs.length A m H) w) : PuPost w0 b N xs f x u F wS (.returned (.tuple #[])) w := by
  have e1 : putM (xs, contU f xs.length) (x, u) = (xs, contU (updU f (noOf xs x) ⟨A3, cap3, (f (noOf xs x)).us ++ [u]⟩) xs.length) := by
    unfold putM
    rw [if_pos hin]
    dsimp only
    rw [cont_set f xs.length (noOf xs x) ⟨A3, cap3, (f (noOf xs x)).us ++ [u]⟩ u rfl]
    unfold noOf
    rw [if_pos hin]
  unfold PuPost
  rw [e1]
  exact ⟨rfl, _, ⟨_, _, _, _, _, _, h, rfl, rfl⟩, hst⟩
set_option maxRecDepth 100000 in
set_option maxHeartbeats 8000000 in
theorem uput_new (w0 w : World) (b N : Nat) (xs : List (List UInt8)) (f : Nat → RowU) (A : Option Addr) (cap : Nat) (m : Option Nat) (H : Option Addr) (hc : Nat) (x : List UInt8) (u : MUs) (h : UW w0 b N xs f A cap m H hc w) (hx : WF x) (hin : x ∉ xs) (hN : N < 900000) :
    Calls Tryz.prog 40 #[.pointer (some ⟨b, 0, none⟩), encStr x, u.val] w (PuPost w0 b N xs f x u (footU b f xs.length A m H) w) := by
  obtain ⟨W1, hW1⟩ : ∃ W1, Hid (W1 = w.alloc (.cells u.row.toArray 83)) := ⟨_, Lib.hid rfl⟩
  have f1 : Fr [] w W1 := by rw [hW1.out]; exact (Fr.refl [] w).alloc _
  have B1 : Box W1 w.heap.size 83 u.row.toArray := by rw [hW1.out]; exact Box.new w _ _
  have h1 : UW w0 b N xs f A cap m H hc W1 := h.kept f1 (by simp)
  have hbl : b < w.heap.size := h.tb.box.lt
  have hlen := h.tb.len
  have HB : Hid (∀ w2 F, Fr F W1 w2 → w.heap.size ∉ F → Box w2 w.heap.size 83 u.row.toArray) := Lib.hid (fun w2 F hF hn => B1.kept hF hn)
  have hwh : ∀ {g}, g ∈ foot b A m → g < w.heap.size := fun {g} hg => h.tb.lt g hg
  obtain ⟨i0, hi0, hz0, hz1, hz2⟩ := info_parts info_use
  have Hi := Lib.hid hi0
  have Hz0 := Lib.hid hz0
  have Hz1 := Lib.hid hz1
  have Hz2 := Lib.hid hz2
  obtain ⟨j0, hj0, hy0, hy1, hy2⟩ := info_parts info_uses
  have Hj := Lib.hid hj0
  have Hy0 := Lib.hid hy0
  have Hy1 := Lib.hid hy1
  have Hy2 := Lib.hid hy2
  clear hi0 hz0 hz1 hz2 hj0 hy0 hy1 hy2
  have KP := Lib.hid (put_anyU (o := .slice H xs.length hc) W1 b A cap m N xs x h1.tb hx hin (by omega))
  have HN : Hid (∀ A2 cap2 m2 w2, Fr (foot b A m) W1 w2 → TbU (.slice H xs.length hc) w2 b A2 cap2 m2 (N + 1) (xs ++ [x]) → (∀ g ∈ foot b A2 m2, g ∈ foot b A m ∨ W1.heap.size ≤ g) →
      w2.cell? ⟨b, 2, none⟩ = some (.slice H xs.length hc) ∧ Seg w2 60 H hc (hdrs f xs.length) ∧ ∀ H3 hc3 w3 ob, Seg w3 60 H3 hc3 (hdrs f xs.length ++ [.slice none 0 0]) → Fr (blk H) (w2.alloc ob) w3 → (blk H3 = blk H ∨ blk H3 = [(w2.alloc ob).heap.size]) →
        (w3.cell? ⟨b, 2, none⟩ = some (.slice H xs.length hc) ∧ w3.frozen? ⟨b, 2, none⟩ = false ∧ b < w3.heap.size) ∧ UW w0 b (N + 1) (xs ++ [x]) (updU f xs.length rowU0) A2 cap2 m2 H3 hc3 (w3.setCell ⟨b, 2, none⟩ (.slice H3 (xs.length + 1) hc3)) ∧ UStep (footU b f xs.length A m H) w (footU b (updU f xs.length rowU0) (xs.length + 1) A2 m2 H3) (w3.setCell ⟨b, 2, none⟩ (.slice H3 (xs.length + 1) hc3)) ∧ Box (w3.setCell ⟨b, 2, none⟩ (.slice H3 (xs.length + 1) hc3)) w.heap.size 83 u.row.toArray) := Lib.hid (fun A2 cap2 m2 w2 hF ht hfoot => by
    refine ⟨ht.box.cell 2, h1.hs.kept hF h1.footH, fun H3 hc3 w3 ob hs3 b3 hf3 => ?_⟩
    have fall : Fr (blk H) w2 w3 := ((Fr.refl (blk H) w2).alloc ob).trans b3 (fun g hg => Or.inl hg) (fun g hg => Or.inl hg)
    have hb3 := ht.box.kept fall h1.bH
    have hbw : w.heap.size ∉ foot b A m := fun hm => Nat.lt_irrefl _ (hwh hm)
    have hbw2 : w.heap.size ∉ blk H := fun hm => Nat.lt_irrefl _ (h.hs.lt _ hm)
    refine ⟨⟨hb3.cell 2, hb3.free 2, hb3.lt⟩, (h1.fresh hF ht hfoot hs3 b3 hf3).1, (UStep.of_below f1.all).trans (h1.fresh hF ht hfoot hs3 b3 hf3).2, ?_⟩
    have B2 := HB.out w2 _ hF hbw
    exact (B2.kept fall hbw2).kept ((Fr.refl [b] w3).setCell (Or.inl (by simp)) _) (by simp; omega))
  have HE : Hid (∀ A3 cap3 A2 cap2 m2 H3 hc3 w', UW w0 b (N + 1) (xs ++ [x]) (updU (updU f xs.length rowU0) xs.length ⟨A3, cap3, (updU f xs.length rowU0 xs.length).us ++ [u]⟩) A2 cap2 m2 H3 hc3 w' → UStep (footU b f xs.length A m H) w (footU b (updU (updU f xs.length rowU0) xs.length ⟨A3, cap3, (updU f xs.length rowU0 xs.length).us ++ [u]⟩) (xs ++ [x]).length A2 m2 H3) w' → PuPost w0 b N xs f x u (footU b f xs.length A m H) w (.returned (.tuple #[])) w') := Lib.hid (fun A3 cap3 A2 cap2 m2 H3 hc3 w' hq hst => pu_new hin hq hst)
  unfold PutPostU at KP
  have HR : Hid (∀ i, i < xs.length → ∀ g ∈ blk (f i).A, g < w.heap.size) := Lib.hid (fun i hi g hg => (h.sg i hi).lt g hg)
  clear h B1 hwh hx hin
  obtain ⟨⟨um, ug, uw, ⟨on, okd, oms⟩, ⟨fnm, fk, fr⟩⟩, uA, uc⟩ := u
  unfold MUs.val
  unfold MUs.row at hW1 HB
  unfold MUs.row at HN
  dsimp only at *
  generalize hml : oms.length = ml at *
  replace hml := Lib.hid hml
  unfold encStr at KP ⊢
  generalize hPost : PuPost w0 b N xs f x _ _ _ = Q at *
  clear hPost
  go_enter Tryz.func40, Tryz.ntmps40
  go_upto_region 1 with fail
  rw [← hW1.out]
  clear hW1
  go_wp2_with fail
  refine KP.out.mono ?_
  rintro e w2 ⟨rfl, hF, A2, cap2, m2, ht2, hfoot⟩
  obtain ⟨c2, hsH, hN3⟩ := HN.out A2 cap2 m2 w2 hF ht2 hfoot
  have HsH := Lib.hid hsH
  have HN3 := Lib.hid hN3
  clear hF ht2 hfoot hsH hN3 KP HN
  generalize hxl : xs.length = n at *
  replace hxl := Lib.hid hxl
  go_wp2_with (at_builtin
               refine wpList_push (n := n) rfl _ _ _ rfl (HsH.out.alloc _) (by rw [hdrs_len]) Tryz.underlying49 Hj.out Hy0.out Hy1.out Hy2.out rfl rfl rfl (new_cell _ _ _) rfl (by omega) (by omega) ?_
               intro H3 hc4 w3 hs3 b3 hf3
               obtain ⟨⟨c3, z3, l3⟩, h4, hst4, B4⟩ := HN3.out H3 hc4 w3 _ hs3 b3 hf3
               clear hs3 b3 hf3)
  generalize hW4 : w3.setCell ⟨b, 2, none⟩ (.slice H3 (n + 1) hc4) = W4 at *
  clear hW4 c2 c3 z3 l3 HN3 HsH
  have hyl : (xs ++ [x]).length = n + 1 := by rw [List.length_append, hxl.out]; rfl
  have B5 : Hid (Box W4.drew w.heap.size 83 #[.string um, .bool ug, .bool uw, .string on, .string okd, .slice uA ml uc, .string fnm, .string fk, .string fr]) := Lib.hid B4
  have H5 : Hid (UW w0 b (N + 1) (xs ++ [x]) (updU f n rowU0) A2 cap2 m2 H3 hc4 W4.drew) := Lib.hid (h4.kept ((Fr.refl [] W4).drew) (by simp))
  have T5 : Hid (UStep (footU b f n A m H) w (footU b (updU f n rowU0) (n + 1) A2 m2 H3) W4.drew) := Lib.hid (hst4.trans (UStep.of_below ((Fr.refl [] W4).drew.all)))
  obtain ⟨gH, oH, rfl, hgl, hat⟩ := H5.out.hs.at_ (by rw [hdrs_len]; omega)
  have hci : W4.drew.cell? ⟨gH, oH + n, none⟩ = some (.slice ((updU f n rowU0) n).A ((updU f n rowU0) n).us.length ((updU f n rowU0) n).cap) := by
    have := hat n (by rw [hdrs_len]; omega)
    rwa [hdrs_at _ (by omega)] at this
  obtain ⟨S, hSd⟩ : ∃ S : World → Prop, Hid (∀ W', S W' ↔ (W'.cell? ⟨b, 2, none⟩ = some (.slice (some ⟨gH, oH, none⟩) (n + 1) hc4) ∧ Box W' w.heap.size 83 #[.string um, .bool ug, .bool uw, .string on, .string okd, .slice uA ml uc, .string fnm, .string fk, .string fr])) := ⟨_, Lib.hid fun _ => Iff.rfl⟩
  have hrl : ((updU f n rowU0) n).us.length ≤ N := by rw [updU_same]; exact Nat.zero_le _
  have HSg : Hid (Sg 9 W4.drew 83 ((updU f n rowU0) n).A ((updU f n rowU0) n).cap ((updU f n rowU0) n).us.length (((updU f n rowU0) n).us.flatMap MUs.row)) := Lib.hid (H5.out.sg n (by omega))
  have keepS : Hid (∀ W F, Fr F W4.drew W → b ∉ F → w.heap.size ∉ F → S W) := Lib.hid (fun W F hF h1 h2 => (hSd.out _).2 ⟨(by have := (H5.out.tb.box.kept hF h1).cell 2; simpa [hyl] using this), B5.out.kept hF h2⟩)
  have hS1 : S W4.drew := keepS.out _ [] (Fr.refl [] _) (by simp) (by simp)
  have HH : Hid (∀ W, (W = W4.drew ∨ ∃ q, W = W4.drew.alloc q) → W.cell? ⟨gH, oH + n, none⟩ = some (.slice ((updU f n rowU0) n).A ((updU f n rowU0) n).us.length ((updU f n rowU0) n).cap)) := Lib.hid (fun W hW => by
    rcases hW with rfl | ⟨q, rfl⟩
    · exact hci
    · exact (World.cell?_of_block (w := W4.drew) (a := ⟨gH, oH + n, none⟩) (Below.heap_alloc _ q gH hgl)).trans hci)
  have HU : Hid (∀ A3 cap3 w3 q, Sg 9 w3 83 A3 cap3 (((updU f n rowU0) n).us.length + 1) (((updU f n rowU0) n).us.flatMap MUs.row ++ [.string um, .bool ug, .bool uw, .string on, .string okd, .slice uA ml uc, .string fnm, .string fk, .string fr]) → Fr (blk ((updU f n rowU0) n).A) (W4.drew.alloc q) w3 → (blk A3 = blk ((updU f n rowU0) n).A ∨ blk A3 = [(W4.drew.alloc q).heap.size]) →
      S w3 ∧ w3.cell? ⟨gH, oH + n, none⟩ = some (.slice ((updU f n rowU0) n).A ((updU f n rowU0) n).us.length ((updU f n rowU0) n).cap) ∧ w3.frozen? ⟨gH, oH + n, none⟩ = false ∧ gH < w3.heap.size ∧ S (w3.setCell ⟨gH, oH + n, none⟩ (.slice A3 (((updU f n rowU0) n).us.length + 1) cap3)) ∧
      UW w0 b (N + 1) (xs ++ [x]) (updU (updU f n rowU0) n ⟨A3, cap3, ((updU f n rowU0) n).us ++ [⟨⟨um, ug, uw, ⟨on, okd, oms⟩, ⟨fnm, fk, fr⟩⟩, uA, uc⟩]⟩) A2 cap2 m2 (some ⟨gH, oH, none⟩) hc4 (w3.setCell ⟨gH, oH + n, none⟩ (.slice A3 (((updU f n rowU0) n).us.length + 1) cap3)) ∧
      UStep (footU b f n A m H) w (footU b (updU (updU f n rowU0) n ⟨A3, cap3, ((updU f n rowU0) n).us ++ [⟨⟨um, ug, uw, ⟨on, okd, oms⟩, ⟨fnm, fk, fr⟩⟩, uA, uc⟩]⟩) (xs ++ [x]).length A2 m2 (some ⟨gH, oH, none⟩)) (w3.setCell ⟨gH, oH + n, none⟩ (.slice A3 (((updU f n rowU0) n).us.length + 1) cap3))) := Lib.hid (fun A3 cap3 w3 q hs3 f3 hf3 => by
    have hiy : n < (xs ++ [x]).length := by omega
    have fall : Fr (blk ((updU f n rowU0) n).A) W4.drew w3 := ((Fr.refl (blk ((updU f n rowU0) n).A) W4.drew).alloc q).trans f3 (fun g hg => Or.inl hg) (fun g hg => Or.inl hg)
    have hgR : gH ∉ blk ((updU f n rowU0) n).A := fun hm => H5.out.rH hiy gH hm (by simp [blk])
    have hbR := H5.out.bR hiy
    have hbH := H5.out.bH
    have hwR : w.heap.size ∉ blk ((updU f n rowU0) n).A := by rw [updU_same]; simp [rowU0, blk]
    have hwH : w.heap.size ∉ blk (some (⟨gH, oH, none⟩ : Addr)) := H5.out.hs.ne_box B5.out (by decide)
    have fset : Fr [gH] w3 (w3.setCell ⟨gH, oH + n, none⟩ (.slice A3 (((updU f n rowU0) n).us.length + 1) cap3)) := (Fr.refl [gH] w3).setCell (Or.inl (by simp)) _
    have fboth : Fr (gH :: blk ((updU f n rowU0) n).A) W4.drew (w3.setCell ⟨gH, oH + n, none⟩ (.slice A3 (((updU f n rowU0) n).us.length + 1) cap3)) := fall.trans fset (fun g hg => Or.inl (List.mem_cons_of_mem _ hg)) (fun g hg => Or.inl (by rw [List.mem_singleton] at hg; subst hg; simp))
    have hs4 := H5.out.hs.kept fall (fun g hg hm => H5.out.rH hiy g hm hg)
    refine ⟨keepS.out _ _ fall hbR hwR, (World.cell?_of_block (w := W4.drew) (a := ⟨gH, oH + n, none⟩) (fall.block gH hgl hgR)).trans hci, hs4.free _, Nat.lt_of_lt_of_le hgl fall.size, keepS.out _ _ fboth (fun hm => ?_) (fun hm => ?_), ?_⟩
    · rcases List.mem_cons.1 hm with e | e
      · exact hbH (by rw [e]; simp [blk])
      · exact hbR e
    · rcases List.mem_cons.1 hm with e | e
      · exact hwH (by rw [e]; simp [blk])
      · exact hwR e
    · have hs5 : Sg 9 w3 83 A3 cap3 (((updU f n rowU0) n).us.length + 1) (((updU f n rowU0) n).us.flatMap MUs.row ++ MUs.row ⟨⟨um, ug, uw, ⟨on, okd, oms⟩, ⟨fnm, fk, fr⟩⟩, uA, uc⟩) := by
        unfold MUs.row
        dsimp only
        rw [hml.out]
        exact hs3
      obtain ⟨p1, p2⟩ := H5.out.step hiy (by omega) rfl rfl hs5 f3 hf3
      have T6 := T5.out
      rw [← hyl] at T6
      exact ⟨p1, by have t := T6.trans p2; rw [hyl] at t ⊢; exact t⟩)
  generalize hrw : (updU f n rowU0) n = r at *
  replace hrw := Lib.hid hrw
  obtain ⟨rA, rc, rus⟩ := r
  dsimp only at *
  generalize hru : rus.length = rn at *
  replace hru := Lib.hid hru
  clear hat hci h4 B4 H5 B5
  refine rng.wp_normal ?_
  refine wp_region_held_drew (S := S) (by kernel_rfl) hS1 (fun _ => ?_)
  generalize hwz : W4.drew = wz at *
  clear hwz
  refine wpAnyH_take (i := 0) (v := .pointer (some ⟨b, 0, none⟩)) rfl (by kernel_rfl) (by kernel_rfl) (by kernel_rfl) (fun _ _ _ h => absurd h.1 (by simp)) (Or.inl ⟨by kernel_rfl, ?_⟩) hS1 ?_
  · intro W' hSw
    obtain ⟨s0, s2⟩ := (hSd.out _).1 hSw
    go_simp
  try change wpAnyH _ _ _ _ _ _ _ (Act.put _ (some 26) _) _
  try simp only [Act.put, List.setIfInBounds_toArray, List.set_cons_zero, List.set_cons_succ]
  refine wpAnyH_take (i := 1) (v := .pointer (some ⟨b, 0, none⟩)) rfl (by kernel_rfl) (by kernel_rfl) (by kernel_rfl) (fun _ _ _ h => absurd h.1 (by simp)) (Or.inl ⟨by kernel_rfl, ?_⟩) hS1 ?_
  · intro W' hSw
    obtain ⟨s0, s2⟩ := (hSd.out _).1 hSw
    go_simp
  try change wpAnyH _ _ _ _ _ _ _ (Act.put _ (some 27) _) _
  try simp only [Act.put, List.setIfInBounds_toArray, List.set_cons_zero, List.set_cons_succ]
  refine wpAnyH_take (i := 2) (v := .pointer (some ⟨b, 2, none⟩)) rfl (by kernel_rfl) (by kernel_rfl) (by kernel_rfl) (fun _ _ _ h => absurd h.1 (by simp)) (Or.inl ⟨by kernel_rfl, ?_⟩) hS1 ?_
  · intro W' hSw
    obtain ⟨s0, s2⟩ := (hSd.out _).1 hSw
    go_simp
  try change wpAnyH _ _ _ _ _ _ _ (Act.put _ (some 28) _) _
  try simp only [Act.put, List.setIfInBounds_toArray, List.set_cons_zero, List.set_cons_succ]
  refine wpAnyH_take (i := 3) (v := .slice (some ⟨gH, oH, none⟩) (n + 1) hc4) rfl (by kernel_rfl) (by kernel_rfl) (by kernel_rfl) (fun _ _ _ h => absurd h.1 (by simp)) (Or.inl ⟨by kernel_rfl, ?_⟩) hS1 ?_
  · intro W' hSw
    obtain ⟨s0, s2⟩ := (hSd.out _).1 hSw
    go_simp
  try change wpAnyH _ _ _ _ _ _ _ (Act.put _ (some 29) _) _
  try simp only [Act.put, List.setIfInBounds_toArray, List.set_cons_zero, List.set_cons_succ]
  refine wpAnyH_take (i := 4) (v := .int .i64 n) rfl (by kernel_rfl) (by kernel_rfl) (by kernel_rfl) (fun _ _ _ h => absurd h.1 (by simp)) (Or.inl ⟨by kernel_rfl, ?_⟩) hS1 ?_
  · intro W' hSw
    obtain ⟨s0, s2⟩ := (hSd.out _).1 hSw
    go_simp
  try change wpAnyH _ _ _ _ _ _ _ (Act.put _ (some 30) _) _
  try simp only [Act.put, List.setIfInBounds_toArray, List.set_cons_zero, List.set_cons_succ]
  refine wpAnyH_take (i := 5) (v := .pointer (some ⟨b, 0, none⟩)) rfl (by kernel_rfl) (by kernel_rfl) (by kernel_rfl) (fun _ _ _ h => absurd h.1 (by simp)) (Or.inl ⟨by kernel_rfl, ?_⟩) hS1 ?_
  · intro W' hSw
    obtain ⟨s0, s2⟩ := (hSd.out _).1 hSw
    go_simp
  try change wpAnyH _ _ _ _ _ _ _ (Act.put _ (some 31) _) _
  try simp only [Act.put, List.setIfInBounds_toArray, List.set_cons_zero, List.set_cons_succ]
  refine wpAnyH_take (i := 6) (v := .pointer (some ⟨b, 0, none⟩)) rfl (by kernel_rfl) (by kernel_rfl) (by kernel_rfl) (fun _ _ _ h => absurd h.1 (by simp)) (Or.inl ⟨by kernel_rfl, ?_⟩) hS1 ?_
  · intro W' hSw
    obtain ⟨s0, s2⟩ := (hSd.out _).1 hSw
    go_simp
  try change wpAnyH _ _ _ _ _ _ _ (Act.put _ (some 32) _) _
  try simp only [Act.put, List.setIfInBounds_toArray, List.set_cons_zero, List.set_cons_succ]
  refine wpAnyH_take (i := 7) (v := .pointer (some ⟨b, 2, none⟩)) rfl (by kernel_rfl) (by kernel_rfl) (by kernel_rfl) (fun _ _ _ h => absurd h.1 (by simp)) (Or.inl ⟨by kernel_rfl, ?_⟩) hS1 ?_
  · intro W' hSw
    obtain ⟨s0, s2⟩ := (hSd.out _).1 hSw
    go_simp
  try change wpAnyH _ _ _ _ _ _ _ (Act.put _ (some 33) _) _
  try simp only [Act.put, List.setIfInBounds_toArray, List.set_cons_zero, List.set_cons_succ]
  refine wpAnyH_take (i := 8) (v := .slice (some ⟨gH, oH, none⟩) (n + 1) hc4) rfl (by kernel_rfl) (by kernel_rfl) (by kernel_rfl) (fun _ _ _ h => absurd h.1 (by simp)) (Or.inl ⟨by kernel_rfl, ?_⟩) hS1 ?_
  · intro W' hSw
    obtain ⟨s0, s2⟩ := (hSd.out _).1 hSw
    go_simp
  try change wpAnyH _ _ _ _ _ _ _ (Act.put _ (some 34) _) _
  try simp only [Act.put, List.setIfInBounds_toArray, List.set_cons_zero, List.set_cons_succ]
  refine wpAnyH_take (i := 9) (v := .int .i64 n) rfl (by kernel_rfl) (by kernel_rfl) (by kernel_rfl) (fun _ _ _ h => absurd h.1 (by simp)) (Or.inl ⟨by kernel_rfl, ?_⟩) hS1 ?_
  · intro W' hSw
    obtain ⟨s0, s2⟩ := (hSd.out _).1 hSw
    go_simp
  try change wpAnyH _ _ _ _ _ _ _ (Act.put _ (some 35) _) _
  try simp only [Act.put, List.setIfInBounds_toArray, List.set_cons_zero, List.set_cons_succ]
  refine wpAnyH_take (i := 10) (v := .pointer (some ⟨gH, oH + n, none⟩)) rfl (by kernel_rfl) (by kernel_rfl) (by kernel_rfl) (fun _ _ _ h => absurd h.1 (by simp)) (Or.inl ⟨by kernel_rfl, ?_⟩) hS1 ?_
  · intro W' hSw
    obtain ⟨s0, s2⟩ := (hSd.out _).1 hSw
    go_simp
    try (intro hh; omega)
  try change wpAnyH _ _ _ _ _ _ _ (Act.put _ (some 36) _) _
  try simp only [Act.put, List.setIfInBounds_toArray, List.set_cons_zero, List.set_cons_succ]
  refine wpAnyH_take (i := 12) (v := .agg #[.string um, .bool ug, .bool uw, .string on, .string okd, .slice uA ml uc, .string fnm, .string fk, .string fr]) rfl (by kernel_rfl) (by kernel_rfl) (by kernel_rfl) (fun _ _ _ h => absurd h.1 (by simp)) (Or.inl ⟨by kernel_rfl, ?_⟩) hS1 ?_
  · intro W' hSw
    obtain ⟨s0, s2⟩ := (hSd.out _).1 hSw
    have q0 := s2.cell 0
    have q1 := s2.cell 1
    have q2 := s2.cell 2
    have q3 := s2.cell 3
    have q4 := s2.cell 4
    have q5 := s2.cell 5
    have q6 := s2.cell 6
    have q7 := s2.cell 7
    have q8 := s2.cell 8
    simp only [List.getElem?_toArray, List.getElem?_cons_zero, List.getElem?_cons_succ] at q0 q1 q2 q3 q4 q5 q6 q7 q8
    go_simp
  try change wpAnyH _ _ _ _ _ _ _ (Act.put _ (some 38) _) _
  try simp only [Act.put, List.setIfInBounds_toArray, List.set_cons_zero, List.set_cons_succ]
  refine wpAnyH_ready (rs := [11, 13]) (by kernel_rfl) (by simp) ?_
  refine AllReadyH.cons rfl (fun K hK => ?_) (AllReadyH.cons rfl (fun K hK => ?_) AllReadyH.nil)
  · have ch := HH.out wz (Or.inl rfl)
    go_simp
    refine hK.out _ _ hS1 (fun _ => ?_)
    clear hK ch
    try simp only [Act.put, List.setIfInBounds_toArray, List.set_cons_zero, List.set_cons_succ]
    refine wpAnyH_ready (rs := [13]) (by kernel_rfl) (by simp) ?_
    refine AllReadyH.cons rfl (fun K hK => ?_) AllReadyH.nil
    go_simp
    have hS2 := keepS.out (wz.alloc (.cells #[.string um, .bool ug, .bool uw, .string on, .string okd, .slice uA ml uc, .string fnm, .string fk, .string fr] 83)) [] ((Fr.refl [] wz).alloc _) (by simp) (by simp)
    refine hK.out _ _ hS2 (fun _ => ?_)
    clear hK
    try simp only [Act.put, List.setIfInBounds_toArray, List.set_cons_zero, List.set_cons_succ]
    refine wpAnyH_ready (rs := [14]) (by kernel_rfl) (by simp) ?_
    refine AllReadyH.cons rfl (fun K hK => ?_) AllReadyH.nil
    refine step_row (us := [.string um, .bool ug, .bool uw, .string on, .string okd, .slice uA ml uc, .string fnm, .string fk, .string fr]) (by rfl) (.tmp 37) (.tmp 39) _ (by rfl) ((HSg.out).alloc _) Tryz.underlying60 Hi.out Hz0.out Hz1.out Hz2.out rfl (by rfl) (by rfl) rfl (nine_cells _ _ _) (by intro v hv; simp only [List.mem_cons, List.not_mem_nil, or_false] at hv; rcases hv with rfl | rfl | rfl | rfl | rfl | rfl | rfl | rfl | rfl <;> rfl) (by omega) (by omega) ?_
    intro A3 cap3 w3 hs3 f3 hf3
    have hend := HU.out A3 cap3 w3 _ hs3 f3 hf3
    have hS3 := hend.1
    refine hK.out _ _ hS3 (fun _ => ?_)
    clear hK
    try simp only [Act.put, List.setIfInBounds_toArray, List.set_cons_zero, List.set_cons_succ]
    refine wpAnyH_take (i := 15) (v := .pointer (some ⟨gH, oH + n, none⟩)) rfl (by kernel_rfl) (by kernel_rfl) (by kernel_rfl) (fun _ _ _ h => absurd h.1 (by simp)) (Or.inl ⟨by kernel_rfl, ?_⟩) hS3 ?_
    · intro W' hSw
      obtain ⟨s0, s2⟩ := (hSd.out _).1 hSw
      go_simp
      try (intro hh; omega)
    try change wpAnyH _ _ _ _ _ _ _ (Act.put _ (some 41) _) _
    try simp only [Act.put, List.setIfInBounds_toArray, List.set_cons_zero, List.set_cons_succ]
    refine wpAnyH_ready (rs := [16]) (by kernel_rfl) (by simp) ?_
    refine AllReadyH.cons rfl (fun K hK => ?_) AllReadyH.nil
    have k3 := hend.2.1
    have z3 := hend.2.2.1
    have l3 := hend.2.2.2.1
    go_simp
    refine hK.out _ _ hend.2.2.2.2.1 (fun _ => ?_)
    have hfin := Lib.hid hend.2.2.2.2.2
    clear hK hend hs3 f3 hf3 hS3 hS1 hS2 k3 z3 l3
    try simp only [Act.put, List.setIfInBounds_toArray, List.set_cons_zero, List.set_cons_succ]
    refine wpAnyH_done (by kernel_rfl) ?_ _
    refine ⟨rfl, ?_⟩
    go_wp2_with fail
    (try simp only [Exit.inBlock, Exit.then])
    refine bodyPost_ret (results_none rfl _ _ _) rfl ?_
    exact HE.out _ _ _ _ _ _ _ _ hfin.out.1 hfin.out.2
  · go_simp
    have hS2 := keepS.out (wz.alloc (.cells #[.string um, .bool ug, .bool uw, .string on, .string okd, .slice uA ml uc, .string fnm, .string fk, .string fr] 83)) [] ((Fr.refl [] wz).alloc _) (by simp) (by simp)
    refine hK.out _ _ hS2 (fun _ => ?_)
    clear hK
    try simp only [Act.put, List.setIfInBounds_toArray, List.set_cons_zero, List.set_cons_succ]
    refine wpAnyH_ready (rs := [11]) (by kernel_rfl) (by simp) ?_
    refine AllReadyH.cons rfl (fun K hK => ?_) AllReadyH.nil
    have ch := HH.out (wz.alloc (.cells #[.string um, .bool ug, .bool uw, .string on, .string okd, .slice uA ml uc, .string fnm, .string fk, .string fr] 83)) (Or.inr ⟨_, rfl⟩)
    go_simp
    refine hK.out _ _ hS2 (fun _ => ?_)
    clear hK ch
    try simp only [Act.put, List.setIfInBounds_toArray, List.set_cons_zero, List.set_cons_succ]
    refine wpAnyH_ready (rs := [14]) (by kernel_rfl) (by simp) ?_
    refine AllReadyH.cons rfl (fun K hK => ?_) AllReadyH.nil
    refine step_row (us := [.string um, .bool ug, .bool uw, .string on, .string okd, .slice uA ml uc, .string fnm, .string fk, .string fr]) (by rfl) (.tmp 37) (.tmp 39) _ (by rfl) ((HSg.out).alloc _) Tryz.underlying60 Hi.out Hz0.out Hz1.out Hz2.out rfl (by rfl) (by rfl) rfl (nine_cells _ _ _) (by intro v hv; simp only [List.mem_cons, List.not_mem_nil, or_false] at hv; rcases hv with rfl | rfl | rfl | rfl | rfl | rfl | rfl | rfl | rfl <;> rfl) (by omega) (by omega) ?_
    intro A3 cap3 w3 hs3 f3 hf3
    have hend := HU.out A3 cap3 w3 _ hs3 f3 hf3
    have hS3 := hend.1
    refine hK.out _ _ hS3 (fun _ => ?_)
    clear hK
    try simp only [Act.put, List.setIfInBounds_toArray, List.set_cons_zero, List.set_cons_succ]
    refine wpAnyH_take (i := 15) (v := .pointer (some ⟨gH, oH + n, none⟩)) rfl (by kernel_rfl) (by kernel_rfl) (by kernel_rfl) (fun _ _ _ h => absurd h.1 (by simp)) (Or.inl ⟨by kernel_rfl, ?_⟩) hS3 ?_
    · intro W' hSw
      obtain ⟨s0, s2⟩ := (hSd.out _).1 hSw
      go_simp
      try (intro hh; omega)
    try change wpAnyH _ _ _ _ _ _ _ (Act.put _ (some 41) _) _
    try simp only [Act.put, List.setIfInBounds_toArray, List.set_cons_zero, List.set_cons_succ]
    refine wpAnyH_ready (rs := [16]) (by kernel_rfl) (by simp) ?_
    refine AllReadyH.cons rfl (fun K hK => ?_) AllReadyH.nil
    have k3 := hend.2.1
    have z3 := hend.2.2.1
    have l3 := hend.2.2.2.1
    go_simp
    refine hK.out _ _ hend.2.2.2.2.1 (fun _ => ?_)
    have hfin := Lib.hid hend.2.2.2.2.2
    clear hK hend hs3 f3 hf3 hS3 hS1 hS2 k3 z3 l3
    try simp only [Act.put, List.setIfInBounds_toArray, List.set_cons_zero, List.set_cons_succ]
    refine wpAnyH_done (by kernel_rfl) ?_ _
    refine ⟨rfl, ?_⟩
    go_wp2_with fail
    (try simp only [Exit.inBlock, Exit.then])
    refine bodyPost_ret (results_none rfl _ _ _) rfl ?_
    exact HE.out _ _ _ _ _ _ _ _ hfin.out.1 hfin.out.2
set_option maxRecDepth 100000 in
set_option maxHeartbeats 8000000 in
theorem uput_old (w0 w : World) (b N : Nat) (xs : List (List UInt8)) (f : Nat → RowU) (A : Option Addr) (cap : Nat) (m : Option Nat) (H : Option Addr) (hc : Nat) (x : List UInt8) (u : MUs) (h : UW w0 b N xs f A cap m H hc w) (hx : WF x) (hin : x ∈ xs) (hN : N < 900000) :
    Calls Tryz.prog 40 #[.pointer (some ⟨b, 0, none⟩), encStr x, u.val] w (PuPost w0 b N xs f x u (footU b f xs.length A m H) w) := by
  obtain ⟨W1, hW1⟩ : ∃ W1, Hid (W1 = w.alloc (.cells u.row.toArray 83)) := ⟨_, Lib.hid rfl⟩
  have f1 : Fr [] w W1 := by rw [hW1.out]; exact (Fr.refl [] w).alloc _
  have B1 : Box W1 w.heap.size 83 u.row.toArray := by rw [hW1.out]; exact Box.new w _ _
  have h1 : UW w0 b N xs f A cap m H hc W1 := h.kept f1 (by simp)
  have hbl : b < w.heap.size := h.tb.box.lt
  have hlen := h.tb.len
  have HB : Hid (∀ w2 F, Fr F W1 w2 → w.heap.size ∉ F → Box w2 w.heap.size 83 u.row.toArray) := Lib.hid (fun w2 F hF hn => B1.kept hF hn)
  have hwh : ∀ {g}, g ∈ foot b A m → g < w.heap.size := fun {g} hg => h.tb.lt g hg
  obtain ⟨i0, hi0, hz0, hz1, hz2⟩ := info_parts info_use
  have Hi := Lib.hid hi0
  have Hz0 := Lib.hid hz0
  have Hz1 := Lib.hid hz1
  have Hz2 := Lib.hid hz2
  obtain ⟨j0, hj0, hy0, hy1, hy2⟩ := info_parts info_uses
  have Hj := Lib.hid hj0
  have Hy0 := Lib.hid hy0
  have Hy1 := Lib.hid hy1
  have Hy2 := Lib.hid hy2
  clear hi0 hz0 hz1 hz2 hj0 hy0 hy1 hy2
  have KP := Lib.hid (put_oldU (o := .slice H xs.length hc) W1 b A cap m N xs x h1.tb hx hin)
  have hno : noOf xs x < xs.length := by unfold noOf; rw [if_pos hin]; exact List.idxOf_lt_length_of_mem hin
  have HE : Hid (∀ A3 cap3 A2 cap2 m2 H3 hc3 w', UW w0 b (N + 1) xs (updU f (noOf xs x) ⟨A3, cap3, (f (noOf xs x)).us ++ [u]⟩) A2 cap2 m2 H3 hc3 w' → UStep (footU b f xs.length A m H) w (footU b (updU f (noOf xs x) ⟨A3, cap3, (f (noOf xs x)).us ++ [u]⟩) xs.length A2 m2 H3) w' → PuPost w0 b N xs f x u (footU b f xs.length A m H) w (.returned (.tuple #[])) w') := Lib.hid (fun A3 cap3 A2 cap2 m2 H3 hc3 w' hq hst => pu_old hin hq hst)
  have HR : Hid (∀ i, i < xs.length → ∀ g ∈ blk (f i).A, g < w.heap.size) := Lib.hid (fun i hi g hg => (h.sg i hi).lt g hg)
  clear h B1 hwh hx hin
  obtain ⟨⟨um, ug, uw, ⟨on, okd, oms⟩, ⟨fnm, fk, fr⟩⟩, uA, uc⟩ := u
  unfold MUs.val
  unfold MUs.row at hW1 HB
  skip
  dsimp only at *
  generalize hml : oms.length = ml at *
  replace hml := Lib.hid hml
  unfold encStr at KP ⊢
  generalize hPost : PuPost w0 b N xs f x _ _ _ = Q at *
  clear hPost
  go_enter Tryz.func40, Tryz.ntmps40
  go_upto_region 1 with fail
  rw [← hW1.out]
  clear hW1
  go_wp2_with fail
  refine KP.out.mono ?_
  rintro e W4 ⟨rfl, hb⟩
  have h4 : UW w0 b (N + 1) xs f A cap m H hc W4 := (h1.kept (Fr.of_below hb []) (by simp)).mono (Nat.le_succ _)
  have B4 := HB.out W4 [] (Fr.of_below hb []) (by simp)
  have hst4 : UStep (footU b f xs.length A m H) w (footU b f xs.length A m H) W4 := (UStep.of_below f1.all).trans (UStep.of_below hb)
  have HL : Hid (∀ i, i < xs.length → (f i).us.length ≤ N) := Lib.hid (fun i hi => h1.ln i hi)
  clear hb KP h1 HB
  generalize hix : noOf xs x = i at *
  replace hix := Lib.hid hix
  generalize hxl : xs.length = n at *
  replace hxl := Lib.hid hxl
  go_wp2_with fail
  have hyl : xs.length = n := hxl.out
  have B5 : Hid (Box W4.drew w.heap.size 83 #[.string um, .bool ug, .bool uw, .string on, .string okd, .slice uA ml uc, .string fnm, .string fk, .string fr]) := Lib.hid B4
  have H5 : Hid (UW w0 b (N + 1) xs f A cap m H hc W4.drew) := Lib.hid (h4.kept ((Fr.refl [] W4).drew) (by simp))
  have T5 : Hid (UStep (footU b f n A m H) w (footU b f n A m H) W4.drew) := Lib.hid (hst4.trans (UStep.of_below ((Fr.refl [] W4).drew.all)))
  obtain ⟨gH, oH, rfl, hgl, hat⟩ := H5.out.hs.at_ (by rw [hdrs_len]; omega)
  have hci : W4.drew.cell? ⟨gH, oH + i, none⟩ = some (.slice (f i).A (f i).us.length (f i).cap) := by
    have := hat i (by rw [hdrs_len]; omega)
    rwa [hdrs_at _ (by omega)] at this
  obtain ⟨S, hSd⟩ : ∃ S : World → Prop, Hid (∀ W', S W' ↔ (W'.cell? ⟨b, 2, none⟩ = some (.slice (some ⟨gH, oH, none⟩) n hc) ∧ Box W' w.heap.size 83 #[.string um, .bool ug, .bool uw, .string on, .string okd, .slice uA ml uc, .string fnm, .string fk, .string fr])) := ⟨_, Lib.hid fun _ => Iff.rfl⟩
  have hrl : (f i).us.length ≤ N := HL.out i (by omega)
  have HSg : Hid (Sg 9 W4.drew 83 (f i).A (f i).cap (f i).us.length ((f i).us.flatMap MUs.row)) := Lib.hid (H5.out.sg i (by omega))
  have keepS : Hid (∀ W F, Fr F W4.drew W → b ∉ F → w.heap.size ∉ F → S W) := Lib.hid (fun W F hF h1 h2 => (hSd.out _).2 ⟨(by have := (H5.out.tb.box.kept hF h1).cell 2; simpa [hyl] using this), B5.out.kept hF h2⟩)
  have hS1 : S W4.drew := keepS.out _ [] (Fr.refl [] _) (by simp) (by simp)
  have HH : Hid (∀ W, (W = W4.drew ∨ ∃ q, W = W4.drew.alloc q) → W.cell? ⟨gH, oH + i, none⟩ = some (.slice (f i).A (f i).us.length (f i).cap)) := Lib.hid (fun W hW => by
    rcases hW with rfl | ⟨q, rfl⟩
    · exact hci
    · exact (World.cell?_of_block (w := W4.drew) (a := ⟨gH, oH + i, none⟩) (Below.heap_alloc _ q gH hgl)).trans hci)
  have HU : Hid (∀ A3 cap3 w3 q, Sg 9 w3 83 A3 cap3 ((f i).us.length + 1) ((f i).us.flatMap MUs.row ++ [.string um, .bool ug, .bool uw, .string on, .string okd, .slice uA ml uc, .string fnm, .string fk, .string fr]) → Fr (blk (f i).A) (W4.drew.alloc q) w3 → (blk A3 = blk (f i).A ∨ blk A3 = [(W4.drew.alloc q).heap.size]) →
      S w3 ∧ w3.cell? ⟨gH, oH + i, none⟩ = some (.slice (f i).A (f i).us.length (f i).cap) ∧ w3.frozen? ⟨gH, oH + i, none⟩ = false ∧ gH < w3.heap.size ∧ S (w3.setCell ⟨gH, oH + i, none⟩ (.slice A3 ((f i).us.length + 1) cap3)) ∧
      UW w0 b (N + 1) xs (updU f i ⟨A3, cap3, (f i).us ++ [⟨⟨um, ug, uw, ⟨on, okd, oms⟩, ⟨fnm, fk, fr⟩⟩, uA, uc⟩]⟩) A cap m (some ⟨gH, oH, none⟩) hc (w3.setCell ⟨gH, oH + i, none⟩ (.slice A3 ((f i).us.length + 1) cap3)) ∧
      UStep (footU b f n A m (some ⟨gH, oH, none⟩)) w (footU b (updU f i ⟨A3, cap3, (f i).us ++ [⟨⟨um, ug, uw, ⟨on, okd, oms⟩, ⟨fnm, fk, fr⟩⟩, uA, uc⟩]⟩) xs.length A m (some ⟨gH, oH, none⟩)) (w3.setCell ⟨gH, oH + i, none⟩ (.slice A3 ((f i).us.length + 1) cap3))) := Lib.hid (fun A3 cap3 w3 q hs3 f3 hf3 => by
    have hiy : i < xs.length := by omega
    have fall : Fr (blk (f i).A) W4.drew w3 := ((Fr.refl (blk (f i).A) W4.drew).alloc q).trans f3 (fun g hg => Or.inl hg) (fun g hg => Or.inl hg)
    have hgR : gH ∉ blk (f i).A := fun hm => H5.out.rH hiy gH hm (by simp [blk])
    have hbR := H5.out.bR hiy
    have hbH := H5.out.bH
    have hwR : w.heap.size ∉ blk (f i).A := fun hm => Nat.lt_irrefl _ (HR.out i (by omega) _ hm)
    have hwH : w.heap.size ∉ blk (some (⟨gH, oH, none⟩ : Addr)) := H5.out.hs.ne_box B5.out (by decide)
    have fset : Fr [gH] w3 (w3.setCell ⟨gH, oH + i, none⟩ (.slice A3 ((f i).us.length + 1) cap3)) := (Fr.refl [gH] w3).setCell (Or.inl (by simp)) _
    have fboth : Fr (gH :: blk (f i).A) W4.drew (w3.setCell ⟨gH, oH + i, none⟩ (.slice A3 ((f i).us.length + 1) cap3)) := fall.trans fset (fun g hg => Or.inl (List.mem_cons_of_mem _ hg)) (fun g hg => Or.inl (by rw [List.mem_singleton] at hg; subst hg; simp))
    have hs4 := H5.out.hs.kept fall (fun g hg hm => H5.out.rH hiy g hm hg)
    refine ⟨keepS.out _ _ fall hbR hwR, (World.cell?_of_block (w := W4.drew) (a := ⟨gH, oH + i, none⟩) (fall.block gH hgl hgR)).trans hci, hs4.free _, Nat.lt_of_lt_of_le hgl fall.size, keepS.out _ _ fboth (fun hm => ?_) (fun hm => ?_), ?_⟩
    · rcases List.mem_cons.1 hm with e | e
      · exact hbH (by rw [e]; simp [blk])
      · exact hbR e
    · rcases List.mem_cons.1 hm with e | e
      · exact hwH (by rw [e]; simp [blk])
      · exact hwR e
    · have hs5 : Sg 9 w3 83 A3 cap3 ((f i).us.length + 1) ((f i).us.flatMap MUs.row ++ MUs.row ⟨⟨um, ug, uw, ⟨on, okd, oms⟩, ⟨fnm, fk, fr⟩⟩, uA, uc⟩) := by
        unfold MUs.row
        dsimp only
        rw [hml.out]
        exact hs3
      obtain ⟨p1, p2⟩ := H5.out.step hiy (by omega) rfl rfl hs5 f3 hf3
      have T6 := T5.out
      rw [← hyl] at T6
      exact ⟨p1, by have t := T6.trans p2; rw [hyl] at t ⊢; exact t⟩)
  generalize hrw : f i = r at *
  replace hrw := Lib.hid hrw
  obtain ⟨rA, rc, rus⟩ := r
  dsimp only at *
  generalize hru : rus.length = rn at *
  replace hru := Lib.hid hru
  clear hat hci h4 B4 H5 B5
  refine rng.wp_normal ?_
  refine wp_region_held_drew (S := S) (by kernel_rfl) hS1 (fun _ => ?_)
  generalize hwz : W4.drew = wz at *
  clear hwz
  refine wpAnyH_take (i := 0) (v := .pointer (some ⟨b, 0, none⟩)) rfl (by kernel_rfl) (by kernel_rfl) (by kernel_rfl) (fun _ _ _ h => absurd h.1 (by simp)) (Or.inl ⟨by kernel_rfl, ?_⟩) hS1 ?_
  · intro W' hSw
    obtain ⟨s0, s2⟩ := (hSd.out _).1 hSw
    go_simp
  try change wpAnyH _ _ _ _ _ _ _ (Act.put _ (some 26) _) _
  try simp only [Act.put, List.setIfInBounds_toArray, List.set_cons_zero, List.set_cons_succ]
  refine wpAnyH_take (i := 1) (v := .pointer (some ⟨b, 0, none⟩)) rfl (by kernel_rfl) (by kernel_rfl) (by kernel_rfl) (fun _ _ _ h => absurd h.1 (by simp)) (Or.inl ⟨by kernel_rfl, ?_⟩) hS1 ?_
  · intro W' hSw
    obtain ⟨s0, s2⟩ := (hSd.out _).1 hSw
    go_simp
  try change wpAnyH _ _ _ _ _ _ _ (Act.put _ (some 27) _) _
  try simp only [Act.put, List.setIfInBounds_toArray, List.set_cons_zero, List.set_cons_succ]
  refine wpAnyH_take (i := 2) (v := .pointer (some ⟨b, 2, none⟩)) rfl (by kernel_rfl) (by kernel_rfl) (by kernel_rfl) (fun _ _ _ h => absurd h.1 (by simp)) (Or.inl ⟨by kernel_rfl, ?_⟩) hS1 ?_
  · intro W' hSw
    obtain ⟨s0, s2⟩ := (hSd.out _).1 hSw
    go_simp
  try change wpAnyH _ _ _ _ _ _ _ (Act.put _ (some 28) _) _
  try simp only [Act.put, List.setIfInBounds_toArray, List.set_cons_zero, List.set_cons_succ]
  refine wpAnyH_take (i := 3) (v := .slice (some ⟨gH, oH, none⟩) n hc) rfl (by kernel_rfl) (by kernel_rfl) (by kernel_rfl) (fun _ _ _ h => absurd h.1 (by simp)) (Or.inl ⟨by kernel_rfl, ?_⟩) hS1 ?_
  · intro W' hSw
    obtain ⟨s0, s2⟩ := (hSd.out _).1 hSw
    go_simp
  try change wpAnyH _ _ _ _ _ _ _ (Act.put _ (some 29) _) _
  try simp only [Act.put, List.setIfInBounds_toArray, List.set_cons_zero, List.set_cons_succ]
  refine wpAnyH_take (i := 4) (v := .int .i64 i) rfl (by kernel_rfl) (by kernel_rfl) (by kernel_rfl) (fun _ _ _ h => absurd h.1 (by simp)) (Or.inl ⟨by kernel_rfl, ?_⟩) hS1 ?_
  · intro W' hSw
    obtain ⟨s0, s2⟩ := (hSd.out _).1 hSw
    go_simp
  try change wpAnyH _ _ _ _ _ _ _ (Act.put _ (some 30) _) _
  try simp only [Act.put, List.setIfInBounds_toArray, List.set_cons_zero, List.set_cons_succ]
  refine wpAnyH_take (i := 5) (v := .pointer (some ⟨b, 0, none⟩)) rfl (by kernel_rfl) (by kernel_rfl) (by kernel_rfl) (fun _ _ _ h => absurd h.1 (by simp)) (Or.inl ⟨by kernel_rfl, ?_⟩) hS1 ?_
  · intro W' hSw
    obtain ⟨s0, s2⟩ := (hSd.out _).1 hSw
    go_simp
  try change wpAnyH _ _ _ _ _ _ _ (Act.put _ (some 31) _) _
  try simp only [Act.put, List.setIfInBounds_toArray, List.set_cons_zero, List.set_cons_succ]
  refine wpAnyH_take (i := 6) (v := .pointer (some ⟨b, 0, none⟩)) rfl (by kernel_rfl) (by kernel_rfl) (by kernel_rfl) (fun _ _ _ h => absurd h.1 (by simp)) (Or.inl ⟨by kernel_rfl, ?_⟩) hS1 ?_
  · intro W' hSw
    obtain ⟨s0, s2⟩ := (hSd.out _).1 hSw
    go_simp
  try change wpAnyH _ _ _ _ _ _ _ (Act.put _ (some 32) _) _
  try simp only [Act.put, List.setIfInBounds_toArray, List.set_cons_zero, List.set_cons_succ]
  refine wpAnyH_take (i := 7) (v := .pointer (some ⟨b, 2, none⟩)) rfl (by kernel_rfl) (by kernel_rfl) (by kernel_rfl) (fun _ _ _ h => absurd h.1 (by simp)) (Or.inl ⟨by kernel_rfl, ?_⟩) hS1 ?_
  · intro W' hSw
    obtain ⟨s0, s2⟩ := (hSd.out _).1 hSw
    go_simp
  try change wpAnyH _ _ _ _ _ _ _ (Act.put _ (some 33) _) _
  try simp only [Act.put, List.setIfInBounds_toArray, List.set_cons_zero, List.set_cons_succ]
  refine wpAnyH_take (i := 8) (v := .slice (some ⟨gH, oH, none⟩) n hc) rfl (by kernel_rfl) (by kernel_rfl) (by kernel_rfl) (fun _ _ _ h => absurd h.1 (by simp)) (Or.inl ⟨by kernel_rfl, ?_⟩) hS1 ?_
  · intro W' hSw
    obtain ⟨s0, s2⟩ := (hSd.out _).1 hSw
    go_simp
  try change wpAnyH _ _ _ _ _ _ _ (Act.put _ (some 34) _) _
  try simp only [Act.put, List.setIfInBounds_toArray, List.set_cons_zero, List.set_cons_succ]
  refine wpAnyH_take (i := 9) (v := .int .i64 i) rfl (by kernel_rfl) (by kernel_rfl) (by kernel_rfl) (fun _ _ _ h => absurd h.1 (by simp)) (Or.inl ⟨by kernel_rfl, ?_⟩) hS1 ?_
  · intro W' hSw
    obtain ⟨s0, s2⟩ := (hSd.out _).1 hSw
    go_simp
  try change wpAnyH _ _ _ _ _ _ _ (Act.put _ (some 35) _) _
  try simp only [Act.put, List.setIfInBounds_toArray, List.set_cons_zero, List.set_cons_succ]
  refine wpAnyH_take (i := 10) (v := .pointer (some ⟨gH, oH + i, none⟩)) rfl (by kernel_rfl) (by kernel_rfl) (by kernel_rfl) (fun _ _ _ h => absurd h.1 (by simp)) (Or.inl ⟨by kernel_rfl, ?_⟩) hS1 ?_
  · intro W' hSw
    obtain ⟨s0, s2⟩ := (hSd.out _).1 hSw
    go_simp
    try (intro hh; omega)
  try change wpAnyH _ _ _ _ _ _ _ (Act.put _ (some 36) _) _
  try simp only [Act.put, List.setIfInBounds_toArray, List.set_cons_zero, List.set_cons_succ]
  refine wpAnyH_take (i := 12) (v := .agg #[.string um, .bool ug, .bool uw, .string on, .string okd, .slice uA ml uc, .string fnm, .string fk, .string fr]) rfl (by kernel_rfl) (by kernel_rfl) (by kernel_rfl) (fun _ _ _ h => absurd h.1 (by simp)) (Or.inl ⟨by kernel_rfl, ?_⟩) hS1 ?_
  · intro W' hSw
    obtain ⟨s0, s2⟩ := (hSd.out _).1 hSw
    have q0 := s2.cell 0
    have q1 := s2.cell 1
    have q2 := s2.cell 2
    have q3 := s2.cell 3
    have q4 := s2.cell 4
    have q5 := s2.cell 5
    have q6 := s2.cell 6
    have q7 := s2.cell 7
    have q8 := s2.cell 8
    simp only [List.getElem?_toArray, List.getElem?_cons_zero, List.getElem?_cons_succ] at q0 q1 q2 q3 q4 q5 q6 q7 q8
    go_simp
  try change wpAnyH _ _ _ _ _ _ _ (Act.put _ (some 38) _) _
  try simp only [Act.put, List.setIfInBounds_toArray, List.set_cons_zero, List.set_cons_succ]
  refine wpAnyH_ready (rs := [11, 13]) (by kernel_rfl) (by simp) ?_
  refine AllReadyH.cons rfl (fun K hK => ?_) (AllReadyH.cons rfl (fun K hK => ?_) AllReadyH.nil)
  · have ch := HH.out wz (Or.inl rfl)
    go_simp
    refine hK.out _ _ hS1 (fun _ => ?_)
    clear hK ch
    try simp only [Act.put, List.setIfInBounds_toArray, List.set_cons_zero, List.set_cons_succ]
    refine wpAnyH_ready (rs := [13]) (by kernel_rfl) (by simp) ?_
    refine AllReadyH.cons rfl (fun K hK => ?_) AllReadyH.nil
    go_simp
    have hS2 := keepS.out (wz.alloc (.cells #[.string um, .bool ug, .bool uw, .string on, .string okd, .slice uA ml uc, .string fnm, .string fk, .string fr] 83)) [] ((Fr.refl [] wz).alloc _) (by simp) (by simp)
    refine hK.out _ _ hS2 (fun _ => ?_)
    clear hK
    try simp only [Act.put, List.setIfInBounds_toArray, List.set_cons_zero, List.set_cons_succ]
    refine wpAnyH_ready (rs := [14]) (by kernel_rfl) (by simp) ?_
    refine AllReadyH.cons rfl (fun K hK => ?_) AllReadyH.nil
    refine step_row (us := [.string um, .bool ug, .bool uw, .string on, .string okd, .slice uA ml uc, .string fnm, .string fk, .string fr]) (by rfl) (.tmp 37) (.tmp 39) _ (by rfl) ((HSg.out).alloc _) Tryz.underlying60 Hi.out Hz0.out Hz1.out Hz2.out rfl (by rfl) (by rfl) rfl (nine_cells _ _ _) (by intro v hv; simp only [List.mem_cons, List.not_mem_nil, or_false] at hv; rcases hv with rfl | rfl | rfl | rfl | rfl | rfl | rfl | rfl | rfl <;> rfl) (by omega) (by omega) ?_
    intro A3 cap3 w3 hs3 f3 hf3
    have hend := HU.out A3 cap3 w3 _ hs3 f3 hf3
    have hS3 := hend.1
    refine hK.out _ _ hS3 (fun _ => ?_)
    clear hK
    try simp only [Act.put, List.setIfInBounds_toArray, List.set_cons_zero, List.set_cons_succ]
    refine wpAnyH_take (i := 15) (v := .pointer (some ⟨gH, oH + i, none⟩)) rfl (by kernel_rfl) (by kernel_rfl) (by kernel_rfl) (fun _ _ _ h => absurd h.1 (by simp)) (Or.inl ⟨by kernel_rfl, ?_⟩) hS3 ?_
    · intro W' hSw
      obtain ⟨s0, s2⟩ := (hSd.out _).1 hSw
      go_simp
      try (intro hh; omega)
    try change wpAnyH _ _ _ _ _ _ _ (Act.put _ (some 41) _) _
    try simp only [Act.put, List.setIfInBounds_toArray, List.set_cons_zero, List.set_cons_succ]
    refine wpAnyH_ready (rs := [16]) (by kernel_rfl) (by simp) ?_
    refine AllReadyH.cons rfl (fun K hK => ?_) AllReadyH.nil
    have k3 := hend.2.1
    have z3 := hend.2.2.1
    have l3 := hend.2.2.2.1
    go_simp
    refine hK.out _ _ hend.2.2.2.2.1 (fun _ => ?_)
    have hfin := Lib.hid hend.2.2.2.2.2
    clear hK hend hs3 f3 hf3 hS3 hS1 hS2 k3 z3 l3
    try simp only [Act.put, List.setIfInBounds_toArray, List.set_cons_zero, List.set_cons_succ]
    refine wpAnyH_done (by kernel_rfl) ?_ _
    refine ⟨rfl, ?_⟩
    go_wp2_with fail
    (try simp only [Exit.inBlock, Exit.then])
    refine bodyPost_ret (results_none rfl _ _ _) rfl ?_
    exact HE.out _ _ _ _ _ _ _ _ hfin.out.1 (by have t := hfin.out.2; rwa [hyl] at t)
  · go_simp
    have hS2 := keepS.out (wz.alloc (.cells #[.string um, .bool ug, .bool uw, .string on, .string okd, .slice uA ml uc, .string fnm, .string fk, .string fr] 83)) [] ((Fr.refl [] wz).alloc _) (by simp) (by simp)
    refine hK.out _ _ hS2 (fun _ => ?_)
    clear hK
    try simp only [Act.put, List.setIfInBounds_toArray, List.set_cons_zero, List.set_cons_succ]
    refine wpAnyH_ready (rs := [11]) (by kernel_rfl) (by simp) ?_
    refine AllReadyH.cons rfl (fun K hK => ?_) AllReadyH.nil
    have ch := HH.out (wz.alloc (.cells #[.string um, .bool ug, .bool uw, .string on, .string okd, .slice uA ml uc, .string fnm, .string fk, .string fr] 83)) (Or.inr ⟨_, rfl⟩)
    go_simp
    refine hK.out _ _ hS2 (fun _ => ?_)
    clear hK ch
    try simp only [Act.put, List.setIfInBounds_toArray, List.set_cons_zero, List.set_cons_succ]
    refine wpAnyH_ready (rs := [14]) (by kernel_rfl) (by simp) ?_
    refine AllReadyH.cons rfl (fun K hK => ?_) AllReadyH.nil
    refine step_row (us := [.string um, .bool ug, .bool uw, .string on, .string okd, .slice uA ml uc, .string fnm, .string fk, .string fr]) (by rfl) (.tmp 37) (.tmp 39) _ (by rfl) ((HSg.out).alloc _) Tryz.underlying60 Hi.out Hz0.out Hz1.out Hz2.out rfl (by rfl) (by rfl) rfl (nine_cells _ _ _) (by intro v hv; simp only [List.mem_cons, List.not_mem_nil, or_false] at hv; rcases hv with rfl | rfl | rfl | rfl | rfl | rfl | rfl | rfl | rfl <;> rfl) (by omega) (by omega) ?_
    intro A3 cap3 w3 hs3 f3 hf3
    have hend := HU.out A3 cap3 w3 _ hs3 f3 hf3
    have hS3 := hend.1
    refine hK.out _ _ hS3 (fun _ => ?_)
    clear hK
    try simp only [Act.put, List.setIfInBounds_toArray, List.set_cons_zero, List.set_cons_succ]
    refine wpAnyH_take (i := 15) (v := .pointer (some ⟨gH, oH + i, none⟩)) rfl (by kernel_rfl) (by kernel_rfl) (by kernel_rfl) (fun _ _ _ h => absurd h.1 (by simp)) (Or.inl ⟨by kernel_rfl, ?_⟩) hS3 ?_
    · intro W' hSw
      obtain ⟨s0, s2⟩ := (hSd.out _).1 hSw
      go_simp
      try (intro hh; omega)
    try change wpAnyH _ _ _ _ _ _ _ (Act.put _ (some 41) _) _
    try simp only [Act.put, List.setIfInBounds_toArray, List.set_cons_zero, List.set_cons_succ]
    refine wpAnyH_ready (rs := [16]) (by kernel_rfl) (by simp) ?_
    refine AllReadyH.cons rfl (fun K hK => ?_) AllReadyH.nil
    have k3 := hend.2.1
    have z3 := hend.2.2.1
    have l3 := hend.2.2.2.1
    go_simp
    refine hK.out _ _ hend.2.2.2.2.1 (fun _ => ?_)
    have hfin := Lib.hid hend.2.2.2.2.2
    clear hK hend hs3 f3 hf3 hS3 hS1 hS2 k3 z3 l3
    try simp only [Act.put, List.setIfInBounds_toArray, List.set_cons_zero, List.set_cons_succ]
    refine wpAnyH_done (by kernel_rfl) ?_ _
    refine ⟨rfl, ?_⟩
    go_wp2_with fail
    (try simp only [Exit.inBlock, Exit.then])
    refine bodyPost_ret (results_none rfl _ _ _) rfl ?_
    exact HE.out _ _ _ _ _ _ _ _ hfin.out.1 (by have t := hfin.out.2; rwa [hyl] at t)
theorem uput_any (w0 w : World) (b N : Nat) (s : List (List UInt8) × List (List MUs)) (F : List Nat) (x : List UInt8) (u : MUs) (h : UM w0 b N s F w) (hx : WF x) (hN : N < 900000) :
    Calls Tryz.prog 40 #[.pointer (some ⟨b, 0, none⟩), encStr x, u.val] w (fun e w' => e = .returned (.tuple #[]) ∧ ∃ F', UM w0 b (N + 1) (putM s (x, u)) F' w' ∧ UStep F w F' w') := by
  obtain ⟨f, A, cap, m, H, hc, h, e, eF⟩ := h
  obtain ⟨xs, rs⟩ := s
  dsimp only at e h eF
  subst e
  subst eF
  by_cases hin : x ∈ xs
  · exact uput_old w0 w b N xs f A cap m H hc x u h hx hin hN
  · exact uput_new w0 w b N xs f A cap m H hc x u h hx hin hN
end Go.Proofs.YtlkboeajkgbnaaaGreatDoor.ym
