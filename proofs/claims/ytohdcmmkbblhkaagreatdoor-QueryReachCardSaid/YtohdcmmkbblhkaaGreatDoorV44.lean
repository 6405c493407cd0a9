import Derived.Test.YtohdcmmkbblhkaaGreatDoorV35
import Derived.Test.YtohdcmmkbblhkaaGreatDoorV16
import Derived.Test.YtohdcmmkbblhkaaGreatDoorUTjA2
import Derived.Test.YtohdcmmkbblhkaaGreatDoorV23
import Derived.Test.YtohdcmmkbblhkaaGreatDoorV19
/-
  query: the order of calls: the reference's.
-/
set_option linter.all false
namespace Go.Proofs.YtohdcmmkbblhkaaGreatDoor.qy
open Go.RowKit Go.Sort Go.Shelf Go.Proofs.YtohdcmmkbblhkaaGreatDoor.mem Go.Proofs.YtohdcmmkbblhkaaGreatDoor.wd Go.Proofs.YtohdcmmkbblhkaaGreatDoor.tj
open Go.Proofs.YtohdcmmkbblhkaaGreatDoor.inn (rsS mem_rsS intoS)
open Go.Proofs.YtohdcmmkbblhkaaGreatDoor.ins (numV)

theorem numV_in {ns : List T} {x : T} (h : x ∈ ns) : numV ns x = numI ns x := by
  unfold numV ins.noOf numI
  rw [if_pos h, if_pos h]
theorem rs_both (l : List Ed) (e : Ed) : rsS ((l ++ [e]).flatMap both) = intoS (intoS (rsS (l.flatMap both)) e.1) e.2 := by
  rw [List.flatMap_append]
  show rsS (l.flatMap both ++ ([e].flatMap both)) = _
  rw [show [e].flatMap both = [e.1] ++ [e.2] by simp [both], ← List.append_assoc, rs_snoc, rs_snoc]
theorem rs_both_len (l : List Ed) : (rsS (l.flatMap both)).length ≤ 2 * l.length := by
  have := inn.rs_len (l.flatMap both)
  rwa [both_len] at this

set_option maxHeartbeats 8000000 in
set_option maxRecDepth 100000 in
theorem rorder_any (w : World) (A : Option Addr) (cap : Nat) (l : List Ed) (h : EdM w A l) (hl : l.length ≤ 50) :
    Calls Tryz.prog 20 #[.slice A l.length cap] w (OrPost w (orderL l)) := by
  have H := Lib.hid (fun W (hb : Below w.heap.size w W) => h.below hb)
  obtain ⟨i0, hi0, hz0, hz1, hz2⟩ := info_parts inn.info_str
  have Hi := Lib.hid hi0
  have Hz0 := Lib.hid hz0
  have Hz1 := Lib.hid hz1
  have Hz2 := Lib.hid hz2
  obtain ⟨j0, hj0, hy0, hy1, hy2⟩ := info_parts info_te2
  have Hj := Lib.hid hj0
  have Hy0 := Lib.hid hy0
  have Hy1 := Lib.hid hy1
  have Hy2 := Lib.hid hy2
  obtain ⟨k0, hk0, hx0, hx1, hx2⟩ := info_parts info_strs
  have Hk := Lib.hid hk0
  have Hx0 := Lib.hid hx0
  have Hx1 := Lib.hid hx1
  have Hx2 := Lib.hid hx2
  have hnl := names_len l
  have hmem1 : Hid (∀ e ∈ l, e.1 ∈ namesL l) := Lib.hid (fun e he => mem_names.2 ⟨e, he, Or.inl rfl⟩)
  have hmem2 : Hid (∀ e ∈ l, e.2 ∈ namesL l) := Lib.hid (fun e he => mem_names.2 ⟨e, he, Or.inr rfl⟩)
  have hplt := Lib.hid (parts_lt l)
  have hps := Lib.hid (parts_small l)
  clear h hi0 hz0 hz1 hz2 hj0 hy0 hy1 hy2 hk0 hx0 hx1 hx2
  unfold OrPost
  have hOL := Lib.hid (orderL_eq l)
  generalize orderL l = OL at *
  have hS0 : Hid (Seg w 9 none 0 ((rsS ((l.take 0).flatMap both)).map encStr) ∧ Below w.heap.size w w) := Lib.hid ⟨Seg.nil _ _, Below.refl _ _⟩
  obtain ⟨n, hN⟩ : ∃ n, Hid (n = l.length) := ⟨_, Lib.hid rfl⟩
  rw [← hN.out] at hl hnl ⊢
  go_enter Tryz.func20, Tryz.ntmps20
  go_wp2_with fail
  go_loopw [4, 3] (fun i s wr => ∃ (k m : Nat) (A : Option Addr) (cap : Nat), k ≤ n ∧ m ≤ 2 * k ∧ i = .int .i64 k ∧ s = .slice A m cap ∧ Hid ((rsS ((l.take k).flatMap both)).length = m) ∧ Hid (Seg wr 9 A cap ((rsS ((l.take k).flatMap both)).map encStr) ∧ Below w.heap.size w wr)) (fun i _ _ => n - (intOf i).toNat)
  case atStart => exact ⟨0, 0, none, 0, by omega, by omega, rfl, rfl, Lib.hid rfl, hS0⟩
  case round =>
    obtain ⟨k, m, A1, cap1, hk, hmk, rfl, rfl, hm, hS⟩ := hrel
    clear hS0
    rename World => wr
    by_cases hkn : k < n
    · have d1 : decide ((k : Int) < (n : Int)) = true := decide_eq_true (by omega)
      have hkl : k < l.length := by rw [← hN.out]; exact hkn
      obtain ⟨g, off, rfl, hg, ca, cb⟩ := ed_at (H.out wr hS.out.2) hkl
      have HE := Lib.hid (fun W (hb : Below w.heap.size w W) => ed_at (H.out W hb) hkl)
      have hts : Hid (rsS ((l.take (k + 1)).flatMap both) = intoS (intoS (rsS ((l.take k).flatMap both)) l[k].1) l[k].2) := Lib.hid (by rw [List.take_succ_eq_append_getElem hkl, rs_both])
      have hlen2 : Hid ((rsS ((l.take (k + 1)).flatMap both)).length ≤ 2 * (k + 1)) := Lib.hid (by have := rs_both_len (l.take (k + 1)); rw [List.length_take] at this; omega)
      rw [hts.out] at hlen2
      have hm' := hm.out
      generalize rsS ((l.take k).flatMap both) = ns at *
      subst hm'
      generalize l[k] = pk at *
      clear hg
      obtain ⟨x, y⟩ := pk
      dsimp only at ca cb HE hts hlen2
      go_upto_region 5 with fail
      have hkI : (k : Int) < (n : Int) := by omega
      obtain ⟨S, hSd⟩ : ∃ S : World → Prop, Hid (∀ W', S W' ↔ (W'.cell? ⟨g, off + k * 2, none⟩ = some (encStr x) ∧ W'.cell? ⟨g, off + k * 2 + 1, none⟩ = some (encStr y))) := ⟨_, Lib.hid fun _ => Iff.rfl⟩
      have hS1 : S wr.drew := (hSd.out _).2 ⟨ca, cb⟩
      have keepS : Hid (∀ W, Below w.heap.size w W → S W) := Lib.hid (fun W hb => (hSd.out _).2 (by
        obtain ⟨b', o', e', _, c1, c2⟩ := HE.out W hb
        injection e' with e'
        injection e' with e1' e2'
        subst e1'
        subst e2'
        exact ⟨c1, c2⟩))
      have HK1 := Lib.hid (inn.into_any wr.drew A1 cap1 ns x hS.out.1.drew (by omega))
      unfold inn.IPost at HK1
      have hwd : Hid (Below w.heap.size w wr.drew) := Lib.hid (hS.out.2.trans (((Fr.refl [] wr).drew).all.mono hS.out.2.size))
      clear ca cb HE
      refine rng.wp_normal ?_
      refine wp_region_held_drew (S := S) (by kernel_rfl) hS1 (fun _ => ?_)
      generalize wr.drew = wz at *
      unfold encStr at hSd HK1
      refine wpAnyH_take (i := 0) (v := (.slice A1 ns.length cap1)) rfl (by kernel_rfl) (by kernel_rfl) (by kernel_rfl) (fun _ _ _ h => absurd h.1 (by simp)) (Or.inl ⟨by kernel_rfl, ?_⟩) hS1 ?_
      · intro W' hSw
        obtain ⟨s0, s1⟩ := (hSd.out _).1 hSw
        go_simp
      try change wpAnyH _ _ _ _ _ _ _ (Act.put _ (some 18) _) _
      try simp only [Act.put, List.setIfInBounds_toArray, List.set_cons_zero, List.set_cons_succ]
      refine wpAnyH_take (i := 1) (v := (.slice (some ⟨g, off, none⟩) n cap)) rfl (by kernel_rfl) (by kernel_rfl) (by kernel_rfl) (fun _ _ _ h => absurd h.1 (by simp)) (Or.inl ⟨by kernel_rfl, ?_⟩) hS1 ?_
      · intro W' hSw
        obtain ⟨s0, s1⟩ := (hSd.out _).1 hSw
        go_simp
      try change wpAnyH _ _ _ _ _ _ _ (Act.put _ (some 19) _) _
      try simp only [Act.put, List.setIfInBounds_toArray, List.set_cons_zero, List.set_cons_succ]
      refine wpAnyH_take (i := 2) (v := (.int .i64 (k : Nat))) rfl (by kernel_rfl) (by kernel_rfl) (by kernel_rfl) (fun _ _ _ h => absurd h.1 (by simp)) (Or.inl ⟨by kernel_rfl, ?_⟩) hS1 ?_
      · intro W' hSw
        obtain ⟨s0, s1⟩ := (hSd.out _).1 hSw
        go_simp
      try change wpAnyH _ _ _ _ _ _ _ (Act.put _ (some 20) _) _
      try simp only [Act.put, List.setIfInBounds_toArray, List.set_cons_zero, List.set_cons_succ]
      refine wpAnyH_take (i := 3) (v := (.pointer (some ⟨g, off + k * 2, none⟩))) rfl (by kernel_rfl) (by kernel_rfl) (by kernel_rfl) (fun _ _ _ h => absurd h.1 (by simp)) (Or.inl ⟨by kernel_rfl, ?_⟩) hS1 ?_
      · intro W' hSw
        obtain ⟨s0, s1⟩ := (hSd.out _).1 hSw
        go_simp
      try change wpAnyH _ _ _ _ _ _ _ (Act.put _ (some 21) _) _
      try simp only [Act.put, List.setIfInBounds_toArray, List.set_cons_zero, List.set_cons_succ]
      refine wpAnyH_take (i := 4) (v := (.pointer (some ⟨g, off + k * 2, none⟩))) rfl (by kernel_rfl) (by kernel_rfl) (by kernel_rfl) (fun _ _ _ h => absurd h.1 (by simp)) (Or.inl ⟨by kernel_rfl, ?_⟩) hS1 ?_
      · intro W' hSw
        obtain ⟨s0, s1⟩ := (hSd.out _).1 hSw
        go_simp
      try change wpAnyH _ _ _ _ _ _ _ (Act.put _ (some 22) _) _
      try simp only [Act.put, List.setIfInBounds_toArray, List.set_cons_zero, List.set_cons_succ]
      refine wpAnyH_take (i := 5) (v := (.string ⟨x.toArray⟩)) rfl (by kernel_rfl) (by kernel_rfl) (by kernel_rfl) (fun _ _ _ h => absurd h.1 (by simp)) (Or.inl ⟨by kernel_rfl, ?_⟩) hS1 ?_
      · intro W' hSw
        obtain ⟨s0, s1⟩ := (hSd.out _).1 hSw
        go_simp
      try change wpAnyH _ _ _ _ _ _ _ (Act.put _ (some 23) _) _
      try simp only [Act.put, List.setIfInBounds_toArray, List.set_cons_zero, List.set_cons_succ]
      refine wpAnyH_take (i := 7) (v := (.slice (some ⟨g, off, none⟩) n cap)) rfl (by kernel_rfl) (by kernel_rfl) (by kernel_rfl) (fun _ _ _ h => absurd h.1 (by simp)) (Or.inl ⟨by kernel_rfl, ?_⟩) hS1 ?_
      · intro W' hSw
        obtain ⟨s0, s1⟩ := (hSd.out _).1 hSw
        go_simp
      try change wpAnyH _ _ _ _ _ _ _ (Act.put _ (some 25) _) _
      try simp only [Act.put, List.setIfInBounds_toArray, List.set_cons_zero, List.set_cons_succ]
      refine wpAnyH_take (i := 8) (v := (.int .i64 (k : Nat))) rfl (by kernel_rfl) (by kernel_rfl) (by kernel_rfl) (fun _ _ _ h => absurd h.1 (by simp)) (Or.inl ⟨by kernel_rfl, ?_⟩) hS1 ?_
      · intro W' hSw
        obtain ⟨s0, s1⟩ := (hSd.out _).1 hSw
        go_simp
      try change wpAnyH _ _ _ _ _ _ _ (Act.put _ (some 26) _) _
      try simp only [Act.put, List.setIfInBounds_toArray, List.set_cons_zero, List.set_cons_succ]
      refine wpAnyH_take (i := 9) (v := (.pointer (some ⟨g, off + k * 2, none⟩))) rfl (by kernel_rfl) (by kernel_rfl) (by kernel_rfl) (fun _ _ _ h => absurd h.1 (by simp)) (Or.inl ⟨by kernel_rfl, ?_⟩) hS1 ?_
      · intro W' hSw
        obtain ⟨s0, s1⟩ := (hSd.out _).1 hSw
        go_simp
      try change wpAnyH _ _ _ _ _ _ _ (Act.put _ (some 27) _) _
      try simp only [Act.put, List.setIfInBounds_toArray, List.set_cons_zero, List.set_cons_succ]
      refine wpAnyH_take (i := 10) (v := (.pointer (some ⟨g, off + k * 2 + 1, none⟩))) rfl (by kernel_rfl) (by kernel_rfl) (by kernel_rfl) (fun _ _ _ h => absurd h.1 (by simp)) (Or.inl ⟨by kernel_rfl, ?_⟩) hS1 ?_
      · intro W' hSw
        obtain ⟨s0, s1⟩ := (hSd.out _).1 hSw
        go_simp
      try change wpAnyH _ _ _ _ _ _ _ (Act.put _ (some 28) _) _
      try simp only [Act.put, List.setIfInBounds_toArray, List.set_cons_zero, List.set_cons_succ]
      refine wpAnyH_take (i := 11) (v := (.string ⟨y.toArray⟩)) rfl (by kernel_rfl) (by kernel_rfl) (by kernel_rfl) (fun _ _ _ h => absurd h.1 (by simp)) (Or.inl ⟨by kernel_rfl, ?_⟩) hS1 ?_
      · intro W' hSw
        obtain ⟨s0, s1⟩ := (hSd.out _).1 hSw
        go_simp
      try change wpAnyH _ _ _ _ _ _ _ (Act.put _ (some 29) _) _
      try simp only [Act.put, List.setIfInBounds_toArray, List.set_cons_zero, List.set_cons_succ]
      refine wpAnyH_ready (rs := [6]) (by kernel_rfl) (by simp) ?_
      refine AllReadyH.cons rfl (fun K hK => ?_) AllReadyH.nil
      go_simp
      refine HK1.out.mono ?_
      rintro e w5 ⟨A5, c5, rfl, s5, b5⟩
      have h5 : Below w.heap.size w w5 := hwd.out.trans (b5.mono hwd.out.size)
      have HK2 := Lib.hid (inn.into_any w5 A5 c5 (intoS ns x) y s5 (by rcases into_cases ns x with ⟨e, _⟩ | e <;> (try rw [e]) <;> omega))
      unfold inn.IPost encStr at HK2
      have hS5 := keepS.out w5 h5
      have H5 := Lib.hid h5
      refine hK.out _ _ hS5 (fun _ => ?_)
      clear hK HK1 s5 b5 h5 hS1
      try simp only [Act.put, List.setIfInBounds_toArray, List.set_cons_zero, List.set_cons_succ]
      refine wpAnyH_ready (rs := [12]) (by kernel_rfl) (by simp) ?_
      refine AllReadyH.cons rfl (fun K hK => ?_) AllReadyH.nil
      go_simp
      refine HK2.out.mono ?_
      rintro e w6 ⟨A6, c6, rfl, s6, b6⟩
      have h6 : Below w.heap.size w w6 := H5.out.trans (b6.mono H5.out.size)
      have hS6 := keepS.out w6 h6
      have fin : Hid (Seg w6 9 A6 c6 ((rsS ((l.take (k + 1)).flatMap both)).map encStr) ∧ Below w.heap.size w w6) := Lib.hid ⟨by rw [hts.out]; exact s6, h6⟩
      have hle : Hid ((rsS ((l.take (k + 1)).flatMap both)).length = (intoS (intoS ns x) y).length) := Lib.hid (by rw [hts.out])
      refine hK.out _ _ hS6 (fun _ => ?_)
      clear hK HK2 s6 b6 h6 hS5
      try simp only [Act.put, List.setIfInBounds_toArray, List.set_cons_zero, List.set_cons_succ]
      refine wpAnyH_ready (rs := [13]) (by kernel_rfl) (by simp) ?_
      refine AllReadyH.cons rfl (fun K hK => ?_) AllReadyH.nil
      go_simp
      refine hK.out _ _ hS6 (fun _ => ?_)
      clear hK hS6 keepS hSd hS H5 hwd
      try simp only [Act.put, List.setIfInBounds_toArray, List.set_cons_zero, List.set_cons_succ]
      have hll := hlen2.out
      refine wpAnyH_done (by kernel_rfl) ?_ _
      refine ⟨rfl, ?_⟩
      go_wp2_with fail
      go_roundw
      case rel => exact ⟨k + 1, _, A6, c6, by omega, by omega, by go_num, rfl, hle, fin⟩
      case measure => simp [intOf]; omega
    · obtain rfl : k = n := by omega
      have d1 : decide ((k : Int) < (k : Int)) = false := decide_eq_false (by omega)
      rw [show (l.take k).flatMap both = l.flatMap both by rw [List.take_of_length_le (by rw [hN.out]; exact Nat.le_refl _)]] at hm hS
      change Hid ((namesL l).length = m) at hm
      change Hid (Seg wr 9 A1 cap1 ((namesL l).map encStr) ∧ Below w.heap.size w wr) at hS
      generalize hns : namesL l = ns at *
      have HRd := Lib.hid (fun W (hb : Below wr.heap.size wr W) => hS.out.1.rd.below hb)
      have hW2 := Lib.hid hS.out.2
      have hE0 := Lib.hid (EN.new 73 wr (numE ns l))
      have hel : Hid ((numE ns l).length = k) := Lib.hid (by rw [numE_len, hN.out])
      clear hS
      go_wp2_with fail
      go_loopw [6, 5] (fun i s wx => ∃ (q : Nat) (B : Option Addr) (c : Nat), q ≤ k ∧ i = .int .i64 q ∧ s = .slice B q c ∧ Hid (EN 73 wr wx (numE ns l) q B c)) (fun i _ _ => k - (intOf i).toNat)
      case atStart => exact ⟨0, none, 0, by omega, rfl, rfl, hE0⟩
      case round =>
        obtain ⟨q, B, c, hq, rfl, rfl, hE⟩ := hrel
        clear hE0
        rename World => wy
        by_cases hqk : q < k
        · have e1 : decide ((q : Int) < (k : Int)) = true := decide_eq_true (by omega)
          have hql : q < l.length := by rw [← hN.out]; exact hqk
          have hqI : (q : Int) < (k : Int) := by omega
          obtain ⟨g, off, rfl, hg, ca, cb⟩ := ed_at (H.out wy (hW2.out.trans (hE.out.on.mono hW2.out.size))) hql
          have HE := Lib.hid (fun W (hb : Below w.heap.size w W) => ed_at (H.out W hb) hql)
          have hm1 := hmem1.out _ (List.getElem_mem hql)
          have hm2 := hmem2.out _ (List.getElem_mem hql)
          have hqe : q < (numE ns l).length := by rw [hel.out]; exact hqk
          have hat := Lib.hid (numE_at hql hqe)
          generalize l[q] = pk at *
          clear hg
          obtain ⟨x, y⟩ := pk
          dsimp only at ca cb hm1 hm2 hat HE
          go_upto_region 10 with fail
          have hwd : Hid (Below w.heap.size w wy.drew) := Lib.hid ((hW2.out.trans (hE.out.on.mono hW2.out.size)).trans (((Fr.refl [] wy).drew).all.mono (hW2.out.trans (hE.out.on.mono hW2.out.size)).size))
          have hwd2 : Below wr.heap.size wr wy.drew := hE.out.on.trans (((Fr.refl [] wy).drew).all.mono hE.out.on.size)
          have K1 := Lib.hid (ins.number_any wy.drew A1 cap1 ns x (HRd.out _ hwd2) (by have := hm.out; omega))
          have K2 := Lib.hid (ins.number_any wy.drew A1 cap1 ns y (HRd.out _ hwd2) (by have := hm.out; omega))
          rw [numV_in hm1, hm.out] at K1
          rw [numV_in hm2, hm.out] at K2
          obtain ⟨S, hSd⟩ : ∃ S : World → Prop, Hid (∀ W', S W' ↔ (W'.cell? ⟨g, off + q * 2, none⟩ = some (encStr x) ∧ W'.cell? ⟨g, off + q * 2 + 1, none⟩ = some (encStr y))) := ⟨_, Lib.hid fun _ => Iff.rfl⟩
          have hS1 : S wy.drew := (hSd.out _).2 ⟨ca, cb⟩
          have keepS : Hid (∀ W, Below w.heap.size w W → S W) := Lib.hid (fun W hb => (hSd.out _).2 (by
            obtain ⟨b', o', e', _, c1, c2⟩ := HE.out W hb
            injection e' with e'
            injection e' with e1' e2'
            subst e1'
            subst e2'
            exact ⟨c1, c2⟩))
          have hwf : Hid (Fr [] wy wy.drew) := Lib.hid ((Fr.refl [] wy).drew)
          have HES : Hid (Sg 2 wy.drew 73 B c q (fi ((numE ns l).take q))) := Lib.hid (hE.out.sg.kept hwf.out (by simp))
          have hwl : Hid (∀ g ∈ blk B, w.heap.size ≤ g) := Lib.hid (fun g hg => Nat.le_trans hW2.out.size (hE.out.ge g hg))
          clear ca cb HE hm1 hm2 hwd2
          refine rng.wp_normal ?_
          refine wp_region_held_drew (S := S) (by kernel_rfl) hS1 (fun _ => ?_)
          generalize wy.drew = wz at *
          generalize numI ns x = zx at *
          generalize numI ns y = zy at *
          unfold encStr at hSd K1 K2
          refine wpAnyH_take (i := 0) (v := (.slice B q c)) rfl (by kernel_rfl) (by kernel_rfl) (by kernel_rfl) (fun _ _ _ h => absurd h.1 (by simp)) (Or.inl ⟨by kernel_rfl, ?_⟩) hS1 ?_
          · intro W' hSw
            obtain ⟨s0, s1⟩ := (hSd.out _).1 hSw
            go_simp
          try change wpAnyH _ _ _ _ _ _ _ (Act.put _ (some 37) _) _
          try simp only [Act.put, List.setIfInBounds_toArray, List.set_cons_zero, List.set_cons_succ]
          refine wpAnyH_take (i := 1) (v := (.slice A1 m cap1)) rfl (by kernel_rfl) (by kernel_rfl) (by kernel_rfl) (fun _ _ _ h => absurd h.1 (by simp)) (Or.inl ⟨by kernel_rfl, ?_⟩) hS1 ?_
          · intro W' hSw
            obtain ⟨s0, s1⟩ := (hSd.out _).1 hSw
            go_simp
          try change wpAnyH _ _ _ _ _ _ _ (Act.put _ (some 38) _) _
          try simp only [Act.put, List.setIfInBounds_toArray, List.set_cons_zero, List.set_cons_succ]
          refine wpAnyH_take (i := 2) (v := (.slice (some ⟨g, off, none⟩) k cap)) rfl (by kernel_rfl) (by kernel_rfl) (by kernel_rfl) (fun _ _ _ h => absurd h.1 (by simp)) (Or.inl ⟨by kernel_rfl, ?_⟩) hS1 ?_
          · intro W' hSw
            obtain ⟨s0, s1⟩ := (hSd.out _).1 hSw
            go_simp
          try change wpAnyH _ _ _ _ _ _ _ (Act.put _ (some 39) _) _
          try simp only [Act.put, List.setIfInBounds_toArray, List.set_cons_zero, List.set_cons_succ]
          refine wpAnyH_take (i := 3) (v := (.int .i64 (q : Nat))) rfl (by kernel_rfl) (by kernel_rfl) (by kernel_rfl) (fun _ _ _ h => absurd h.1 (by simp)) (Or.inl ⟨by kernel_rfl, ?_⟩) hS1 ?_
          · intro W' hSw
            obtain ⟨s0, s1⟩ := (hSd.out _).1 hSw
            go_simp
          try change wpAnyH _ _ _ _ _ _ _ (Act.put _ (some 40) _) _
          try simp only [Act.put, List.setIfInBounds_toArray, List.set_cons_zero, List.set_cons_succ]
          refine wpAnyH_take (i := 4) (v := (.pointer (some ⟨g, off + q * 2, none⟩))) rfl (by kernel_rfl) (by kernel_rfl) (by kernel_rfl) (fun _ _ _ h => absurd h.1 (by simp)) (Or.inl ⟨by kernel_rfl, ?_⟩) hS1 ?_
          · intro W' hSw
            obtain ⟨s0, s1⟩ := (hSd.out _).1 hSw
            go_simp
          try change wpAnyH _ _ _ _ _ _ _ (Act.put _ (some 41) _) _
          try simp only [Act.put, List.setIfInBounds_toArray, List.set_cons_zero, List.set_cons_succ]
          refine wpAnyH_take (i := 5) (v := (.pointer (some ⟨g, off + q * 2, none⟩))) rfl (by kernel_rfl) (by kernel_rfl) (by kernel_rfl) (fun _ _ _ h => absurd h.1 (by simp)) (Or.inl ⟨by kernel_rfl, ?_⟩) hS1 ?_
          · intro W' hSw
            obtain ⟨s0, s1⟩ := (hSd.out _).1 hSw
            go_simp
          try change wpAnyH _ _ _ _ _ _ _ (Act.put _ (some 42) _) _
          try simp only [Act.put, List.setIfInBounds_toArray, List.set_cons_zero, List.set_cons_succ]
          refine wpAnyH_take (i := 6) (v := (.string ⟨x.toArray⟩)) rfl (by kernel_rfl) (by kernel_rfl) (by kernel_rfl) (fun _ _ _ h => absurd h.1 (by simp)) (Or.inl ⟨by kernel_rfl, ?_⟩) hS1 ?_
          · intro W' hSw
            obtain ⟨s0, s1⟩ := (hSd.out _).1 hSw
            go_simp
          try change wpAnyH _ _ _ _ _ _ _ (Act.put _ (some 43) _) _
          try simp only [Act.put, List.setIfInBounds_toArray, List.set_cons_zero, List.set_cons_succ]
          refine wpAnyH_take (i := 8) (v := (.slice A1 m cap1)) rfl (by kernel_rfl) (by kernel_rfl) (by kernel_rfl) (fun _ _ _ h => absurd h.1 (by simp)) (Or.inl ⟨by kernel_rfl, ?_⟩) hS1 ?_
          · intro W' hSw
            obtain ⟨s0, s1⟩ := (hSd.out _).1 hSw
            go_simp
          try change wpAnyH _ _ _ _ _ _ _ (Act.put _ (some 45) _) _
          try simp only [Act.put, List.setIfInBounds_toArray, List.set_cons_zero, List.set_cons_succ]
          refine wpAnyH_take (i := 9) (v := (.slice (some ⟨g, off, none⟩) k cap)) rfl (by kernel_rfl) (by kernel_rfl) (by kernel_rfl) (fun _ _ _ h => absurd h.1 (by simp)) (Or.inl ⟨by kernel_rfl, ?_⟩) hS1 ?_
          · intro W' hSw
            obtain ⟨s0, s1⟩ := (hSd.out _).1 hSw
            go_simp
          try change wpAnyH _ _ _ _ _ _ _ (Act.put _ (some 46) _) _
          try simp only [Act.put, List.setIfInBounds_toArray, List.set_cons_zero, List.set_cons_succ]
          refine wpAnyH_take (i := 10) (v := (.int .i64 (q : Nat))) rfl (by kernel_rfl) (by kernel_rfl) (by kernel_rfl) (fun _ _ _ h => absurd h.1 (by simp)) (Or.inl ⟨by kernel_rfl, ?_⟩) hS1 ?_
          · intro W' hSw
            obtain ⟨s0, s1⟩ := (hSd.out _).1 hSw
            go_simp
          try change wpAnyH _ _ _ _ _ _ _ (Act.put _ (some 47) _) _
          try simp only [Act.put, List.setIfInBounds_toArray, List.set_cons_zero, List.set_cons_succ]
          refine wpAnyH_take (i := 11) (v := (.pointer (some ⟨g, off + q * 2, none⟩))) rfl (by kernel_rfl) (by kernel_rfl) (by kernel_rfl) (fun _ _ _ h => absurd h.1 (by simp)) (Or.inl ⟨by kernel_rfl, ?_⟩) hS1 ?_
          · intro W' hSw
            obtain ⟨s0, s1⟩ := (hSd.out _).1 hSw
            go_simp
          try change wpAnyH _ _ _ _ _ _ _ (Act.put _ (some 48) _) _
          try simp only [Act.put, List.setIfInBounds_toArray, List.set_cons_zero, List.set_cons_succ]
          refine wpAnyH_take (i := 12) (v := (.pointer (some ⟨g, off + q * 2 + 1, none⟩))) rfl (by kernel_rfl) (by kernel_rfl) (by kernel_rfl) (fun _ _ _ h => absurd h.1 (by simp)) (Or.inl ⟨by kernel_rfl, ?_⟩) hS1 ?_
          · intro W' hSw
            obtain ⟨s0, s1⟩ := (hSd.out _).1 hSw
            go_simp
          try change wpAnyH _ _ _ _ _ _ _ (Act.put _ (some 49) _) _
          try simp only [Act.put, List.setIfInBounds_toArray, List.set_cons_zero, List.set_cons_succ]
          refine wpAnyH_take (i := 13) (v := (.string ⟨y.toArray⟩)) rfl (by kernel_rfl) (by kernel_rfl) (by kernel_rfl) (fun _ _ _ h => absurd h.1 (by simp)) (Or.inl ⟨by kernel_rfl, ?_⟩) hS1 ?_
          · intro W' hSw
            obtain ⟨s0, s1⟩ := (hSd.out _).1 hSw
            go_simp
          try change wpAnyH _ _ _ _ _ _ _ (Act.put _ (some 50) _) _
          try simp only [Act.put, List.setIfInBounds_toArray, List.set_cons_zero, List.set_cons_succ]
          refine wpAnyH_ready (rs := [7]) (by kernel_rfl) (by simp) ?_
          refine AllReadyH.cons rfl (fun K hK => ?_) AllReadyH.nil
          go_simp
          refine K1.out.mono ?_
          rintro e v3 ⟨rfl, rfl⟩
          refine hK.out _ _ hS1 (fun _ => ?_)
          clear hK K1
          try simp only [Act.put, List.setIfInBounds_toArray, List.set_cons_zero, List.set_cons_succ]
          refine wpAnyH_ready (rs := [14]) (by kernel_rfl) (by simp) ?_
          refine AllReadyH.cons rfl (fun K hK => ?_) AllReadyH.nil
          go_simp
          refine K2.out.mono ?_
          rintro e v3 ⟨rfl, rfl⟩
          refine hK.out _ _ hS1 (fun _ => ?_)
          clear hK K2
          try simp only [Act.put, List.setIfInBounds_toArray, List.set_cons_zero, List.set_cons_succ]
          refine wpAnyH_take (i := 15) (v := (.agg #[.int .i64 zx, .int .i64 zy])) rfl (by kernel_rfl) (by kernel_rfl) (by kernel_rfl) (fun _ _ _ h => absurd h.1 (by simp)) (Or.inl ⟨by kernel_rfl, ?_⟩) hS1 ?_
          · intro W' hSw
            obtain ⟨s0, s1⟩ := (hSd.out _).1 hSw
            go_simp
          try change wpAnyH _ _ _ _ _ _ _ (Act.put _ (some 52) _) _
          try simp only [Act.put, List.setIfInBounds_toArray, List.set_cons_zero, List.set_cons_succ]
          refine wpAnyH_ready (rs := [16]) (by kernel_rfl) (by simp) ?_
          refine AllReadyH.cons rfl (fun K hK => ?_) AllReadyH.nil
          go_simp
          have hS2 := keepS.out (wz.alloc (.cells #[.int .i64 zx, .int .i64 zy] 73)) (hwd.out.trans ((((Fr.refl [] wz).alloc _).all).mono hwd.out.size))
          refine hK.out _ _ hS2 (fun _ => ?_)
          clear hK
          try simp only [Act.put, List.setIfInBounds_toArray, List.set_cons_zero, List.set_cons_succ]
          refine wpAnyH_ready (rs := [17]) (by kernel_rfl) (by simp) ?_
          refine AllReadyH.cons rfl (fun K hK => ?_) AllReadyH.nil
          refine step_row (us := [.int .i64 zx, .int .i64 zy]) (by rfl) (.tmp 37) (.tmp 53) _ (by rfl) (HES.out.alloc _) Tryz.underlying72 Hj.out Hy0.out Hy1.out Hy2.out rfl (by rfl) (by rfl) rfl (two_cells _ _ _ _) (by simp [Value.oneCell']) (by omega) (by omega) ?_
          intro A4 cap4 w4 hs4 f4 hb4
          have h04 := ((Fr.refl [] wz).alloc (.cells #[.int .i64 zx, .int .i64 zy] 73)).trans (G := blk B) f4 (fun g hg => (by cases hg)) (fun g hg => Or.inl hg)
          have hS4 := keepS.out w4 (hwd.out.trans (h04.below hwl.out hwd.out.size))
          have hE4 : Hid (EN 73 wr w4 (numE ns l) (q + 1) A4 cap4) := Lib.hid (hE.out.push hqe hwf.out (by rw [hat.out]; exact hs4) f4 hb4)
          refine hK.out _ _ hS4 (fun _ => ?_)
          clear hK
          try simp only [Act.put, List.setIfInBounds_toArray, List.set_cons_zero, List.set_cons_succ]
          refine wpAnyH_ready (rs := [18]) (by kernel_rfl) (by simp) ?_
          refine AllReadyH.cons rfl (fun K hK => ?_) AllReadyH.nil
          go_simp
          refine hK.out _ _ hS4 (fun _ => ?_)
          clear hK hS4 h04 hs4 f4 hb4 hE hS1 hS2 keepS hSd HES hwf hwl hwd
          try simp only [Act.put, List.setIfInBounds_toArray, List.set_cons_zero, List.set_cons_succ]
          refine wpAnyH_done (by kernel_rfl) ?_ _
          refine ⟨rfl, ?_⟩
          go_wp2_with fail
          go_roundw
          case rel => exact ⟨q + 1, A4, cap4, by omega, by go_num, rfl, hE4⟩
          case measure => simp [intOf]; omega
        · obtain rfl : q = k := by omega
          have e1 : decide ((q : Int) < (q : Int)) = false := decide_eq_false (by omega)
          have hgr : Hid (gr l = gof (m : Int) (numE ns l)) := Lib.hid (by unfold gr; rw [hns, hm.out])
          have hEd : Eds wy B (numE ns l) := by
            have := hE.out
            rw [← hel.out] at this
            exact this.eds
          have hm2 : m ≤ 100 := by
            have := hm.out
            omega
          have HP := Lib.hid (rparts_any (m : Int) (by omega) B c (numE ns l) (by rw [hel.out]; omega) wy hEd)
          rw [hel.out, ← hgr.out] at HP
          unfold PaPost at HP
          have HW3 : Hid (Below wr.heap.size wr wy) := Lib.hid hE.out.on
          clear hE hEd
          go_wp2_with fail
          refine HP.out.mono ?_
          rintro e w3 ⟨A3, c3, rows, rfl, hL, hsA, hrw, hb3⟩
          have hb2 : Below wr.heap.size wr w3 := HW3.out.trans (hb3.mono HW3.out.size)
          have HW4 : Hid (Below w.heap.size w w3) := Lib.hid (hW2.out.trans (hb2.mono hW2.out.size))
          have HB : Hid (∀ W, Below w3.heap.size w3 W → Rd W A1 (ns.map encStr)) := Lib.hid (fun W hb => (HRd.out _ hb2).below hb)
          have HRA : Hid (∀ W, Below w3.heap.size w3 W → Rd W A3 (rows.map tj.hdr)) := Lib.hid (fun W hb => hsA.rd.below hb)
          have HRR : Hid (∀ r ∈ rows, ∀ W, Below w3.heap.size w3 W → Rd W r.A (natI r.xs)) := Lib.hid (fun r hr W hb => (hrw r hr).below hb)
          have hlt : Hid (∀ r ∈ rows, ∀ v ∈ r.xs, v < m) := Lib.hid (fun r hr v hv => by
            have := hplt.out r.xs (by rw [← hL]; exact List.mem_map.2 ⟨r, hr, rfl⟩) v hv
            rwa [hm.out] at this)
          have hOL2 : Hid (OL = (rows.map (·.xs)).map (textsP ns)) := Lib.hid (by rw [hL]; exact hOL.out)
          have hQ0 := Lib.hid (QO.new w3)
          have hL2 : Hid (rows.map (·.xs) = (gr l).parts) := Lib.hid hL
          clear HP hL hsA hrw hb3 hb2 hplt hOL HW3 hW2 hgr HRd
          obtain ⟨np, hNP⟩ : ∃ np, Hid (np = rows.length) := ⟨_, Lib.hid rfl⟩
          rw [← hNP.out]
          have hnp : np ≤ m := by
            have := hps.out.1
            rw [← hL2.out, List.length_map] at this
            have h2 := hNP.out
            have h3 := hm.out
            omega
          have hpl : Hid (∀ r ∈ rows, r.xs.length ≤ m) := Lib.hid (fun r hr => by
            have := hps.out.2 r.xs (by rw [← hL2.out]; exact List.mem_map.2 ⟨r, hr, rfl⟩)
            rwa [hm.out] at this)
          clear hps hL2
          go_wp2_with fail
          go_loopw [9, 7] (fun i s wr => ∃ (p : Nat) (Ao : Option Addr) (co : Nat), p ≤ np ∧ i = .int .i64 p ∧ s = .slice Ao p co ∧ Hid (∃ tr : List TRow, QO w3 wr Ao co tr ∧ tr.length = p ∧ tr.map (·.xs) = ((rows.map (·.xs)).take p).map (textsP ns))) (fun i _ _ => np - (intOf i).toNat)
          case atStart => exact ⟨0, none, 0, by omega, rfl, rfl, Lib.hid ⟨[], hQ0.out, rfl, by simp⟩⟩
          case round =>
            obtain ⟨pp, Ao, co, hpp, rfl, rfl, hQ⟩ := hrel
            clear hQ0
            rename World => wv
            by_cases hpn : pp < np
            · have e2 : decide ((pp : Int) < (np : Int)) = true := decide_eq_true (by omega)
              have hpI : (pp : Int) < (np : Int) := by omega
              have hpr : pp < rows.length := by rw [← hNP.out]; exact hpn
              have hon : Hid (Below w3.heap.size w3 wv) := Lib.hid (by obtain ⟨_, h, _⟩ := hQ.out; exact h.on)
              obtain ⟨g3, o3, hAe, hg3, _⟩ := row_at (HRA.out wv hon.out) hpr
              have HCR : Hid (∀ W, Below w3.heap.size w3 W → W.cell? ⟨g3, o3 + pp, none⟩ = some (tj.hdr rows[pp])) := Lib.hid (fun W hb => by
                obtain ⟨g', o', e', _, c'⟩ := row_at (HRA.out W hb) hpr
                rw [hAe] at e'
                injection e' with e'
                injection e' with e1' e2'
                subst e1'
                subst e2'
                exact c')
              subst hAe
              have hrr := Lib.hid (HRR.out _ (List.getElem_mem hpr))
              have hrl := hpl.out _ (List.getElem_mem hpr)
              have hrt := Lib.hid (hlt.out _ (List.getElem_mem hpr))
              have htk := Lib.hid (List.take_succ_eq_append_getElem (l := rows.map (·.xs)) (i := pp) (by rw [List.length_map]; exact hpr))
              rw [List.getElem_map] at htk
              generalize rows[pp] = r at *
              obtain ⟨rA, rc, rx⟩ := r
              unfold tj.hdr at HCR
              dsimp only at HCR hrr hrl hrt htk
              obtain ⟨rn, hRN⟩ : ∃ rn, Hid (rn = rx.length) := ⟨_, Lib.hid rfl⟩
              rw [← hRN.out] at HCR hrl
              have hT0 : Hid (TL wv wv none 0 (textsP ns (rx.take 0))) := Lib.hid (TL.nil (Below.refl _ _))
              go_wp2_with fail
              go_loopw [11, 10] (fun i s wr => ∃ (q2 : Nat) (Ap : Option Addr) (cp : Nat), q2 ≤ rn ∧ i = .int .i64 q2 ∧ s = .slice Ap q2 cp ∧ Hid (TL wv wr Ap cp (textsP ns (rx.take q2)))) (fun i _ _ => rn - (intOf i).toNat)
              case atStart => exact ⟨0, none, 0, by omega, rfl, rfl, hT0⟩
              case round =>
                obtain ⟨q2, Ap, cp, hq2, rfl, rfl, hT⟩ := hrel
                clear hT0
                rename World => wu
                have hbu : Below w3.heap.size w3 wu := hon.out.trans (hT.out.fr.mono hon.out.size)
                have cr := HCR.out wu hbu
                by_cases hqr : q2 < rn
                · have e3 : decide ((q2 : Int) < (rn : Int)) = true := decide_eq_true (by omega)
                  have hqx : q2 < rx.length := by rw [← hRN.out]; exact hqr
                  obtain ⟨g4, o4, rfl, hg4, cv⟩ := nat_at (hrr.out wu hbu) hqx
                  have hv := hrt.out _ (List.getElem_mem hqx)
                  have hRn := HB.out wu hbu
                  have hvl : rx[q2] < ns.length := by rw [hm.out]; exact hv
                  obtain ⟨g5, o5, rfl, hg5, cn⟩ := rd_at hRn hvl
                  have htx : Hid (textsP ns (rx.take (q2 + 1)) = textsP ns (rx.take q2) ++ [ns[rx[q2]]]) := Lib.hid (by rw [List.take_succ_eq_append_getElem hqx, textsP_snoc, List.getD_eq_getElem?_getD, List.getElem?_eq_getElem hvl]; rfl)
                  have hlen : Hid (q2 = (List.map encStr (textsP ns (rx.take q2))).length) := Lib.hid (by rw [List.length_map, textsP_len, List.length_take]; omega)
                  clear hRn
                  generalize hns5 : ns[rx[q2]] = tx at *
                  clear hns5 hvl
                  generalize rx[q2] = vv at *
                  unfold encStr at cn
                  go_wp2_with (at_builtin
                               refine wpList_push (n := q2) (u := encStr tx) rfl (.tmp 74) (.tmp 85) _ rfl (hT.out.seg.alloc _) hlen.out Tryz.underlying26 Hi.out Hz0.out Hz1.out Hz2.out rfl rfl rfl (new_cell _ _ _) rfl (by omega) (by omega) ?_
                               intro A4 cap4 w4 hs4 f4 hb4)
                  have hT4 : Hid (TL wv w4 A4 cap4 (textsP ns (rx.take (q2 + 1)))) := Lib.hid (by rw [htx.out]; exact hT.out.push hs4 f4 hb4)
                  clear hs4 f4 hb4 hT cv cn cr
                  go_roundw
                  case rel => exact ⟨q2 + 1, A4, cap4, by omega, by go_num, rfl, hT4⟩
                  case measure => simp [intOf]; omega
                · obtain rfl : q2 = rn := by omega
                  have e3 : decide ((q2 : Int) < (q2 : Int)) = false := decide_eq_false (by omega)
                  obtain ⟨tr, hQ1, hQ2, hQ3⟩ := hQ.out
                  have hQu := Lib.hid (hQ1.below hT.out.fr)
                  have hrx : rx.take q2 = rx := List.take_of_length_le (by rw [hRN.out]; exact Nat.le_refl _)
                  rw [hrx] at hT
                  have hlx : Hid ((textsP ns rx).length = q2) := Lib.hid (by rw [textsP_len, hRN.out])
                  have hlen : Hid (pp = (List.map hdT tr).length) := Lib.hid (by rw [List.length_map, hQ2])
                  have hQ2 := Lib.hid hQ2
                  have hQ3 := Lib.hid hQ3
                  clear hQ hQ1 hrx
                  go_wp2_with (at_builtin
                               refine wpList_push (n := pp) (u := .slice Ap q2 cp) rfl (.tmp 87) (.tmp 89) _ rfl (hQu.out.so.alloc _) hlen.out Tryz.underlying32 Hk.out Hx0.out Hx1.out Hx2.out rfl rfl rfl (new_cell _ _ _) rfl (by omega) (by omega) ?_
                               intro A5 cap5 w5 hs5 f5 hb5)
                  have hQ4 : Hid (∃ tr : List TRow, QO w3 w5 A5 cap5 tr ∧ tr.length = pp + 1 ∧ tr.map (·.xs) = ((rows.map (·.xs)).take (pp + 1)).map (textsP ns)) := Lib.hid ⟨tr ++ [⟨Ap, cp, textsP ns rx⟩], hQu.out.close (r := ⟨Ap, cp, textsP ns rx⟩) hT.out.seg (by unfold hdT; dsimp only; rw [hlx.out]; exact hs5) f5 hb5, by rw [List.length_append, hQ2.out]; rfl, by rw [htk.out, List.map_append, List.map_append, hQ3.out]; rfl⟩
                  clear hs5 f5 hb5 hQu hT cr
                  go_roundw
                  case rel => exact ⟨pp + 1, A5, cap5, by omega, by go_num, rfl, hQ4⟩
                  case measure => simp [intOf]; omega
            · obtain rfl : pp = np := by omega
              have e2 : decide ((pp : Int) < (pp : Int)) = false := decide_eq_false (by omega)
              have fin : Hid (∃ A c rows, Ending.returned (.slice Ao pp co) = .returned (.slice A (List.length rows) c) ∧ List.map (·.xs) rows = OL ∧ Rd wv A (List.map hdT rows) ∧ (∀ r ∈ rows, Rd wv r.A (r.xs.map encStr) ∧ r.xs.length ≤ r.cap) ∧ Below w.heap.size w wv) := Lib.hid (by
                obtain ⟨tr, h1, h2, h3⟩ := hQ.out
                refine ⟨Ao, co, tr, by rw [h2], ?_, h1.so.rd, fun r hr => ⟨(h1.rw_ r hr).rd, by have := (h1.rw_ r hr).1; rwa [List.length_map] at this⟩, HW4.out.trans (h1.on.mono HW4.out.size)⟩
                rw [h3, hOL2.out, List.take_of_length_le (by rw [List.length_map, hNP.out]; exact Nat.le_refl _)])
              clear hQ
              go_wp2_with fail
              go_ret
              exact fin.out
end Go.Proofs.YtohdcmmkbblhkaaGreatDoor.qy

/-
  query: the law of what is reached, given works().
-/
set_option linter.all false
namespace Go.Proofs.YtohdcmmkbblhkaaGreatDoor.qy
open Go.RowKit Go.Sort Go.Shelf Go.Proofs.YtohdcmmkbblhkaaGreatDoor.mem Go.Proofs.YtohdcmmkbblhkaaGreatDoor.wd
open Go.Proofs.YtohdcmmkbblhkaaGreatDoor.inn (rsS mem_rsS)
open Go.Proofs.YtohdcmmkbblhkaaGreatDoor.ins (WF)

theorem orderL_row (l : List Ed) : ∀ p ∈ orderL l, p.length ≤ 2 * l.length := fun p hp => by
  rw [orderL_eq] at hp
  obtain ⟨q, hq, rfl⟩ := List.mem_map.1 hp
  rw [textsP_len]
  exact Nat.le_trans ((parts_small l).2 q hq) (names_len l)
theorem orderL_len (l : List Ed) : (orderL l).length ≤ 2 * l.length := by
  rw [orderL_eq, List.length_map]
  exact Nat.le_trans (parts_small l).1 (names_len l)

set_option maxHeartbeats 8000000 in
set_option maxRecDepth 100000 in
theorem law_reach_of (w : World) (A B : Option Addr) (cap c : Nat) (l : List Ed) (fr : List T) (h : EdM w A l) (hf : Rd w B (fr.map encStr)) (hm : l.length ≤ maxLen) (hfm : fr.length ≤ maxLen)
    (hwk : ∀ W, Below w.heap.size w W → Calls Tryz.prog 15 #[] W (BP true W)) :
    Calls Tryz.prog 4 #[.slice A l.length cap, .slice B fr.length c] w (BP true w) := by
  have HG := Lib.hid (greatE_any w A cap l h hm)
  have HGT := Lib.hid (greatT_any w B c fr hf hfm)
  have HE := Lib.hid (fun W (hb : Below w.heap.size w W) => h.below hb)
  have HF := Lib.hid (fun W (hb : Below w.heap.size w W) => hf.below hb)
  have HW := Lib.hid hwk
  clear h hf hwk hm hfm
  unfold GEPost at HG
  unfold GTPost at HGT
  unfold BP at HW ⊢
  obtain ⟨n, hN⟩ : ∃ n, Hid (n = l.length) := ⟨_, Lib.hid rfl⟩
  obtain ⟨m, hM⟩ : ∃ m, Hid (m = fr.length) := ⟨_, Lib.hid rfl⟩
  rw [← hN.out] at HG ⊢
  rw [← hM.out] at HGT ⊢
  go_enter Tryz.func4, Tryz.ntmps4
  go_wp2_with fail
  refine HG.out.mono ?_
  rintro e w1 ⟨r, rfl, rfl, hr⟩
  rcases r with _ | _
  · obtain ⟨hl1, hl2⟩ := hr rfl
    clear hr HG
    go_wp2_with fail
    refine HGT.out.mono ?_
    rintro e w1 ⟨r, rfl, rfl, hr⟩
    rcases r with _ | _
    · obtain ⟨hf1, hf2⟩ := hr rfl
      clear hr HGT
      have hWE : ∀ e ∈ l, WF e.1 ∧ WF e.2 := fun e he => by have := hl2 e he; unfold WF maxLen; omega
      have hWF : ∀ x ∈ fr, WF x := fun x hx => by have := hf2 x hx; unfold WF maxLen; omega
      have KE := Lib.hid (fun W (hb : Below w.heap.size w W) => edges_any W A cap l (HE.out W hb) (by have := hN.out; omega))
      have KO := Lib.hid (fun W X d (hx : EdM W X l) => order_any W X d l hx (by have := hN.out; omega))
      have KRO := Lib.hid (fun W (hb : Below w.heap.size w W) => rorder_any W A cap l (HE.out W hb) (by have := hN.out; omega))
      have KR := Lib.hid (fun W X d (hb : Below w.heap.size w W) (hx : EdM W X l) => reach_any W X B d c l fr hx (HF.out W hb) (by have := hN.out; omega) (by have := hM.out; omega) hWE hWF)
      have KRR := Lib.hid (fun W (hb : Below w.heap.size w W) => rreach_any W A B cap c l fr (HE.out W hb) (HF.out W hb) (by have := hN.out; omega) (by have := hM.out; omega))
      have hor := Lib.hid (orderL_row l)
      have hol := Lib.hid (orderL_len l)
      rw [← hN.out] at KE KO KRO KR KRR hor hol
      rw [← hM.out] at KR KRR
      unfold EdPost at KE
      unfold OrPost at KO KRO
      unfold RpPost at KR
      unfold RePost at KRR
      generalize orderL l = OL at *
      clear hWE hWF hl2 hf2 HE HF
      have B0 := Lib.hid (Below.refl w.heap.size w)
      go_wp2_with fail
      refine (KE.out _ B0.out).mono ?_
      rintro e w2 ⟨X2, d2, rfl, e2, b2⟩
      have B2 := Lib.hid (B0.out.trans (b2.mono B0.out.size))
      have E2 := Lib.hid e2
      clear e2 b2 B0
      go_wp2_with fail
      refine (KO.out _ X2 d2 E2.out).mono ?_
      rintro e w3 ⟨A3, c3, r3, rfl, m3, h3, q3, b3⟩
      have B3 := Lib.hid (B2.out.trans (b3.mono B2.out.size))
      have R3 : Hid (RT w3 A3 r3) := Lib.hid ⟨h3, fun r hr => (q3 r hr).1⟩
      have M3 := Lib.hid m3
      clear h3 q3 m3 b3 B2 E2
      go_wp2_with fail
      refine (KRO.out _ B3.out).mono ?_
      rintro e w4 ⟨A4, c4, r4, rfl, m4, h4, q4, b4⟩
      have B4 := Lib.hid (B3.out.trans (b4.mono B3.out.size))
      have R4 : Hid (RT w4 A4 r4) := Lib.hid ⟨h4, fun r hr => (q4 r hr).1⟩
      have R34 := Lib.hid (R3.out.below b4)
      have M4 := Lib.hid m4
      have hle : r4.length = r3.length := by
        have e1 := congrArg List.length m4
        have e2 := congrArg List.length M3.out
        rw [List.length_map] at e1 e2
        omega
      clear h4 q4 m4 b4 B3 R3 KO KRO
      rw [hle]
      obtain ⟨np, hNP⟩ : ∃ np, Hid (np = r3.length) := ⟨_, Lib.hid rfl⟩
      have hnp : np ≤ 2 * n := by
        have e1 := congrArg List.length M3.out
        rw [List.length_map] at e1
        have := hol.out
        have := hNP.out
        omega
      rw [← hNP.out] at hle ⊢
      go_wp2_with fail
      refine (KE.out _ B4.out).mono ?_
      rintro e w5 ⟨X5, d5, rfl, e5, b5⟩
      have B5 := Lib.hid (B4.out.trans (b5.mono B4.out.size))
      have E5 := Lib.hid e5
      have R35 := Lib.hid (R34.out.below b5)
      have R45 := Lib.hid (R4.out.below b5)
      clear e5 b5 B4 R34 R4 KE
      go_wp2_with fail
      refine (KR.out _ X5 d5 B5.out E5.out).mono ?_
      rintro e w6 ⟨A6, c6, r6, rfl, h6, b6, p6, s6⟩
      have B6 := Lib.hid (B5.out.trans (b6.mono B5.out.size))
      have R36 := Lib.hid (R35.out.below b6)
      have R46 := Lib.hid (R45.out.below b6)
      have H6 := Lib.hid h6
      clear h6 b6 B5 R35 R45 KR E5
      go_wp2_with fail
      refine (KRR.out _ B6.out).mono ?_
      rintro e w7 ⟨A7, c7, r7, rfl, h7, b7, p7, s7, l7⟩
      have B7 := Lib.hid (B6.out.trans (b7.mono B6.out.size))
      have R37 := Lib.hid (R36.out.below b7)
      have R47 := Lib.hid (R46.out.below b7)
      have H67 := Lib.hid (H6.out.below b7)
      have H7 := Lib.hid h7
      obtain rfl : r6 = r7 := s6.eq s7 p6 p7
      have hl7 : r6.length ≤ 1000 := by have h1 := hN.out; have h2 := hM.out; omega
      clear h7 b7 B6 R36 R46 KRR H6 s6 s7 p6 p7 l7
      go_wp2_with (refine (inn.same_any _ _ _ _ _ r6 H67.out H7.out (by omega)).mono ?_; rintro e w8 ⟨rfl, b8⟩; have B8 := Lib.hid (B7.out.trans (b8.mono B7.out.size)); have R38 := Lib.hid (R37.out.below b8); have R48 := Lib.hid (R47.out.below b8); clear b8 B7 R37 R47 H67 H7)
      have hX0 := Lib.hid (And.intro R38.out (And.intro R48.out B8.out))
      clear R38 R48 B8
      go_loopw [7] (fun i wr => ∃ p : Nat, p ≤ np ∧ i = .int .i64 p ∧ Hid (RT wr A3 r3 ∧ RT wr A4 r4 ∧ Below w.heap.size w wr)) (fun i _ => np - (intOf i).toNat)
      case atStart => exact ⟨0, by omega, rfl, hX0⟩
      case round =>
        obtain ⟨pp, hpp, rfl, hX⟩ := hrel
        clear hX0
        rename World => wv
        by_cases hpn : pp < np
        · have e1 : decide ((pp : Int) < (np : Int)) = true := decide_eq_true (by omega)
          have hpI : (pp : Int) < (np : Int) := by omega
          have hp3 : pp < r3.length := by rw [← hNP.out]; exact hpn
          have hp4 : pp < r4.length := by rw [hle]; exact hpn
          obtain ⟨g, o, rfl, hg, ca⟩ := trow_at hX.out.1.hd hp3
          obtain ⟨g2, o2, rfl, hg2, cb⟩ := trow_at hX.out.2.1.hd hp4
          have hq3 := Lib.hid (hX.out.1.rw_ _ (List.getElem_mem hp3))
          have hq4 := Lib.hid (hX.out.2.1.rw_ _ (List.getElem_mem hp4))
          have hsm : Hid (r4[pp].xs = r3[pp].xs) := Lib.hid (by
            have e1 : (r3.map (·.xs))[pp]? = (r4.map (·.xs))[pp]? := by rw [M3.out, M4.out]
            rw [List.getElem?_map, List.getElem?_map, List.getElem?_eq_getElem hp3, List.getElem?_eq_getElem hp4] at e1
            simpa using e1.symm)
          have hln : r3[pp].xs.length ≤ 100 := by
            have := hor.out r3[pp].xs (by rw [← M3.out]; exact List.mem_map.2 ⟨_, List.getElem_mem hp3, rfl⟩)
            omega
          generalize r3[pp] = x3 at *
          generalize r4[pp] = x4 at *
          obtain ⟨a3, k3, y3⟩ := x3
          obtain ⟨a4, k4, y4⟩ := x4
          unfold hdT at ca cb
          dsimp only at ca cb hq3 hq4 hsm hln
          obtain rfl := hsm.out
          have KS := Lib.hid (fun W (hb : Below wv.heap.size wv W) => inn.same_any W a3 a4 k3 k4 y4 (hq3.out.below hb) (hq4.out.below hb) (by omega))
          have hcl := Lib.hid (fun (W : World) (hb : Below wv.heap.size wv W) => And.intro ((hb.cell (p := ⟨g, o + pp, none⟩) hg).trans ca) ((hb.cell (p := ⟨g2, o2 + pp, none⟩) hg2).trans cb))
          clear hq3 hq4 ca cb hsm hln
          generalize y4.length = yn at *
          go_upto_region 9 with fail
          obtain ⟨S, hSd⟩ : ∃ S : World → Prop, Hid (∀ W', S W' ↔ (W'.cell? ⟨g, o + pp, none⟩ = some (.slice a3 yn k3) ∧ W'.cell? ⟨g2, o2 + pp, none⟩ = some (.slice a4 yn k4))) := ⟨_, Lib.hid fun _ => Iff.rfl⟩
          have hwd := Lib.hid (((Fr.refl [] wv).drew).all)
          have hS1 : S wv.drew := (hSd.out _).2 (hcl.out _ hwd.out)
          have KS1 := Lib.hid (KS.out _ hwd.out)
          have hX1 : Hid (RT wv.drew (some ⟨g, o, none⟩) r3 ∧ RT wv.drew (some ⟨g2, o2, none⟩) r4 ∧ Below w.heap.size w wv.drew) := Lib.hid ⟨hX.out.1.below hwd.out, hX.out.2.1.below hwd.out, hX.out.2.2.trans (hwd.out.mono hX.out.2.2.size)⟩
          refine rng.wp_normal ?_
          refine wp_region_held_drew (S := S) (by kernel_rfl) hS1 (fun _ => ?_)
          have keepS : Hid (∀ W, Below wv.drew.heap.size wv.drew W → S W) := Lib.hid (fun W hb => (hSd.out _).2 (hcl.out _ (hwd.out.trans (hb.mono hwd.out.size))))
          clear hX hwd KS hcl
          generalize wv.drew = wz at *
          refine wpAnyH_take (i := 0) (v := (.slice (some ⟨g, o, none⟩) np c3)) rfl (by kernel_rfl) (by kernel_rfl) (by kernel_rfl) (fun _ _ _ h => absurd h.1 (by simp)) (Or.inl ⟨by kernel_rfl, ?_⟩) hS1 ?_
          · intro W' hSw
            obtain ⟨s0, s1⟩ := (hSd.out _).1 hSw
            go_simp
          try change wpAnyH _ _ _ _ _ _ _ (Act.put _ (some 47) _) _
          try simp only [Act.put, List.setIfInBounds_toArray, List.set_cons_zero, List.set_cons_succ]
          refine wpAnyH_take (i := 1) (v := (.int .i64 (pp : Nat))) rfl (by kernel_rfl) (by kernel_rfl) (by kernel_rfl) (fun _ _ _ h => absurd h.1 (by simp)) (Or.inl ⟨by kernel_rfl, ?_⟩) hS1 ?_
          · intro W' hSw
            obtain ⟨s0, s1⟩ := (hSd.out _).1 hSw
            go_simp
          try change wpAnyH _ _ _ _ _ _ _ (Act.put _ (some 48) _) _
          try simp only [Act.put, List.setIfInBounds_toArray, List.set_cons_zero, List.set_cons_succ]
          refine wpAnyH_take (i := 2) (v := (.pointer (some ⟨g, o + pp, none⟩))) rfl (by kernel_rfl) (by kernel_rfl) (by kernel_rfl) (fun _ _ _ h => absurd h.1 (by simp)) (Or.inl ⟨by kernel_rfl, ?_⟩) hS1 ?_
          · intro W' hSw
            obtain ⟨s0, s1⟩ := (hSd.out _).1 hSw
            go_simp
          try change wpAnyH _ _ _ _ _ _ _ (Act.put _ (some 49) _) _
          try simp only [Act.put, List.setIfInBounds_toArray, List.set_cons_zero, List.set_cons_succ]
          refine wpAnyH_take (i := 3) (v := (.slice a3 yn k3)) rfl (by kernel_rfl) (by kernel_rfl) (by kernel_rfl) (fun _ _ _ h => absurd h.1 (by simp)) (Or.inl ⟨by kernel_rfl, ?_⟩) hS1 ?_
          · intro W' hSw
            obtain ⟨s0, s1⟩ := (hSd.out _).1 hSw
            go_simp
          try change wpAnyH _ _ _ _ _ _ _ (Act.put _ (some 50) _) _
          try simp only [Act.put, List.setIfInBounds_toArray, List.set_cons_zero, List.set_cons_succ]
          refine wpAnyH_take (i := 4) (v := (.slice (some ⟨g2, o2, none⟩) np c4)) rfl (by kernel_rfl) (by kernel_rfl) (by kernel_rfl) (fun _ _ _ h => absurd h.1 (by simp)) (Or.inl ⟨by kernel_rfl, ?_⟩) hS1 ?_
          · intro W' hSw
            obtain ⟨s0, s1⟩ := (hSd.out _).1 hSw
            go_simp
          try change wpAnyH _ _ _ _ _ _ _ (Act.put _ (some 51) _) _
          try simp only [Act.put, List.setIfInBounds_toArray, List.set_cons_zero, List.set_cons_succ]
          refine wpAnyH_take (i := 5) (v := (.int .i64 (pp : Nat))) rfl (by kernel_rfl) (by kernel_rfl) (by kernel_rfl) (fun _ _ _ h => absurd h.1 (by simp)) (Or.inl ⟨by kernel_rfl, ?_⟩) hS1 ?_
          · intro W' hSw
            obtain ⟨s0, s1⟩ := (hSd.out _).1 hSw
            go_simp
          try change wpAnyH _ _ _ _ _ _ _ (Act.put _ (some 52) _) _
          try simp only [Act.put, List.setIfInBounds_toArray, List.set_cons_zero, List.set_cons_succ]
          refine wpAnyH_take (i := 6) (v := (.pointer (some ⟨g2, o2 + pp, none⟩))) rfl (by kernel_rfl) (by kernel_rfl) (by kernel_rfl) (fun _ _ _ h => absurd h.1 (by simp)) (Or.inl ⟨by kernel_rfl, ?_⟩) hS1 ?_
          · intro W' hSw
            obtain ⟨s0, s1⟩ := (hSd.out _).1 hSw
            go_simp
          try change wpAnyH _ _ _ _ _ _ _ (Act.put _ (some 53) _) _
          try simp only [Act.put, List.setIfInBounds_toArray, List.set_cons_zero, List.set_cons_succ]
          refine wpAnyH_take (i := 7) (v := (.slice a4 yn k4)) rfl (by kernel_rfl) (by kernel_rfl) (by kernel_rfl) (fun _ _ _ h => absurd h.1 (by simp)) (Or.inl ⟨by kernel_rfl, ?_⟩) hS1 ?_
          · intro W' hSw
            obtain ⟨s0, s1⟩ := (hSd.out _).1 hSw
            go_simp
          try change wpAnyH _ _ _ _ _ _ _ (Act.put _ (some 54) _) _
          try simp only [Act.put, List.setIfInBounds_toArray, List.set_cons_zero, List.set_cons_succ]
          refine wpAnyH_ready (rs := [8]) (by kernel_rfl) (by simp) ?_
          refine AllReadyH.cons rfl (fun K hK => ?_) AllReadyH.nil
          go_simp
          refine KS1.out.mono ?_
          rintro e v3 ⟨rfl, b3⟩
          have hS3 := keepS.out _ b3
          have hX3 : Hid (RT v3 (some ⟨g, o, none⟩) r3 ∧ RT v3 (some ⟨g2, o2, none⟩) r4 ∧ Below w.heap.size w v3) := Lib.hid ⟨hX1.out.1.below b3, hX1.out.2.1.below b3, hX1.out.2.2.trans (b3.mono hX1.out.2.2.size)⟩
          refine hK.out _ _ hS3 (fun _ => ?_)
          clear hK KS1 hX1 b3 hS1
          try simp only [Act.put, List.setIfInBounds_toArray, List.set_cons_zero, List.set_cons_succ]
          refine wpAnyH_take (i := 9) (v := (.bool false)) rfl (by kernel_rfl) (by kernel_rfl) (by kernel_rfl) (fun _ _ _ h => absurd h.1 (by simp)) (Or.inl ⟨by kernel_rfl, ?_⟩) hS3 ?_
          · intro W' hSw
            obtain ⟨s0, s1⟩ := (hSd.out _).1 hSw
            go_simp
          try change wpAnyH _ _ _ _ _ _ _ (Act.put _ (some 56) _) _
          try simp only [Act.put, List.setIfInBounds_toArray, List.set_cons_zero, List.set_cons_succ]
          clear hS3 keepS hSd
          refine wpAnyH_done (by kernel_rfl) ?_ _
          refine ⟨rfl, ?_⟩
          go_wp2_with fail
          go_roundw
          case rel => exact ⟨pp + 1, by omega, by go_num, hX3⟩
          case measure => simp [intOf]; omega
        · obtain rfl : pp = np := by omega
          have e1 : decide ((pp : Int) < (pp : Int)) = false := decide_eq_false (by omega)
          have HB := Lib.hid hX.out.2.2
          clear hX
          go_wp2_with (refine (HW.out _ HB.out).mono ?_; rintro e w10 ⟨rfl, b10⟩; have B10 := Lib.hid (HB.out.trans (b10.mono HB.out.size)); clear HW HB b10)
          go_ret
          exact ⟨rfl, B10.out⟩
    · clear hr
      go_wp2_with fail
      go_ret
      exact ⟨rfl, Below.refl _ _⟩
  · clear hr
    go_wp2_with fail
    go_ret
    exact ⟨rfl, Below.refl _ _⟩
end Go.Proofs.YtohdcmmkbblhkaaGreatDoor.qy
