/-
  query: who is called stands ahead: the law.
-/
import Derived.Test.YtohdcmmkbblhkaaGreatDoorQuJ
import Derived.Test.YtohdcmmkbblhkaaGreatDoorLQuA
set_option linter.all false
namespace Go.Proofs.YtohdcmmkbblhkaaGreatDoor.qy
open Go.RowKit Go.ChangeShapes Go.WideShapes Go.Sort Go.Shelf Go.Proofs.YtohdcmmkbblhkaaGreatDoor.mem Go.Proofs.YtohdcmmkbblhkaaGreatDoor.wd
open Go.Proofs.YtohdcmmkbblhkaaGreatDoor.inn (rsS mem_rsS)
open Go.Proofs.YtohdcmmkbblhkaaGreatDoor.ins (WF)

set_option maxRecDepth 100000 in
theorem slice1 (W : World) (g off n cap i : Nat) (hi : i + 1 ≤ cap) : (Instr.slice 26 (.slice (some ⟨g, off, none⟩) n cap) (some (.int .i64 (i : Int))) (some (.int .i64 ((i : Int) + 1))) none).run Tryz.prog W = .ok (.slice (some ⟨g, off + i, none⟩) 1 (cap - i)) W := by
  have hs : (sizeOf 9).run Tryz.prog W = .ok 1 W := by kernel_rfl
  have he : Tryz.prog.elem 26 = 9 := by kernel_rfl
  rw [run_slice_lh W 26 (some ⟨g, off, none⟩) n cap Tryz.underlying26 .i64 .i64 (i : Int) ((i : Int) + 1) (by omega) (by omega) (by omega), he, hs, Result.andThen_ok]
  unfold sliced
  rw [show ((i : Int) + 1).toNat = i + 1 by omega, Int.toNat_natCast, if_neg (by omega)]
  simp [Addr.add]

theorem rd_one {w : World} {g off : Nat} {l : List T} (h : Rd w (some ⟨g, off, none⟩) (l.map encStr)) {i : Nat} (hi : i < l.length) : Rd w (some ⟨g, off + i, none⟩) ([l[i]].map encStr) := fun _ => by
  obtain ⟨g', o', e, hl, hc⟩ := rd_at h hi
  cases e
  refine ⟨g, off + i, rfl, hl, fun j hj => ?_⟩
  have : j = 0 := by simp at hj; omega
  subst this
  rw [Nat.add_zero, hc]
  rfl

/-- one list of texts in a list of its own -/
theorem rt_one (w : World) (A : Option Addr) (c : Nat) (l : List T) (h : Rd w A (l.map encStr)) (n : Nat) (hn : n = l.length) : RT (w.alloc (.cells #[.slice A n c] 26)) (some ⟨w.heap.size, 0, none⟩) [⟨A, c, l⟩] := by
  subst hn
  refine ⟨fun _ => ⟨w.heap.size, 0, rfl, by simp, fun j hj => ?_⟩, fun r hr => ?_⟩
  · have : j = 0 := by simp at hj; omega
    subst this
    exact (Box.new w _ _).cell 0
  · rw [List.mem_singleton] at hr
    subst hr
    exact h.below ((Fr.refl [] w).alloc _).all

/-- what a name's part is, wherever the parts lie -/
theorem place_of (W : World) (A : Option Addr) (c : Nat) (rows : List TRow) (L : List (List T)) (hL : rows.map (·.xs) = L) (x : T) (i : Int) (hi : placeV L x = i) (h : RT W A rows) (hn : rows.length ≤ 1000) (hr : ∀ r ∈ rows, r.xs.length ≤ 1000) (n : Nat) (hnn : n = rows.length) :
    Calls Tryz.prog 24 #[.slice A n c, encStr x] W fun e w' => e = .returned (.int .i64 i) ∧ w' = W := by
  subst hnn
  refine (place_any W A c rows x h hn hr).mono ?_
  rintro e w' ⟨rfl, rfl⟩
  rw [hL, hi]
  exact ⟨rfl, rfl⟩

set_option maxHeartbeats 8000000 in
set_option maxRecDepth 100000 in
theorem law_order_of (w : World) (A : Option Addr) (cap : Nat) (l : List Ed) (h : EdM w A l) (hm : l.length ≤ maxLen)
    (hwk : ∀ W, Below w.heap.size w W → Calls Tryz.prog 15 #[] W (BP true W)) :
    Calls Tryz.prog 6 #[.slice A l.length cap] w (BP true w) := by
  have HE := Lib.hid (fun W (hb : Below w.heap.size w W) => h.below hb)
  have HG := Lib.hid (fun W (hb : Below w.heap.size w W) => greatE_any W A cap l (h.below hb) hm)
  have HW := Lib.hid hwk
  clear h hwk hm
  unfold GEPost at HG
  unfold BP at HW ⊢
  obtain ⟨n, hN⟩ : ∃ n, Hid (n = l.length) := ⟨_, Lib.hid rfl⟩
  rw [← hN.out] at HG ⊢
  go_enter Tryz.func6, Tryz.ntmps6
  go_wp2_with fail
  refine (HW.out _ (Below.refl _ _)).mono ?_
  rintro e w1 ⟨rfl, b1⟩
  have B1 := Lib.hid b1
  clear b1 HW
  go_wp2_with fail
  refine (HG.out _ B1.out).mono ?_
  rintro e w2 ⟨r, rfl, rfl, hr⟩
  rcases r with _ | _
  rotate_left
  · clear hr HG
    go_wp2_with fail
    go_ret
    exact ⟨rfl, B1.out⟩
  · obtain ⟨hl1, hl2⟩ := hr rfl
    have hWE : ∀ e ∈ l, WF e.1 ∧ WF e.2 := fun e he => by have := hl2 e he; unfold WF maxLen; omega
    have hWO := Lib.hid (fun p (hp : p ∈ orderL l) x (hx : x ∈ p) => order_big hl2 hp x hx)
    have KE := Lib.hid (fun W (hb : Below w.heap.size w W) => edges_any W A cap l (HE.out W hb) (by have := hN.out; omega))
    have KO := Lib.hid (fun W X d (hx : EdM W X l) => order_any W X d l hx (by have := hN.out; omega))
    have KR := Lib.hid (fun W X d B c (x : T) (hxw : WF x) (hx : EdM W X l) (hf : Rd W B ([x].map encStr)) => reach_any W X B d c l [x] hx hf (by have := hN.out; omega) (show (1 : Nat) ≤ 1000 by decide) hWE (fun y hy => by rw [List.mem_singleton] at hy; rw [hy]; exact hxw))
    have hor := Lib.hid (orderL_row2 l)
    have hol := Lib.hid (orderL_len2 l)
    have hah := Lib.hid (fun e (he : e ∈ l) => order_ahead he)
    have hre := Lib.hid (fun p (hp : p ∈ orderL l) a b (ha : a ∈ p) (hb : b ∈ p) (R : List T) (hR : RS l [a] R) => order_reach hp ha hb hR)
    rw [← hN.out] at KE KO KR hor hol
    unfold EdPost at KE
    unfold OrPost at KO
    unfold RpPost at KR
    generalize orderL l = OL at *
    clear hWE hl2 hr HG
    go_wp2_with fail
    refine (KE.out _ B1.out).mono ?_
    rintro e w2 ⟨X2, d2, rfl, e2, b2⟩
    have B2 := Lib.hid (B1.out.trans (b2.mono B1.out.size))
    have E2 := Lib.hid e2
    clear e2 b2 B1
    go_wp2_with fail
    refine (KO.out _ X2 d2 E2.out).mono ?_
    rintro e w3 ⟨A3, c3, r3, rfl, m3, h3, q3, b3⟩
    have B3 := Lib.hid (B2.out.trans (b3.mono B2.out.size))
    have R3 : Hid (RT w3 A3 r3) := Lib.hid ⟨h3, fun r hr => (q3 r hr).1⟩
    have C3 : Hid (∀ r ∈ r3, r.xs.length ≤ r.cap) := Lib.hid (fun r hr => (q3 r hr).2)
    have M3 := Lib.hid m3
    have L3 : Hid (∀ r ∈ r3, r.xs.length ≤ 2 * n) := Lib.hid (fun r hr => hor.out r.xs (by rw [← m3]; exact List.mem_map.2 ⟨r, hr, rfl⟩))
    have hp3 : r3.length ≤ 2 * n := by
      have e1 := congrArg List.length m3
      rw [List.length_map] at e1
      have := hol.out
      omega
    clear h3 q3 m3 b3 B2 E2 KO hor hol
    obtain ⟨np, hNP⟩ : ∃ np, Hid (np = r3.length) := ⟨_, Lib.hid rfl⟩
    rw [← hNP.out] at hp3 ⊢
    have KP : Hid (∀ W, RT W A3 r3 → ∀ x i, placeV OL x = i → Calls Tryz.prog 24 #[.slice A3 np c3, encStr x] W fun e w' => e = .returned (.int .i64 i) ∧ w' = W) :=
      Lib.hid (fun W hW x i hi => place_of W A3 c3 r3 OL M3.out x i hi hW (by have := hNP.out; omega) (fun r hr => by have := L3.out r hr; omega) np hNP.out)
    unfold encStr at KP
    have hX0 := Lib.hid (And.intro R3.out B3.out)
    clear R3 B3
    go_wp2_with fail
    go_loopw [4, 5, 6] (fun i _ _ wr => ∃ p : Nat, p ≤ n ∧ i = .int .i64 p ∧ Hid (RT wr A3 r3 ∧ Below w.heap.size w wr)) (fun i _ _ _ => n - (intOf i).toNat)
    case atStart => exact ⟨0, by omega, rfl, hX0⟩
    case round =>
      obtain ⟨pp, hpp, rfl, hX⟩ := hrel
      clear hX0
      rename World => wv
      by_cases hpn : pp < n
      · have e1 : decide ((pp : Int) < (n : Int)) = true := decide_eq_true (by omega)
        have hpI : (pp : Int) < (n : Int) := by omega
        have hpl : pp < l.length := by rw [← hN.out]; exact hpn
        obtain ⟨g, o, rfl, hg, ca, cb⟩ := ed_at (HE.out wv hX.out.2) hpl
        obtain ⟨a, b, ea, eb, hab, _⟩ := hah.out _ (List.getElem_mem hpl)
        have KA := Lib.hid (fun k => KP.out (wv.drewN k) (hX.out.1.below ((Fr.refl [] wv).drewN k).all) l[pp].1 (a : Int) ea)
        have KB := Lib.hid (fun k => KP.out (wv.drewN k) (hX.out.1.below ((Fr.refl [] wv).drewN k).all) l[pp].2 (b : Int) eb)
        have hXd := Lib.hid (fun k => And.intro (hX.out.1.below ((Fr.refl [] wv).drewN k).all) (hX.out.2.trans (((Fr.refl [] wv).drewN k).all.mono hX.out.2.size)))
        clear ea eb hX
        generalize l[pp].1 = x at *
        generalize l[pp].2 = y at *
        unfold encStr at ca cb
        have da : decide ((a : Int) < 0) = false := decide_eq_false (by omega)
        have db : decide ((b : Int) < 0) = false := decide_eq_false (by omega)
        have dab : decide ((a : Int) < (b : Int)) = false := decide_eq_false (by omega)
        obtain ⟨za, hza⟩ : ∃ z : Int, Hid (z = (a : Int)) := ⟨_, Lib.hid rfl⟩
        obtain ⟨zb, hzb⟩ : ∃ z : Int, Hid (z = (b : Int)) := ⟨_, Lib.hid rfl⟩
        rw [← hza.out] at KA da dab
        rw [← hzb.out] at KB db dab
        clear hza hzb hab
        go_wp2_with fail
        go_quiet ((go_at_call 24; with_reducible first | exact Calls.quiet_of_same (KA.out _) | exact Calls.quiet_of_same (KB.out _)))
        clear ca cb KA KB
        go_wp2_with fail
        go_roundw
        case rel => exact ⟨pp + 1, by omega, by go_num, Lib.hid (hXd.out _)⟩
        case measure => simp [intOf]; omega
      · obtain rfl : pp = n := by omega
        have e1 : decide ((pp : Int) < (pp : Int)) = false := decide_eq_false (by omega)
        go_wp2_with fail
        go_loopw [7, 8, 9, 10] (fun i _ _ _ wr => ∃ p : Nat, p ≤ np ∧ i = .int .i64 p ∧ Hid (RT wr A3 r3 ∧ Below w.heap.size w wr)) (fun i _ _ _ _ => np - (intOf i).toNat)
        case atStart => exact ⟨0, by omega, rfl, hX⟩
        case round =>
          obtain ⟨p2, hp2, rfl, hX2⟩ := hrel
          clear hX
          rename World => wu
          by_cases hpn2 : p2 < np
          · have e2 : decide ((p2 : Int) < (np : Int)) = true := decide_eq_true (by omega)
            have hpI2 : (p2 : Int) < (np : Int) := by omega
            have hpl2 : p2 < r3.length := by rw [← hNP.out]; exact hpn2
            obtain ⟨g, o, rfl, hg, ca⟩ := trow_at hX2.out.1.hd hpl2
            have hq3 := Lib.hid (hX2.out.1.rw_ _ (List.getElem_mem hpl2))
            have hmem : Hid (r3[p2].xs ∈ OL) := Lib.hid (by rw [← M3.out]; exact List.mem_map.2 ⟨_, List.getElem_mem hpl2, rfl⟩)
            have hl3 := L3.out _ (List.getElem_mem hpl2)
            have hc3 := C3.out _ (List.getElem_mem hpl2)
            generalize r3[p2] = x3 at *
            obtain ⟨a3, k3, y3⟩ := x3
            unfold hdT at ca
            dsimp only at ca hq3 hmem hl3 hc3
            obtain ⟨yn, hYN⟩ : ∃ z, Hid (z = y3.length) := ⟨_, Lib.hid rfl⟩
            rw [← hYN.out] at ca hl3 hc3
            have hre2 := Lib.hid (fun a (ha : a ∈ y3) b (hb : b ∈ y3) (R : List T) (hR : RS l [a] R) => hre.out _ hmem.out a b ha hb R hR)
            have hbg := Lib.hid (fun a (ha : a ∈ y3) => hWO.out _ hmem.out a ha)
            have hcl := Lib.hid (fun (W : World) (hb : Below wu.heap.size wu W) => (hb.cell (p := ⟨g, o + p2, none⟩) hg).trans ca)
            have hrd := Lib.hid (fun (W : World) (hb : Below wu.heap.size wu W) => hq3.out.below hb)
            have hB0 := Lib.hid (Below.refl wu.heap.size wu)
            clear hq3 ca hmem
            go_wp2_with fail
            go_loopw [8, 9, 10] (fun i _ _ wr => ∃ q : Nat, q ≤ yn ∧ i = .int .i64 q ∧ Hid (Below wu.heap.size wu wr)) (fun i _ _ _ => yn - (intOf i).toNat)
            case atStart => exact ⟨0, by omega, rfl, hB0⟩
            case round =>
              obtain ⟨q, hq, rfl, hB⟩ := hrel
              clear hB0
              rename World => wt
              have ca := hcl.out wt hB.out
              by_cases hqn : q < yn
              · have e3 : decide ((q : Int) < (yn : Int)) = true := decide_eq_true (by omega)
                have hqI : (q : Int) < (yn : Int) := by omega
                have hql : q < y3.length := by rw [← hYN.out]; exact hqn
                obtain ⟨g3, o3, rfl, hg3, cx⟩ := rd_at (hrd.out wt hB.out) hql
                have hone := Lib.hid (fun W (hb : Below wu.heap.size wu W) => rd_one (hrd.out W hb) hql)
                have hxq := Lib.hid (List.getElem_mem hql)
                have hsl := fun W => slice1 W g3 o3 yn k3 q (by omega)
                have hwr : IntKind.i64.wrap ((q : Int) + 1) = (q : Int) + 1 := by rw [IntWalk.i64_left]; exact IntWalk.wrap64_in _ (by omega)
                generalize y3[q] = xq at *
                have hwx : WF xq := by have := hbg.out xq hxq.out; unfold WF maxLen; omega
                clear cx
                go_upto_region 18 with fail
                obtain ⟨S, hSd⟩ : ∃ S : World → Prop, Hid (∀ W', S W' ↔ W'.cell? ⟨g, o + p2, none⟩ = some (.slice (some ⟨g3, o3, none⟩) yn k3)) := ⟨_, Lib.hid fun _ => Iff.rfl⟩
                have hwd := Lib.hid (((Fr.refl [] wt).drew).all)
                have hBd := Lib.hid (hB.out.trans (hwd.out.mono hB.out.size))
                have hS1 : S wt.drew := (hSd.out _).2 (hcl.out _ hBd.out)
                refine rng.wp_normal ?_
                refine wp_region_held_drew (S := S) (by kernel_rfl) hS1 (fun _ => ?_)
                clear hB hwd ca
                generalize wt.drew = wz at *
                have hwz := Lib.hid (hX2.out.2.trans (hBd.out.mono hX2.out.2.size))
                refine wpAnyH_take (i := 0) (v := (.slice A pp cap)) rfl (by kernel_rfl) (by kernel_rfl) (by kernel_rfl) (fun _ _ _ h => absurd h.1 (by simp)) (Or.inl ⟨by kernel_rfl, ?_⟩) hS1 ?_
                · intro W' hSw
                  obtain s0 := (hSd.out _).1 hSw
                  go_simp
                try change wpAnyH _ _ _ _ _ _ _ (Act.put _ (some 64) _) _
                try simp only [Act.put, List.setIfInBounds_toArray, List.set_cons_zero, List.set_cons_succ]
                refine wpAnyH_take (i := 2) (v := (.slice (some ⟨g, o, none⟩) np c3)) rfl (by kernel_rfl) (by kernel_rfl) (by kernel_rfl) (fun _ _ _ h => absurd h.1 (by simp)) (Or.inl ⟨by kernel_rfl, ?_⟩) hS1 ?_
                · intro W' hSw
                  obtain s0 := (hSd.out _).1 hSw
                  go_simp
                try change wpAnyH _ _ _ _ _ _ _ (Act.put _ (some 66) _) _
                try simp only [Act.put, List.setIfInBounds_toArray, List.set_cons_zero, List.set_cons_succ]
                refine wpAnyH_take (i := 3) (v := (.int .i64 (p2 : Nat))) rfl (by kernel_rfl) (by kernel_rfl) (by kernel_rfl) (fun _ _ _ h => absurd h.1 (by simp)) (Or.inl ⟨by kernel_rfl, ?_⟩) hS1 ?_
                · intro W' hSw
                  obtain s0 := (hSd.out _).1 hSw
                  go_simp
                try change wpAnyH _ _ _ _ _ _ _ (Act.put _ (some 67) _) _
                try simp only [Act.put, List.setIfInBounds_toArray, List.set_cons_zero, List.set_cons_succ]
                refine wpAnyH_take (i := 4) (v := (.pointer (some ⟨g, o + p2, none⟩))) rfl (by kernel_rfl) (by kernel_rfl) (by kernel_rfl) (fun _ _ _ h => absurd h.1 (by simp)) (Or.inl ⟨by kernel_rfl, ?_⟩) hS1 ?_
                · intro W' hSw
                  obtain s0 := (hSd.out _).1 hSw
                  go_simp
                try change wpAnyH _ _ _ _ _ _ _ (Act.put _ (some 68) _) _
                try simp only [Act.put, List.setIfInBounds_toArray, List.set_cons_zero, List.set_cons_succ]
                refine wpAnyH_take (i := 5) (v := (.slice (some ⟨g3, o3, none⟩) yn k3)) rfl (by kernel_rfl) (by kernel_rfl) (by kernel_rfl) (fun _ _ _ h => absurd h.1 (by simp)) (Or.inl ⟨by kernel_rfl, ?_⟩) hS1 ?_
                · intro W' hSw
                  obtain s0 := (hSd.out _).1 hSw
                  go_simp
                try change wpAnyH _ _ _ _ _ _ _ (Act.put _ (some 69) _) _
                try simp only [Act.put, List.setIfInBounds_toArray, List.set_cons_zero, List.set_cons_succ]
                refine wpAnyH_take (i := 6) (v := (.int .i64 (q : Nat))) rfl (by kernel_rfl) (by kernel_rfl) (by kernel_rfl) (fun _ _ _ h => absurd h.1 (by simp)) (Or.inl ⟨by kernel_rfl, ?_⟩) hS1 ?_
                · intro W' hSw
                  obtain s0 := (hSd.out _).1 hSw
                  go_simp
                try change wpAnyH _ _ _ _ _ _ _ (Act.put _ (some 70) _) _
                try simp only [Act.put, List.setIfInBounds_toArray, List.set_cons_zero, List.set_cons_succ]
                refine wpAnyH_take (i := 7) (v := (.int .i64 (q : Nat))) rfl (by kernel_rfl) (by kernel_rfl) (by kernel_rfl) (fun _ _ _ h => absurd h.1 (by simp)) (Or.inl ⟨by kernel_rfl, ?_⟩) hS1 ?_
                · intro W' hSw
                  obtain s0 := (hSd.out _).1 hSw
                  go_simp
                try change wpAnyH _ _ _ _ _ _ _ (Act.put _ (some 71) _) _
                try simp only [Act.put, List.setIfInBounds_toArray, List.set_cons_zero, List.set_cons_succ]
                refine wpAnyH_take (i := 8) (v := (.int .i64 ((q : Int) + 1))) rfl (by kernel_rfl) (by kernel_rfl) (by kernel_rfl) (fun _ _ _ h => absurd h.1 (by simp)) (Or.inl ⟨by kernel_rfl, ?_⟩) hS1 ?_
                · intro W' hSw
                  obtain s0 := (hSd.out _).1 hSw
                  go_simp
                try change wpAnyH _ _ _ _ _ _ _ (Act.put _ (some 72) _) _
                try simp only [Act.put, List.setIfInBounds_toArray, List.set_cons_zero, List.set_cons_succ]
                refine wpAnyH_take (i := 9) (v := (.slice (some ⟨g3, o3 + q, none⟩) 1 (k3 - q))) rfl (by kernel_rfl) (by kernel_rfl) (by kernel_rfl) (fun _ _ _ h => absurd h.1 (by simp)) (Or.inl ⟨by kernel_rfl, ?_⟩) hS1 ?_
                · intro W' hSw
                  obtain s0 := (hSd.out _).1 hSw
                  go_simp
                try change wpAnyH _ _ _ _ _ _ _ (Act.put _ (some 73) _) _
                try simp only [Act.put, List.setIfInBounds_toArray, List.set_cons_zero, List.set_cons_succ]
                refine wpAnyH_ready (rs := [1]) (by kernel_rfl) (by simp) ?_
                refine AllReadyH.cons rfl (fun K hK => ?_) AllReadyH.nil
                go_simp
                refine (KE.out _ hwz.out).mono ?_
                rintro e w5 ⟨X5, d5, rfl, e5, b5⟩
                have hB5 := Lib.hid (hBd.out.trans (b5.mono hBd.out.size))
                have E5 := Lib.hid e5
                have hS5 : S w5 := (hSd.out _).2 (hcl.out _ hB5.out)
                refine hK.out _ _ hS5 (fun _ => ?_)
                clear hK hS1 hBd e5 b5 hwz
                try simp only [Act.put, List.setIfInBounds_toArray, List.set_cons_zero, List.set_cons_succ]
                refine wpAnyH_ready (rs := [10]) (by kernel_rfl) (by simp) ?_
                refine AllReadyH.cons rfl (fun K hK => ?_) AllReadyH.nil
                go_simp
                refine (KR.out _ X5 d5 (some ⟨g3, o3 + q, none⟩) (k3 - q) xq hwx E5.out (hone.out _ hB5.out)).mono ?_
                rintro e w6 ⟨A6, c6, r6, rfl, h6, b6, p6, s6⟩
                have hB6 := Lib.hid (hB5.out.trans (b6.mono hB5.out.size))
                have H6 := Lib.hid h6
                have hS6 : S w6 := (hSd.out _).2 (hcl.out _ hB6.out)
                have P6 := Lib.hid p6
                have S6 := Lib.hid s6
                refine hK.out _ _ hS6 (fun _ => ?_)
                clear hK hS5 hB5 h6 b6 E5 p6 s6
                try simp only [Act.put, List.setIfInBounds_toArray, List.set_cons_zero, List.set_cons_succ]
                obtain ⟨rn, hRN⟩ : ∃ z, Hid (z = r6.length) := ⟨_, Lib.hid rfl⟩
                rw [← hRN.out]
                have hrn : rn ≤ 41 := by
                  have := reach_len S6.out P6.out
                  have h1 := hN.out
                  have h2 := hRN.out
                  simp only [List.length_cons, List.length_nil] at this
                  omega
                refine wpAnyH_take (i := 11) (v := (.slice A6 rn c6)) rfl (by kernel_rfl) (by kernel_rfl) (by kernel_rfl) (fun _ _ _ h => absurd h.1 (by simp)) (Or.inl ⟨by kernel_rfl, ?_⟩) hS6 ?_
                · intro W' hSw
                  obtain s0 := (hSd.out _).1 hSw
                  go_simp
                try change wpAnyH _ _ _ _ _ _ _ (Act.put _ (some 9) _) _
                try simp only [Act.put, List.setIfInBounds_toArray, List.set_cons_zero, List.set_cons_succ]
                clear hS6 hSd
                refine wpAnyH_done (by kernel_rfl) ?_ _
                refine ⟨rfl, ?_⟩
                have hY0 := Lib.hid (Below.refl w6.heap.size w6)
                go_wp2_with fail
                go_loopw [10] (fun i wr => ∃ j : Nat, j ≤ yn ∧ i = .int .i64 j ∧ Hid (Below w6.heap.size w6 wr)) (fun i _ => yn - (intOf i).toNat)
                case atStart => exact ⟨0, by omega, rfl, hY0⟩
                case round =>
                  obtain ⟨j, hj, rfl, hY⟩ := hrel
                  clear hY0
                  rename World => wy
                  have hBy := Lib.hid (hB6.out.trans (hY.out.mono hB6.out.size))
                  have ca := hcl.out wy hBy.out
                  by_cases hjn : j < yn
                  · have e4 : decide ((j : Int) < (yn : Int)) = true := decide_eq_true (by omega)
                    have hjI : (j : Int) < (yn : Int) := by omega
                    have hjl : j < y3.length := by rw [← hYN.out]; exact hjn
                    have hal := Lib.hid (((Fr.refl [] wy).alloc (.cells #[.slice A6 rn c6] 26)).all)
                    have ca2 := hcl.out (wy.alloc (.cells #[.slice A6 rn c6] 26)) (hBy.out.trans (hal.out.mono hBy.out.size))
                    obtain ⟨g4, o4, e4', hg4, cx⟩ := rd_at (hrd.out _ (hBy.out.trans (hal.out.mono hBy.out.size))) hjl
                    injection e4' with e4'
                    injection e4' with e41 e42
                    subst e41
                    subst e42
                    have hin := hre2.out xq hxq.out y3[j] (List.getElem_mem hjl) r6 S6.out
                    have KL := Lib.hid (place_of (wy.alloc (.cells #[.slice A6 rn c6] 26)) (some ⟨wy.heap.size, 0, none⟩) 1 [⟨A6, c6, r6⟩] [r6] rfl y3[j] 0 (placeV_lone (rise_nodup P6.out) hin) (rt_one wy A6 c6 r6 (H6.out.below hY.out) rn hRN.out) (show (1 : Nat) ≤ 1000 by decide) (fun r hr => by rw [List.mem_singleton] at hr; rw [hr]; have := hRN.out; show r6.length ≤ 1000; omega) 1 rfl)
                    have hY2 := Lib.hid (hY.out.trans (hal.out.mono hY.out.size))
                    clear hin hal hBy hY
                    generalize y3[j] = xj at *
                    unfold encStr at cx KL
                    go_wp2_with (refine KL.out.mono ?_; rintro e w7 ⟨rfl, rfl⟩)
                    go_roundw
                    case rel => exact ⟨j + 1, by omega, by go_num, hY2⟩
                    case measure => simp [intOf]; omega
                  · obtain rfl : j = yn := by omega
                    have e4 : decide ((j : Int) < (j : Int)) = false := decide_eq_false (by omega)
                    go_wp2_with fail
                    go_roundw
                    case rel => exact ⟨q + 1, by omega, by go_num, hBy⟩
                    case measure => simp [intOf]; omega
              · obtain rfl : q = yn := by omega
                have e3 : decide ((q : Int) < (q : Int)) = false := decide_eq_false (by omega)
                have hXn := Lib.hid (And.intro (hX2.out.1.below hB.out) (hX2.out.2.trans (hB.out.mono hX2.out.2.size)))
                clear hB hX2
                go_wp2_with fail
                go_roundw
                case rel => exact ⟨p2 + 1, by omega, by go_num, hXn⟩
                case measure => simp [intOf]; omega
          · obtain rfl : p2 = np := by omega
            have e2 : decide ((p2 : Int) < (p2 : Int)) = false := decide_eq_false (by omega)
            have HB := Lib.hid hX2.out.2
            clear hX2
            go_wp2_with fail
            go_ret
            exact ⟨rfl, HB.out⟩

set_option maxRecDepth 100000 in
theorem pf_order (H : Type) (enc : TypeId × Value → H) (W : World) {base : Nat} (v : Value) (d : DataW H) (p : List MemPlace) (k : DataW.Trod enc Tryz.prog W 0 (fun _ => true) true 29 v d p) (o : Value.okWide Tryz.prog W .any base 29 v) (hw : ∀ n ∈ d.weights Tryz.prog 29, n ≤ reachBytes) (htab : nm.Tab W) :
    Calls Tryz.prog 6 #[v] W (BP true W) := by
  obtain ⟨A, c, l, rfl, hf, hb⟩ := calls_of v d p k o hw
  exact law_order_of W A c l hf hb (fun W' hb => works_any W' (nm.tab_below htab hb))
end Go.Proofs.YtohdcmmkbblhkaaGreatDoor.qy
