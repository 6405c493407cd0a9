/-
  tarjan: the other way round: the law.
-/
import Derived.Test.YtpdidgacmikllaaTjC2
namespace Go.Proofs.Ytpdidgacmikllaa.tj
open Go.RowKit Go.Proofs.Ytpdidgacmikllaa.mem

theorem slice1 (W : World) (g off n cap i : Nat) (hi : i + 1 ≤ cap) : (Instr.slice 25 (.slice (some ⟨g, off, none⟩) n cap) (some (.int .i64 (i : Int))) (some (.int .i64 ((i : Int) + 1))) none).run Try.prog W = .ok (.slice (some ⟨g, off + i, none⟩) 1 (cap - i)) W := by
  have hs : (sizeOf 32).run Try.prog W = .ok 1 W := by kernel_rfl
  have he : Try.prog.elem 25 = 32 := by kernel_rfl
  rw [run_slice_lh W 25 (some ⟨g, off, none⟩) n cap Try.underlying25 .i64 .i64 (i : Int) ((i : Int) + 1) (by omega) (by omega) (by omega), he, hs, Result.andThen_ok]
  unfold sliced
  rw [show ((i : Int) + 1).toNat = i + 1 by omega, Int.toNat_natCast, if_neg (by omega)]
  simp [Addr.add]

theorem RR.one {w : World} {g off : Nat} {rows : List Row} (h : RR w (some ⟨g, off, none⟩) rows) {i : Nat} (hi : i < rows.length) : RR w (some ⟨g, off + i, none⟩) [rows[i]] := by
  refine ⟨fun _ => ?_, fun r hr => ?_, fun r hr => ?_⟩
  · obtain ⟨g', o', e, hl, hc⟩ := h.hd (by rw [List.length_map]; omega)
    cases e
    refine ⟨g, off + i, rfl, hl, fun j hj => ?_⟩
    have : j = 0 := by simp at hj; omega
    subst this
    have := hc i (by rw [List.length_map]; exact hi)
    rw [Nat.add_zero, this]
    simp
  · rw [List.mem_singleton] at hr; rw [hr]; exact h.rd _ (List.getElem_mem hi)
  · rw [List.mem_singleton] at hr; rw [hr]; exact h.le _ (List.getElem_mem hi)

structure EA2 (w W : World) (l : List (Int × Int)) (k : Nat) (B : Option Addr) (c : Nat) : Prop where
  sg : Sg 2 W 38 B c k (fe (swp (l.take k)))
  ge : ∀ x ∈ blk B, w.heap.size ≤ x
  on : Below w.heap.size w W

set_option maxRecDepth 100000 in
set_option maxHeartbeats 1000000 in
theorem turned_go (n : Int) (A : Option Addr) (cap : Nat) (l : List (Int × Int)) (w : World) (h : grB n l = true ∨ 60 < n) :
    Calls Try.prog 7 #[.int .i64 n, .slice A l.length cap] w (SaPost true w) := by
  have KG0 := fun w1 => great_any n A cap l w1
  unfold GrPost at KG0
  have KW := Lib.hid works_any
  cases hg : grB n l with
  | true =>
    rw [hg] at KG0
    have KG := Lib.hid KG0
    clear h hg KG0
    go_enter Try.func7, Try.ntmps7
    go_wp2_with fail
    refine (KW.out w).mono ?_
    rintro e w0 ⟨rfl, b0⟩
    go_wp2_with fail
    refine (KG.out w0).mono ?_
    rintro e w1 ⟨rfl, rfl⟩
    go_wp2_with fail
    go_ret
    exact ⟨rfl, b0⟩
  | false =>
    rw [hg] at KG0 h
    have KG := Lib.hid KG0
    have h60 : 60 < n := by
      rcases h with h | h
      · cases h
      · exact h
    have d2 : decide (60 < n) = true := decide_eq_true h60
    clear h hg KG0
    go_enter Try.func7, Try.ntmps7
    go_wp2_with fail
    refine (KW.out w).mono ?_
    rintro e w0 ⟨rfl, b0⟩
    go_wp2_with fail
    refine (KG.out w0).mono ?_
    rintro e w1 ⟨rfl, rfl⟩
    go_wp2_with fail
    go_ret
    exact ⟨rfl, b0⟩

set_option maxRecDepth 100000 in
set_option maxHeartbeats 4000000 in
theorem law_turned (n : Int) (A : Option Addr) (cap : Nat) (l : List (Int × Int)) (w : World) (h : Eds w A l) :
    Calls Try.prog 7 #[.int .i64 n, .slice A l.length cap] w (SaPost true w) := by
  by_cases hgo : grB n l = true ∨ 60 < n
  · exact turned_go n A cap l w hgo
  have KG0 := fun w1 => great_any n A cap l w1
  unfold GrPost at KG0
  have hg : grB n l = false := by simpa using fun h1 => hgo (Or.inl h1)
  rw [hg] at KG0
  have KG := Lib.hid KG0
  have KW := Lib.hid works_any
  have hl := (gr_small hg).1
  have hn : n ≤ 60 := by omega
  have d0 : decide (60 < n) = false := decide_eq_false (by omega)
  have hsl : (swp l).length = l.length := by simp [swp]
  have KE := fun w1 (hb : Below w.heap.size w w1) => edges_any A cap l (by omega) w1 (h.on hb)
  have KE2 := fun w1 D dc (he : Eds w1 D (swp l)) => edges_any D dc (swp l) (by omega) w1 he
  have KP := fun w1 D c (he : Eds w1 D l) => parts_any n (by omega) D c l (by omega) w1 he
  have KP2 := fun w1 D c (he : Eds w1 D (swp l)) => parts_any n (by omega) D c (swp l) (by omega) w1 he
  have KR := fun w1 D c (he : Eds w1 D l) => round_any n (by omega) D c l (by omega) w1 he
  have KR2 := fun w1 D c (he : Eds w1 D (swp l)) => round_any n (by omega) D c (swp l) (by omega) w1 he
  have hgp := Lib.hid (fun p => (swp_all n l p).2)
  have hgl := Lib.hid (swp_len n l)
  have hgn : Hid ((gof n l).n ≤ 100) := Lib.hid (by show n.toNat ≤ 100; omega)
  have hgn2 : Hid ((gof n (swp l)).n ≤ 100) := Lib.hid (by show n.toNat ≤ 100; omega)
  obtain ⟨z, hz⟩ : ∃ z, Hid (l.length = z) := ⟨_, Lib.hid rfl⟩
  have hzb : z ≤ 200 := by rw [← hz.out]; exact hl
  have H := Lib.hid h
  rw [hsl] at KE2 KP2 KR2
  rw [swp_rnd] at KR2
  rw [hz.out] at KG KE KP KR KE2 KP2 KR2 ⊢
  have KE := Lib.hid KE
  have KE2 := Lib.hid KE2
  have KP := Lib.hid KP
  have KP2 := Lib.hid KP2
  have KR := Lib.hid KR
  have KR2 := Lib.hid KR2
  obtain ⟨i0, hi0, hz0, hz1, hzc⟩ := info_parts info_edge2
  have Hi := Lib.hid hi0
  have Hz0 := Lib.hid hz0
  have Hz1 := Lib.hid hz1
  have Hz2 := Lib.hid hzc
  clear h hg hgo hl KG0 hi0 hz0 hz1 hzc hsl
  go_enter Try.func7, Try.ntmps7
  go_wp2_with fail
  refine (KW.out w).mono ?_
  rintro e w0 ⟨rfl, b0⟩
  have B0 := Lib.hid b0
  clear b0 KW
  go_wp2_with fail
  refine (KG.out w0).mono ?_
  rintro e w1 ⟨rfl, rfl⟩
  clear KG
  have hE0 : Hid (EA2 w0 w0 l 0 none 0) := Lib.hid ⟨Sg.new _ _ _, fun x hx => (by cases hx), Below.refl _ _⟩
  go_wp2_with fail
  go_loopw [5, 6] (fun s i wr => ∃ (k : Nat) (B : Option Addr) (c : Nat), k ≤ z ∧ i = .int .i64 k ∧ s = .slice B k c ∧ Hid (EA2 w0 wr l k B c)) (fun _ i _ => z - (intOf i).toNat)
  case atStart => exact ⟨0, none, 0, by omega, rfl, rfl, hE0⟩
  case round =>
    obtain ⟨k, B, c, hk, rfl, rfl, hE⟩ := hrel
    clear hE0
    rename World => wr
    by_cases hkn : k < z
    · have d1 : decide ((k : Int) < (z : Int)) = true := decide_eq_true (by omega)
      have hkI : (k : Int) < (z : Int) := by omega
      have hkl : k < l.length := by rw [hz.out]; exact hkn
      obtain ⟨b, off, rfl, hlt, hcell⟩ := H.out (by omega)
      obtain ⟨ca0, cb0⟩ := hcell k hkl
      have hon := B0.out.trans (hE.out.on.mono B0.out.size)
      have ca := (hon.cell (p := ⟨b, off + k * 2, none⟩) hlt).trans ca0
      have cb := (hon.cell (p := ⟨b, off + k * 2 + 1, none⟩) hlt).trans cb0
      have hts : Hid (swp (l.take (k + 1)) = swp (l.take k) ++ [(l[k].2, l[k].1)]) := Lib.hid (by rw [List.take_succ_eq_append_getElem hkl]; unfold swp; rw [List.map_append]; rfl)
      clear hcell ca0 cb0 hlt hon
      generalize l[k] = pk at *
      clear hkl
      obtain ⟨x, y⟩ := pk
      simp only at ca cb
      have h63 : k + 1 ≤ 9223372036854775807 := by omega
      have hby : (k + 1) * 16 ≤ 140737488355328 := by omega
      go_wp2_with fail
      go_region_law
        ((refine step_row (us := [.int .i64 y, .int .i64 x]) (by rfl) (.tmp 27) (.tmp 39) _ (by rfl) ((sg_drew hE.out.sg).alloc _) Try.underlying22 Hi.out Hz0.out Hz1.out Hz2.out rfl (by rfl) (by rfl) rfl (two_cells _ _ _ _) (by simp [Value.oneCell']) h63 hby ?_; intro A2 cap2 w2 hs2 f2 hb2))
      all_goals
        have f6 : Fr (blk B) wr w2 := (((Fr.refl [] wr).drew).alloc _).trans f2 (by simp) (fun g hg => Or.inl hg)
        have hE2 : Hid (EA2 w0 w2 l (k + 1) A2 cap2) := Lib.hid ⟨by rw [hts.out, fe_snoc]; exact hs2, fun z hz => by
          rcases hb2 with e | e
          · exact hE.out.ge z (e ▸ hz)
          · rw [e, List.mem_singleton] at hz
            subst hz
            have := hE.out.on.size
            simp [World.drew]; omega, hE.out.on.trans (f6.below hE.out.ge hE.out.on.size)⟩
        clear hs2 f2 hb2 f6 hE ca cb
        go_wp2_with fail
        go_roundw
        case rel => exact ⟨k + 1, A2, cap2, by omega, by go_num, rfl, hE2⟩
        case measure => simp [intOf]; omega
    · obtain rfl : k = z := by omega
      have d1 : decide ((k : Int) < (k : Int)) = false := decide_eq_false (by omega)
      have HA : Hid (∀ W, Below wr.heap.size wr W → Eds W B (swp l)) := Lib.hid (fun W hW => by
        have h1 := hE.out.sg
        rw [← hz.out, List.take_length] at h1
        exact (sg_eds h1).on hW)
      have hb2 : Hid (Below w.heap.size w wr) := Lib.hid (B0.out.trans (hE.out.on.mono B0.out.size))
      clear hE Hi Hz0 Hz1 Hz2
      go_wp2_with fail
      refine (KE.out wr hb2.out).mono ?_
      rintro e w3 ⟨D3, c3, rfl, he3, _, b3⟩
      have HE3 := Lib.hid he3
      have HB3 := Lib.hid b3
      clear he3 b3
      go_wp2_with fail
      refine (KP.out w3 D3 c3 HE3.out).mono ?_
      rintro e w4 ⟨A4, c4, r4, rfl, x4, s4, t4, b4⟩
      have HB4 := Lib.hid (HB3.out.trans (b4.mono HB3.out.size))
      have RR4 := Lib.hid (PaPost.rr (gof_ok n l) hgn.out x4 s4 t4)
      have hcap4 := Lib.hid s4.1
      have HX4 := Lib.hid x4
      clear x4 s4 t4 b4 HE3 HB3
      obtain ⟨K4, hK4⟩ : ∃ K, Hid (r4.length = K) := ⟨_, Lib.hid rfl⟩
      rw [hK4.out]
      go_wp2_with fail
      refine (KE2.out w4 _ _ (HA.out w4 HB4.out)).mono ?_
      rintro e w5 ⟨D5, c5, rfl, he5, _, b5⟩
      have HE5 := Lib.hid he5
      have HB5 := Lib.hid (HB4.out.trans (b5.mono HB4.out.size))
      have RR5 := Lib.hid (RR4.out.1.below b5)
      have hr4 := Lib.hid RR4.out.2
      clear he5 b5 HB4 RR4
      go_wp2_with fail
      refine (KP2.out w5 D5 c5 HE5.out).mono ?_
      rintro e w6 ⟨A6, c6, r6, he, x6, s6, t6, b6⟩
      have HB6 := Lib.hid (HB5.out.trans (b6.mono HB5.out.size))
      have RR6 := Lib.hid (PaPost.rr (gof_ok n (swp l)) hgn2.out x6 s6 t6)
      have hcap6 := Lib.hid s6.1
      have RA := Lib.hid (RR5.out.below b6)
      have HX6 := Lib.hid x6
      have hK6 : Hid (r6.length = K4) := Lib.hid (by
        have h1 := congrArg List.length HX6.out
        have h2 := congrArg List.length HX4.out
        rw [List.length_map] at h1 h2
        rw [h1, hgl.out, ← h2, hK4.out])
      rw [hK6.out] at he
      subst he
      have hKb : K4 ≤ 100 := by rw [← hK4.out]; exact hr4.out
      clear x6 s6 t6 b6 HE5 HB5 RR5
      go_upto_region 11 with fail
      go_cut [64] (fun s wx => s = .bool false ∧ Hid (Below w6.heap.size w6 wx))
      case first =>
        have d2 : ((K4 : Int) != (K4 : Int)) = false := by simp
        go_wp2_with fail
        refine (KE.out w6 (hb2.out.trans (HB6.out.mono hb2.out.size))).mono ?_
        rintro e w7 ⟨D7, c7, rfl, he7, _, b7⟩
        have HE7 := Lib.hid he7
        have HB7 := Lib.hid b7
        clear he7 b7
        go_wp2_with fail
        refine (KR.out w7 D7 c7 HE7.out).mono ?_
        rintro e w8 ⟨rfl, b8⟩
        have HB8 := Lib.hid (HB7.out.trans (b8.mono HB7.out.size))
        clear b8 HB7 HE7
        go_wp2_with fail
        refine (KE2.out w8 _ _ (HA.out w8 (HB6.out.trans (HB8.out.mono HB6.out.size)))).mono ?_
        rintro e w9 ⟨D9, c9, rfl, he9, _, b9⟩
        have HE9 := Lib.hid he9
        have HB9 := Lib.hid (HB8.out.trans (b9.mono HB8.out.size))
        clear he9 b9 HB8
        go_wp2_with fail
        refine (KR2.out w9 D9 c9 HE9.out).mono ?_
        rintro e w10 ⟨rfl, b10⟩
        have HB10 := Lib.hid (HB9.out.trans (b10.mono HB9.out.size))
        clear b10 HE9 HB9
        generalize (gof n l).rnd = r at *
        have d3 : (r != r) = false := by cases r <;> rfl
        go_wp2_with fail
        go_meet
        exact ⟨rfl, HB10⟩
      obtain ⟨rfl, hB⟩ := hcut
      rename World => wq
      clear KE KE2 KP KP2 KR KR2 HA
      have RA6 := RA
      have RB6 := RR6
      have hmx : Hid (∀ i, i < K4 → ∃ (ra : Row) (hi : i < r4.length), r4[i] = ra ∧ ∃ rb ∈ r6, rb.xs = ra.xs) := Lib.hid (fun i hi => by
        have hi4 : i < r4.length := by rw [hK4.out]; exact hi
        refine ⟨r4[i], hi4, rfl, ?_⟩
        have hm : r4[i].xs ∈ (gof n l).parts := by rw [← HX4.out]; exact List.mem_map.2 ⟨_, List.getElem_mem hi4, rfl⟩
        have hm2 := hgp.out _ hm
        rw [← HX6.out] at hm2
        obtain ⟨rb, h1, h2⟩ := List.mem_map.1 hm2
        exact ⟨rb, h1, h2⟩)
      clear RA RR6 HX4 HX6 hgp hgl
      go_wp2_with fail
      go_loopw [9, 10, 11] (fun s _ _ wr => ∃ i : Nat, i ≤ K4 ∧ s = .int .i64 i ∧ Hid (Below w6.heap.size w6 wr)) (fun s _ _ _ => K4 - (intOf s).toNat)
      case atStart => exact ⟨0, by omega, rfl, hB⟩
      case round =>
        obtain ⟨i, hi, rfl, hB1⟩ := hrel
        clear hB
        rename World => wr
        by_cases hiK : i < K4
        · have d3 : decide ((i : Int) < (K4 : Int)) = true := decide_eq_true (by omega)
          have hiI : (i : Int) < (K4 : Int) := by omega
          obtain ⟨ra, hil, hra, rb, hrb, hrbx⟩ := hmx.out i hiK
          obtain ⟨ga, oa, rfl, hga, _⟩ := RA6.out.at_ (by omega)
          have R1 := RA6.out.one hil
          rw [hra] at R1
          have R1 := Lib.hid R1
          have hfound : Hid (∃ rb ∈ r6, rb.xs = ra.xs) := Lib.hid ⟨rb, hrb, hrbx⟩
          have hia : i + 1 ≤ c4 := by have h1 := hcap4.out; rw [List.length_map, hK4.out] at h1; omega
          have sl4 := fun W => slice1 W ga oa K4 c4 i hia
          have SL4 := Lib.hid sl4
          clear hra hrb hrbx hil hga sl4 hia
          go_wp2_with fail
          go_loopw [10, 11] (fun s u wx => ∃ k : Nat, k ≤ K4 ∧ u = .int .i64 k ∧ s = .bool ((r6.take k).any fun r => decide (r.xs = ra.xs)) ∧ Hid (Below w6.heap.size w6 wx)) (fun _ u _ => K4 - (intOf u).toNat)
          case atStart => exact ⟨0, by omega, rfl, by simp, hB1⟩
          case round =>
            obtain ⟨k, hk, rfl, rfl, hB2⟩ := hrel
            clear hB1
            rename World => wx
            by_cases hkK : k < K4
            · have d4 : decide ((k : Int) < (K4 : Int)) = true := decide_eq_true (by omega)
              have hkI : (k : Int) < (K4 : Int) := by omega
              have hkl : k < r6.length := by rw [hK6.out]; exact hkK
              have hts : Hid (((r6.take (k + 1)).any fun r => decide (r.xs = ra.xs)) = (((r6.take k).any fun r => decide (r.xs = ra.xs)) || decide (r6[k].xs = ra.xs))) := Lib.hid (by rw [List.take_succ_eq_append_getElem hkl, List.any_append]; simp)
              obtain ⟨gb, ob, rfl, _, _⟩ := RB6.out.1.at_ (by omega)
              have R2 := RB6.out.1.one hkl
              have hka : k + 1 ≤ c6 := by have h1 := hcap6.out; rw [List.length_map, hK6.out] at h1; omega
              have sl4 := SL4.out
              have sl6 := fun W => slice1 W gb ob K4 c6 k hka
              have hB3 : Hid (∀ i, Below w6.heap.size w6 (wx.drewN i)) := Lib.hid (fun i => hB2.out.trans ((((Fr.refl [] wx).drewN i).all).mono hB2.out.size))
              have hB4 : Hid (∀ d os, Below w6.heap.size w6 (Go.Sort.grow (redrawn wx d) os)) := Lib.hid (fun d os => hB2.out.trans ((below_regrown wx d os).mono hB2.out.size))
              have KS0 : ∀ W, Below wx.heap.size wx W → Calls Try.prog 9 #[.slice (some ⟨ga, oa + i, none⟩) 1 (c4 - i), .slice (some ⟨gb, ob + k, none⟩) 1 (c6 - k)] W (SaPost (decide (r6[k].xs = ra.xs)) W) := fun W hW => by
                have hbW := hB2.out.trans (hW.mono hB2.out.size)
                have h1 := same_any W (some ⟨ga, oa + i, none⟩) (some ⟨gb, ob + k, none⟩) (c4 - i) (c6 - k) [ra] [r6[k]] (R1.out.below hbW) (R2.below hbW) (by simp) (by simp)
                have e : decide ([ra].map (·.xs) = [r6[k]].map (·.xs)) = decide (r6[k].xs = ra.xs) := by
                  rw [decide_eq_decide]
                  simp [eq_comm]
                rw [e] at h1
                exact h1
              have KS := Lib.hid (regrown_same KS0)
              clear KS0 R2 hka hB2
              generalize decide (r6[k].xs = ra.xs) = v at *
              clear hkl
              generalize ((r6.take k).any fun r => decide (r.xs = ra.xs)) = u at *
              cases u with
              | true =>
                clear KS
                go_wp2_with fail
                go_quiet (fail)
                go_wp2_with fail
                go_roundw
                case rel => exact ⟨k + 1, by omega, by go_num, by rw [hts.out]; rfl, Lib.hid (hB3.out _)⟩
                case measure => simp [intOf]; omega
              | false =>
                rw [Bool.false_or] at hts
                go_wp2_with fail
                refine wp_region_quiet_below (by kernel_rfl) (by kernel_rfl) ?_
                repeat (go_big_quiet_step (exact KS.out _ _))
                refine wpQuiet_nil ?_
                intro _ hw'
                obtain ⟨⟨dq, osq⟩, hw''⟩ := hw'
                subst hw''
                go_wp2_with fail
                go_roundw
                case rel => exact ⟨k + 1, by omega, by go_num, by rw [hts.out], Lib.hid (hB4.out _ _)⟩
                case measure => simp [intOf]; omega
            · obtain rfl : k = K4 := by omega
              have d4 : decide ((k : Int) < (k : Int)) = false := decide_eq_false (by omega)
              have hany : Hid (((r6.take k).any fun r => decide (r.xs = ra.xs)) = true) := Lib.hid (by
                rw [← hK6.out, List.take_length, List.any_eq_true]
                obtain ⟨rb, h1, h2⟩ := hfound.out
                exact ⟨rb, h1, decide_eq_true h2⟩)
              rw [hany.out]
              go_wp2_with fail
              go_roundw
              case rel => exact ⟨i + 1, by omega, by go_num, hB2⟩
              case measure => simp [intOf]; omega
        · obtain rfl : i = K4 := by omega
          have d3 : decide ((i : Int) < (i : Int)) = false := decide_eq_false (by omega)
          have fin : Hid (SaPost true w (.returned (.bool true)) wr) := Lib.hid ⟨rfl, hb2.out.trans ((HB6.out.trans (hB1.out.mono HB6.out.size)).mono hb2.out.size)⟩
          clear hB1
          go_wp2_with fail
          go_ret
          exact fin.out
end Go.Proofs.Ytpdidgacmikllaa.tj
