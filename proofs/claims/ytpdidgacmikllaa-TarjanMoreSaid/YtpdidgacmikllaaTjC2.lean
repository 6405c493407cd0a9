/-
  tarjan: more edges, no more parts: the law.
-/
import Derived.Test.YtpdidgacmikllaaTjC1
namespace Go.Proofs.Ytpdidgacmikllaa.tj
open Go.RowKit Go.Proofs.Ytpdidgacmikllaa.mem

theorem info_edge2 : (Try.prog.info? 38).map (fun i => (i.zero, i.size, i.bytes)) = some (some (.agg #[.int .i64 0, .int .i64 0]), 2, 16) := by kernel_rfl

theorem sg_empty (w : World) (e : TypeId) : Sg 2 (w.alloc (.cells #[] e)) e (some ⟨w.heap.size, 0, none⟩) 0 0 [] :=
  ⟨by simp, Nat.le_refl _, Nat.zero_le _, fun h => (by cases h), fun a ha => by
    cases ha
    exact ⟨rfl, #[], heap_alloc_new w _, by simp, fun j u hu => by simp at hu⟩⟩

set_option maxRecDepth 100000 in
set_option maxHeartbeats 1000000 in
theorem more_go (n : Int) (A : Option Addr) (cap : Nat) (l : List (Int × Int)) (B : Option Addr) (bc k : Nat) (w : World) (h : grB n l = true ∨ 50 < k ∨ 60 < n) :
    Calls Try.prog 6 #[.int .i64 n, .slice A l.length cap, .slice B k bc] w (SaPost true w) := by
  have KG0 := fun w1 => great_any n A cap l w1
  unfold GrPost at KG0
  have KW := Lib.hid works_any
  cases hg : grB n l with
  | true =>
    rw [hg] at KG0
    have KG := Lib.hid KG0
    clear h hg KG0
    go_enter Try.func6, Try.ntmps6
    go_wp2_with fail
    refine (KW.out w).mono ?_
    rintro e w0 ⟨rfl, b0⟩
    go_wp2_with fail
    refine (KG.out w0).mono ?_
    rintro e w1 ⟨rfl, rfl⟩
    go_wp2_with fail
    go_ret
    exact ⟨rfl, b0⟩
  | false =>
    rw [hg] at KG0 h
    have KG := Lib.hid KG0
    by_cases hk : 50 < k
    · have d1 : decide ((50 : Int) < (k : Int)) = true := decide_eq_true (by omega)
      have d1' : decide (50 < k) = true := decide_eq_true hk
      clear h hg KG0
      go_enter Try.func6, Try.ntmps6
      go_wp2_with fail
      refine (KW.out w).mono ?_
      rintro e w0 ⟨rfl, b0⟩
      go_wp2_with fail
      refine (KG.out w0).mono ?_
      rintro e w1 ⟨rfl, rfl⟩
      go_wp2_with fail
      go_ret
      exact ⟨rfl, b0⟩
    · have h60 : 60 < n := by
        rcases h with h | h | h
        · cases h
        · exact absurd h hk
        · exact h
      have d1 : decide ((50 : Int) < (k : Int)) = false := decide_eq_false (by omega)
      have d1' : decide (50 < k) = false := decide_eq_false hk
      have d2 : decide (60 < n) = true := decide_eq_true h60
      clear h hg KG0
      go_enter Try.func6, Try.ntmps6
      go_wp2_with fail
      refine (KW.out w).mono ?_
      rintro e w0 ⟨rfl, b0⟩
      go_wp2_with fail
      refine (KG.out w0).mono ?_
      rintro e w1 ⟨rfl, rfl⟩
      go_wp2_with fail
      go_ret
      exact ⟨rfl, b0⟩

set_option maxRecDepth 100000 in
set_option maxHeartbeats 4000000 in
theorem law_more (n : Int) (A : Option Addr) (cap : Nat) (l : List (Int × Int)) (B : Option Addr) (bc : Nat) (l2 : List (Int × Int)) (w : World) (h : Eds w A l) (h2 : Eds w B l2) :
    Calls Try.prog 6 #[.int .i64 n, .slice A l.length cap, .slice B l2.length bc] w (SaPost true w) := by
  by_cases hgo : grB n l = true ∨ 50 < l2.length ∨ 60 < n
  · exact more_go n A cap l B bc l2.length w hgo
  have KG0 := fun w1 => great_any n A cap l w1
  unfold GrPost at KG0
  have hg : grB n l = false := by simpa using fun h1 => hgo (Or.inl h1)
  rw [hg] at KG0
  have KG := Lib.hid KG0
  have KW := Lib.hid works_any
  have hl := (gr_small hg).1
  have hl2 : l2.length ≤ 50 := by omega
  have hn : n ≤ 60 := by omega
  have d0 : decide (60 < n) = false := decide_eq_false (by omega)
  have hall : (l ++ l2).length ≤ 1000 := by rw [List.length_append]; omega
  have KE := fun w1 (hb : Below w.heap.size w w1) => edges_any A cap l (by omega) w1 (h.on hb)
  have KE2 := fun w1 D dc (he : Eds w1 D (l ++ l2)) => edges_any D dc (l ++ l2) hall w1 he
  have KP := fun w1 D c (he : Eds w1 D l) => parts_any n (by omega) D c l (by omega) w1 he
  have KP2 := fun w1 D c (he : Eds w1 D (l ++ l2)) => parts_any n (by omega) D c (l ++ l2) hall w1 he
  have KR := fun w1 D c (he : Eds w1 D l) => round_any n (by omega) D c l (by omega) w1 he
  have KR2 := fun w1 D c (he : Eds w1 D (l ++ l2)) => round_any n (by omega) D c (l ++ l2) hall w1 he
  have KL := fun w1 D c (he : Eds w1 D l) F (x : Nat) (hF : Rd w1 F ([(x : Int)].map (Value.int .i64))) => leads_any n (by omega) D c l (by omega) F 1 [(x : Int)] (by simp) w1 he hF
  have KL2 := fun w1 D c (he : Eds w1 D (l ++ l2)) F (x : Nat) (hF : Rd w1 F ([(x : Int)].map (Value.int .i64))) => leads_any n (by omega) D c (l ++ l2) hall F 1 [(x : Int)] (by simp) w1 he hF
  have hsub := Lib.hid (gof_sub n l l2)
  have hgn : Hid ((gof n l).n = n.toNat) := Lib.hid rfl
  have hgn2 : Hid ((gof n (l ++ l2)).n = n.toNat) := Lib.hid rfl
  obtain ⟨z, hz⟩ : ∃ z, Hid (l.length = z) := ⟨_, Lib.hid rfl⟩
  obtain ⟨z2, hz2⟩ : ∃ z, Hid (l2.length = z) := ⟨_, Lib.hid rfl⟩
  have hzz : Hid ((l ++ l2).length = z + z2) := Lib.hid (by rw [List.length_append, hz.out, hz2.out])
  have hzb : z ≤ 200 := by rw [← hz.out]; exact hl
  have hz2b : z2 ≤ 50 := by rw [← hz2.out]; exact hl2
  have d1 : decide ((50 : Int) < (z2 : Int)) = false := decide_eq_false (by omega)
  have d1' : decide (50 < z2) = false := decide_eq_false (by omega)
  have H := Lib.hid h
  have H2 := Lib.hid h2
  rw [hz.out] at KG KE KP KR KL ⊢
  rw [hzz.out] at KE2 KP2 KR2 KL2
  rw [hz2.out]
  have KE := Lib.hid KE
  have KE2 := Lib.hid KE2
  have KP := Lib.hid KP
  have KP2 := Lib.hid KP2
  have KR := Lib.hid KR
  have KR2 := Lib.hid KR2
  have KL : Hid (∀ w1 D c, Eds w1 D l → ∀ F (x : Nat), Rd w1 F ([(x : Int)].map (Value.int .i64)) → Calls Try.prog 17 #[.int .i64 n, .slice D z c, .slice F 1 1] w1 (LdPost w1 ((gof n l).leads n [(x : Int)]))) := Lib.hid KL
  have KL2 : Hid (∀ w1 D c, Eds w1 D (l ++ l2) → ∀ F (x : Nat), Rd w1 F ([(x : Int)].map (Value.int .i64)) → Calls Try.prog 17 #[.int .i64 n, .slice D (z + z2) c, .slice F 1 1] w1 (LdPost w1 ((gof n (l ++ l2)).leads n [(x : Int)]))) := Lib.hid KL2
  obtain ⟨i0, hi0, hz0, hz1, hzc⟩ := info_parts info_edge2
  have Hi := Lib.hid hi0
  have Hz0 := Lib.hid hz0
  have Hz1 := Lib.hid hz1
  have Hz2 := Lib.hid hzc
  have SR1 := Lib.hid (fun w1 (hb : Below w.heap.size w w1) => eds_src (P := Try.prog) (c := cap) (h.on hb) Try.underlying22)
  have SR2 := Lib.hid (fun w1 (hb : Below w.heap.size w w1) => eds_src (P := Try.prog) (c := bc) (h2.on hb) Try.underlying22)
  rw [hz.out] at SR1
  rw [hz2.out] at SR2
  clear h h2 hg hgo hl hl2 hall KG0 hi0 hz0 hz1 hzc
  go_enter Try.func6, Try.ntmps6
  go_wp2_with fail
  refine (KW.out w).mono ?_
  rintro e w0 ⟨rfl, b0⟩
  have B0 := Lib.hid b0
  clear b0 KW
  go_wp2_with fail
  refine (KG.out w0).mono ?_
  rintro e w1 ⟨rfl, rfl⟩
  clear KG
  go_upto_region 5 with fail
  have hsg0 := Lib.hid (sg_empty w0 38)
  have hb0 : Hid (Below w.heap.size w (w0.alloc (.cells #[] 38))) := Lib.hid (B0.out.alloc B0.out.size _)
  have hl2n : Hid ((fe l).length = z * 2) := Lib.hid (by rw [fe_len, hz.out])
  have hl2m : Hid ((fe l2).length = z2 * 2) := Lib.hid (by rw [fe_len, hz2.out])
  go_upto_region 6 with (first
    | (at_builtin
       refine wpList_app2 (yv := .slice A z cap) (us := fe l) rfl (.tmp 27) (.tmp 28) _ rfl hsg0.out Try.underlying22 Hi.out Hz0.out Hz1.out Hz2.out rfl rfl rfl (SR1.out _ hb0.out) hl2n.out (by omega) (by omega) ?_
       intro g1 o1 q1 w1 hs1 f1 b1
       have S1 : Hid (Sg 2 w1 38 (some ⟨g1, o1, none⟩) q1 z (fe l)) := Lib.hid (by rw [Nat.zero_add, List.nil_append] at hs1; exact hs1)
       have hb1 : Hid (Below w.heap.size w w1 ∧ w.heap.size ≤ g1) := Lib.hid ⟨hb0.out.trans (f1.below (fun g hg => by rw [List.mem_singleton] at hg; subst hg; exact B0.out.size) hb0.out.size), by
         have h0 := B0.out.size
         have h1 := hb0.out.size
         rcases b1 with e | e <;> omega⟩
       clear hs1 f1 b1)
    | (at_builtin
       refine wpList_app2 (yv := .slice B z2 bc) (us := fe l2) rfl (.tmp 29) (.tmp 30) _ rfl S1.out Try.underlying22 Hi.out Hz0.out Hz1.out Hz2.out rfl rfl rfl (SR2.out _ hb1.out.1) hl2m.out (by omega) (by omega) ?_
       intro g2 o2 q2 w2 hs2 f2 b2
       have S2 := Lib.hid hs2
       have hb2 : Hid (Below w.heap.size w w2) := Lib.hid (hb1.out.1.trans (f2.below (fun g hg => by rw [List.mem_singleton] at hg; subst hg; exact hb1.out.2) hb1.out.1.size))
       clear hs2 f2 b2))
  have hfe : Hid (fe l ++ fe l2 = fe (l ++ l2)) := Lib.hid (by simp [fe])
  have HA : Hid (∀ W, Below w2.heap.size w2 W → Eds W (some ⟨g2, o2, none⟩) (l ++ l2)) := Lib.hid (fun W hW => by
    have h1 := S2.out
    rw [hfe.out] at h1
    exact (sg_eds h1).on hW)
  clear S1 S2 hb0 hb1 hsg0 SR1 SR2 Hi Hz0 Hz1 Hz2 hl2n hl2m hfe
  have hle := Lib.hid hsub.out.len
  have hrn := Lib.hid hsub.out.rnd
  go_cut [55] (fun s wx => s = .bool false ∧ Hid (Below w2.heap.size w2 wx))
  case first =>
    go_wp2_with fail
    refine (KE2.out w2 _ _ (HA.out w2 (Below.refl _ _))).mono ?_
    rintro e w3 ⟨D3, c3, rfl, he3, _, b3⟩
    have HE3 := Lib.hid he3
    have HB3 := Lib.hid b3
    clear he3 b3
    go_wp2_with fail
    refine (KP2.out w3 D3 c3 HE3.out).mono ?_
    rintro e w4 ⟨A4, c4, r4, rfl, x4, _, _, b4⟩
    have HB4 := Lib.hid (HB3.out.trans (b4.mono HB3.out.size))
    obtain ⟨K4, hK4⟩ : ∃ K, Hid (r4.length = K) := ⟨_, Lib.hid rfl⟩
    have hk4 : Hid (K4 = (gof n (l ++ l2)).parts.length) := Lib.hid (by rw [← x4, List.length_map]; exact hK4.out.symm)
    rw [hK4.out]
    clear x4 b4 HE3 HB3
    go_wp2_with fail
    refine (KE.out w4 (hb2.out.trans (HB4.out.mono hb2.out.size))).mono ?_
    rintro e w5 ⟨D5, c5, rfl, he5, _, b5⟩
    have HE5 := Lib.hid he5
    have HB5 := Lib.hid (HB4.out.trans (b5.mono HB4.out.size))
    clear he5 b5 HB4
    go_wp2_with fail
    refine (KP.out w5 D5 c5 HE5.out).mono ?_
    rintro e w6 ⟨A6, c6, r6, rfl, x6, _, _, b6⟩
    have HB6 := Lib.hid (HB5.out.trans (b6.mono HB5.out.size))
    obtain ⟨K6, hK6⟩ : ∃ K, Hid (r6.length = K) := ⟨_, Lib.hid rfl⟩
    have hk6 : Hid (K6 = (gof n l).parts.length) := Lib.hid (by rw [← x6, List.length_map]; exact hK6.out.symm)
    rw [hK6.out]
    clear x6 b6 HE5 HB5
    have hKK : K4 ≤ K6 := by rw [hk4.out, hk6.out]; exact hle.out
    have e1 : decide ((K6 : Int) < (K4 : Int)) = false := decide_eq_false (by omega)
    have e1' : decide (K6 < K4) = false := decide_eq_false (by omega)
    go_wp2_with fail
    refine (KE.out w6 (hb2.out.trans (HB6.out.mono hb2.out.size))).mono ?_
    rintro e w7 ⟨D7, c7, rfl, he7, _, b7⟩
    have HE7 := Lib.hid he7
    have HB7 := Lib.hid (HB6.out.trans (b7.mono HB6.out.size))
    clear he7 b7 HB6
    go_wp2_with fail
    refine (KR.out w7 D7 c7 HE7.out).mono ?_
    rintro e w8 ⟨rfl, b8⟩
    have HB8 := Lib.hid (HB7.out.trans (b8.mono HB7.out.size))
    clear b8 HB7 HE7
    cases hr : (gof n l).rnd with
    | false =>
      have hB := HB8
      go_wp2_with fail
      go_meet
      exact ⟨rfl, hB⟩
    | true =>
      have hr2 := hrn.out hr
      go_wp2_with fail
      refine (KE2.out w8 _ _ (HA.out w8 HB8.out)).mono ?_
      rintro e w9 ⟨D9, c9, rfl, he9, _, b9⟩
      have HE9 := Lib.hid he9
      have HB9 := Lib.hid (HB8.out.trans (b9.mono HB8.out.size))
      clear he9 b9
      go_wp2_with fail
      refine (KR2.out w9 D9 c9 HE9.out).mono ?_
      rintro e w10 ⟨rfl, b10⟩
      rw [hr2]
      have HB10 := Lib.hid (HB9.out.trans (b10.mono HB9.out.size))
      clear b10 HE9
      go_wp2_with fail
      go_meet
      exact ⟨rfl, HB10⟩
  obtain ⟨rfl, hB⟩ := hcut
  rename World => wq
  clear KP KP2 KR KR2 hle hrn
  obtain ⟨m, hm⟩ : ∃ m, Hid (n.toNat = m) := ⟨_, Lib.hid rfl⟩
  go_wp2_with fail
  go_loopw [8, 9, 10, 11, 12] (fun s _ _ _ _ wr => ∃ i : Nat, i ≤ m ∧ s = .int .i64 i ∧ Hid (Below w2.heap.size w2 wr)) (fun s _ _ _ _ _ => m - (intOf s).toNat)
  case atStart => exact ⟨0, by omega, rfl, hB⟩
  case round =>
    obtain ⟨i, hi, rfl, hB1⟩ := hrel
    clear hB
    rename World => wr
    by_cases him : i < m
    · have hiI : (i : Int) < n := by have := hm.out; omega
      have d3 : decide ((i : Int) < n) = true := decide_eq_true hiI
      have hig : Hid (i < (gof n l).n ∧ i < (gof n (l ++ l2)).n) := Lib.hid ⟨by rw [hgn.out, hm.out]; exact him, by rw [hgn2.out, hm.out]; exact him⟩
      have hl1 := Lib.hid (leads_one (gof n l) hgn.out hig.out.1)
      have hl2' := Lib.hid (leads_one (gof n (l ++ l2)) hgn2.out hig.out.2)
      have hss := Lib.hid (hsub.out.leads i)
      rw [← hl1.out, ← hl2'.out] at hss
      have hla := leads_len (gof n l) n [(i : Int)]
      have hlb := leads_len (gof n (l ++ l2)) n [(i : Int)]
      rw [hgn.out, hm.out] at hla
      rw [hgn2.out, hm.out] at hlb
      have hmb : m ≤ 60 := by have := hm.out; omega
      have K1 := Lib.hid (fun w1 D c he F hF => KL.out w1 D c he F i hF)
      have K2 := Lib.hid (fun w1 D c he F hF => KL2.out w1 D c he F i hF)
      clear hl1 hl2'
      generalize (gof n l).leads n [(i : Int)] = La at *
      generalize (gof n (l ++ l2)).leads n [(i : Int)] = Lb at *
      go_wp2_with fail
      refine (KE.out wr (hb2.out.trans (hB1.out.mono hb2.out.size))).mono ?_
      rintro e w5 ⟨D5, c5, rfl, he5, _, b5⟩
      have HE5 := Lib.hid (he5.on ((Below.refl _ _).alloc (Nat.le_refl w5.heap.size) (.cells #[.int .i64 (i : Nat)] 3)))
      have HB5 := Lib.hid (hB1.out.trans (b5.mono hB1.out.size))
      have HR5 := Lib.hid (one_rd w5 i)
      have HB5' := Lib.hid (HB5.out.alloc HB5.out.size (.cells #[.int .i64 (i : Nat)] 3))
      clear he5 b5 hB1
      go_wp2_with fail
      refine (K1.out _ D5 c5 HE5.out _ HR5.out).mono ?_
      rintro e w6 ⟨A6, c6, he, r6, b6⟩
      obtain ⟨la, hla2⟩ : ∃ k, Hid (La.length = k) := ⟨_, Lib.hid rfl⟩
      rw [hla2.out] at he hla
      subst he
      have HB6 := Lib.hid (HB5'.out.trans (b6.mono HB5'.out.size))
      have R6 := Lib.hid r6
      clear r6 b6 HE5 HR5 HB5 HB5' K1
      go_wp2_with fail
      refine (KE2.out w6 _ _ (HA.out w6 HB6.out)).mono ?_
      rintro e w7 ⟨D7, c7, rfl, he7, _, b7⟩
      have HE7 := Lib.hid (he7.on ((Below.refl _ _).alloc (Nat.le_refl w7.heap.size) (.cells #[.int .i64 (i : Nat)] 3)))
      have R7 := Lib.hid (R6.out.below b7)
      have HB7 := Lib.hid (HB6.out.trans (b7.mono HB6.out.size))
      have HR7 := Lib.hid (one_rd w7 i)
      have R7' := Lib.hid (R7.out.alloc (.cells #[.int .i64 (i : Nat)] 3))
      have HB7' := Lib.hid (HB7.out.alloc HB7.out.size (.cells #[.int .i64 (i : Nat)] 3))
      clear he7 b7 R6 HB6
      go_wp2_with fail
      refine (K2.out _ D7 c7 HE7.out _ HR7.out).mono ?_
      rintro e w8 ⟨A8, c8, he, r8, b8⟩
      obtain ⟨lb, hlb2⟩ : ∃ k, Hid (Lb.length = k) := ⟨_, Lib.hid rfl⟩
      rw [hlb2.out] at he hlb
      subst he
      have HB8 := Lib.hid (HB7'.out.trans (b8.mono HB7'.out.size))
      have RA := Lib.hid (R7'.out.below b8)
      have RB := Lib.hid r8
      clear r8 b8 R7 R7' HB7 HB7' HE7 HR7 K2
      have hs0 : Hid ((La.drop 0).Sublist (Lb.drop 0)) := Lib.hid (by simpa using hss.out)
      clear hss
      go_wp2_with fail
      go_loopw [11, 12] (fun s u wx => ∃ k j : Nat, k ≤ la ∧ j ≤ lb ∧ s = .int .i64 k ∧ u = .int .i64 j ∧ Hid ((La.drop k).Sublist (Lb.drop j)) ∧ Hid (Below w8.heap.size w8 wx)) (fun _ u _ => lb - (intOf u).toNat)
      case atStart => exact ⟨0, 0, by omega, by omega, rfl, rfl, hs0, Lib.hid (Below.refl _ _)⟩
      case round =>
        obtain ⟨k, j, hk, hj, rfl, rfl, hS, hBx⟩ := hrel
        clear hs0
        rename World => wx
        by_cases hjl : j < lb
        · have d4 : decide ((j : Int) < (lb : Int)) = true := decide_eq_true (by omega)
          have hjI : (j : Int) < (lb : Int) := by omega
          by_cases hkl : k < la
          · have d5 : decide ((k : Int) < (la : Int)) = true := decide_eq_true (by omega)
            have hkI : (k : Int) < (la : Int) := by omega
            have hk' : k < La.length := by rw [hla2.out]; exact hkl
            have hj' : j < Lb.length := by rw [hlb2.out]; exact hjl
            obtain ⟨ba, oa, rfl, hba, hca⟩ := rd_cells RA.out (by omega)
            obtain ⟨bb, ob, rfl, hbb, hcb⟩ := rd_cells RB.out (by omega)
            have ca := (hBx.out.cell (p := ⟨ba, oa + k, none⟩) hba).trans (hca k hk')
            have cb := (hBx.out.cell (p := ⟨bb, ob + j, none⟩) hbb).trans (hcb j hj')
            have hst := Lib.hid (sub_step hS.out hk' hj')
            have hB2 : Hid (∀ i, Below w8.heap.size w8 (wx.drewN i)) := Lib.hid (fun i => hBx.out.trans ((((Fr.refl [] wx).drewN i).all).mono hBx.out.size))
            clear hca hcb hba hbb
            generalize La[k] = x at *
            generalize Lb[j] = y at *
            clear hk' hj' hS hBx
            by_cases hxy : x = y
            · have hst1 := Lib.hid (hst.out.1 hxy)
              subst hxy
              have d6 : ((x : Int) == (x : Int)) = true := by simp
              clear hst
              go_wp2_with fail
              go_quiet (fail)
              go_wp2_with fail
              go_roundw
              case rel => exact ⟨k + 1, j + 1, by omega, by omega, by go_num, by go_num, hst1, Lib.hid (hB2.out _)⟩
              case measure => simp [intOf]; omega
            · have hst1 := Lib.hid (hst.out.2 hxy)
              have d6 : ((y : Int) == (x : Int)) = false := by simp; omega
              clear hst hxy
              go_wp2_with fail
              go_quiet (fail)
              go_wp2_with fail
              go_roundw
              case rel => exact ⟨k, j + 1, by omega, by omega, rfl, by go_num, hst1, Lib.hid (hB2.out _)⟩
              case measure => simp [intOf]; omega
          · obtain rfl : k = la := by omega
            have d5 : decide ((k : Int) < (k : Int)) = false := decide_eq_false (by omega)
            have hB2 := Lib.hid (HB8.out.trans (hBx.out.mono HB8.out.size))
            clear hS hBx
            go_wp2_with fail
            go_roundw
            case rel => exact ⟨i + 1, by omega, by go_num, hB2⟩
            case measure => simp [intOf]; omega
        · obtain rfl : j = lb := by omega
          have d4 : decide ((j : Int) < (j : Int)) = false := decide_eq_false (by omega)
          have hke : k = la := by
            have h1 := hS.out.length_le
            rw [List.length_drop, List.length_drop, hlb2.out, hla2.out] at h1
            omega
          subst hke
          have d5 : decide ((k : Int) < (k : Int)) = false := decide_eq_false (by omega)
          have hB2 := Lib.hid (HB8.out.trans (hBx.out.mono HB8.out.size))
          clear hS hBx
          go_wp2_with fail
          go_roundw
          case rel => exact ⟨i + 1, by omega, by go_num, hB2⟩
          case measure => simp [intOf]; omega
    · obtain rfl : i = m := by omega
      have d3 : decide ((i : Int) < n) = false := decide_eq_false (by have := hm.out; omega)
      have fin : Hid (SaPost true w (.returned (.bool true)) wr) := Lib.hid ⟨rfl, hb2.out.trans (hB1.out.mono hb2.out.size)⟩
      clear hB1
      go_wp2_with fail
      go_ret
      exact fin.out
end Go.Proofs.Ytpdidgacmikllaa.tj
