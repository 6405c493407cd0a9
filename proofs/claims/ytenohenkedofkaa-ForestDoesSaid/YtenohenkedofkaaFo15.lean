/-
  forest: whatever is joined: the walk.
-/
import Derived.Test.YtenohenkedofkaaFo14
import Derived.Deep.DeepCutAuto
namespace Go.Proofs.Ytenohenkedofkaa.fo
open Go.RowKit Go.Proofs.Ytenohenkedofkaa.mem

/-- a forest that is the reference's -/
structure EAt (w wr : World) (f ga gn g k : Nat) (F : List Nat) : Prop where
  m : Mix w wr f ga gn F g F
  len : F.length = k

theorem jF_kk {F : List Nat} {k : Nat} (h : F.length = k) (a b : Int) : (jF F a b).length = k := (jF_len F a b).trans h

set_option maxRecDepth 100000 in
set_option maxHeartbeats 4000000 in
theorem law_does (n : Int) (A : Option Addr) (cap : Nat) (l : List (Int × Int)) (ask : Int) (w : World) (h : Prs w A l) (hm : l.length ≤ 9223372036854775807) :
    Calls Try.prog 3 #[.int .i64 n, .slice A l.length cap, .int .i64 ask] w (WorksPost w) := by
  obtain ⟨bb, hbb⟩ : ∃ bb, Hid (bb = ((decide (200 < n) && decide (n ≤ 100000)) || decide (100 < (l.length : Int)))) := ⟨_, Lib.hid rfl⟩
  obtain ⟨k, hk⟩ : ∃ k, Hid (k = clamp n) := ⟨_, Lib.hid rfl⟩
  have K0 := Lib.hid (own_new w n k hk)
  have R0 := Lib.hid (fun w' => rnew_any w' n k hk)
  have Hh := Lib.hid h
  clear h
  go_enter Try.func3, Try.ntmps3
  go_upto_region 1 with fail
  go_cut [20] (fun s wx => s = .bool bb ∧ w = wx)
  case first =>
    by_cases h1 : 200 < n
    · have d1 : decide (200 < n) = true := decide_eq_true h1
      by_cases h2 : n ≤ 100000
      · have d2 : decide (n ≤ 100000) = true := decide_eq_true h2
        have hv : Hid (bb = true) := Lib.hid (by rw [hbb.out, d1, d2]; rfl)
        go_wp2_with fail
        go_meet
        exact ⟨by rw [hv.out], rfl⟩
      · have d2 : decide (n ≤ 100000) = false := decide_eq_false h2
        have hv : Hid (bb = decide (100 < (l.length : Int))) := Lib.hid (by rw [hbb.out, d1, d2]; rfl)
        rcases h3 : decide (100 < (l.length : Int)) with _ | _
        · rw [h3] at hv
          go_wp2_with fail
          go_meet
          exact ⟨by rw [hv.out], rfl⟩
        · rw [h3] at hv
          go_wp2_with fail
          go_meet
          exact ⟨by rw [hv.out], rfl⟩
    · have d1 : decide (200 < n) = false := decide_eq_false h1
      have hv : Hid (bb = decide (100 < (l.length : Int))) := Lib.hid (by rw [hbb.out, d1]; simp)
      rcases h3 : decide (100 < (l.length : Int)) with _ | _
      · rw [h3] at hv
        go_wp2_with fail
        go_meet
        exact ⟨by rw [hv.out], rfl⟩
      · rw [h3] at hv
        go_wp2_with fail
        go_meet
        exact ⟨by rw [hv.out], rfl⟩
  obtain ⟨rfl, rfl⟩ := hcut
  cases bb with
  | true =>
    go_wp2_with fail
    go_ret
    exact ⟨rfl, Below.refl _ _⟩
  | false =>
    have hl : l.length ≤ 100 := by
      have := hbb.out
      simp only [Bool.false_eq, Bool.or_eq_false_iff, decide_eq_false_iff_not] at this
      omega
    clear hbb hk
    go_wp2_with fail
    refine K0.out.mono ?_
    rintro e w1 ⟨f, ga, gn, rfl, h1⟩
    have H1 := Lib.hid h1
    clear h1
    go_wp2_with fail
    refine (R0.out _).mono ?_
    rintro e w2 ⟨g, rfl, hb2, ho2, hg2⟩
    have HE : Hid (EAt w w2 f ga gn g k (List.range k)) := Lib.hid ⟨mix_of H1.out hb2 ho2 hg2, List.length_range⟩
    clear hb2 ho2 hg2 H1 K0 R0
    go_wp2_with fail
    go_loopw [9] (fun i wr => ∃ (j : Nat) (F : List Nat), j ≤ l.length ∧ i = .int .i64 j ∧ Hid (EAt w wr f ga gn g k F)) (fun i _ => l.length - (intOf i).toNat)
    case atStart => exact ⟨0, _, by omega, rfl, HE⟩
    case round =>
      obtain ⟨j, F, hj, rfl, hE⟩ := hrel
      rename_i wr _
      by_cases hjl : j < l.length
      · have e1 : decide ((j : Int) < (l.length : Int)) = true := decide_eq_true (by omega)
        obtain ⟨b, off, rfl, hlt, hcell⟩ := Hh.out (by omega)
        have Hlt := Lib.hid hlt
        obtain ⟨ca, cb⟩ := hcell j hjl
        have CA := Lib.hid ca
        have CB := Lib.hid cb
        clear hcell ca cb
        generalize l[j] = pj at *
        obtain ⟨x, y⟩ := pj
        simp only at CA CB
        have ca := hE.out.m.pairs Hlt.out CA.out
        have cb := hE.out.m.pairs Hlt.out CB.out
        have hlF := hE.out.len
        have hlJ := jF_kk hlF x y
        have K1 := Lib.hid (fun w' (h : Mix w w' f ga gn F g F) => mix_join h x y)
        have K2 := Lib.hid (fun w' (h : Mix w w' f ga gn (jF F x y) g F) => mix_rjoin h x y)
        have K3 := Lib.hid (fun w' (h : Mix w w' f ga gn (jF F x y) g (jF F x y)) => mix_parts h)
        have K4 := Lib.hid (fun w' (h : Mix w w' f ga gn (jF F x y) g (jF F x y)) => mix_rparts h)
        have K5 := Lib.hid (fun w' (h : Mix w w' f ga gn (jF F x y) g (jF F x y)) => mix_find h x)
        have K6 := Lib.hid (fun w' (h : Mix w w' f ga gn (jF F x y) g (jF F x y)) => mix_rfind h x)
        have K7 := Lib.hid (fun w' (h : Mix w w' f ga gn (jF F x y) g (jF F x y)) => mix_members h y)
        have K8 := Lib.hid (fun w' A (h : Mix1 w w' f ga gn (jF F x y) g (jF F x y) A (mems (jF F x y) y)) => mix_rmembers h)
        have hml := mems_le (jF F x y) y
        have K9 := Lib.hid (fun w' A B c d (h : Mix2 w w' f ga gn (jF F x y) g (jF F x y) A B (mems (jF F x y) y)) => mix_same h c d (by have := hE.out.m.len; rw [hlJ, ← hlF] at hml; omega))
        rw [hlF] at K2
        rw [hlJ] at K4 K6 K8
        have HN : Hid (∀ w', Mix w w' f ga gn (jF F x y) g (jF F x y) → EAt w w' f ga gn g k (jF F x y)) := Lib.hid (fun w' h => ⟨h, hlJ⟩)
        have H0 := Lib.hid hE.out.m
        clear hlF hlJ hml hE hlt
        generalize mems (jF F x y) y = M at *
        generalize fd (jF F x y) x = z at *
        generalize roots (jF F x y) = p at *
        generalize jF F x y = F1 at *
        generalize jn F x y = q at *
        have d1 : (q != q) = false := by simp
        have d2 : (((p : Nat) : Int) != (p : Int)) = false := by simp
        have d3 : (z != z) = false := by simp
        go_wp2_with fail
        simp only [List.append_eq, List.cons_append, List.nil_append]
        go_region_held3 (fun w' => w'.cell? ⟨b, off + j * 2, none⟩ = some (.int .i64 x) ∧ w'.cell? ⟨b, off + j * 2 + 1, none⟩ = some (.int .i64 y))
          (first | exact ⟨ca, cb⟩ | exact ⟨h1.pairs Hlt.out CA.out, h1.pairs Hlt.out CB.out⟩ | exact ⟨h2.pairs Hlt.out CA.out, h2.pairs Hlt.out CB.out⟩ | exact ⟨h3.pairs Hlt.out CA.out, h3.pairs Hlt.out CB.out⟩ | exact ⟨h4.pairs Hlt.out CA.out, h4.pairs Hlt.out CB.out⟩ | exact ⟨h5.pairs Hlt.out CA.out, h5.pairs Hlt.out CB.out⟩ | exact ⟨h6.pairs Hlt.out CA.out, h6.pairs Hlt.out CB.out⟩ | exact ⟨h7.m.pairs Hlt.out CA.out, h7.m.pairs Hlt.out CB.out⟩ | exact ⟨h8.m.pairs Hlt.out CA.out, h8.m.pairs Hlt.out CB.out⟩ | exact ⟨h9.pairs Hlt.out CA.out, h9.pairs Hlt.out CB.out⟩ | go_keep)
          (first
            | (go_at_call 14; refine (K1.out _ H0.out.drew).mono ?_; rintro e v1 ⟨rfl, h1⟩; clear K1 ca cb)
            | (go_at_call 15; refine (K2.out _ h1).mono ?_; rintro e v2 ⟨rfl, h2⟩; clear K2 h1)
            | (go_at_call 16; refine (K3.out _ h2).mono ?_; rintro e v3 ⟨rfl, h3⟩; clear K3 h2)
            | (go_at_call 17; refine (K4.out _ h3).mono ?_; rintro e v4 ⟨rfl, h4⟩; clear K4 h3)
            | (go_at_call 18; refine (K5.out _ h4).mono ?_; rintro e v5 ⟨rfl, h5⟩; clear K5 h4)
            | (go_at_call 19; refine (K6.out _ h5).mono ?_; rintro e v6 ⟨rfl, h6⟩; clear K6 h5)
            | (go_at_call 21; refine (K7.out _ h6).mono ?_; rintro e v7 ⟨A7, c7, rfl, h7⟩; clear K7 h6)
            | (go_at_call 22; refine (K8.out _ _ h7).mono ?_; rintro e v8 ⟨A8, c8, rfl, h8⟩; clear K8 h7)
            | (go_at_call 20; refine (K9.out _ _ _ _ _ h8).mono ?_; rintro e v9 ⟨rfl, h9⟩; clear K9 h8))
        have H9 := Lib.hid (HN.out _ h9)
        clear h9
        go_wp2_with fail
        go_roundw
        case rel => exact ⟨j + 1, F1, by omega, by go_num, H9⟩
        case measure => simp [intOf]; omega
      · obtain rfl : j = l.length := by omega
        have e1 : decide ((l.length : Int) < (l.length : Int)) = false := decide_eq_false (by omega)
        have hlF := hE.out.len
        have K3 := Lib.hid (fun w' (h : Mix w w' f ga gn F g F) => mix_parts h)
        have K4 := Lib.hid (fun w' (h : Mix w w' f ga gn F g F) => mix_rparts h)
        have K5 := Lib.hid (fun w' (h : Mix w w' f ga gn F g F) => mix_find h ask)
        have K6 := Lib.hid (fun w' (h : Mix w w' f ga gn F g F) => mix_rfind h ask)
        have K7 := Lib.hid (fun w' (h : Mix w w' f ga gn F g F) => mix_members h ask)
        have K8 := Lib.hid (fun w' A (h : Mix1 w w' f ga gn F g F A (mems F ask)) => mix_rmembers h)
        have hml := mems_le F ask
        have K9 := Lib.hid (fun w' A B c d (h : Mix2 w w' f ga gn F g F A B (mems F ask)) => mix_same h c d (by have := hE.out.m.len; omega))
        rw [hlF] at K4 K6 K8
        have H0 := Lib.hid hE.out.m
        clear hlF hml hE
        generalize mems F ask = M at *
        generalize fd F ask = z at *
        generalize roots F = p at *
        have d2 : (((p : Nat) : Int) == (p : Int)) = true := by simp
        have d3 : (z == z) = true := by simp
        go_wp2_with fail
        refine (K5.out _ H0.out).mono ?_
        rintro e v5 ⟨rfl, h5⟩
        have H5 := Lib.hid h5
        clear h5 H0 K5
        go_wp2_with fail
        refine (K6.out _ H5.out).mono ?_
        rintro e v6 ⟨rfl, h6⟩
        have H6 := Lib.hid h6
        clear h6 H5 K6
        go_wp2_with fail
        refine (K7.out _ H6.out).mono ?_
        rintro e v7 ⟨A7, c7, rfl, h7⟩
        have H7 := Lib.hid h7
        clear h7 H6 K7
        go_wp2_with fail
        refine (K8.out _ _ H7.out).mono ?_
        rintro e v8 ⟨A8, c8, rfl, h8⟩
        have H8 := Lib.hid h8
        clear h8 H7 K8
        go_wp2_with fail
        refine (K9.out _ _ _ _ _ H8.out).mono ?_
        rintro e v9 ⟨rfl, h9⟩
        have H9 := Lib.hid h9
        clear h9 H8 K9
        go_wp2_with fail
        refine (K3.out _ H9.out).mono ?_
        rintro e v3 ⟨rfl, h3⟩
        have H3 := Lib.hid h3
        clear h3 H9 K3
        go_wp2_with fail
        refine (K4.out _ H3.out).mono ?_
        rintro e v4 ⟨rfl, h4⟩
        have H4 := Lib.hid h4
        clear h4 H3 K4
        go_wp2_with fail
        go_ret
        exact ⟨rfl, H4.out.on⟩
end Go.Proofs.Ytenohenkedofkaa.fo
