/-
  forest: in whatever order: the walk.
-/
import Derived.Test.YtenohenkedofkaaFo12
import Derived.Deep.RegionHeld3
namespace Go.Proofs.Ytenohenkedofkaa.fo
open Go.RowKit Go.Proofs.Ytenohenkedofkaa.mem

theorem rem_eq (n : Int) : wrap64 ((IntKind.u64.wrap n).tmod 60) = (rem60 n : Int) := by
  have h : 0 ≤ IntKind.u64.wrap n := by rw [IntKind.wrap_u64]; omega
  unfold rem60
  generalize IntKind.u64.wrap n = u at *
  rw [Int.tmod_eq_emod_of_nonneg h]
  unfold wrap64
  omega

theorem Duo.pairs {w wr : World} {f1 g1 n1 f2 g2 n2 : Nat} {F G : List Nat} (h : Duo w wr f1 g1 n1 F f2 g2 n2 G) {b o : Nat} {v : Value} (hb : b < w.heap.size) (hc : w.cell? ⟨b, o, none⟩ = some v) : wr.cell? ⟨b, o, none⟩ = some v := (h.on.cell (p := ⟨b, o, none⟩) hb).trans hc

structure JAt (w wr : World) (f1 g1 n1 f2 g2 n2 : Nat) (k : Nat) (l : List (Int × Int)) (j c : Nat) : Prop where
  duo : Duo w wr f1 g1 n1 (jall (List.range k) (l.take j)) f2 g2 n2 (jall (List.range k) ((mirror l).take j))
  cnt : c + roots (jall (List.range k) (l.take j)) = k

set_option maxRecDepth 100000 in
set_option maxHeartbeats 1600000 in
theorem law_order (n : Int) (A : Option Addr) (cap : Nat) (l : List (Int × Int)) (w : World) (h : Prs w A l) (hm : l.length ≤ 9223372036854775807) :
    Calls Try.prog 5 #[.int .i64 n, .slice A l.length cap] w (WorksPost w) := by
  have Hwk := Lib.hid (works_any w)
  unfold WorksPost at Hwk
  by_cases hl : l.length ≤ 100
  rotate_left
  · have hd1 : decide (100 < (l.length : Int)) = true := decide_eq_true (by omega)
    clear h
    go_enter Try.func5, Try.ntmps5
    go_wp2_with fail
    refine Hwk.out.mono ?_
    rintro e w1 ⟨rfl, b1⟩
    go_wp2_with fail
    go_ret
    exact ⟨rfl, b1⟩
  have hd1 : decide (100 < (l.length : Int)) = false := decide_eq_false (by omega)
  have Hh := Lib.hid h
  have hrem := Lib.hid (rem_eq n)
  have hk60 := rem60_lt n
  clear h
  go_enter Try.func5, Try.ntmps5
  go_wp2_with fail
  refine Hwk.out.mono ?_
  rintro e w1 ⟨rfl, b1⟩
  have B1 := Lib.hid b1
  clear b1 Hwk
  go_upto_region 5 with fail
  go_cut [0] (fun s0 wx => s0 = .int .i64 (rem60 n : Int) ∧ w1 = wx)
  case first =>
    go_wp2_with fail
    go_meet
    exact ⟨by rw [← hrem.out], rfl⟩
  obtain ⟨rfl, rfl⟩ := hcut
  clear hrem
  generalize rem60 n = k at *
  have K1 := Lib.hid (fun w1 => own_new w1 k k (Lib.hid (by unfold clamp; omega)))
  go_wp2_with fail
  refine (K1.out _).mono ?_
  rintro e w2 ⟨f1, g1, n1, rfl, h1⟩
  have H1 := Lib.hid h1
  clear h1
  go_wp2_with fail
  refine (K1.out _).mono ?_
  rintro e w3 ⟨f2, g2, n2, rfl, h2⟩
  have HD : Hid (JAt w w3 f1 g1 n1 f2 g2 n2 k l 0 0) := Lib.hid (by
    have hd := duo_of H1.out h2
    have hb := B1.out
    have hs := hb.size
    have o1 : Below w.heap.size w w3 := hb.trans (hd.on.mono hs)
    exact ⟨⟨⟨hd.a.ff, hd.a.len, o1, by have := hd.a.bf; omega, by have := hd.a.ba; omega, by have := hd.a.bn; omega⟩, ⟨hd.b.ff, hd.b.len, o1, by have := hd.b.bf; omega, by have := hd.b.ba; omega, by have := hd.b.bn; omega⟩, hd.d1, hd.d2, hd.d3⟩, by show 0 + roots (jall (List.range k) (l.take 0)) = k; rw [List.take_zero]; show 0 + roots (List.range k) = k; rw [roots_new]; omega⟩)
  clear h2 H1 K1
  go_wp2_with fail
  go_loopw [7, 8] (fun s i wr => ∃ (j c : Nat), j ≤ l.length ∧ i = .int .i64 j ∧ s = .int .i64 c ∧ c ≤ 60 ∧ Hid (JAt w wr f1 g1 n1 f2 g2 n2 k l j c)) (fun _ i _ => l.length - (intOf i).toNat)
  case atStart => exact ⟨0, 0, by omega, rfl, rfl, by omega, HD⟩
  case round =>
    obtain ⟨j, c, hj, rfl, rfl, hc, hJ⟩ := hrel
    rename_i wr _
    by_cases hjl : j < l.length
    · have e1 : decide ((j : Int) < (l.length : Int)) = true := decide_eq_true (by omega)
      obtain ⟨b, off, rfl, hlt, hcell⟩ := Hh.out (by omega)
      have Hlt := Lib.hid hlt
      obtain ⟨ca, cb⟩ := hcell j hjl
      obtain ⟨ma, mb⟩ := hcell (l.length - 1 - j) (by omega)
      have CA := Lib.hid ca
      have CB := Lib.hid cb
      have MA := Lib.hid ma
      have MB := Lib.hid mb
      have la := Lib.hid (take_snoc l j hjl)
      clear hcell ca cb ma mb
      generalize l[j] = pj at *
      obtain ⟨x, y⟩ := pj
      simp only at CA CB la
      have ca := hJ.out.duo.pairs Hlt.out CA.out
      have cb := hJ.out.duo.pairs Hlt.out CB.out
      have KJ := Lib.hid (fun w' (h : Duo w w' f1 g1 n1 (jall (List.range k) (l.take j)) f2 g2 n2 (jall (List.range k) ((mirror l).take j))) => duo_join h x y)
      obtain ⟨m, hm⟩ : ∃ m, Hid (m = l.length - 1 - j) := ⟨_, Lib.hid rfl⟩
      have hml : m < l.length := by have := hm.out; omega
      have hmi : Hid ((l.length : Int) - 1 - j = (m : Int)) := Lib.hid (by have := hm.out; omega)
      have MA : Hid (w.cell? ⟨b, off + m * 2, none⟩ = some (.int .i64 (l[m]'hml).1)) := Lib.hid (by have := MA.out; simp only [← hm.out] at this; exact this)
      have MB : Hid (w.cell? ⟨b, off + m * 2 + 1, none⟩ = some (.int .i64 (l[m]'hml).2)) := Lib.hid (by have := MB.out; simp only [← hm.out] at this; exact this)
      have lb : Hid ((mirror l).take (j + 1) = (mirror l).take j ++ [((l[m]'hml).2, (l[m]'hml).1)]) := Lib.hid (by
        rw [take_snoc (mirror l) j (by rw [mirror_len]; exact hjl), mirror_get l j hjl]
        simp only [← hm.out])
      generalize l[m] = pm at *
      obtain ⟨u, v⟩ := pm
      simp only at MA MB lb
      have hrt := Lib.hid (hJ.out.duo.a.ff.roots x y)
      have hcnt := Lib.hid hJ.out.cnt
      have KM := Lib.hid (fun w' (h : Duo w w' f1 g1 n1 (jF (jall (List.range k) (l.take j)) x y) f2 g2 n2 (jall (List.range k) ((mirror l).take j))) => duo_join h.swap v u)
      have hgo : Hid (∀ w' c', Duo w w' f2 g2 n2 (jF (jall (List.range k) ((mirror l).take j)) v u) f1 g1 n1 (jF (jall (List.range k) (l.take j)) x y) → c' + roots (jF (jall (List.range k) (l.take j)) x y) = k → JAt w w' f1 g1 n1 f2 g2 n2 k l (j + 1) c') := Lib.hid (fun w' c' h hc => by
        have h := h.swap
        rw [← jall_snoc _ _ (x, y), ← la.out, ← jall_snoc _ _ (v, u), ← lb.out] at h
        rw [← jall_snoc _ _ (x, y), ← la.out] at hc
        exact ⟨h, hc⟩)
      clear hlt la lb
      rcases hjn : jn (jall (List.range k) (l.take j)) x y with _ | _
      · rw [hjn] at KJ hrt
        simp only [Bool.false_eq_true, if_false, Nat.add_zero] at hrt
        clear hjn
        go_wp2_with fail
        go_region_held3 (fun w' => w'.cell? ⟨b, off + j * 2, none⟩ = some (.int .i64 x) ∧ w'.cell? ⟨b, off + j * 2 + 1, none⟩ = some (.int .i64 y))
          (first | exact ⟨h4.pairs Hlt.out CA.out, h4.pairs Hlt.out CB.out⟩ | exact ⟨ca, cb⟩ | go_keep)
          ((go_at_call 14; refine (KJ.out _ hJ.out.duo.drew).mono ?_; rintro e w4 ⟨rfl, h4⟩))
        have H4 := Lib.hid h4
        have ca := h4.pairs Hlt.out MA.out
        have cb := h4.pairs Hlt.out MB.out
        clear h4
        go_upto_region 15 with fail
        go_cut [9] (fun s9 wx => s9 = .int .i64 (m : Int) ∧ w4 = wx)
        case first =>
          go_wp2_with fail
          go_meet
          exact ⟨by rw [← hmi.out], rfl⟩
        obtain ⟨rfl, rfl⟩ := hcut
        go_wp2_with fail
        go_region_held3 (fun w' => w'.cell? ⟨b, off + m * 2, none⟩ = some (.int .i64 u) ∧ w'.cell? ⟨b, off + m * 2 + 1, none⟩ = some (.int .i64 v))
          (first | exact ⟨h5.swap.pairs Hlt.out MA.out, h5.swap.pairs Hlt.out MB.out⟩ | exact ⟨ca, cb⟩ | go_keep)
          ((go_at_call 14; refine (KM.out _ H4.out.drew).mono ?_; rintro e w5 ⟨rfl, h5⟩))
        have H5 := Lib.hid (hgo.out _ c h5 (by rw [hrt.out]; exact hcnt.out))
        clear h5
        go_wp2_with fail
        go_roundw
        case rel => exact ⟨j + 1, c, by omega, by go_num, rfl, by omega, H5⟩
        case measure => simp [intOf]; omega
      · rw [hjn] at KJ hrt
        simp only [if_true] at hrt
        clear hjn
        go_wp2_with fail
        go_region_held3 (fun w' => w'.cell? ⟨b, off + j * 2, none⟩ = some (.int .i64 x) ∧ w'.cell? ⟨b, off + j * 2 + 1, none⟩ = some (.int .i64 y))
          (first | exact ⟨h4.pairs Hlt.out CA.out, h4.pairs Hlt.out CB.out⟩ | exact ⟨ca, cb⟩ | go_keep)
          ((go_at_call 14; refine (KJ.out _ hJ.out.duo.drew).mono ?_; rintro e w4 ⟨rfl, h4⟩))
        have H4 := Lib.hid h4
        have ca := h4.pairs Hlt.out MA.out
        have cb := h4.pairs Hlt.out MB.out
        clear h4
        go_upto_region 15 with fail
        go_cut [9] (fun s9 wx => s9 = .int .i64 (m : Int) ∧ w4 = wx)
        case first =>
          go_wp2_with fail
          go_meet
          exact ⟨by rw [← hmi.out], rfl⟩
        obtain ⟨rfl, rfl⟩ := hcut
        go_wp2_with fail
        go_region_held3 (fun w' => w'.cell? ⟨b, off + m * 2, none⟩ = some (.int .i64 u) ∧ w'.cell? ⟨b, off + m * 2 + 1, none⟩ = some (.int .i64 v))
          (first | exact ⟨h5.swap.pairs Hlt.out MA.out, h5.swap.pairs Hlt.out MB.out⟩ | exact ⟨ca, cb⟩ | go_keep)
          ((go_at_call 14; refine (KM.out _ H4.out.drew).mono ?_; rintro e w5 ⟨rfl, h5⟩))
        have H5 := Lib.hid (hgo.out _ (c + 1) h5 (by have := hrt.out; have := hcnt.out; omega))
        clear h5
        go_wp2_with fail
        go_roundw
        case rel => exact ⟨j + 1, c + 1, by omega, by go_num, by go_num, by have := hcnt.out; have := hrt.out; omega, H5⟩
        case measure => simp [intOf]; omega
    · obtain rfl : j = l.length := by omega
      have e1 : decide ((l.length : Int) < (l.length : Int)) = false := decide_eq_false (by omega)
      have hJ2 := hJ.out
      obtain ⟨hd, hcn⟩ := hJ2
      have e2 : (mirror l).take l.length = mirror l := List.take_of_length_le (by rw [mirror_len]; exact Nat.le_refl _)
      rw [List.take_length] at hd hcn
      rw [e2] at hd
      have hl1 : (jall (List.range k) l).length = k := by rw [jall_len, List.length_range]
      have hl2 : (jall (List.range k) (mirror l)).length = k := by rw [jall_len, List.length_range]
      have hmir := jall_mirror k l (fun i hi => (hd.a.ff.le i (by omega)).1) (fun i hi => (hd.b.ff.le i (by omega)).1)
      rw [hmir] at hd
      have HF : Hid (∀ i, i < k → (jall (List.range k) l).getD i 0 ≤ i ∧ (jall (List.range k) l).getD ((jall (List.range k) l).getD i 0) 0 = (jall (List.range k) l).getD i 0) := Lib.hid (fun i hi => hd.a.ff.le i (by omega))
      have HL := Lib.hid hl1
      generalize jall (List.range k) l = F at *
      have HD2 := Lib.hid hd
      have HC := Lib.hid hcn
      clear hd hcn e2 hl1 hl2 hmir hJ
      go_wp2_with fail
      go_loopw [10] (fun i wq => ∃ i0 : Nat, i0 ≤ k ∧ i = .int .i64 i0 ∧ Hid (Duo w wq f1 g1 n1 F f2 g2 n2 F)) (fun i _ => k - (intOf i).toNat)
      case atStart => exact ⟨0, by omega, rfl, HD2⟩
      case round =>
        obtain ⟨i, hi, rfl, hq⟩ := hrel
        rename_i wq _
        by_cases hik : i < k
        · have e3 : decide ((i : Int) < (k : Int)) = true := decide_eq_true (by omega)
          obtain ⟨hz1, hz2⟩ := HF.out i hik
          have KA := Lib.hid (fun w' (h : Duo w w' f1 g1 n1 F f2 g2 n2 F) => duo_find h i)
          have KB := Lib.hid (fun w' (h : Duo w w' f1 g1 n1 F f2 g2 n2 F) => duo_find h.swap i)
          rw [show fd F (i : Int) = ((F.getD i 0 : Nat) : Int) from by unfold fd inB; rw [if_pos (by have := HL.out; simp; omega)]; rfl] at KA KB
          have KZ := Lib.hid (fun w' (h : Duo w w' f1 g1 n1 F f2 g2 n2 F) => duo_find h ((F.getD i 0 : Nat) : Int))
          rw [show fd F ((F.getD i 0 : Nat) : Int) = ((F.getD i 0 : Nat) : Int) from by unfold fd inB; rw [if_pos (by have := HL.out; simp only [Bool.and_eq_true, decide_eq_true_eq]; omega)]; rw [Int.toNat_natCast, hz2]] at KZ
          clear hz2
          generalize F.getD i 0 = z at *
          have e4 : (((z : Nat) : Int) != (z : Int)) = false := by simp
          have e5 : decide ((i : Int) < (z : Int)) = false := decide_eq_false (by omega)
          go_wp2_with fail
          refine (KA.out _ hq.out).mono ?_
          rintro e v1 ⟨rfl, d1⟩
          have D1 := Lib.hid d1
          clear d1 hq
          go_wp2_with fail
          refine (KB.out _ D1.out).mono ?_
          rintro e v2 ⟨rfl, d2⟩
          have D2 := Lib.hid d2.swap
          clear d2 D1 KB
          go_wp2_with fail
          refine (KA.out _ D2.out).mono ?_
          rintro e v3 ⟨rfl, d3⟩
          have D3 := Lib.hid d3
          clear d3 D2
          go_wp2_with fail
          refine (KA.out _ D3.out).mono ?_
          rintro e v4 ⟨rfl, d4⟩
          have D4 := Lib.hid d4
          clear d4 D3
          go_wp2_with fail
          refine (KZ.out _ D4.out).mono ?_
          rintro e v5 ⟨rfl, d5⟩
          have D5 := Lib.hid d5
          clear d5 D4 KZ
          go_wp2_with fail
          refine (KA.out _ D5.out).mono ?_
          rintro e v6 ⟨rfl, d6⟩
          have D6 := Lib.hid d6
          clear d6 D5 KA
          go_wp2_with fail
          go_roundw
          case rel => exact ⟨i + 1, by omega, by go_num, D6⟩
          case measure => simp [intOf]; omega
        · obtain rfl : i = k := by omega
          have e3 : decide ((i : Int) < (i : Int)) = false := decide_eq_false (by omega)
          have PA := Lib.hid (fun w' (h : Duo w w' f1 g1 n1 F f2 g2 n2 F) => duo_parts h)
          have PB := Lib.hid (fun w' (h : Duo w w' f1 g1 n1 F f2 g2 n2 F) => duo_parts h.swap)
          have hle : roots F ≤ i := by have := HC.out; omega
          have hsub : Hid ((i : Int) - (c : Int) = (roots F : Int)) := Lib.hid (by have := HC.out; omega)
          have hsub2 : ((roots F : Int) == (i : Int) - (c : Int)) = true := by rw [hsub.out]; simp
          generalize roots F = r at *
          have e4 : (((r : Nat) : Int) == (r : Int)) = true := by simp
          go_wp2_with fail
          refine (PA.out _ hq.out).mono ?_
          rintro e v1 ⟨rfl, d1⟩
          have D1 := Lib.hid d1
          clear d1 hq
          go_wp2_with fail
          refine (PB.out _ D1.out).mono ?_
          rintro e v2 ⟨rfl, d2⟩
          have D2 := Lib.hid d2.swap
          clear d2 D1 PB
          go_wp2_with fail
          refine (PA.out _ D2.out).mono ?_
          rintro e v3 ⟨rfl, d3⟩
          have D3 := Lib.hid d3
          clear d3 D2
          go_wp2_with fail
          go_ret
          exact ⟨rfl, D3.out.on⟩
end Go.Proofs.Ytenohenkedofkaa.fo
