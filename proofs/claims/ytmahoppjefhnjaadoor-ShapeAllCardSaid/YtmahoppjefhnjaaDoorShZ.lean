/-
  Shape: the law of cells without a gap.
-/
import Derived.Test.YtmahoppjefhnjaaDoorShY
namespace Go.Proofs.YtmahoppjefhnjaaDoor.sh
open Go.RowKit Go.Sort Go.Proofs.YtmahoppjefhnjaaDoor.mem

theorem info_int2 : (Tryd.prog.info? 3).map (fun i => (i.zero, i.size, i.bytes)) = some (some (.int .i64 0), 1, 8) := by kernel_rfl

set_option maxRecDepth 100000 in
set_option maxHeartbeats 1000000 in
theorem all_great (w : World) (n q : Nat) (A : Option Addr) (cap : Nat) (ss : List St) (hss : SsAt w n A ss) (hm : ss.length ≤ 9223372036854775807) (T : Ty) (v0 v1 v2 v3 : Value) (ht : TyAt w q T v0 v1 v2 v3) (htab : TabS w) (hg : greatB ss T = true) :
    Calls Tryd.prog 6 #[.slice A ss.length cap, .agg #[v0, v1, v2, v3]] w (WkPost w) := by
  have KG := Lib.hid (fun wx (h : WA w v0 v1 v2 v3 wx) => great_any wx n q A cap ss (hss.kept h.on) hm T v0 v1 v2 v3 (ht.kept h.on))
  have KK := Lib.hid (fun wx (h : WA w v0 v1 v2 v3 wx) => works_any wx (tabS_below htab h.on))
  have W1 := Lib.hid (WA.new w v0 v1 v2 v3)
  rw [hg] at KG
  unfold WkPost at KK
  unfold GrPost at KG
  cases q with
  | zero => exact ht.elim
  | succ q =>
  obtain ⟨rfl, _, rfl, _, rfl, _, A2, cap2, rfl, _, _, _⟩ := ht
  clear hss htab hg
  go_enter Tryd.func6, Tryd.ntmps6
  go_wp2_with fail
  refine (KK.out _ W1.out).mono ?_
  rintro e w2 ⟨rfl, b2⟩
  have W2 := Lib.hid (W1.out.kept b2)
  clear b2 W1
  obtain ⟨c0, c1, c2, c3⟩ := W2.out.cells
  go_wp2_with fail
  refine (KG.out _ W2.out).mono ?_
  rintro e w3 ⟨rfl, b3⟩
  have W3 := Lib.hid (W2.out.kept b3)
  clear b3 c0 c1 c2 c3
  go_wp2_with fail
  go_ret
  exact ⟨rfl, W3.out.on⟩

set_option maxRecDepth 100000 in
set_option maxHeartbeats 1000000 in
theorem all_wrong (w : World) (n q : Nat) (A : Option Addr) (cap : Nat) (ss : List St) (hss : SsAt w n A ss) (hm : ss.length ≤ 9223372036854775807) (T : Ty) (v0 v1 v2 v3 : Value) (ht : TyAt w q T v0 v1 v2 v3) (hq : q ≤ n) (htab : TabS w) (hg : greatB ss T = false) (hd : checkC ss T ≠ 0) :
    Calls Tryd.prog 6 #[.slice A ss.length cap, .agg #[v0, v1, v2, v3]] w (WkPost w) := by
  obtain ⟨_, hdT, few, hfd⟩ := great_ok hg
  have KG := Lib.hid (fun wx (h : WA w v0 v1 v2 v3 wx) => great_any wx n q A cap ss (hss.kept h.on) hm T v0 v1 v2 v3 (ht.kept h.on))
  have KK := Lib.hid (fun wx (h : WA w v0 v1 v2 v3 wx) => works_any wx (tabS_below htab h.on))
  have AR := Lib.hid (fun wx (h : WA w v0 v1 v2 v3 wx) => (⟨hss.kept h.on, hm, few, ht.kept h.on, hq⟩ : Arg wx n q A ss T v0 v1 v2 v3))
  have KC := Lib.hid (fun wx (h : WA w v0 v1 v2 v3 wx) => cells_any wx n q A cap ss hfd T v0 v1 v2 v3 (AR.out wx h) ⟨8, by omega, hdT⟩ (tabS_below htab h.on))
  have KS := Lib.hid (fun wx (h : WA w v0 v1 v2 v3 wx) => size_any wx n q A cap ss T v0 v1 v2 v3 (AR.out wx h))
  have W1 := Lib.hid (WA.new w v0 v1 v2 v3)
  have e1 : cellsC ss T = ([], []) := by unfold cellsC; rw [if_pos hd]
  have e2 : sizeC ss T = 0 := by unfold sizeC; rw [if_pos hd]
  rw [hg] at KG
  unfold WkPost at KK
  unfold GrPost at KG
  unfold ClPost at KC
  unfold SzPost at KS
  rw [e1] at KC
  rw [e2] at KS
  have x1 : (checkC ss T != 0) = true := by simpa using hd
  clear AR few hfd hdT hd e1 e2
  generalize checkC ss T = d at *
  cases q with
  | zero => exact ht.elim
  | succ q =>
  obtain ⟨rfl, _, rfl, _, rfl, _, A2, cap2, rfl, _, _, _⟩ := ht
  clear hss htab hg
  go_enter Tryd.func6, Tryd.ntmps6
  go_wp2_with fail
  refine (KK.out _ W1.out).mono ?_
  rintro e w2 ⟨rfl, b2⟩
  have W2 := Lib.hid (W1.out.kept b2)
  clear b2 W1
  obtain ⟨c0, c1, c2, c3⟩ := W2.out.cells
  go_wp2_with fail
  refine (KG.out _ W2.out).mono ?_
  rintro e w3 ⟨rfl, b3⟩
  have W3 := Lib.hid (W2.out.kept b3)
  clear b3 c0 c1 c2 c3
  obtain ⟨c0, c1, c2, c3⟩ := W3.out.cells
  go_wp2_with fail
  refine (KC.out _ W3.out).mono ?_
  rintro e w4 ⟨M, mc, rfl, b4, _⟩
  have W4 := Lib.hid (W3.out.kept b4)
  clear b4 c0 c1 c2 c3
  obtain ⟨c0, c1, c2, c3⟩ := W4.out.cells
  go_wp2_with fail
  refine (KS.out _ W4.out).mono ?_
  rintro e w5 ⟨rfl, b5⟩
  have W5 := Lib.hid (W4.out.kept b5)
  clear b5 c0 c1 c2 c3
  go_wp2_with fail
  go_ret
  exact ⟨rfl, W5.out.on⟩

theorem pf_cell {ss : List St} {T : Ty} {N P : Nat} {F : Nat → Nat} {B : List UInt8 → Int → Bool → Bool} {put : Pk → Pk} {ks : List UInt8} {ms : List (Nat × List UInt8)} (h : Fi N P F (downC ss 4 T) B put ks ms) (hc : checkC ss T = 0) (hs : sizeC ss T = P) {p : Nat} (hp : p < P) :
    placeC ss T p = 0 ∧ ∃ d : Nat, cellC ss T p = d ∧ d < N ∧ F d ≤ p ∧ ∀ c, c < N → F c = p → c = d := by
  have h0 : placeC ss T p = 0 := by
    unfold placeC
    rw [if_neg (by simp [hc]), if_neg (by rw [hs]; omega)]
  obtain ⟨d, h1, h2, h3⟩ := h.low p hp
  refine ⟨h0, d, ?_, h1, h2, fun c hc hF => ?_⟩
  · unfold cellC
    rw [if_neg (by simp [h0]), h3 0]
    omega
  · have h4 := h.at_ c hc 0
    rw [hF, h3 0] at h4
    omega

theorem pf_begins {ss : List St} {T : Ty} {N P : Nat} {F : Nat → Nat} {D : Int → Int → Int} {put : Pk → Pk} {ks : List UInt8} {ms : List (Nat × List UInt8)} (h : Fi N P F D (fun tag => begC ss tag 4 T) put ks ms) (hc : checkC ss T = 0) (hs : sizeC ss T = P) {m : Nat × List UInt8} (hm : m ∈ ms) :
    m.1 < N ∧ beginsC ss T (F m.1 : Nat) m.2 = true := by
  obtain ⟨h1, h2⟩ := h.mks m hm
  have hl := h.lt m.1 h1
  have h0 : placeC ss T (F m.1 : Nat) = 0 := by
    unfold placeC
    rw [if_neg (by simp [hc]), if_neg (by rw [hs]; omega)]
  refine ⟨h1, ?_⟩
  unfold beginsC
  rw [if_neg (by simp [h0])]
  exact h2 false

set_option maxRecDepth 100000 in
set_option maxHeartbeats 2000000 in
theorem all_right (w : World) (n q : Nat) (A : Option Addr) (cap : Nat) (ss : List St) (hss : SsAt w n A ss) (hm : ss.length ≤ 9223372036854775807) (T : Ty) (v0 v1 v2 v3 : Value) (ht : TyAt w q T v0 v1 v2 v3) (hq : q ≤ n) (htab : TabS w) (hg : greatB ss T = false) (hd : checkC ss T = 0) :
    Calls Tryd.prog 6 #[.slice A ss.length cap, .agg #[v0, v1, v2, v3]] w (WkPost w) := by
  obtain ⟨_, hdT, few, hfd⟩ := great_ok hg
  have KG := Lib.hid (fun wx (h : WA w v0 v1 v2 v3 wx) => great_any wx n q A cap ss (hss.kept h.on) hm T v0 v1 v2 v3 (ht.kept h.on))
  have KK := Lib.hid (fun wx (h : WA w v0 v1 v2 v3 wx) => works_any wx (tabS_below htab h.on))
  have AR := Lib.hid (fun wx (h : WA w v0 v1 v2 v3 wx) => (⟨hss.kept h.on, hm, few, ht.kept h.on, hq⟩ : Arg wx n q A ss T v0 v1 v2 v3))
  have KC := Lib.hid (fun wx (h : WA w v0 v1 v2 v3 wx) => cells_any wx n q A cap ss hfd T v0 v1 v2 v3 (AR.out wx h) ⟨8, by omega, hdT⟩ (tabS_below htab h.on))
  have KS := Lib.hid (fun wx (h : WA w v0 v1 v2 v3 wx) => size_any wx n q A cap ss T v0 v1 v2 v3 (AR.out wx h))
  have KP := Lib.hid (fun wx (p : Int) (h : WA w v0 v1 v2 v3 wx) => cell_any wx n q A cap ss T v0 v1 v2 v3 (AR.out wx h) p)
  have KB := Lib.hid (fun wx (p : Int) (tag : List UInt8) (h : WA w v0 v1 v2 v3 wx) => begins_any wx n q A cap ss hfd T v0 v1 v2 v3 (AR.out wx h) p tag ⟨8, by omega, hdT⟩ (tabS_below htab h.on))
  have W1 := Lib.hid (WA.new w v0 v1 v2 v3)
  obtain ⟨hfa, l1, l2⟩ := check_ok hd
  obtain ⟨F, ks, mr, hfi⟩ := fi_any ss 4 T hfa
  obtain ⟨P, hP⟩ : ∃ P, (extC ss 4 T).2 = P := ⟨_, rfl⟩
  have hsz : sizeC ss T = P := by unfold sizeC; rw [if_neg (by simp [hd]), hP]
  rw [hP] at hfi l2
  have hN : (extC ss 4 T).1 = ks.length := hfi.klen.symm
  rw [hN] at hfi l1
  obtain ⟨ms, hms⟩ : ∃ ms, mr.map (fun m => (((m.1 : Nat) : Int), m.2)) = ms := ⟨_, rfl⟩
  have e1 : cellsC ss T = (ks, ms) := by
    unfold cellsC
    rw [if_neg (by simp [hd]), hfi.put, ← hms]
    simp
  have PC := Lib.hid (fun p (hp : p < P) => pf_cell hfi hd hsz hp)
  have PB : Hid (∀ i (hi : i < ms.length), ∃ r : Nat, ms[i].1 = (r : Int) ∧ r < ks.length ∧ beginsC ss T (F r : Nat) ms[i].2 = true) := Lib.hid (fun i hi => by
    subst hms
    have hi' : i < mr.length := by simpa using hi
    obtain ⟨h1, h2⟩ := pf_begins hfi hd hsz (List.getElem_mem hi')
    exact ⟨mr[i].1, by simp, h1, by simpa using h2⟩)
  have hmono := Lib.hid hfi.mono
  have hlt := Lib.hid hfi.lt
  rw [hg] at KG
  unfold WkPost at KK
  unfold GrPost at KG
  unfold ClPost at KC
  unfold SzPost at KS
  unfold CePost at KP
  unfold BgPost at KB
  rw [e1, hd] at KC
  rw [hsz, hd] at KS
  have hmk := run_make_row' (P := Tryd.prog) 27 3 (.int .i64 0) 8 Tryd.underlying27 info_int2 rfl .i64 .i64 ks.length (by omega) (by omega)
  clear AR few hfd hdT hd e1 hsz hN hP hms hfa hfi
  cases q with
  | zero => exact ht.elim
  | succ q =>
  obtain ⟨rfl, _, rfl, _, rfl, _, A2, cap2, rfl, _, _, _⟩ := ht
  clear hss htab hg
  go_enter Tryd.func6, Tryd.ntmps6
  go_wp2_with fail
  refine (KK.out _ W1.out).mono ?_
  rintro e w2 ⟨rfl, b2⟩
  have W2 := Lib.hid (W1.out.kept b2)
  clear b2 W1
  obtain ⟨c0, c1, c2, c3⟩ := W2.out.cells
  go_wp2_with fail
  refine (KG.out _ W2.out).mono ?_
  rintro e w3 ⟨rfl, b3⟩
  have W3 := Lib.hid (W2.out.kept b3)
  clear b3 c0 c1 c2 c3 KG KK
  obtain ⟨c0, c1, c2, c3⟩ := W3.out.cells
  go_wp2_with fail
  refine (KC.out _ W3.out).mono ?_
  rintro e w4 ⟨M, mc, rfl, b4, hs4⟩
  have W4 := Lib.hid (W3.out.kept b4)
  have S4 := Lib.hid hs4
  clear b4 hs4 c0 c1 c2 c3 KC
  obtain ⟨c0, c1, c2, c3⟩ := W4.out.cells
  go_wp2_with fail
  refine (KS.out _ W4.out).mono ?_
  rintro e w5 ⟨rfl, b5⟩
  have W5 := Lib.hid (W4.out.kept b5)
  have S5 := Lib.hid (S4.out.kept (Fr.of_below b5 []) (by simp))
  clear b5 c0 c1 c2 c3 KS W4 S4 W2 W3
  have L0 : Hid (LS w (.int .i64 T.kind) (.string T.name) (.int .i64 T.num) (.slice A2 T.of.length cap2) M mc ms w5.heap.size ks.length 0 F (w5.alloc (.cells (madeCells #[.int .i64 0] ks.length) 3))) := Lib.hid (LS.new W5.out S5.out)
  have hml : ms.length ≤ 9223372036854775807 := by
    have h1 := S5.out.le
    have h2 := S5.out.max
    unfold maxLen at h2
    omega
  clear W5 S5
  go_wp2_with fail
  go_loopw [10, 12] (fun nx i wr => ∃ p next : Nat, p ≤ P ∧ i = .int .i64 p ∧ nx = .int .i64 next ∧ next ≤ 64 ∧ Hid (Nx F ks.length next p) ∧ Hid (LS w (.int .i64 T.kind) (.string T.name) (.int .i64 T.num) (.slice A2 T.of.length cap2) M mc ms w5.heap.size ks.length next F wr)) (fun _ i _ => P - (intOf i).toNat)
  case atStart => exact ⟨0, 0, by omega, rfl, rfl, by omega, Lib.hid ⟨by omega, fun c hc => by omega, fun c _ _ => by omega⟩, L0⟩
  case round =>
    obtain ⟨p, next, hp, rfl, rfl, hn64, hnx, hls⟩ := hrel
    by_cases hpl : p < P
    · have e1 : decide ((p : Int) < (P : Int)) = true := decide_eq_true (by omega)
      have e2 : decide ((p : Int) < 2000) = true := decide_eq_true (by omega)
      obtain ⟨hpc, d, hce, hdN, hFd, hu⟩ := PC.out p hpl
      have KPp := KP.out _ (p : Int) hls.out.wa
      rw [hce, hpc] at KPp
      have KPp := Lib.hid KPp
      obtain ⟨c0, c1, c2, c3⟩ := hls.out.wa.cells
      have st := nx_step hnx.out hmono.out hdN hFd hu
      have f1 : decide ((d : Int) < 0) = false := decide_eq_false (by omega)
      have f3 : decide ((ks.length : Int) ≤ (d : Int)) = false := decide_eq_false (by omega)
      have HK := Lib.hid (fun wy hb => hls.out.kept (wy := wy) hb)
      clear hpc hce hFd hu L0
      rcases st with ⟨rfl, hFn, hnN, hx⟩ | ⟨hdn, hx⟩
      · have HX := Lib.hid hx
        have f2 : decide ((d : Int) < (d : Int)) = false := decide_eq_false (by omega)
        have HFn := Lib.hid hFn
        clear hx hFn hnx
        go_wp2_with fail
        refine KPp.out.mono ?_
        rintro e w6 ⟨rfl, b6⟩
        have L6 := Lib.hid (HK.out _ b6)
        obtain ⟨u, hu6⟩ := L6.out.fa.some_ hdN
        have hf6 := L6.out.fa.free d
        have L7 := Lib.hid (L6.out.put hdN)
        rw [HFn.out] at L7
        clear b6 c0 c1 c2 c3 HK KPp
        go_wp2_with fail
        go_roundw
        case rel => exact ⟨p + 1, d + 1, by omega, by go_num, by go_num, by omega, HX, L7⟩
        case measure => simp [intOf]; omega
      · have HX := Lib.hid hx
        have f2 : decide ((next : Int) < (d : Int)) = false := decide_eq_false (by omega)
        have f4 : ((d : Int) == (next : Int)) = false := by simp; omega
        clear hx hnx
        go_wp2_with fail
        refine KPp.out.mono ?_
        rintro e w6 ⟨rfl, b6⟩
        have L6 := Lib.hid (HK.out _ b6)
        clear b6 c0 c1 c2 c3 HK KPp
        go_wp2_with fail
        go_roundw
        case rel => exact ⟨p + 1, next, by omega, by go_num, rfl, hn64, HX, L6⟩
        case measure => simp [intOf]; omega
    · obtain rfl : p = P := by omega
      have e1 : decide ((p : Int) < (p : Int)) = false := decide_eq_false (by omega)
      obtain rfl := nx_end hnx.out hlt.out
      clear hnx L0 KP PC
      go_wp2_with fail
      go_loopw [15] (fun i wr => ∃ i' : Nat, i' ≤ ms.length ∧ i = .int .i64 i' ∧ Hid (LS w (.int .i64 T.kind) (.string T.name) (.int .i64 T.num) (.slice A2 T.of.length cap2) M mc ms w5.heap.size ks.length ks.length F wr)) (fun i _ => ms.length - (intOf i).toNat)
      case atStart => exact ⟨0, by omega, rfl, hls⟩
      case round =>
        obtain ⟨i, hi, rfl, hl2⟩ := hrel
        by_cases hil : i < ms.length
        · have g1 : decide ((i : Int) < (ms.length : Int)) = true := decide_eq_true (by omega)
          obtain ⟨r, hr, hrN, hB⟩ := PB.out i hil
          have HD := Lib.hid (hl2.out.kept (Below.refl _ _).drew)
          obtain ⟨mb, mo, hM, m0, m1⟩ := HD.out.mark hil
          have KBi := fun wx h => KB.out wx (F r : Nat) ms[i].2 h
          rw [hB] at KBi
          rw [hr] at m0
          have KBi := Lib.hid KBi
          have g2 : decide ((r : Int) < 0) = false := decide_eq_false (by omega)
          have g3 : decide ((ks.length : Int) ≤ (r : Int)) = false := decide_eq_false (by omega)
          have hF := HD.out.fa.at_ hrN
          have SK := Lib.hid (fun w' hb => And.intro (HD.out.kept (wy := w') hb).wa.cells (And.intro ((hb.cell (p := ⟨mb, mo + i * 2, none⟩) (cell_lt m0)).trans m0) (And.intro ((hb.cell (p := ⟨mb, mo + i * 2 + 1, none⟩) (cell_lt m1)).trans m1) ((hb.cell (p := ⟨w5.heap.size, r, none⟩) (cell_lt hF)).trans hF))))
          have HK := Lib.hid (fun wy hb => HD.out.kept (wy := wy) hb)
          obtain ⟨c0, c1, c2, c3⟩ := HD.out.wa.cells
          have ri0 : (0 : Int) ≤ (r : Int) := by omega
          have ri1 : (r : Int) < (ks.length : Int) := by omega
          have ii1 : (i : Int) < (ms.length : Int) := by omega
          clear hB hr PB
          generalize ms[i].2 = tg at *
          subst hM
          go_wp2_with fail
          refine wp_region_held_drew (S := (fun w' => w'.cell? ⟨w.heap.size, 0, none⟩ = some (.int .i64 T.kind) ∧ w'.cell? ⟨w.heap.size, 1, none⟩ = some (.string T.name) ∧ w'.cell? ⟨w.heap.size, 2, none⟩ = some (.int .i64 T.num) ∧ w'.cell? ⟨w.heap.size, 3, none⟩ = some (.slice A2 T.of.length cap2) ∧ w'.cell? ⟨mb, mo + i * 2, none⟩ = some (.int .i64 (r : Nat)) ∧ w'.cell? ⟨mb, mo + i * 2 + 1, none⟩ = some (.string ⟨tg.toArray⟩) ∧ w'.cell? ⟨w5.heap.size, r, none⟩ = some (.int .i64 (F r : Nat)))) (by kernel_rfl) ⟨c0, c1, c2, c3, m0, m1, hF⟩ (fun hS => ?_)
          refine wpAnyH_take (i := 0) (v := .slice (some ⟨mb, mo, none⟩) ms.length mc) rfl (by kernel_rfl) (by kernel_rfl) (by kernel_rfl) (fun _ _ _ h => h) (Or.inl ⟨by kernel_rfl, ?_⟩) hS ?_
          · intro W' hSw
            obtain ⟨q0, q1, q2, q3, q4, q5, q6⟩ := hSw
            go_simp
          change wpAnyH _ _ _ _ _ _ _ (Act.put _ (some 103) _) _
          try simp only [Act.put, List.setIfInBounds_toArray, List.set_cons_zero, List.set_cons_succ]
          refine wpAnyH_take (i := 1) (v := .int .i64 (i : Nat)) rfl (by kernel_rfl) (by kernel_rfl) (by kernel_rfl) (fun _ _ _ h => h) (Or.inl ⟨by kernel_rfl, ?_⟩) hS ?_
          · intro W' hSw
            obtain ⟨q0, q1, q2, q3, q4, q5, q6⟩ := hSw
            go_simp
          change wpAnyH _ _ _ _ _ _ _ (Act.put _ (some 104) _) _
          try simp only [Act.put, List.setIfInBounds_toArray, List.set_cons_zero, List.set_cons_succ]
          refine wpAnyH_take (i := 2) (v := .pointer (some ⟨mb, mo + i * 2, none⟩)) rfl (by kernel_rfl) (by kernel_rfl) (by kernel_rfl) (fun _ _ _ h => h) (Or.inl ⟨by kernel_rfl, ?_⟩) hS ?_
          · intro W' hSw
            obtain ⟨q0, q1, q2, q3, q4, q5, q6⟩ := hSw
            go_simp
          change wpAnyH _ _ _ _ _ _ _ (Act.put _ (some 105) _) _
          try simp only [Act.put, List.setIfInBounds_toArray, List.set_cons_zero, List.set_cons_succ]
          refine wpAnyH_take (i := 3) (v := .pointer (some ⟨mb, mo + i * 2, none⟩)) rfl (by kernel_rfl) (by kernel_rfl) (by kernel_rfl) (fun _ _ _ h => h) (Or.inl ⟨by kernel_rfl, ?_⟩) hS ?_
          · intro W' hSw
            obtain ⟨q0, q1, q2, q3, q4, q5, q6⟩ := hSw
            go_simp
          change wpAnyH _ _ _ _ _ _ _ (Act.put _ (some 106) _) _
          try simp only [Act.put, List.setIfInBounds_toArray, List.set_cons_zero, List.set_cons_succ]
          refine wpAnyH_take (i := 4) (v := .int .i64 (r : Nat)) rfl (by kernel_rfl) (by kernel_rfl) (by kernel_rfl) (fun _ _ _ h => h) (Or.inl ⟨by kernel_rfl, ?_⟩) hS ?_
          · intro W' hSw
            obtain ⟨q0, q1, q2, q3, q4, q5, q6⟩ := hSw
            go_simp
          change wpAnyH _ _ _ _ _ _ _ (Act.put _ (some 107) _) _
          try simp only [Act.put, List.setIfInBounds_toArray, List.set_cons_zero, List.set_cons_succ]
          refine wpAnyH_take (i := 5) (v := .bool false) rfl (by kernel_rfl) (by kernel_rfl) (by kernel_rfl) (fun _ _ _ h => h) (Or.inl ⟨by kernel_rfl, ?_⟩) hS ?_
          · intro W' hSw
            obtain ⟨q0, q1, q2, q3, q4, q5, q6⟩ := hSw
            go_simp
          change wpAnyH _ _ _ _ _ _ _ (Act.put _ (some 108) _) _
          try simp only [Act.put, List.setIfInBounds_toArray, List.set_cons_zero, List.set_cons_succ]
          refine wpAnyH_take (i := 6) (v := .bool false) rfl (by kernel_rfl) (by kernel_rfl) (by kernel_rfl) (fun _ _ _ h => h) (Or.inl ⟨by kernel_rfl, ?_⟩) hS ?_
          · intro W' hSw
            obtain ⟨q0, q1, q2, q3, q4, q5, q6⟩ := hSw
            go_simp
          change wpAnyH _ _ _ _ _ _ _ (Act.put _ (some 109) _) _
          try simp only [Act.put, List.setIfInBounds_toArray, List.set_cons_zero, List.set_cons_succ]
          refine wpAnyH_take (i := 7) (v := .slice (some ⟨mb, mo, none⟩) ms.length mc) rfl (by kernel_rfl) (by kernel_rfl) (by kernel_rfl) (fun _ _ _ h => h) (Or.inl ⟨by kernel_rfl, ?_⟩) hS ?_
          · intro W' hSw
            obtain ⟨q0, q1, q2, q3, q4, q5, q6⟩ := hSw
            go_simp
          change wpAnyH _ _ _ _ _ _ _ (Act.put _ (some 110) _) _
          try simp only [Act.put, List.setIfInBounds_toArray, List.set_cons_zero, List.set_cons_succ]
          refine wpAnyH_take (i := 8) (v := .int .i64 (i : Nat)) rfl (by kernel_rfl) (by kernel_rfl) (by kernel_rfl) (fun _ _ _ h => h) (Or.inl ⟨by kernel_rfl, ?_⟩) hS ?_
          · intro W' hSw
            obtain ⟨q0, q1, q2, q3, q4, q5, q6⟩ := hSw
            go_simp
          change wpAnyH _ _ _ _ _ _ _ (Act.put _ (some 111) _) _
          try simp only [Act.put, List.setIfInBounds_toArray, List.set_cons_zero, List.set_cons_succ]
          refine wpAnyH_take (i := 9) (v := .pointer (some ⟨mb, mo + i * 2, none⟩)) rfl (by kernel_rfl) (by kernel_rfl) (by kernel_rfl) (fun _ _ _ h => h) (Or.inl ⟨by kernel_rfl, ?_⟩) hS ?_
          · intro W' hSw
            obtain ⟨q0, q1, q2, q3, q4, q5, q6⟩ := hSw
            go_simp
          change wpAnyH _ _ _ _ _ _ _ (Act.put _ (some 112) _) _
          try simp only [Act.put, List.setIfInBounds_toArray, List.set_cons_zero, List.set_cons_succ]
          refine wpAnyH_take (i := 10) (v := .pointer (some ⟨mb, mo + i * 2, none⟩)) rfl (by kernel_rfl) (by kernel_rfl) (by kernel_rfl) (fun _ _ _ h => h) (Or.inl ⟨by kernel_rfl, ?_⟩) hS ?_
          · intro W' hSw
            obtain ⟨q0, q1, q2, q3, q4, q5, q6⟩ := hSw
            go_simp
          change wpAnyH _ _ _ _ _ _ _ (Act.put _ (some 113) _) _
          try simp only [Act.put, List.setIfInBounds_toArray, List.set_cons_zero, List.set_cons_succ]
          refine wpAnyH_take (i := 11) (v := .int .i64 (r : Nat)) rfl (by kernel_rfl) (by kernel_rfl) (by kernel_rfl) (fun _ _ _ h => h) (Or.inl ⟨by kernel_rfl, ?_⟩) hS ?_
          · intro W' hSw
            obtain ⟨q0, q1, q2, q3, q4, q5, q6⟩ := hSw
            go_simp
          change wpAnyH _ _ _ _ _ _ _ (Act.put _ (some 114) _) _
          try simp only [Act.put, List.setIfInBounds_toArray, List.set_cons_zero, List.set_cons_succ]
          refine wpAnyH_take (i := 12) (v := .string ⟨ks.toArray⟩) rfl (by kernel_rfl) (by kernel_rfl) (by kernel_rfl) (fun _ _ _ h => h) (Or.inl ⟨by kernel_rfl, ?_⟩) hS ?_
          · intro W' hSw
            obtain ⟨q0, q1, q2, q3, q4, q5, q6⟩ := hSw
            go_simp
          change wpAnyH _ _ _ _ _ _ _ (Act.put _ (some 115) _) _
          try simp only [Act.put, List.setIfInBounds_toArray, List.set_cons_zero, List.set_cons_succ]
          refine wpAnyH_take (i := 13) (v := .int .i64 (ks.length : Nat)) rfl (by kernel_rfl) (by kernel_rfl) (by kernel_rfl) (fun _ _ _ h => h) (Or.inl ⟨by kernel_rfl, ?_⟩) hS ?_
          · intro W' hSw
            obtain ⟨q0, q1, q2, q3, q4, q5, q6⟩ := hSw
            go_simp
          change wpAnyH _ _ _ _ _ _ _ (Act.put _ (some 116) _) _
          try simp only [Act.put, List.setIfInBounds_toArray, List.set_cons_zero, List.set_cons_succ]
          refine wpAnyH_take (i := 14) (v := .bool false) rfl (by kernel_rfl) (by kernel_rfl) (by kernel_rfl) (fun _ _ _ h => h) (Or.inl ⟨by kernel_rfl, ?_⟩) hS ?_
          · intro W' hSw
            obtain ⟨q0, q1, q2, q3, q4, q5, q6⟩ := hSw
            go_simp
          change wpAnyH _ _ _ _ _ _ _ (Act.put _ (some 117) _) _
          try simp only [Act.put, List.setIfInBounds_toArray, List.set_cons_zero, List.set_cons_succ]
          refine wpAnyH_take (i := 15) (v := .bool false) rfl (by kernel_rfl) (by kernel_rfl) (by kernel_rfl) (fun _ _ _ h => h) (Or.inl ⟨by kernel_rfl, ?_⟩) hS ?_
          · intro W' hSw
            obtain ⟨q0, q1, q2, q3, q4, q5, q6⟩ := hSw
            go_simp
          change wpAnyH _ _ _ _ _ _ _ (Act.put _ (some 118) _) _
          try simp only [Act.put, List.setIfInBounds_toArray, List.set_cons_zero, List.set_cons_succ]
          refine wpAnyH_take (i := 16) (v := .bool false) rfl (by kernel_rfl) (by kernel_rfl) (by kernel_rfl) (fun _ _ _ h => h) (Or.inl ⟨by kernel_rfl, ?_⟩) hS ?_
          · intro W' hSw
            obtain ⟨q0, q1, q2, q3, q4, q5, q6⟩ := hSw
            go_simp
          change wpAnyH _ _ _ _ _ _ _ (Act.put _ (some 119) _) _
          try simp only [Act.put, List.setIfInBounds_toArray, List.set_cons_zero, List.set_cons_succ]
          refine wpAnyH_take (i := 17) (v := .slice A ss.length cap) rfl (by kernel_rfl) (by kernel_rfl) (by kernel_rfl) (fun _ _ _ h => h) (Or.inl ⟨by kernel_rfl, ?_⟩) hS ?_
          · intro W' hSw
            obtain ⟨q0, q1, q2, q3, q4, q5, q6⟩ := hSw
            go_simp
          change wpAnyH _ _ _ _ _ _ _ (Act.put _ (some 120) _) _
          try simp only [Act.put, List.setIfInBounds_toArray, List.set_cons_zero, List.set_cons_succ]
          refine wpAnyH_take (i := 18) (v := .agg #[.int .i64 T.kind, .string T.name, .int .i64 T.num, .slice A2 T.of.length cap2]) rfl (by kernel_rfl) (by kernel_rfl) (by kernel_rfl) (fun _ _ _ h => h) (Or.inl ⟨by kernel_rfl, ?_⟩) hS ?_
          · intro W' hSw
            obtain ⟨q0, q1, q2, q3, q4, q5, q6⟩ := hSw
            go_simp
          change wpAnyH _ _ _ _ _ _ _ (Act.put _ (some 121) _) _
          try simp only [Act.put, List.setIfInBounds_toArray, List.set_cons_zero, List.set_cons_succ]
          refine wpAnyH_take (i := 19) (v := .slice (some ⟨w5.heap.size, 0, none⟩) ks.length ks.length) rfl (by kernel_rfl) (by kernel_rfl) (by kernel_rfl) (fun _ _ _ h => h) (Or.inl ⟨by kernel_rfl, ?_⟩) hS ?_
          · intro W' hSw
            obtain ⟨q0, q1, q2, q3, q4, q5, q6⟩ := hSw
            go_simp
          change wpAnyH _ _ _ _ _ _ _ (Act.put _ (some 122) _) _
          try simp only [Act.put, List.setIfInBounds_toArray, List.set_cons_zero, List.set_cons_succ]
          refine wpAnyH_take (i := 20) (v := .slice (some ⟨mb, mo, none⟩) ms.length mc) rfl (by kernel_rfl) (by kernel_rfl) (by kernel_rfl) (fun _ _ _ h => h) (Or.inl ⟨by kernel_rfl, ?_⟩) hS ?_
          · intro W' hSw
            obtain ⟨q0, q1, q2, q3, q4, q5, q6⟩ := hSw
            go_simp
          change wpAnyH _ _ _ _ _ _ _ (Act.put _ (some 123) _) _
          try simp only [Act.put, List.setIfInBounds_toArray, List.set_cons_zero, List.set_cons_succ]
          refine wpAnyH_take (i := 21) (v := .int .i64 (i : Nat)) rfl (by kernel_rfl) (by kernel_rfl) (by kernel_rfl) (fun _ _ _ h => h) (Or.inl ⟨by kernel_rfl, ?_⟩) hS ?_
          · intro W' hSw
            obtain ⟨q0, q1, q2, q3, q4, q5, q6⟩ := hSw
            go_simp
          change wpAnyH _ _ _ _ _ _ _ (Act.put _ (some 124) _) _
          try simp only [Act.put, List.setIfInBounds_toArray, List.set_cons_zero, List.set_cons_succ]
          refine wpAnyH_take (i := 22) (v := .pointer (some ⟨mb, mo + i * 2, none⟩)) rfl (by kernel_rfl) (by kernel_rfl) (by kernel_rfl) (fun _ _ _ h => h) (Or.inl ⟨by kernel_rfl, ?_⟩) hS ?_
          · intro W' hSw
            obtain ⟨q0, q1, q2, q3, q4, q5, q6⟩ := hSw
            go_simp
          change wpAnyH _ _ _ _ _ _ _ (Act.put _ (some 125) _) _
          try simp only [Act.put, List.setIfInBounds_toArray, List.set_cons_zero, List.set_cons_succ]
          refine wpAnyH_take (i := 23) (v := .pointer (some ⟨mb, mo + i * 2, none⟩)) rfl (by kernel_rfl) (by kernel_rfl) (by kernel_rfl) (fun _ _ _ h => h) (Or.inl ⟨by kernel_rfl, ?_⟩) hS ?_
          · intro W' hSw
            obtain ⟨q0, q1, q2, q3, q4, q5, q6⟩ := hSw
            go_simp
          change wpAnyH _ _ _ _ _ _ _ (Act.put _ (some 126) _) _
          try simp only [Act.put, List.setIfInBounds_toArray, List.set_cons_zero, List.set_cons_succ]
          refine wpAnyH_take (i := 24) (v := .int .i64 (r : Nat)) rfl (by kernel_rfl) (by kernel_rfl) (by kernel_rfl) (fun _ _ _ h => h) (Or.inl ⟨by kernel_rfl, ?_⟩) hS ?_
          · intro W' hSw
            obtain ⟨q0, q1, q2, q3, q4, q5, q6⟩ := hSw
            go_simp
          change wpAnyH _ _ _ _ _ _ _ (Act.put _ (some 127) _) _
          try simp only [Act.put, List.setIfInBounds_toArray, List.set_cons_zero, List.set_cons_succ]
          refine wpAnyH_take (i := 25) (v := .pointer (some ⟨w5.heap.size, r, none⟩)) rfl (by kernel_rfl) (by kernel_rfl) (by kernel_rfl) (fun _ _ _ h => h) (Or.inl ⟨by kernel_rfl, ?_⟩) hS ?_
          · intro W' hSw
            obtain ⟨q0, q1, q2, q3, q4, q5, q6⟩ := hSw
            go_simp
          change wpAnyH _ _ _ _ _ _ _ (Act.put _ (some 128) _) _
          try simp only [Act.put, List.setIfInBounds_toArray, List.set_cons_zero, List.set_cons_succ]
          refine wpAnyH_take (i := 26) (v := .int .i64 (F r : Nat)) rfl (by kernel_rfl) (by kernel_rfl) (by kernel_rfl) (fun _ _ _ h => h) (Or.inl ⟨by kernel_rfl, ?_⟩) hS ?_
          · intro W' hSw
            obtain ⟨q0, q1, q2, q3, q4, q5, q6⟩ := hSw
            go_simp
          change wpAnyH _ _ _ _ _ _ _ (Act.put _ (some 129) _) _
          try simp only [Act.put, List.setIfInBounds_toArray, List.set_cons_zero, List.set_cons_succ]
          refine wpAnyH_take (i := 27) (v := .slice (some ⟨mb, mo, none⟩) ms.length mc) rfl (by kernel_rfl) (by kernel_rfl) (by kernel_rfl) (fun _ _ _ h => h) (Or.inl ⟨by kernel_rfl, ?_⟩) hS ?_
          · intro W' hSw
            obtain ⟨q0, q1, q2, q3, q4, q5, q6⟩ := hSw
            go_simp
          change wpAnyH _ _ _ _ _ _ _ (Act.put _ (some 130) _) _
          try simp only [Act.put, List.setIfInBounds_toArray, List.set_cons_zero, List.set_cons_succ]
          refine wpAnyH_take (i := 28) (v := .int .i64 (i : Nat)) rfl (by kernel_rfl) (by kernel_rfl) (by kernel_rfl) (fun _ _ _ h => h) (Or.inl ⟨by kernel_rfl, ?_⟩) hS ?_
          · intro W' hSw
            obtain ⟨q0, q1, q2, q3, q4, q5, q6⟩ := hSw
            go_simp
          change wpAnyH _ _ _ _ _ _ _ (Act.put _ (some 131) _) _
          try simp only [Act.put, List.setIfInBounds_toArray, List.set_cons_zero, List.set_cons_succ]
          refine wpAnyH_take (i := 29) (v := .pointer (some ⟨mb, mo + i * 2, none⟩)) rfl (by kernel_rfl) (by kernel_rfl) (by kernel_rfl) (fun _ _ _ h => h) (Or.inl ⟨by kernel_rfl, ?_⟩) hS ?_
          · intro W' hSw
            obtain ⟨q0, q1, q2, q3, q4, q5, q6⟩ := hSw
            go_simp
          change wpAnyH _ _ _ _ _ _ _ (Act.put _ (some 132) _) _
          try simp only [Act.put, List.setIfInBounds_toArray, List.set_cons_zero, List.set_cons_succ]
          refine wpAnyH_take (i := 30) (v := .pointer (some ⟨mb, mo + i * 2 + 1, none⟩)) rfl (by kernel_rfl) (by kernel_rfl) (by kernel_rfl) (fun _ _ _ h => h) (Or.inl ⟨by kernel_rfl, ?_⟩) hS ?_
          · intro W' hSw
            obtain ⟨q0, q1, q2, q3, q4, q5, q6⟩ := hSw
            go_simp
          change wpAnyH _ _ _ _ _ _ _ (Act.put _ (some 133) _) _
          try simp only [Act.put, List.setIfInBounds_toArray, List.set_cons_zero, List.set_cons_succ]
          refine wpAnyH_take (i := 31) (v := .string ⟨tg.toArray⟩) rfl (by kernel_rfl) (by kernel_rfl) (by kernel_rfl) (fun _ _ _ h => h) (Or.inl ⟨by kernel_rfl, ?_⟩) hS ?_
          · intro W' hSw
            obtain ⟨q0, q1, q2, q3, q4, q5, q6⟩ := hSw
            go_simp
          change wpAnyH _ _ _ _ _ _ _ (Act.put _ (some 134) _) _
          try simp only [Act.put, List.setIfInBounds_toArray, List.set_cons_zero, List.set_cons_succ]
          refine wpAnyH_ready (rs := [32]) (by kernel_rfl) (by simp) ?_
          refine AllReadyH.cons rfl (fun K hK => ?_) AllReadyH.nil
          go_simp
          refine (KBi.out _ HD.out.wa).mono ?_
          rintro e w6 ⟨rfl, b6⟩
          obtain ⟨⟨k0, k1, k2, k3⟩, k4, k5, k6⟩ := SK.out _ b6
          have L6 := Lib.hid (HK.out _ b6)
          clear b6 hS
          have hS := And.intro k0 (And.intro k1 (And.intro k2 (And.intro k3 (And.intro k4 (And.intro k5 k6)))))
          refine hK.out _ _ hS (fun _ => ?_)
          clear hK K
          try change wpAnyH _ _ _ _ _ _ _ (Act.put _ (some 135) _) _
          try simp only [Act.put, List.setIfInBounds_toArray, List.set_cons_zero, List.set_cons_succ]
          refine wpAnyH_take (i := 33) (v := .bool false) rfl (by kernel_rfl) (by kernel_rfl) (by kernel_rfl) (fun _ _ _ h => h) (Or.inl ⟨by kernel_rfl, ?_⟩) hS ?_
          · intro W' hSw
            obtain ⟨q0, q1, q2, q3, q4, q5, q6⟩ := hSw
            go_simp
          change wpAnyH _ _ _ _ _ _ _ (Act.put _ (some 136) _) _
          try simp only [Act.put, List.setIfInBounds_toArray, List.set_cons_zero, List.set_cons_succ]
          refine wpAnyH_take (i := 34) (v := .bool false) rfl (by kernel_rfl) (by kernel_rfl) (by kernel_rfl) (fun _ _ _ h => h) (Or.inl ⟨by kernel_rfl, ?_⟩) hS ?_
          · intro W' hSw
            obtain ⟨q0, q1, q2, q3, q4, q5, q6⟩ := hSw
            go_simp
          change wpAnyH _ _ _ _ _ _ _ (Act.put _ (some 137) _) _
          try simp only [Act.put, List.setIfInBounds_toArray, List.set_cons_zero, List.set_cons_succ]
          refine wpAnyH_done (by kernel_rfl) ?_ _
          clear c0 c1 c2 c3 m0 m1 hF k0 k1 k2 k3 k4 k5 k6 SK HK KBi hS
          go_wp2_with fail
          go_roundw
          case rel => exact ⟨i + 1, by omega, by go_num, L6⟩
          case measure => simp [intOf]; omega
        · obtain rfl : i = ms.length := by omega
          have g1 : decide ((ms.length : Int) < (ms.length : Int)) = false := decide_eq_false (by omega)
          have HB := Lib.hid hl2.out.wa.on
          go_wp2_with fail
          go_ret
          exact ⟨rfl, HB.out⟩

theorem law_all (w : World) (n q : Nat) (A : Option Addr) (cap : Nat) (ss : List St) (hss : SsAt w n A ss) (hm : ss.length ≤ 9223372036854775807) (T : Ty) (v0 v1 v2 v3 : Value) (ht : TyAt w q T v0 v1 v2 v3) (hq : q ≤ n) (htab : TabS w) :
    Calls Tryd.prog 6 #[.slice A ss.length cap, .agg #[v0, v1, v2, v3]] w (WkPost w) := by
  cases hg : greatB ss T with
  | true => exact all_great w n q A cap ss hss hm T v0 v1 v2 v3 ht htab hg
  | false =>
    by_cases hd : checkC ss T = 0
    · exact all_right w n q A cap ss hss hm T v0 v1 v2 v3 ht hq htab hg hd
    · exact all_wrong w n q A cap ss hss hm T v0 v1 v2 v3 ht hq htab hg hd
end Go.Proofs.YtmahoppjefhnjaaDoor.sh
