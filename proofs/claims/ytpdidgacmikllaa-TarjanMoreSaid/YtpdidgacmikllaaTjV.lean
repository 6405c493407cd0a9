/-
  tarjan: the search from a member: the walk.
-/
import Derived.Test.YtpdidgacmikllaaTjS
import Derived.Deep.LoopGhost
import Derived.Deep.CutRange
namespace Go.Proofs.Ytpdidgacmikllaa.tj
open Go.RowKit Go.Sort Go.Proofs.Ytpdidgacmikllaa.mem Go.Proofs.Ytpdidgacmikllaa.cb

/-- a graph's edges in memory -/
structure OM (W : World) (n0 o : Nat) (g : G) : Prop where
  lt : o < n0
  row : ∀ v, v < g.n → ∃ A cap, W.cell? ⟨o, v, none⟩ = some (.slice A (g.out v).length cap) ∧ Rd W A (natI (g.out v)) ∧ (0 < (g.out v).length → ∀ x ∈ blk A, x < n0)

theorem OM.below {W W' : World} {n0 o : Nat} {g : G} (h : OM W n0 o g) (hb : Below n0 W W') : OM W' n0 o g :=
  ⟨h.lt, fun v hv => by
    obtain ⟨A, cap, h1, h2, h3⟩ := h.row v hv
    refine ⟨A, cap, (hb.cell (p := ⟨o, v, none⟩) h.lt).trans h1, fun hz => ?_, h3⟩
    obtain ⟨b, off, rfl, hl, hc⟩ := h2 hz
    have hx := h3 (by simpa [natI] using hz) b (by simp [blk])
    exact ⟨b, off, rfl, Nat.lt_of_lt_of_le hl hb.size, fun j hj => (hb.cell (p := ⟨b, off + j, none⟩) hx).trans (hc j hj)⟩⟩

/-- between two steps of a search -/
structure FI (g : G) (f : Fx) (o : Nat) (w W : World) (v : Vd) (T : TS) : Prop where
  inv : Inv g T
  sm : SM f W v T.ms
  pe : v.pend = []
  on : Below f.n0 w W
  om : OM W f.n0 o g

theorem FI.below {g : G} {f : Fx} {o : Nat} {w W W' : World} {v : Vd} {T : TS} (h : FI g f o w W v T) (hb : Below W.heap.size W W') : FI g f o w W' v T :=
  ⟨h.inv, h.sm.on hb, h.pe, h.on.trans (hb.mono h.sm.n0), h.om.below (hb.mono h.sm.n0)⟩
theorem FI.drewN {g : G} {f : Fx} {o : Nat} {w W : World} {v : Vd} {T : TS} (h : FI g f o w W v T) (n : Nat) : FI g f o w (W.drewN n) v T := h.below (((Fr.refl [] W).drewN n).all)

def FrPost (g : G) (f : Fx) (o : Nat) (w : World) (m : Nat) (T0 : TS) (e : Ending) (W : World) : Prop := e = .returned (.tuple #[]) ∧ ∃ v T, FI g f o w W v T ∧ T.S = [] ∧ 0 < T.num m ∧ ∀ x, 0 < T0.num x → 0 < T.num x

/-- what was come to stays so -/
def Seen (T0 T : TS) (m : Nat) : Prop := 0 < T.num m ∧ ∀ x, 0 < T0.num x → 0 < T.num x

set_option maxRecDepth 100000 in
set_option maxHeartbeats 4000000 in
theorem from_any (g : G) (hg : g.ok) (hn : g.n ≤ 100) (f : Fx) (hfn : f.n = g.n) (o : Nat) (hov : f.outV = .slice (some ⟨o, 0, none⟩) g.n g.n) (w : World) (v : Vd) (T : TS) (h : FI g f o w w v T) (hS : T.S = []) (m : Nat) (hm : m < g.n) (h0 : T.num m = 0) (hel : ∀ u, (g.out u).length ≤ 1000) :
    Calls Try.prog 30 #[.pointer (some ⟨f.s, 0, none⟩), .int .i64 (m : Nat)] w (FrPost g f o w m T) := by
  have hE := Lib.hid (inv_start h.inv hS hm h0)
  have KE := enter_any f w v T.ms h.sm h.pe m (by omega) (by omega) (by have := h.inv.count_le; show T.count ≤ 100; omega) (by have := h.inv.lens.2; show (pth T.S).length ≤ 100; omega) (by have := h.inv.lens.1; show (stk T.S).length ≤ 100; omega)
  rw [← ms_enter] at KE
  have KE := Lib.hid KE
  have HO := Lib.hid h.om
  have HSe : Hid (Seen T (T.enter m) m) := Lib.hid ⟨by simp [TS.enter, upd_same], fun x hx => by
    show 0 < upd _ _ _ _
    by_cases e : x = m
    · subst e; rw [upd_same]; omega
    · rw [upd_ne _ _ e]; exact hx⟩
  have HF := Lib.hid hov
  have HN := Lib.hid hfn
  have HEL := Lib.hid hel
  clear h hov hfn hS hel
  go_enter Try.func30, Try.ntmps30
  go_wp2_with fail
  go_step3
  go_wp2_with fail
  refine KE.out.mono ?_
  rintro e w1 ⟨rfl, v1, s1, p1, b1⟩
  have I1 : Hid (FI g f o w w1 v1 (T.enter m)) := Lib.hid ⟨hE.out, s1, p1, b1, HO.out.below b1⟩
  clear s1 p1 b1 KE hE HO
  generalize hT1 : T.enter m = T1 at *
  clear hT1
  go_wp2_with fail
  go_step3
  go_wp2_with fail
  go_loopg [4] (2 * rem_ g T1 + (pth T1.S).length) (fun gk _ wr => ∃ (v' : Vd) (T' : TS), gk = 2 * rem_ g T' + (pth T'.S).length ∧ Hid (FI g f o w wr v' T') ∧ Hid (Seen T T' m))
  case atStart => exact ⟨v1, T1, rfl, I1, HSe⟩
  case round =>
    obtain ⟨v2, T2, hgk, hI, hsee⟩ := hrel
    have HGK := Lib.hid hgk
    rename Nat => G
    clear I1 HSe hgk
    obtain ⟨c0, c1, c2, c3, c4, c5, c6, c7, c8⟩ := hI.out.sm.cells
    have hpl := hI.out.inv.lens.2
    rcases hS2 : T2.S with _ | ⟨⟨m2, ls⟩, rest⟩
    · have c5' : wr.cell? ⟨f.s, 5, none⟩ = some (.slice v2.Ap 0 v2.cp) := by rw [c5]; show some (Value.slice _ (pth T2.S).length _) = _; rw [hS2]; rfl
      have hf := Lib.hid (show FrPost g f o w m T (.returned (.tuple #[])) wr from ⟨rfl, v2, T2, hI.out, hS2, hsee.out.1, hsee.out.2⟩)
      clear c0 c1 c2 c3 c4 c5 c6 c7 c8 hS2 hI hsee hpl
      go_wp2_with fail
      try rw [Exit.noGoto_ret]
      go_end0
      exact hf.out
    · have hp2 : pth T2.S = pth rest ++ [m2] := by rw [hS2, pth_cons]
      have hm2 : m2 < g.n := (hI.out.inv.vis m2 (by rw [hS2, stk_cons]; simp)).1
      have hm2f : m2 < f.n := by rw [HN.out]; exact hm2
      rw [hp2] at hpl
      have hrl : (pth rest).length ≤ 100 := by simp at hpl; omega
      obtain ⟨ga, off, hA, hlt, hc⟩ := (show Seg wr 3 v2.Ap v2.cp (natI (pth T2.S)) from hI.out.sm.c 5).at_ (by rw [hp2]; simp [natI])
      obtain ⟨j, hj⟩ : ∃ j, Hid (j = (pth rest).length) := ⟨_, Lib.hid rfl⟩
      rw [← hj.out] at hrl
      have kb : wr.cell? ⟨ga, off + j, none⟩ = some (.int .i64 (m2 : Nat)) := by
        rw [hj.out, hc (pth rest).length (by rw [hp2]; simp [natI])]
        simp [hp2, natI]
      have c5' : wr.cell? ⟨f.s, 5, none⟩ = some (.slice (some ⟨ga, off, none⟩) (j + 1) v2.cp) := by
        rw [c5, hA, hj.out]
        show some (Value.slice _ (pth T2.S).length _) = _
        rw [hp2]
        simp
      have HS2 := Lib.hid hS2
      clear c0 c1 c2 c3 c4 c5 c6 c7 c8 hS2 hA hc hpl hp2
      go_wp2_with fail
      go_quiet (fail)
      have I2 := Lib.hid (hI.out.drewN nq)
      clear kb c5' hlt hI
      generalize wr.drewN nq = w2 at *
      go_wp2_with fail
      go_loopg [5] ((g.out m2).length - T2.tried m2) (fun k _ wr => ∃ (v' : Vd) (T' : TS), k = (g.out m2).length - T'.tried m2 ∧ Hid (T'.S = (m2, ls) :: rest) ∧ Hid (rem_ g T' ≤ rem_ g T2) ∧ Hid (FI g f o w wr v' T') ∧ Hid (Seen T T' m))
      case atStart => exact ⟨v2, T2, rfl, HS2, Lib.hid (Nat.le_refl _), I2, hsee⟩
      case round =>
        obtain ⟨v3, T3, hgk, hS3, hrm, hI, hsee3⟩ := hrel
        have HGI := Lib.hid hgk
        clear I2 hsee hgk
        have ht := hI.out.inv.trd 0 (m2, ls) (by rw [hS3.out]; rfl)
        have htl : T3.tried m2 ≤ (g.out m2).length := ht.1
        have hel := HEL.out m2
        obtain ⟨c0, c1, c2, c3, c4, c5, c6, c7, c8⟩ := hI.out.sm.cells
        rw [HF.out] at c0
        obtain ⟨Ao, co, ko, hro, _⟩ := hI.out.om.row m2 hm2
        obtain ⟨tm0, tm'⟩ := hI.out.sm.tried hm2f
        obtain ⟨k, hk⟩ : ∃ k, Hid (T3.tried m2 = k) := ⟨_, Lib.hid rfl⟩
        have tm : wr.cell? ⟨f.to, m2, none⟩ = some (.int .i64 (k : Int)) := by rw [← hk.out]; exact tm0
        rw [hk.out] at htl HGI
        clear tm0 ht
        have hmI : (m2 : Int) < (f.n : Int) := by omega
        have hmJ : (m2 : Int) < (g.n : Int) := by omega
        obtain ⟨q, hq⟩ : ∃ q, Hid ((g.out m2).length = q) := ⟨_, Lib.hid rfl⟩
        rw [hq.out] at ko htl hel HGI
        by_cases hgo : k < q
        · have d1 : decide ((k : Int) < (q : Int)) = true := decide_eq_true (by omega)
          have hgoI : (k : Int) < (q : Int) := by omega
          obtain ⟨bo, oo, rfl, _, hco⟩ := hro (by rw [natI_len, hq.out]; omega)
          obtain ⟨t2, hto⟩ : ∃ t2, Hid ((g.out m2)[T3.tried m2]? = some t2) := ⟨(g.out m2)[k]'(by rw [hq.out]; exact hgo), Lib.hid (by rw [hk.out, List.getElem?_eq_getElem])⟩
          have kt : wr.cell? ⟨bo, oo + k, none⟩ = some (.int .i64 ((t2 : Nat) : Int)) := by
            rw [hco k (by rw [natI_len, hq.out]; exact hgo)]
            have := hto.out
            rw [hk.out, List.getElem?_eq_getElem (by rw [hq.out]; exact hgo)] at this
            have := Option.some.inj this
            simp [natI, this]
          have hedge := Lib.hid (g.mem_out.1 (List.mem_of_getElem? hto.out))
          have hton := (hg _ hedge.out).2
          have htof : t2 < f.n := by rw [HN.out]; exact hton
          have htI : (t2 : Int) < (f.n : Int) := by omega
          have htl2 : T3.tried m2 < (g.out m2).length := by rw [hk.out, hq.out]; exact hgo
          clear hco hro
          go_wp2_with fail
          go_quiet (fail)
          rename Nat => n1
          go_wp2_with fail
          go_quiet (fail)
          rename Nat => n2
          have I4 := Lib.hid ((hI.out.drewN n1).drewN n2)
          clear c0 c1 c2 c3 c4 c5 c6 c7 c8 ko tm tm' kt hI
          generalize (wr.drewN n1).drewN n2 = w4 at *
          -- the edge is tried
          obtain ⟨c0, c1, c2, c3, c4, c5, c6, c7, c8⟩ := I4.out.sm.cells
          obtain ⟨tm0, tm'⟩ := I4.out.sm.tried hm2f
          have tm : w4.cell? ⟨f.to, m2, none⟩ = some (.int .i64 (k : Int)) := by rw [← hk.out]; exact tm0
          have hp5 := I4.out.sm.setTried m2 (k + 1)
          have S5 := Lib.hid hp5.1
          have B5 := Lib.hid hp5.2
          clear c0 c2 c3 c4 c5 c6 c7 c8 tm0 hp5
          go_upto_region 6 with fail
          rw [show ((k : Int) + 1) = ((k + 1 : Nat) : Int) from rfl]
          have O5 := Lib.hid (I4.out.om.below B5.out)
          have On5 := Lib.hid (I4.out.on.trans B5.out)
          have pe5 := I4.out.pe
          have HI3 := Lib.hid I4.out.inv
          have S5 : Hid (SM f (w4.setCell ⟨f.to, m2, none⟩ (.int .i64 ((k + 1 : Nat) : Int))) v3 (T3.try_ m2).ms) := Lib.hid (by
            have := S5.out
            rw [← hk.out] at this
            rw [← hk.out]
            exact this)
          clear c1 tm tm' B5 I4
          generalize w4.setCell ⟨f.to, m2, none⟩ (.int .i64 ((k + 1 : Nat) : Int)) = w5 at *
          have hrem := Lib.hid (rem_try hm2 htl2)
          obtain ⟨c0, c1, c2, c3, c4, c5, c6, c7, c8⟩ := S5.out.cells
          obtain ⟨nt0, nt'⟩ := S5.out.num htof
          have nt : w5.cell? ⟨f.tn, t2, none⟩ = some (.int .i64 ((T3.num t2 : Nat) : Int)) := nt0
          clear nt0
          by_cases hz : T3.num t2 = 0
          · have d2 : (((T3.num t2 : Nat) : Int) == 0) = true := by rw [hz]; rfl
            have hI6 := Lib.hid (inv_deeper hg HI3.out hS3.out hto.out hz)
            have KE := enter_any f w5 v3 (T3.try_ m2).ms S5.out pe5 t2 htof (by rw [HN.out]; exact hn) (by have := HI3.out.count_le; show T3.count ≤ 100; omega) (by have := HI3.out.lens.2; show (pth T3.S).length ≤ 100; omega) (by have := HI3.out.lens.1; show (stk T3.S).length ≤ 100; omega)
            rw [← ms_enter] at KE
            have KE := Lib.hid KE
            clear c0 c1 c3 c4 c5 c6 c7 c8
            go_wp2_with fail
            refine KE.out.mono ?_
            rintro e w6 ⟨rfl, v6, s6, p6, b6⟩
            have I6 : Hid (FI g f o w w6 v6 ((T3.try_ m2).enter t2)) := Lib.hid ⟨hI6.out, s6, p6, On5.out.trans b6, O5.out.below b6⟩
            clear s6 p6 b6 KE c2 nt nt'
            have hms : Hid (2 * rem_ g ((T3.try_ m2).enter t2) + (pth ((T3.try_ m2).enter t2).S).length < G) := Lib.hid (by
              have e1 : rem_ g ((T3.try_ m2).enter t2) = rem_ g (T3.try_ m2) := rem_eq rfl
              have e2 : (pth ((T3.try_ m2).enter t2).S).length = (pth T2.S).length + 1 := by
                show (pth ((t2, []) :: T3.S)).length = _
                rw [pth_cons, hS3.out, HS2.out]
                simp
              have a := hrem.out
              have b := hrm.out
              have c := HGK.out
              rw [e1, e2, c]
              omega)
            go_wp2_with fail
            go_roundg (2 * rem_ g ((T3.try_ m2).enter t2) + (pth ((T3.try_ m2).enter t2).S).length)
            case rel => exact ⟨v6, _, rfl, I6, Lib.hid ⟨by
              show 0 < upd _ _ _ _
              by_cases e : m = t2
              · subst e; rw [upd_same]; omega
              · rw [upd_ne _ _ e]; exact hsee3.out.1, fun x hx => by
              show 0 < upd _ _ _ _
              by_cases e : x = t2
              · subst e; rw [upd_same]; omega
              · rw [upd_ne _ _ e]; exact hsee3.out.2 x hx⟩⟩
            case measure => exact hms.out
          · have d2 : (((T3.num t2 : Nat) : Int) == 0) = false := by simp; omega
            have hact := Lib.hid (HI3.out.act hton (by omega))
            obtain ⟨pt0, pt'⟩ := S5.out.part htof
            have pt : w5.cell? ⟨f.tp, t2, none⟩ = some (.int .i64 (T3.part t2)) := pt0
            clear pt0
            have hk1 : Hid ((g.out m2).length - (T3.tried m2 + 1) < gk) := Lib.hid (by have := HGI.out; rw [hk.out, hq.out]; omega)
            have htr : Hid ((T3.try_ m2).tried m2 = T3.tried m2 + 1) := Lib.hid (upd_same _ _ _)
            by_cases hpt : T3.part t2 < 0
            · have d3 : decide (T3.part t2 < 0) = true := decide_eq_true hpt
              have hys := Lib.hid (hact.out.2 hpt)
              have hL := Lib.hid (inv_lower HI3.out (y := (m2, ls)) (by rw [hS3.out]; simp) hys.out (g.edge hedge.out) (x := T3.num t2) rfl)
              have hI6 := Lib.hid (inv_skip (T := T3.lower m2 (T3.num t2)) hL.out (b := m2) (ls := ls) (rest := rest) hS3.out hto.out (by show 0 < T3.num t2; omega) (fun _ => by show upd _ _ _ _ ≤ T3.num t2; rw [upd_same]; exact Nat.min_le_right _ _))
              obtain ⟨lm0, lm'⟩ := S5.out.low hm2f
              have lm : w5.cell? ⟨f.tl, m2, none⟩ = some (.int .i64 ((T3.low m2 : Nat) : Int)) := lm0
              have hmin : Hid (min ((T3.low m2 : Nat) : Int) ((T3.num t2 : Nat) : Int) = ((min (T3.low m2) (T3.num t2) : Nat) : Int)) := Lib.hid (by omega)
              clear lm0 c0 c1 c5 c6 c7 c8 hpt hz
              go_wp2_with fail
              go_region
              rw [hmin.out]
              have hp6 := S5.out.setLow m2 (min (T3.low m2) (T3.num t2))
              have I6 : Hid (FI g f o w _ v3 ((T3.lower m2 (T3.num t2)).try_ m2)) := Lib.hid ⟨hI6.out, hp6.1.drew, pe5, On5.out.trans hp6.2.drew, O5.out.below hp6.2.drew⟩
              clear hp6 c2 c3 c4 lm lm' nt nt' pt pt' S5
              generalize (w5.setCell ⟨f.tl, m2, none⟩ (.int .i64 ((min (T3.low m2) (T3.num t2) : Nat) : Int))).drew = w6 at *
              go_wp2_with fail
              go_roundg ((g.out m2).length - (T3.tried m2 + 1))
              case rel => exact ⟨v3, (T3.lower m2 (T3.num t2)).try_ m2, by rw [← htr.out]; rfl, hS3, Lib.hid (by
                have e : rem_ g ((T3.lower m2 (T3.num t2)).try_ m2) = rem_ g (T3.try_ m2) := rem_eq rfl
                have := hrem.out
                have := hrm.out
                omega), I6, hsee3⟩
              case measure => exact hk1.out
            · have d3 : decide (T3.part t2 < 0) = false := decide_eq_false hpt
              have hI6 := Lib.hid (inv_skip HI3.out hS3.out hto.out (by omega) (fun h => absurd h hpt))
              clear c0 c1 c3 c5 c6 c7 c8 hz
              go_wp2_with fail
              go_roundg ((g.out m2).length - (T3.tried m2 + 1))
              case rel => exact ⟨v3, T3.try_ m2, by rw [htr.out], hS3, Lib.hid (by have := hrem.out; have := hrm.out; omega), Lib.hid ⟨hI6.out, S5.out, pe5, On5.out, O5.out⟩, hsee3⟩
              case measure => exact hk1.out
        · have d1 : decide ((k : Int) < (q : Int)) = false := decide_eq_false (by omega)
          have hteq : T3.tried m2 = (g.out m2).length := by rw [hk.out, hq.out]; omega
          obtain ⟨T7, hI7, hp7, ht7, hn7, hR7⟩ := leave_step hg hI.out.inv hS3.out hteq
          have hnd := hI.out.inv.nodup
          have hvis := hI.out.inv.vis
          have hl1 := hI.out.inv.lens.1
          rw [hS3.out, stk_cons] at hnd hvis hl1
          rw [List.nodup_append] at hnd
          have hpr : ∀ x ∈ pth rest, x ∈ stk rest := fun x hx => by
            unfold pth at hx
            rw [List.mem_reverse, List.mem_map] at hx
            obtain ⟨y, hy, rfl⟩ := hx
            exact mem_stk.2 ⟨y, hy, Or.inl rfl⟩
          have hm2p : m2 ∉ pth rest := fun hx => hnd.2.2 m2 (hpr m2 hx) m2 (by simp) rfl
          have hl2 : (pth rest).length ≤ 100 := by rw [← hj.out]; exact hrl
          have hl3 : (stk rest).length + ls.length ≤ 100 := by simp at hl1; omega
          have hl4 : T3.ms.parts.length ≤ 100 := by have := hI.out.inv.parts_le; show T3.parts.length ≤ 100; omega
          have hpf : ∀ x ∈ pth rest, x < f.n := fun x hx => by rw [HN.out]; exact (hvis x (List.mem_append_left _ (hpr x hx))).1
          have KL := Lib.hid (fun n => leave_any f (wr.drewN n) v3 T3.ms (hI.out.drewN n).sm hI.out.pe m2 hm2f (pth rest) (stk rest) ls (g.cls m2) (by show pth T3.S = _; rw [hS3.out, pth_cons]) (by show stk T3.S = _; rw [hS3.out, stk_cons]) hpf hm2p (List.nodup_cons.1 hnd.2.1).1 hl2 hl3 hl4 T7.ms (by rw [HN.out]; exact hR7))
          have HI7 := Lib.hid hI7
          have hms : Hid (2 * rem_ g T7 + (pth T7.S).length < G) := Lib.hid (by
            have e1 : rem_ g T7 = rem_ g T3 := rem_eq ht7
            have e2 : (pth T2.S).length = (pth rest).length + 1 := by rw [HS2.out, pth_cons]; simp
            have b := hrm.out
            have c := HGK.out
            rw [e1, hp7, c, e2]
            omega)
          have hsee7 : Hid (Seen T T7 m) := Lib.hid ⟨by rw [hn7]; exact hsee3.out.1, fun x hx => by rw [hn7]; exact hsee3.out.2 x hx⟩
          have II := Lib.hid (fun n => hI.out.drewN n)
          clear hI hI7 hp7 ht7 hn7 hR7 hnd hvis hl1 hpr hm2p hl2 hl3 hl4 hpf hro c2 c3 c4 c5 c6 c7 c8 hteq
          go_wp2_with fail
          go_quiet (fail)
          rename Nat => n1
          go_wp2_with fail
          refine (KL.out n1).mono ?_
          rintro e w7 ⟨rfl, v7, s7, p7, b7⟩
          have I7 : Hid (FI g f o w w7 v7 T7) := Lib.hid ⟨HI7.out, s7, p7, (II.out n1).on.trans b7, (II.out n1).om.below b7⟩
          clear s7 p7 b7 KL II c0 c1 ko tm tm'
          go_wp2_with fail
          go_roundg (2 * rem_ g T7 + (pth T7.S).length)
          case rel => exact ⟨v7, T7, rfl, I7, hsee7⟩
          case measure => exact hms.out
end Go.Proofs.Ytpdidgacmikllaa.tj
