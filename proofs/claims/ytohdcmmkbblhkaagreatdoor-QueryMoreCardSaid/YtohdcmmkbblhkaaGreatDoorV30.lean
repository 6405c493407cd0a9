import Derived.Test.YtohdcmmkbblhkaaGreatDoorUTjP
import Derived.Test.YtohdcmmkbblhkaaGreatDoorV04
import Derived.Deep.DeepCutAuto
import Derived.StillTailTactics
import Derived.Deep.QuietTactic
import Derived.BigQuiet
import Derived.Deep.LoopGhost
import Derived.Deep.CutRange
/-
  tarjan: a member is left: the walk.
-/
set_option linter.all false
namespace Go.Proofs.YtohdcmmkbblhkaaGreatDoor.tj
open Go.RowKit Go.Sort Go.Proofs.YtohdcmmkbblhkaaGreatDoor.mem Go.Proofs.YtohdcmmkbblhkaaGreatDoor.cb

def MS.back (T : MS) (p0 : List Nat) (m : Nat) : MS :=
  match p0.getLast? with
  | none => { T with path := p0 }
  | some b => { T with path := p0, low := upd T.low b (min (T.low b) (T.low m)) }

def MS.shut (T : MS) (s0 L : List Nat) : MS := { T with stack := s0, part := fun v => if v ∈ L then (T.parts.length : Int) else T.part v, parts := T.parts ++ [L] }

theorem sizeOf_int (w : World) : (sizeOf 3).run Tryz.prog w = .ok 1 w := by kernel_rfl

theorem back_facts (T : MS) {p0 : List Nat} {m : Nat} (h : m ∉ p0) : (T.back p0 m).low m = T.low m ∧ (T.back p0 m).num = T.num ∧ (T.back p0 m).stack = T.stack ∧ (T.back p0 m).parts = T.parts ∧ (T.back p0 m).part = T.part := by
  unfold MS.back
  rcases hl : p0.getLast? with _ | b
  · exact ⟨rfl, rfl, rfl, rfl, rfl⟩
  · refine ⟨upd_ne _ _ (fun e => h ?_), rfl, rfl, rfl, rfl⟩
    rw [e]
    exact List.mem_of_getLast? hl

/-- parts told, as far as a list's k-th -/
def prt (P : Nat → Int) (L : List Nat) (K : Nat) (k : Nat) : Nat → Int := fun v => if v ∈ L.take k then (K : Int) else P v
theorem prt_zero (P : Nat → Int) (L : List Nat) (K : Nat) : prt P L K 0 = P := by funext v; simp [prt]
theorem prt_all (P : Nat → Int) (L : List Nat) (K : Nat) : prt P L K L.length = fun v => if v ∈ L then (K : Int) else P v := by funext v; simp [prt]
theorem prt_succ (P : Nat → Int) {L : List Nat} (K : Nat) {k : Nat} (hk : k < L.length) : upd (prt P L K k) L[k] (K : Int) = prt P L K (k + 1) := by
  funext v
  have hm : v ∈ L.take (k + 1) ↔ v ∈ L.take k ∨ v = L[k] := by rw [List.take_succ_eq_append_getElem hk, List.mem_append, List.mem_singleton]
  unfold prt upd
  dsimp only
  by_cases e : v = L[k]
  · rw [if_pos e, if_pos (hm.2 (Or.inr e))]
  · rw [if_neg e]
    by_cases e2 : v ∈ L.take k
    · rw [if_pos e2, if_pos (hm.2 (Or.inl e2))]
    · rw [if_neg e2, if_neg (fun h => (hm.1 h).elim e2 e)]

theorem info_row : (Tryz.prog.info? 71).map (fun i => (i.zero, i.size, i.bytes)) = some (some (.slice none 0 0), 1, 24) := by kernel_rfl

set_option maxRecDepth 100000 in
/-- the path without its last one -/
theorem sm_pop {f : Fx} {W : World} {v : Vd} {T : MS} (h : SM f W v T) {p0 : List Nat} {m : Nat} (hp : T.path = p0 ++ [m]) :
    (∀ w, (Instr.slice 71 (.slice v.Ap T.path.length v.cp) none (some (.int .i64 (p0.length : Nat))) none).run Tryz.prog w = .ok (.slice v.Ap p0.length v.cp) w) ∧
    SM f (W.setCell ⟨f.s, 5, none⟩ (.slice v.Ap p0.length v.cp)).drew v { T with path := p0 } ∧ Below f.n0 W (W.setCell ⟨f.s, 5, none⟩ (.slice v.Ap p0.length v.cp)).drew := by
  have hs : Seg W 3 v.Ap v.cp (natI T.path) := h.c 5
  obtain ⟨h1, h2⟩ := hs.upto (t := 71) Tryz.underlying71 (fun w => sizeOf_int w) p0.length (by rw [natI_len, hp]; simp)
  rw [natI_len] at h1
  have e : (natI T.path).take p0.length = natI p0 := by rw [hp]; simp [natI]
  have h3 := h2 W hs
  rw [e] at h3
  have h4 := h.putPath (W1 := W) (A' := v.Ap) (c' := v.cp) (p' := p0) (n := p0.length) rfl h3 (Fr.refl _ _) (fun g hg => Or.inl hg)
  exact ⟨h1, h4.2.1.drew, h4.2.2.drew⟩

set_option maxRecDepth 100000 in
set_option maxHeartbeats 2000000 in
theorem leave_any (f : Fx) (W : World) (v : Vd) (T : MS) (h : SM f W v T) (hpe : v.pend = []) (m : Nat) (hm : m < f.n) (p0 s0 ls L : List Nat) (hp : T.path = p0 ++ [m]) (hs : T.stack = s0 ++ m :: ls) (hpn : ∀ x ∈ p0, x < f.n) (hmp : m ∉ p0) (hml : m ∉ ls) (hpb : p0.length ≤ 100) (hsb : s0.length + ls.length ≤ 100) (hqb : T.parts.length ≤ 100) (R : MS) (hR : (T.low m < T.num m ∧ R = T.back p0 m) ∨ (¬ T.low m < T.num m ∧ ((m :: ls).Perm L ∧ L.Pairwise (· < ·) ∧ ∀ x ∈ L, x < f.n) ∧ R = (T.back p0 m).shut s0 L)) :
    Calls Tryz.prog 95 #[.pointer (some ⟨f.s, 0, none⟩), .int .i64 (m : Nat)] W (EnP f W R) := by
  have H := Lib.hid h
  have HR := Lib.hid hR
  have HU := Lib.hid (back_facts T hmp)
  have HML := Lib.hid hml
  clear hR hmp hml
  obtain ⟨r1, r2, r3⟩ := sm_pop h hp
  have S1 := Lib.hid r2
  have B1 := Lib.hid r3
  have f5 := h.free 5
  obtain ⟨c0, c1, c2, c3, c4, c5, c6, c7, c8⟩ := h.cells
  have hl : (T.path.length : Int) = (p0.length : Int) + 1 := by rw [hp]; simp
  rw [show T.path.length = p0.length + 1 by rw [hp]; simp] at r1 c5
  obtain ⟨k, hk⟩ : ∃ k, k = p0.length := ⟨_, rfl⟩
  have Hk := Lib.hid hk
  rw [← hk] at r1 c5 S1 B1 hpb
  clear h c0 c1 c2 c3 c4 c6 c7 c8 r2 r3 hl hk
  have HP := Lib.hid hp
  have HS := Lib.hid hs
  clear hp hs
  go_enter Tryz.func95, Tryz.ntmps95
  go_wp2_with fail
  go_region
  clear r1 c5 f5
  generalize (W.setCell ⟨f.s, 5, none⟩ (.slice v.Ap k v.cp)).drew = W1 at *
  obtain ⟨c0, c1, c2, c3, c4, c5o, c6, c7, c8⟩ := S1.out.cells
  have c5 : W1.cell? ⟨f.s, 5, none⟩ = some (.slice v.Ap k v.cp) := by rw [Hk.out]; exact c5o
  clear c5o
  go_upto_if 28 with fail
  go_cut [4] (fun _ wx => ∃ v', Hid (SM f wx v' (T.back p0 m)) ∧ v'.pend = [] ∧ Hid (Below f.n0 W wx))
  case first =>
    rcases hl : p0.getLast? with _ | b
    · obtain rfl : p0 = [] := List.getLast?_eq_none_iff.1 hl
      obtain rfl : k = 0 := Hk.out
      have hb : Hid (T.back [] m = { T with path := [] }) := Lib.hid rfl
      go_wp2_with fail
      go_meet
      exact ⟨v, by rw [hb.out]; exact S1, hpe, B1⟩
    · obtain ⟨p1, rfl⟩ := List.getLast?_eq_some_iff.1 hl
      have hbn : b < f.n := hpn b (by simp)
      have hb : Hid (T.back (p1 ++ [b]) m = { T with path := p1 ++ [b], low := upd T.low b (min (T.low b) (T.low m)) }) := Lib.hid (by unfold MS.back; rw [hl])
      obtain ⟨j, hj⟩ : ∃ j, j = p1.length := ⟨_, rfl⟩
      obtain rfl : k = j + 1 := by rw [Hk.out, hj]; simp
      have Hj := Lib.hid hj
      obtain ⟨g, off, hA, hlt, hc⟩ := (show Seg W1 3 v.Ap v.cp (natI (p1 ++ [b])) from S1.out.c 5).at_ (by simp [natI])
      have kb : W1.cell? ⟨g, off + j, none⟩ = some (.int .i64 (b : Nat)) := by
        rw [hj, hc p1.length (by simp [natI])]
        simp [natI]
      rw [hA] at c5
      clear hj
      obtain ⟨lb, lb'⟩ := S1.out.low hbn
      obtain ⟨lm, lm'⟩ := S1.out.low hm
      have hbI : (b : Int) < (f.n : Int) := by omega
      have hmI : (m : Int) < (f.n : Int) := by omega
      clear hc hA hl
      have hmin : Hid (min ((T.low b : Nat) : Int) ((T.low m : Nat) : Int) = ((min (T.low b) (T.low m) : Nat) : Int)) := Lib.hid (by omega)
      go_wp2_with fail
      go_quiet (fail)
      go_wp2_with fail
      go_region
      go_wp2_with fail
      go_meet
      rw [hmin.out, hb.out]
      exact ⟨v, Lib.hid ((S1.out.drewN _).setLow b _).1, hpe, Lib.hid (B1.out.trans ((((Fr.refl [] W1).drewN _).below (by simp) S1.out.n0).trans ((S1.out.drewN _).setLow b _).2))⟩
  case rest =>
    obtain ⟨v2, S2, hpe2, B2⟩ := hcut
    clear c0 c1 c2 c3 c4 c5 c6 c7 c8 S1 B1 H
    obtain ⟨u1, u2, u3, u4', u5'⟩ := HU.out
    have HR2 : Hid ((T.low m < T.num m ∧ R = T.back p0 m) ∨ (¬ T.low m < T.num m ∧ ((m :: ls).Perm L ∧ L.Pairwise (· < ·) ∧ ∀ x ∈ L, x < f.n) ∧ R = (T.back p0 m).shut s0 L)) := HR
    have hdl : (T.back p0 m).low m = T.low m := u1
    have hdn : (T.back p0 m).num m = T.num m := by rw [u2]
    have HS2 : Hid ((T.back p0 m).stack = s0 ++ m :: ls) := Lib.hid (by rw [u3]; exact HS.out)
    have HQ2 : (T.back p0 m).parts.length ≤ 100 := by rw [u4']; exact hqb
    rw [← hdl, ← hdn] at HR2
    clear u1 u2 u3 u4' u5' hdl hdn HR HU HS hqb HP
    generalize T.back p0 m = U at *
    have fin := Lib.hid (fun (W' : World) (v' : Vd) (h1 : SM f W' v' R) (h2 : v'.pend = []) (h3 : Below f.n0 W W') => show EnP f W R (.returned (.tuple #[])) W' from ⟨rfl, v', h1, h2, h3⟩)
    obtain ⟨c0, c1, c2, c3, c4, c5, c6, c7, c8⟩ := S2.out.cells
    obtain ⟨lm, lm'⟩ := S2.out.low hm
    obtain ⟨nm, nm'⟩ := S2.out.num hm
    have hmI : (m : Int) < (f.n : Int) := by omega
    clear c0 c1 c4 c5 c6 c7 c8
    rcases HR2.out with ⟨hlt, hR⟩ | ⟨hlt, ⟨hLp, hLs, hLn⟩, hR⟩
    · have d1 : decide (((U.low m : Nat) : Int) < ((U.num m : Nat) : Int)) = true := decide_eq_true (by omega)
      have hR := Lib.hid hR
      clear HR2
      go_wp2_with fail
      go_quiet (fail)
      go_wp2_with fail
      go_end0
      exact fin.out _ _ (by rw [hR.out]; exact S2.out.drewN _) hpe2 (B2.out.trans (((Fr.refl [] wc).drewN _).below (by simp) S2.out.n0))
    · have d1 : decide (((U.low m : Nat) : Int) < ((U.num m : Nat) : Int)) = false := decide_eq_false (by omega)
      have HLP := Lib.hid hLp
      have HLS := Lib.hid hLs
      have HLN := Lib.hid hLn
      clear hLp hLs hLn
      have hR := Lib.hid hR
      clear HR2
      go_wp2_with fail
      go_quiet (fail)
      have S3 := Lib.hid (S2.out.drewN nq)
      have B3 := Lib.hid (B2.out.trans (((Fr.refl [] wc).drewN nq).below (by simp) S2.out.n0))
      clear S2 B2 lm lm' nm nm' c2 c3
      generalize wc.drewN nq = W3 at *
      obtain ⟨c0, c1, c2, c3, c4, c5, c6, c7, c8⟩ := S3.out.cells
      have hsl : U.stack.length = s0.length + ls.length + 1 := by rw [HS2.out]; simp; omega
      rw [hsl] at c6
      obtain ⟨g, off, hA, hlt2, hc⟩ := (show Seg W3 3 v2.As v2.cs (natI U.stack) from S3.out.c 6).at_ (by rw [natI_len, hsl]; omega)
      have kel : Hid (∀ i, s0.length ≤ i → i ≤ s0.length + ls.length → ∃ x : Nat, W3.cell? ⟨g, off + i, none⟩ = some (.int .i64 (x : Nat)) ∧ (x = m ↔ i = s0.length)) := Lib.hid (by
        intro i h1 h2
        have hil : i < (natI U.stack).length := by rw [natI_len, hsl]; omega
        refine ⟨U.stack[i]'(by rw [hsl]; omega), ?_, ?_⟩
        · rw [hc i hil]; simp [natI]
        · have e : U.stack[i]? = (s0 ++ m :: ls)[i]? := by rw [HS2.out]
          rw [List.getElem?_append_right h1] at e
          rcases Nat.eq_or_lt_of_le h1 with h3 | h3
          · subst h3
            rw [Nat.sub_self, List.getElem?_cons_zero, List.getElem?_eq_getElem (by rw [hsl]; omega)] at e
            have e := Option.some.inj e
            simp [e]
          · obtain ⟨j, hj⟩ : ∃ j, i = s0.length + (j + 1) := ⟨i - s0.length - 1, by omega⟩
            rw [hj, Nat.add_sub_cancel_left, List.getElem?_cons_succ, List.getElem?_eq_getElem (by rw [hsl]; omega), List.getElem?_eq_getElem (by omega)] at e
            have e := Option.some.inj e
            subst hj
            constructor
            · intro e2
              rw [e] at e2
              exact absurd (e2 ▸ List.getElem_mem _) HML.out
            · intro h5; omega)
      obtain ⟨A', r8, hblk, hseg⟩ := (show Seg W3 3 v2.As v2.cs (natI U.stack) from S3.out.c 6).from_ (t := 71) Tryz.underlying71 (fun w => sizeOf_int w) s0.length (by rw [natI_len, hsl]; omega)
      obtain ⟨r9, hseg9⟩ := (show Seg W3 3 v2.As v2.cs (natI U.stack) from S3.out.c 6).upto (t := 71) Tryz.underlying71 (fun w => sizeOf_int w) s0.length (by rw [natI_len, hsl]; omega)
      rw [natI_len, hsl, hA, show s0.length + ls.length + 1 - s0.length = L.length by rw [← HLP.out.length_eq]; simp; omega] at r8
      rw [natI_len, hsl] at r9
      have e8 : (natI U.stack).drop s0.length = natI (m :: ls) := by rw [HS2.out]; simp [natI]
      have e9 : (natI U.stack).take s0.length = natI s0 := by rw [HS2.out]; simp [natI]
      have hseg := Lib.hid (hseg W3 (S3.out.c 6))
      rw [e8] at hseg
      have hseg9 := Lib.hid hseg9
      have HE9 := Lib.hid e9
      have HSL := Lib.hid hsl
      rw [hA] at c6
      clear hA e8 e9 hblk hc c0 c1 c2 c3 c4 c5 c7 c8 hsl
      go_wp2_with fail
      go_loopw [5] (fun i wr => ∃ k : Nat, s0.length ≤ k ∧ k ≤ s0.length + ls.length ∧ i = .int .i64 k ∧ W3 = wr) (fun i _ => (intOf i).toNat)
      case atStart => exact ⟨s0.length + ls.length, by omega, by omega, by go_num, rfl⟩
      case round =>
        obtain ⟨k, hk1, hk2, rfl, rfl⟩ := hrel
        obtain ⟨x, kx, hx⟩ := kel.out k hk1 hk2
        have hkI : (k : Int) < (s0.length + ls.length + 1 : Int) := by omega
        by_cases hks : k = s0.length
        · have e1 : ((x : Int) != (m : Int)) = false := by rw [hx.2 hks]; simp
          subst hks
          have KC := clone_row W3 A' (v2.cs - s0.length) (m :: ls) hseg.out.rd (by simp) (by simp; omega)
          have hLl := HLP.out.length_eq
          rw [hLl] at KC
          have hLb : L.length ≤ 200 := by rw [← hLl]; simp; omega
          have hL0 : 0 < L.length := by rw [← hLl]; simp
          have HLL := Lib.hid hLl
          have KC := Lib.hid KC
          clear hLl kel hx
          go_wp2_with fail
          refine KC.out.mono ?_
          rintro e w4 ⟨g4, cap4, rfl, hg4, hcb4, hb4⟩
          have S4 := Lib.hid (S3.out.newPend hb4 ⟨some ⟨g4, 0, none⟩, cap4, m :: ls⟩ (by have := hcb4.seg; rwa [zs_natI] at this) (fun q hq => by rw [blk_some, List.mem_singleton] at hq; omega))
          have B4 := Lib.hid (B3.out.trans (hb4.mono S3.out.n0))
          have HCB := Lib.hid hcb4
          have hne : Hid (g4 ∉ [f.s]) := Lib.hid (by have := S3.out.lts.1; simp; omega)
          clear hg4 hcb4 hb4 KC r8 hseg S3 B3 c6 kx
          obtain ⟨c0, c1, c2, c3, c4, c5, c6, c7, c8⟩ := S4.out.cells
          have f6 := S4.out.free 6
          dsimp only at c6
          rw [HSL.out] at c6
          have hp5 := S4.out.putStack (W1 := w4) (A' := v2.As) (c' := v2.cs) (p' := s0) (n := s0.length) rfl (by rw [← HE9.out]; exact hseg9.out w4 (S4.out.c 6)) (Fr.refl _ _) (fun q hq => Or.inl hq)
          have S5 := Lib.hid hp5.2.1
          have B5 := Lib.hid (B4.out.trans hp5.2.2)
          have HCB5 := Lib.hid (HCB.out.kept eI (((Fr.refl [f.s] w4).setCell (p := ⟨f.s, 6, none⟩) (Or.inl (by simp)) (.slice v2.As s0.length v2.cs)).block g4 HCB.out.lt hne.out))
          clear c0 c1 c2 c3 c4 c5 c7 c8 hp5 S4 B4 HCB
          go_upto_region 10 with fail
          clear c6 f6 r9
          generalize w4.setCell ⟨f.s, 6, none⟩ (.slice v2.As s0.length v2.cs) = w5 at *
          have KS := sort_row w5 g4 cap4 (m :: ls) L HCB5.out (by rw [HLL.out]; omega) HLP.out HLS.out
          rw [HLL.out] at KS
          have KS := Lib.hid KS
          go_wp2_with fail
          refine KS.out.mono ?_
          rintro e w6 ⟨rfl, hcb6, hf6⟩
          have hp6 := S5.out.setPend (v := { v2 with As := v2.As, cs := v2.cs }) (W' := w6) hf6 L (by have := hcb6.seg; rwa [zs_natI] at this)
          have S6 := Lib.hid hp6.1
          have B6 := Lib.hid (B5.out.trans hp6.2)
          clear hcb6 hf6 hp6 KS S5 B5 HCB5
          go_wp2_with fail
          go_loopw [114] (fun i wr => ∃ k : Nat, k ≤ L.length ∧ i = .int .i64 k ∧ Hid (SM f wr { v2 with As := v2.As, cs := v2.cs, pend := [⟨some ⟨g4, 0, none⟩, cap4, L⟩] } { U with stack := s0, part := prt U.part L U.parts.length k }) ∧ Hid (Below f.n0 W wr)) (fun i _ => L.length - (intOf i).toNat)
          case atStart => exact ⟨0, by omega, rfl, by rw [prt_zero]; exact S6, B6⟩
          case round =>
            obtain ⟨k, hk, rfl, hS, hB⟩ := hrel
            rename_i wr _
            clear S6 B6
            by_cases hkl : k < L.length
            · have e2 : decide ((k : Int) < (L.length : Int)) = true := decide_eq_true (by omega)
              have hkI : (k : Int) < (L.length : Int) := by omega
              have kp : wr.cell? ⟨g4, k, none⟩ = some (.int .i64 ((L[k] : Nat) : Int)) := by
                obtain ⟨g', off', e, _, hc⟩ := ((hS.out.c 9) _ (List.mem_singleton.2 rfl)).at_ (by rw [natI_len]; omega)
                cases e
                have := hc k (by rw [natI_len]; omega)
                rw [Nat.zero_add] at this
                rw [this]
                simp [natI]
              have hps := Lib.hid (prt_succ U.part U.parts.length hkl)
              have hpn2 := HLN.out L[k] (List.getElem_mem hkl)
              generalize L[k] = p at *
              have hpI : (p : Int) < (f.n : Int) := by omega
              obtain ⟨c0, c1, c2, c3, c4, c5, c6, c7, c8⟩ := hS.out.cells
              obtain ⟨pa, pb⟩ := hS.out.part hpn2
              have hp7 := hS.out.setPart p (U.parts.length : Nat)
              have S7 := Lib.hid hp7.1.drew
              have B7 := Lib.hid (hB.out.trans hp7.2.drew)
              clear c0 c1 c2 c3 c5 c6 c8 hp7
              try dsimp only at c7
              go_wp2_with fail
              go_region
              go_wp2_with fail
              go_roundw
              case rel => exact ⟨k + 1, by omega, by go_num, by rw [← hps.out]; exact S7, B7⟩
              case measure => simp [intOf]; omega
            · obtain rfl : k = L.length := by omega
              have e2 : decide ((L.length : Int) < (L.length : Int)) = false := decide_eq_false (by omega)
              obtain ⟨i0, hi0, hz0, hz1, hz2⟩ := info_parts info_row
              have Hi := Lib.hid hi0
              have Hz0 := Lib.hid hz0
              have Hz1 := Lib.hid hz1
              have Hz2 := Lib.hid hz2
              clear hi0 hz0 hz1 hz2
              have hsg := Lib.hid ((show Seg wr 71 v2.Aq v2.cq (v2.rows.map hdr) from hS.out.c 7).alloc (.cells #[.slice (some ⟨g4, 0, none⟩) L.length cap4] 71))
              have hrl : v2.rows.length = U.parts.length := by
                have := congrArg List.length hS.out.rw_
                simpa using this
              have hlen : Hid (U.parts.length = (v2.rows.map hdr).length) := Lib.hid (by simp [hrl])
              obtain ⟨c0, c1, c2, c3, c4, c5, c6, c7, c8⟩ := hS.out.cells
              try dsimp only at c7
              clear c0 c1 c2 c3 c4 c5 c6 c8 hrl
              go_wp2_with (at_builtin
                           refine wpList_push (u := .slice (some ⟨g4, 0, none⟩) L.length cap4) rfl (.tmp 134) (.tmp 136) _ rfl hsg.out hlen.out Tryz.underlying69 Hi.out Hz0.out Hz1.out Hz2.out rfl rfl rfl (new_cell _ _ _) rfl (by omega) (by omega) ?_
                           intro A7 cap7 w7 hs7 f7 b7
                           have Q := hS.out.putParts (r := ⟨some ⟨g4, 0, none⟩, cap4, L⟩) (v := { v2 with As := v2.As, cs := v2.cs }) (W1 := w7) (A' := A7) (c' := cap7) (n := U.parts.length + 1) rfl (by rw [List.map_append]; exact hs7) (((Fr.refl [] wr).alloc _).trans f7 (by simp) (fun g hg => Or.inl hg)) (fun g hg => by
                             rcases b7 with e | e
                             · exact Or.inl (e ▸ hg)
                             · rw [e, List.mem_singleton] at hg
                               subst hg
                               exact Or.inr (by simp))
                           have hQ := Lib.hid Q
                           have q7 := Q.1.cell 7
                           have p7 := Q.1.free 7
                           clear Q hs7 f7 b7)
              go_end0
              have h1 := hQ.out.2.1
              rw [prt_all] at h1
              rw [hR.out] at fin
              exact fin.out _ _ h1 rfl (hB.out.trans hQ.out.2.2)
        · have e1 : ((x : Int) != (m : Int)) = true := by
            have : ¬ x = m := fun e => hks (hx.1 e)
            simp; omega
          have e2 : (k : Int) - 1 = ((k - 1 : Nat) : Int) := by omega
          go_wp2_with fail
          go_roundw
          case rel => exact ⟨k - 1, by omega, by omega, by rw [← e2], trivial⟩
          case measure => simp [intOf]; omega
end Go.Proofs.YtohdcmmkbblhkaaGreatDoor.tj

/-
  tarjan: the search from a member, plain: steps on the state in memory, and how much is left.
-/
set_option linter.all false
namespace Go.Proofs.YtohdcmmkbblhkaaGreatDoor.tj
open Go.RowKit Go.Proofs.YtohdcmmkbblhkaaGreatDoor.mem

theorem ms_enter (T : TS) (m : Nat) : (T.enter m).ms = T.ms.enter m := by simp [TS.enter, MS.enter, MS.enterK, TS.ms, pth_cons, stk_cons]

theorem Inv.lens {g : G} {T : TS} (h : Inv g T) : (stk T.S).length ≤ g.n ∧ (pth T.S).length ≤ g.n := by
  have h1 := nodup_len (l := stk T.S) (m := List.range g.n) h.nodup (fun x hx => by simpa using (h.vis x hx).1)
  rw [List.length_range] at h1
  refine ⟨h1, ?_⟩
  have h2 : (pth T.S).length ≤ (stk T.S).length := by
    unfold pth stk
    rw [List.length_reverse, List.length_map, List.length_flatMap, ← List.length_reverse]
    generalize T.S.reverse = l
    induction l with
    | nil => simp
    | cons x r ih => simp at ih ⊢; omega
  omega

theorem Inv.parts_le {g : G} {T : TS} (h : Inv g T) : T.parts.length ≤ g.n := by
  have hx : ∀ k, k < T.parts.length → ∃ v, v < g.n ∧ T.part v = (k : Int) := fun k hk => by
    obtain ⟨i, hi, e⟩ := h.cls _ (List.getElem_mem hk)
    exact ⟨i, hi, h.idx k _ (List.getElem?_eq_getElem hk) i (by rw [e]; exact g.cls_self hi)⟩
  have H : ∀ m, m ≤ T.parts.length → ∃ l : List Nat, l.length = m ∧ l.Nodup ∧ ∀ v ∈ l, v < g.n ∧ T.part v < (m : Int) := by
    intro m
    induction m with
    | zero => exact fun _ => ⟨[], rfl, by simp, by simp⟩
    | succ m ih =>
      intro hm
      obtain ⟨l, h1, h2, h3⟩ := ih (by omega)
      obtain ⟨v, v1, v2⟩ := hx m (by omega)
      refine ⟨v :: l, by simp [h1], List.nodup_cons.2 ⟨fun hv => by have := (h3 v hv).2; omega, h2⟩, fun u hu => ?_⟩
      rcases List.mem_cons.1 hu with rfl | hu
      · exact ⟨v1, by omega⟩
      · have := h3 u hu; exact ⟨this.1, by omega⟩
  obtain ⟨l, h1, h2, h3⟩ := H _ (Nat.le_refl _)
  have := nodup_len (l := l) (m := List.range g.n) h2 (fun x hx => by simpa using (h3 x hx).1)
  rw [List.length_range] at this
  omega

/-- how many edges were not tried -/
def rem_ (g : G) (T : TS) : Nat := ((List.range g.n).map fun v => (g.out v).length - T.tried v).sum

theorem sum_upd {f f' : Nat → Nat} {m : Nat} : ∀ {l : List Nat}, l.Nodup → m ∈ l → (∀ v, v ≠ m → f' v = f v) → (l.map f').sum + f m = (l.map f).sum + f' m
  | [], _, h, _ => by cases h
  | x :: r, hn, hm, he => by
    have h1 := List.nodup_cons.1 hn
    rcases List.mem_cons.1 hm with rfl | hm
    · have e : r.map f' = r.map f := List.map_congr_left fun v hv => he v (fun e => h1.1 (e ▸ hv))
      simp only [List.map_cons, List.sum_cons, e]
      omega
    · have ih := sum_upd h1.2 hm he
      have hx : f' x = f x := he x (fun e => h1.1 (e ▸ hm))
      simp only [List.map_cons, List.sum_cons, hx]
      omega

theorem rem_try {g : G} {T : TS} {m : Nat} (hm : m < g.n) (ht : T.tried m < (g.out m).length) : rem_ g (T.try_ m) + 1 = rem_ g T := by
  have := sum_upd (f := fun v => (g.out v).length - T.tried v) (f' := fun v => (g.out v).length - (T.try_ m).tried v) (m := m) (l := List.range g.n) List.nodup_range (by simpa using hm) (fun v hv => by
    show _ - upd _ _ _ _ = _
    rw [upd_ne _ _ hv])
  have e : (T.try_ m).tried m = T.tried m + 1 := upd_same _ _ _
  simp only [e] at this
  unfold rem_
  omega

theorem rem_eq {g : G} {T T' : TS} (h : T'.tried = T.tried) : rem_ g T' = rem_ g T := by unfold rem_; rw [h]

/-- a member is left -/
theorem leave_step {g : G} {T : TS} (hg : g.ok) (h : Inv g T) {m : Nat} {ls : List Nat} {rest : List (Nat × List Nat)} (hS : T.S = (m, ls) :: rest) (ht : T.tried m = (g.out m).length) :
    ∃ T', Inv g T' ∧ pth T'.S = pth rest ∧ T'.tried = T.tried ∧ T'.num = T.num ∧
      ((T.ms.low m < T.ms.num m ∧ T'.ms = T.ms.back (pth rest) m) ∨ (¬ T.ms.low m < T.ms.num m ∧ ((m :: ls).Perm (g.cls m) ∧ (g.cls m).Pairwise (· < ·) ∧ ∀ x ∈ g.cls m, x < g.n) ∧ T'.ms = (T.ms.back (pth rest) m).shut (stk rest) (g.cls m))) := by
  have es : stk T.S = stk rest ++ (m :: ls) := by rw [hS, stk_cons]
  have hmn : m < g.n := (h.vis m (by rw [es]; simp)).1
  have hlow := h.low m (by rw [es]; simp)
  -- where the path goes on, its next member is known to lead as far back
  have hback : ∀ b ls' rest', rest = (b, ls') :: rest' → Inv g (T.lower b (T.low m)) ∧ T.ms.back (pth rest) m = { T.ms with path := pth rest, low := upd T.low b (min (T.low b) (T.low m)) } := by
    intro b ls' rest' e
    obtain ⟨_, w, hw, e1, hR⟩ := hlow
    have hRb : g.R b m = true := h.chain 0 (m, ls) (b, ls') (by rw [hS]; rfl) (by rw [hS, e]; rfl)
    refine ⟨inv_lower h (y := (b, ls')) (by rw [hS, e]; simp) hw (g.trans hmn hRb hR) e1, ?_⟩
    unfold MS.back
    rw [show (pth rest).getLast? = some b by rw [e, pth_cons]; simp]
    rfl
  by_cases hl : T.low m < T.num m
  · obtain ⟨b, ls', rest', e⟩ : ∃ b ls' rest', rest = (b, ls') :: rest' := by
      obtain ⟨_, w, hw, e1, hR⟩ := hlow
      cases rest with
      | cons y r => exact ⟨y.1, y.2, r, rfl⟩
      | nil =>
        exfalso
        have hr := h.rise
        rw [es] at hr hw
        simp only [stk, List.reverse_nil, List.flatMap_nil, List.nil_append] at hr hw
        rcases List.mem_cons.1 hw with rfl | hw
        · omega
        · have := (List.pairwise_cons.1 hr).1 w hw
          omega
    obtain ⟨hI, hb⟩ := hback b ls' rest' e
    have hS2 : (T.lower b (T.low m)).S = (m, ls) :: (b, ls') :: rest' := by show T.S = _; rw [hS, e]
    have hbm : b ≠ m := by
      intro e2
      have := h.nodup
      rw [hS, e, stk_cons, stk_cons, List.nodup_append] at this
      exact this.2.2 b (by simp) m (by simp) e2
    have hlm : (T.lower b (T.low m)).low m = T.low m := upd_ne _ _ (Ne.symm hbm)
    have hM := inv_merge hI hS2 ht (by rw [hlm]; exact hl) (by rw [hlm]; show upd _ _ _ _ ≤ _; rw [upd_same]; exact Nat.min_le_right _ _) hmn
    refine ⟨_, hM, ?_, rfl, rfl, Or.inl ⟨hl, ?_⟩⟩
    · show pth ((b, ls' ++ m :: ls) :: rest') = _
      rw [e, pth_cons, pth_cons]
    · rw [hb]
      show (⟨T.tried, T.num, upd T.low b (min (T.low b) (T.low m)), T.part, pth ((b, ls' ++ m :: ls) :: rest'), stk ((b, ls' ++ m :: ls) :: rest'), T.parts, T.count⟩ : MS) = _
      have e3 : pth ((b, ls' ++ m :: ls) :: rest') = pth rest := by rw [e, pth_cons, pth_cons]
      have e4 : stk ((b, ls' ++ m :: ls) :: rest') = stk T.S := by rw [hS, e, stk_cons, stk_cons, stk_cons]; simp
      rw [e3, e4]
      rfl
  · have hperm : (m :: ls).Perm (g.cls m) ∧ (g.cls m).Pairwise (· < ·) ∧ ∀ x ∈ g.cls m, x < g.n := by
      have hnd := h.nodup
      rw [es, List.nodup_append] at hnd
      refine ⟨(List.perm_ext_iff_of_nodup hnd.2.1 ((g.cls_srt m).imp (fun h => Nat.ne_of_lt h))).2 fun v => close_cls hg h hS ht hl v, g.cls_srt m, fun x hx => (g.mem_cls.1 hx).1⟩
    rcases hr : rest with _ | ⟨⟨b, ls'⟩, rest'⟩
    · have hC := inv_close hg h hS ht hl
      rw [hr] at hC
      refine ⟨_, hC, rfl, rfl, rfl, Or.inr ⟨hl, hperm, ?_⟩⟩
      rfl
    · obtain ⟨hI, hb⟩ := hback b ls' rest' hr
      have hbm : b ≠ m := by
        intro e2
        have := h.nodup
        rw [hS, hr, stk_cons, stk_cons, List.nodup_append] at this
        exact this.2.2 b (by simp) m (by simp) e2
      have hlm : (T.lower b (T.low m)).low m = T.low m := upd_ne _ _ (Ne.symm hbm)
      have hC := inv_close hg hI (m := m) (ls := ls) (rest := rest) hS ht (by rw [hlm]; exact hl)
      rw [← hr]
      refine ⟨_, hC, rfl, rfl, rfl, Or.inr ⟨hl, hperm, ?_⟩⟩
      rw [hb]
      rfl
end Go.Proofs.YtohdcmmkbblhkaaGreatDoor.tj

/-
  tarjan: the search from a member: the walk.
-/
set_option linter.all false
namespace Go.Proofs.YtohdcmmkbblhkaaGreatDoor.tj
open Go.RowKit Go.Sort Go.Proofs.YtohdcmmkbblhkaaGreatDoor.mem Go.Proofs.YtohdcmmkbblhkaaGreatDoor.cb

/-- a graph's edges in memory -/
structure OM (W : World) (n0 o : Nat) (g : G) : Prop where
  lt : o < n0
  row : ∀ v, v < g.n → ∃ A cap, W.cell? ⟨o, v, none⟩ = some (.slice A (g.out v).length cap) ∧ Rd W A (natI (g.out v)) ∧ (0 < (g.out v).length → ∀ x ∈ blk A, x < n0)

theorem OM.below {W W' : World} {n0 o : Nat} {g : G} (h : OM W n0 o g) (hb : Below n0 W W') : OM W' n0 o g :=
  ⟨h.lt, fun v hv => by
    obtain ⟨A, cap, h1, h2, h3⟩ := h.row v hv
    refine ⟨A, cap, (hb.cell (p := ⟨o, v, none⟩) h.lt).trans h1, fun hz => ?_, h3⟩
    obtain ⟨b, off, rfl, hl, hc⟩ := h2 hz
    have hx := h3 (by simpa [natI] using hz) b (by simp [blk])
    exact ⟨b, off, rfl, Nat.lt_of_lt_of_le hl hb.size, fun j hj => (hb.cell (p := ⟨b, off + j, none⟩) hx).trans (hc j hj)⟩⟩

/-- between two steps of a search -/
structure FI (g : G) (f : Fx) (o : Nat) (w W : World) (v : Vd) (T : TS) : Prop where
  inv : Inv g T
  sm : SM f W v T.ms
  pe : v.pend = []
  on : Below f.n0 w W
  om : OM W f.n0 o g

theorem FI.below {g : G} {f : Fx} {o : Nat} {w W W' : World} {v : Vd} {T : TS} (h : FI g f o w W v T) (hb : Below W.heap.size W W') : FI g f o w W' v T :=
  ⟨h.inv, h.sm.on hb, h.pe, h.on.trans (hb.mono h.sm.n0), h.om.below (hb.mono h.sm.n0)⟩
theorem FI.drewN {g : G} {f : Fx} {o : Nat} {w W : World} {v : Vd} {T : TS} (h : FI g f o w W v T) (n : Nat) : FI g f o w (W.drewN n) v T := h.below (((Fr.refl [] W).drewN n).all)

def FrPost (g : G) (f : Fx) (o : Nat) (w : World) (m : Nat) (T0 : TS) (e : Ending) (W : World) : Prop := e = .returned (.tuple #[]) ∧ ∃ v T, FI g f o w W v T ∧ T.S = [] ∧ 0 < T.num m ∧ ∀ x, 0 < T0.num x → 0 < T.num x

/-- what was come to stays so -/
def Seen (T0 T : TS) (m : Nat) : Prop := 0 < T.num m ∧ ∀ x, 0 < T0.num x → 0 < T.num x

set_option maxRecDepth 100000 in
set_option maxHeartbeats 4000000 in
theorem from_any (g : G) (hg : g.ok) (hn : g.n ≤ 100) (f : Fx) (hfn : f.n = g.n) (o : Nat) (hov : f.outV = .slice (some ⟨o, 0, none⟩) g.n g.n) (w : World) (v : Vd) (T : TS) (h : FI g f o w w v T) (hS : T.S = []) (m : Nat) (hm : m < g.n) (h0 : T.num m = 0) (hel : ∀ u, (g.out u).length ≤ 1000) :
    Calls Tryz.prog 78 #[.pointer (some ⟨f.s, 0, none⟩), .int .i64 (m : Nat)] w (FrPost g f o w m T) := by
  have hE := Lib.hid (inv_start h.inv hS hm h0)
  have KE := enter_any f w v T.ms h.sm h.pe m (by omega) (by omega) (by have := h.inv.count_le; show T.count ≤ 100; omega) (by have := h.inv.lens.2; show (pth T.S).length ≤ 100; omega) (by have := h.inv.lens.1; show (stk T.S).length ≤ 100; omega)
  rw [← ms_enter] at KE
  have KE := Lib.hid KE
  have HO := Lib.hid h.om
  have HSe : Hid (Seen T (T.enter m) m) := Lib.hid ⟨by simp [TS.enter, upd_same], fun x hx => by
    show 0 < upd _ _ _ _
    by_cases e : x = m
    · subst e; rw [upd_same]; omega
    · rw [upd_ne _ _ e]; exact hx⟩
  have HF := Lib.hid hov
  have HN := Lib.hid hfn
  have HEL := Lib.hid hel
  clear h hov hfn hS hel
  go_enter Tryz.func78, Tryz.ntmps78
  go_wp2_with fail
  go_step3
  go_wp2_with fail
  refine KE.out.mono ?_
  rintro e w1 ⟨rfl, v1, s1, p1, b1⟩
  have I1 : Hid (FI g f o w w1 v1 (T.enter m)) := Lib.hid ⟨hE.out, s1, p1, b1, HO.out.below b1⟩
  clear s1 p1 b1 KE hE HO
  generalize hT1 : T.enter m = T1 at *
  clear hT1
  go_wp2_with fail
  go_step3
  go_wp2_with fail
  go_loopg [4] (2 * rem_ g T1 + (pth T1.S).length) (fun gk _ wr => ∃ (v' : Vd) (T' : TS), gk = 2 * rem_ g T' + (pth T'.S).length ∧ Hid (FI g f o w wr v' T') ∧ Hid (Seen T T' m))
  case atStart => exact ⟨v1, T1, rfl, I1, HSe⟩
  case round =>
    obtain ⟨v2, T2, hgk, hI, hsee⟩ := hrel
    have HGK := Lib.hid hgk
    rename Nat => G
    clear I1 HSe hgk
    obtain ⟨c0, c1, c2, c3, c4, c5, c6, c7, c8⟩ := hI.out.sm.cells
    have hpl := hI.out.inv.lens.2
    rcases hS2 : T2.S with _ | ⟨⟨m2, ls⟩, rest⟩
    · have c5' : wr.cell? ⟨f.s, 5, none⟩ = some (.slice v2.Ap 0 v2.cp) := by rw [c5]; show some (Value.slice _ (pth T2.S).length _) = _; rw [hS2]; rfl
      have hf := Lib.hid (show FrPost g f o w m T (.returned (.tuple #[])) wr from ⟨rfl, v2, T2, hI.out, hS2, hsee.out.1, hsee.out.2⟩)
      clear c0 c1 c2 c3 c4 c5 c6 c7 c8 hS2 hI hsee hpl
      go_wp2_with fail
      try rw [Exit.noGoto_ret]
      go_end0
      exact hf.out
    · have hp2 : pth T2.S = pth rest ++ [m2] := by rw [hS2, pth_cons]
      have hm2 : m2 < g.n := (hI.out.inv.vis m2 (by rw [hS2, stk_cons]; simp)).1
      have hm2f : m2 < f.n := by rw [HN.out]; exact hm2
      rw [hp2] at hpl
      have hrl : (pth rest).length ≤ 100 := by simp at hpl; omega
      obtain ⟨ga, off, hA, hlt, hc⟩ := (show Seg wr 3 v2.Ap v2.cp (natI (pth T2.S)) from hI.out.sm.c 5).at_ (by rw [hp2]; simp [natI])
      obtain ⟨j, hj⟩ : ∃ j, Hid (j = (pth rest).length) := ⟨_, Lib.hid rfl⟩
      rw [← hj.out] at hrl
      have kb : wr.cell? ⟨ga, off + j, none⟩ = some (.int .i64 (m2 : Nat)) := by
        rw [hj.out, hc (pth rest).length (by rw [hp2]; simp [natI])]
        simp [hp2, natI]
      have c5' : wr.cell? ⟨f.s, 5, none⟩ = some (.slice (some ⟨ga, off, none⟩) (j + 1) v2.cp) := by
        rw [c5, hA, hj.out]
        show some (Value.slice _ (pth T2.S).length _) = _
        rw [hp2]
        simp
      have HS2 := Lib.hid hS2
      clear c0 c1 c2 c3 c4 c5 c6 c7 c8 hS2 hA hc hpl hp2
      go_wp2_with fail
      go_quiet (fail)
      have I2 := Lib.hid (hI.out.drewN nq)
      clear kb c5' hlt hI
      generalize wr.drewN nq = w2 at *
      go_wp2_with fail
      go_loopg [5] ((g.out m2).length - T2.tried m2) (fun k _ wr => ∃ (v' : Vd) (T' : TS), k = (g.out m2).length - T'.tried m2 ∧ Hid (T'.S = (m2, ls) :: rest) ∧ Hid (rem_ g T' ≤ rem_ g T2) ∧ Hid (FI g f o w wr v' T') ∧ Hid (Seen T T' m))
      case atStart => exact ⟨v2, T2, rfl, HS2, Lib.hid (Nat.le_refl _), I2, hsee⟩
      case round =>
        obtain ⟨v3, T3, hgk, hS3, hrm, hI, hsee3⟩ := hrel
        have HGI := Lib.hid hgk
        clear I2 hsee hgk
        have ht := hI.out.inv.trd 0 (m2, ls) (by rw [hS3.out]; rfl)
        have htl : T3.tried m2 ≤ (g.out m2).length := ht.1
        have hel := HEL.out m2
        obtain ⟨c0, c1, c2, c3, c4, c5, c6, c7, c8⟩ := hI.out.sm.cells
        rw [HF.out] at c0
        obtain ⟨Ao, co, ko, hro, _⟩ := hI.out.om.row m2 hm2
        obtain ⟨tm0, tm'⟩ := hI.out.sm.tried hm2f
        obtain ⟨k, hk⟩ : ∃ k, Hid (T3.tried m2 = k) := ⟨_, Lib.hid rfl⟩
        have tm : wr.cell? ⟨f.to, m2, none⟩ = some (.int .i64 (k : Int)) := by rw [← hk.out]; exact tm0
        rw [hk.out] at htl HGI
        clear tm0 ht
        have hmI : (m2 : Int) < (f.n : Int) := by omega
        have hmJ : (m2 : Int) < (g.n : Int) := by omega
        obtain ⟨q, hq⟩ : ∃ q, Hid ((g.out m2).length = q) := ⟨_, Lib.hid rfl⟩
        rw [hq.out] at ko htl hel HGI
        by_cases hgo : k < q
        · have d1 : decide ((k : Int) < (q : Int)) = true := decide_eq_true (by omega)
          have hgoI : (k : Int) < (q : Int) := by omega
          obtain ⟨bo, oo, rfl, _, hco⟩ := hro (by rw [natI_len, hq.out]; omega)
          obtain ⟨t2, hto⟩ : ∃ t2, Hid ((g.out m2)[T3.tried m2]? = some t2) := ⟨(g.out m2)[k]'(by rw [hq.out]; exact hgo), Lib.hid (by rw [hk.out, List.getElem?_eq_getElem])⟩
          have kt : wr.cell? ⟨bo, oo + k, none⟩ = some (.int .i64 ((t2 : Nat) : Int)) := by
            rw [hco k (by rw [natI_len, hq.out]; exact hgo)]
            have := hto.out
            rw [hk.out, List.getElem?_eq_getElem (by rw [hq.out]; exact hgo)] at this
            have := Option.some.inj this
            simp [natI, this]
          have hedge := Lib.hid (g.mem_out.1 (List.mem_of_getElem? hto.out))
          have hton := (hg _ hedge.out).2
          have htof : t2 < f.n := by rw [HN.out]; exact hton
          have htI : (t2 : Int) < (f.n : Int) := by omega
          have htl2 : T3.tried m2 < (g.out m2).length := by rw [hk.out, hq.out]; exact hgo
          clear hco hro
          go_wp2_with fail
          go_quiet (fail)
          rename Nat => n1
          go_wp2_with fail
          go_quiet (fail)
          rename Nat => n2
          have I4 := Lib.hid ((hI.out.drewN n1).drewN n2)
          clear c0 c1 c2 c3 c4 c5 c6 c7 c8 ko tm tm' kt hI
          generalize (wr.drewN n1).drewN n2 = w4 at *
          -- the edge is tried
          obtain ⟨c0, c1, c2, c3, c4, c5, c6, c7, c8⟩ := I4.out.sm.cells
          obtain ⟨tm0, tm'⟩ := I4.out.sm.tried hm2f
          have tm : w4.cell? ⟨f.to, m2, none⟩ = some (.int .i64 (k : Int)) := by rw [← hk.out]; exact tm0
          have hp5 := I4.out.sm.setTried m2 (k + 1)
          have S5 := Lib.hid hp5.1
          have B5 := Lib.hid hp5.2
          clear c0 c2 c3 c4 c5 c6 c7 c8 tm0 hp5
          go_upto_region 6 with fail
          rw [show ((k : Int) + 1) = ((k + 1 : Nat) : Int) from rfl]
          have O5 := Lib.hid (I4.out.om.below B5.out)
          have On5 := Lib.hid (I4.out.on.trans B5.out)
          have pe5 := I4.out.pe
          have HI3 := Lib.hid I4.out.inv
          have S5 : Hid (SM f (w4.setCell ⟨f.to, m2, none⟩ (.int .i64 ((k + 1 : Nat) : Int))) v3 (T3.try_ m2).ms) := Lib.hid (by
            have := S5.out
            rw [← hk.out] at this
            rw [← hk.out]
            exact this)
          clear c1 tm tm' B5 I4
          generalize w4.setCell ⟨f.to, m2, none⟩ (.int .i64 ((k + 1 : Nat) : Int)) = w5 at *
          have hrem := Lib.hid (rem_try hm2 htl2)
          obtain ⟨c0, c1, c2, c3, c4, c5, c6, c7, c8⟩ := S5.out.cells
          obtain ⟨nt0, nt'⟩ := S5.out.num htof
          have nt : w5.cell? ⟨f.tn, t2, none⟩ = some (.int .i64 ((T3.num t2 : Nat) : Int)) := nt0
          clear nt0
          by_cases hz : T3.num t2 = 0
          · have d2 : (((T3.num t2 : Nat) : Int) == 0) = true := by rw [hz]; rfl
            have hI6 := Lib.hid (inv_deeper hg HI3.out hS3.out hto.out hz)
            have KE := enter_any f w5 v3 (T3.try_ m2).ms S5.out pe5 t2 htof (by rw [HN.out]; exact hn) (by have := HI3.out.count_le; show T3.count ≤ 100; omega) (by have := HI3.out.lens.2; show (pth T3.S).length ≤ 100; omega) (by have := HI3.out.lens.1; show (stk T3.S).length ≤ 100; omega)
            rw [← ms_enter] at KE
            have KE := Lib.hid KE
            clear c0 c1 c3 c4 c5 c6 c7 c8
            go_wp2_with fail
            refine KE.out.mono ?_
            rintro e w6 ⟨rfl, v6, s6, p6, b6⟩
            have I6 : Hid (FI g f o w w6 v6 ((T3.try_ m2).enter t2)) := Lib.hid ⟨hI6.out, s6, p6, On5.out.trans b6, O5.out.below b6⟩
            clear s6 p6 b6 KE c2 nt nt'
            have hms : Hid (2 * rem_ g ((T3.try_ m2).enter t2) + (pth ((T3.try_ m2).enter t2).S).length < G) := Lib.hid (by
              have e1 : rem_ g ((T3.try_ m2).enter t2) = rem_ g (T3.try_ m2) := rem_eq rfl
              have e2 : (pth ((T3.try_ m2).enter t2).S).length = (pth T2.S).length + 1 := by
                show (pth ((t2, []) :: T3.S)).length = _
                rw [pth_cons, hS3.out, HS2.out]
                simp
              have a := hrem.out
              have b := hrm.out
              have c := HGK.out
              rw [e1, e2, c]
              omega)
            go_wp2_with fail
            go_roundg (2 * rem_ g ((T3.try_ m2).enter t2) + (pth ((T3.try_ m2).enter t2).S).length)
            case rel => exact ⟨v6, _, rfl, I6, Lib.hid ⟨by
              show 0 < upd _ _ _ _
              by_cases e : m = t2
              · subst e; rw [upd_same]; omega
              · rw [upd_ne _ _ e]; exact hsee3.out.1, fun x hx => by
              show 0 < upd _ _ _ _
              by_cases e : x = t2
              · subst e; rw [upd_same]; omega
              · rw [upd_ne _ _ e]; exact hsee3.out.2 x hx⟩⟩
            case measure => exact hms.out
          · have d2 : (((T3.num t2 : Nat) : Int) == 0) = false := by simp; omega
            have hact := Lib.hid (HI3.out.act hton (by omega))
            obtain ⟨pt0, pt'⟩ := S5.out.part htof
            have pt : w5.cell? ⟨f.tp, t2, none⟩ = some (.int .i64 (T3.part t2)) := pt0
            clear pt0
            have hk1 : Hid ((g.out m2).length - (T3.tried m2 + 1) < gk) := Lib.hid (by have := HGI.out; rw [hk.out, hq.out]; omega)
            have htr : Hid ((T3.try_ m2).tried m2 = T3.tried m2 + 1) := Lib.hid (upd_same _ _ _)
            by_cases hpt : T3.part t2 < 0
            · have d3 : decide (T3.part t2 < 0) = true := decide_eq_true hpt
              have hys := Lib.hid (hact.out.2 hpt)
              have hL := Lib.hid (inv_lower HI3.out (y := (m2, ls)) (by rw [hS3.out]; simp) hys.out (g.edge hedge.out) (x := T3.num t2) rfl)
              have hI6 := Lib.hid (inv_skip (T := T3.lower m2 (T3.num t2)) hL.out (b := m2) (ls := ls) (rest := rest) hS3.out hto.out (by show 0 < T3.num t2; omega) (fun _ => by show upd _ _ _ _ ≤ T3.num t2; rw [upd_same]; exact Nat.min_le_right _ _))
              obtain ⟨lm0, lm'⟩ := S5.out.low hm2f
              have lm : w5.cell? ⟨f.tl, m2, none⟩ = some (.int .i64 ((T3.low m2 : Nat) : Int)) := lm0
              have hmin : Hid (min ((T3.low m2 : Nat) : Int) ((T3.num t2 : Nat) : Int) = ((min (T3.low m2) (T3.num t2) : Nat) : Int)) := Lib.hid (by omega)
              clear lm0 c0 c1 c5 c6 c7 c8 hpt hz
              go_wp2_with fail
              go_region
              rw [hmin.out]
              have hp6 := S5.out.setLow m2 (min (T3.low m2) (T3.num t2))
              have I6 : Hid (FI g f o w _ v3 ((T3.lower m2 (T3.num t2)).try_ m2)) := Lib.hid ⟨hI6.out, hp6.1.drew, pe5, On5.out.trans hp6.2.drew, O5.out.below hp6.2.drew⟩
              clear hp6 c2 c3 c4 lm lm' nt nt' pt pt' S5
              generalize (w5.setCell ⟨f.tl, m2, none⟩ (.int .i64 ((min (T3.low m2) (T3.num t2) : Nat) : Int))).drew = w6 at *
              go_wp2_with fail
              go_roundg ((g.out m2).length - (T3.tried m2 + 1))
              case rel => exact ⟨v3, (T3.lower m2 (T3.num t2)).try_ m2, by rw [← htr.out]; rfl, hS3, Lib.hid (by
                have e : rem_ g ((T3.lower m2 (T3.num t2)).try_ m2) = rem_ g (T3.try_ m2) := rem_eq rfl
                have := hrem.out
                have := hrm.out
                omega), I6, hsee3⟩
              case measure => exact hk1.out
            · have d3 : decide (T3.part t2 < 0) = false := decide_eq_false hpt
              have hI6 := Lib.hid (inv_skip HI3.out hS3.out hto.out (by omega) (fun h => absurd h hpt))
              clear c0 c1 c3 c5 c6 c7 c8 hz
              go_wp2_with fail
              go_roundg ((g.out m2).length - (T3.tried m2 + 1))
              case rel => exact ⟨v3, T3.try_ m2, by rw [htr.out], hS3, Lib.hid (by have := hrem.out; have := hrm.out; omega), Lib.hid ⟨hI6.out, S5.out, pe5, On5.out, O5.out⟩, hsee3⟩
              case measure => exact hk1.out
        · have d1 : decide ((k : Int) < (q : Int)) = false := decide_eq_false (by omega)
          have hteq : T3.tried m2 = (g.out m2).length := by rw [hk.out, hq.out]; omega
          obtain ⟨T7, hI7, hp7, ht7, hn7, hR7⟩ := leave_step hg hI.out.inv hS3.out hteq
          have hnd := hI.out.inv.nodup
          have hvis := hI.out.inv.vis
          have hl1 := hI.out.inv.lens.1
          rw [hS3.out, stk_cons] at hnd hvis hl1
          rw [List.nodup_append] at hnd
          have hpr : ∀ x ∈ pth rest, x ∈ stk rest := fun x hx => by
            unfold pth at hx
            rw [List.mem_reverse, List.mem_map] at hx
            obtain ⟨y, hy, rfl⟩ := hx
            exact mem_stk.2 ⟨y, hy, Or.inl rfl⟩
          have hm2p : m2 ∉ pth rest := fun hx => hnd.2.2 m2 (hpr m2 hx) m2 (by simp) rfl
          have hl2 : (pth rest).length ≤ 100 := by rw [← hj.out]; exact hrl
          have hl3 : (stk rest).length + ls.length ≤ 100 := by simp at hl1; omega
          have hl4 : T3.ms.parts.length ≤ 100 := by have := hI.out.inv.parts_le; show T3.parts.length ≤ 100; omega
          have hpf : ∀ x ∈ pth rest, x < f.n := fun x hx => by rw [HN.out]; exact (hvis x (List.mem_append_left _ (hpr x hx))).1
          have KL := Lib.hid (fun n => leave_any f (wr.drewN n) v3 T3.ms (hI.out.drewN n).sm hI.out.pe m2 hm2f (pth rest) (stk rest) ls (g.cls m2) (by show pth T3.S = _; rw [hS3.out, pth_cons]) (by show stk T3.S = _; rw [hS3.out, stk_cons]) hpf hm2p (List.nodup_cons.1 hnd.2.1).1 hl2 hl3 hl4 T7.ms (by rw [HN.out]; exact hR7))
          have HI7 := Lib.hid hI7
          have hms : Hid (2 * rem_ g T7 + (pth T7.S).length < G) := Lib.hid (by
            have e1 : rem_ g T7 = rem_ g T3 := rem_eq ht7
            have e2 : (pth T2.S).length = (pth rest).length + 1 := by rw [HS2.out, pth_cons]; simp
            have b := hrm.out
            have c := HGK.out
            rw [e1, hp7, c, e2]
            omega)
          have hsee7 : Hid (Seen T T7 m) := Lib.hid ⟨by rw [hn7]; exact hsee3.out.1, fun x hx => by rw [hn7]; exact hsee3.out.2 x hx⟩
          have II := Lib.hid (fun n => hI.out.drewN n)
          clear hI hI7 hp7 ht7 hn7 hR7 hnd hvis hl1 hpr hm2p hl2 hl3 hl4 hpf hro c2 c3 c4 c5 c6 c7 c8 hteq
          go_wp2_with fail
          go_quiet (fail)
          rename Nat => n1
          go_wp2_with fail
          refine (KL.out n1).mono ?_
          rintro e w7 ⟨rfl, v7, s7, p7, b7⟩
          have I7 : Hid (FI g f o w w7 v7 T7) := Lib.hid ⟨HI7.out, s7, p7, (II.out n1).on.trans b7, (II.out n1).om.below b7⟩
          clear s7 p7 b7 KL II c0 c1 ko tm tm'
          go_wp2_with fail
          go_roundg (2 * rem_ g T7 + (pth T7.S).length)
          case rel => exact ⟨v7, T7, rfl, I7, hsee7⟩
          case measure => exact hms.out
end Go.Proofs.YtohdcmmkbblhkaaGreatDoor.tj
