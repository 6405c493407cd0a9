/-
  tarjan: a member is left: the walk.
-/
import Derived.Test.YtpdidgacmikllaaTjP
import Derived.Test.YtpdidgacmikllaaTjR
import Derived.Deep.DeepCutAuto
import Derived.StillTailTactics
import Derived.Deep.QuietTactic
import Derived.BigQuiet
namespace Go.Proofs.Ytpdidgacmikllaa.tj
open Go.RowKit Go.Sort Go.Proofs.Ytpdidgacmikllaa.mem Go.Proofs.Ytpdidgacmikllaa.cb

def MS.back (T : MS) (p0 : List Nat) (m : Nat) : MS :=
  match p0.getLast? with
  | none => { T with path := p0 }
  | some b => { T with path := p0, low := upd T.low b (min (T.low b) (T.low m)) }

def MS.shut (T : MS) (s0 L : List Nat) : MS := { T with stack := s0, part := fun v => if v ∈ L then (T.parts.length : Int) else T.part v, parts := T.parts ++ [L] }

theorem sizeOf_int (w : World) : (sizeOf 3).run Try.prog w = .ok 1 w := by kernel_rfl

theorem back_facts (T : MS) {p0 : List Nat} {m : Nat} (h : m ∉ p0) : (T.back p0 m).low m = T.low m ∧ (T.back p0 m).num = T.num ∧ (T.back p0 m).stack = T.stack ∧ (T.back p0 m).parts = T.parts ∧ (T.back p0 m).part = T.part := by
  unfold MS.back
  rcases hl : p0.getLast? with _ | b
  · exact ⟨rfl, rfl, rfl, rfl, rfl⟩
  · refine ⟨upd_ne _ _ (fun e => h ?_), rfl, rfl, rfl, rfl⟩
    rw [e]
    exact List.mem_of_getLast? hl

/-- parts told, as far as a list's k-th -/
def prt (P : Nat → Int) (L : List Nat) (K : Nat) (k : Nat) : Nat → Int := fun v => if v ∈ L.take k then (K : Int) else P v
theorem prt_zero (P : Nat → Int) (L : List Nat) (K : Nat) : prt P L K 0 = P := by funext v; simp [prt]
theorem prt_all (P : Nat → Int) (L : List Nat) (K : Nat) : prt P L K L.length = fun v => if v ∈ L then (K : Int) else P v := by funext v; simp [prt]
theorem prt_succ (P : Nat → Int) {L : List Nat} (K : Nat) {k : Nat} (hk : k < L.length) : upd (prt P L K k) L[k] (K : Int) = prt P L K (k + 1) := by
  funext v
  have hm : v ∈ L.take (k + 1) ↔ v ∈ L.take k ∨ v = L[k] := by rw [List.take_succ_eq_append_getElem hk, List.mem_append, List.mem_singleton]
  unfold prt upd
  dsimp only
  by_cases e : v = L[k]
  · rw [if_pos e, if_pos (hm.2 (Or.inr e))]
  · rw [if_neg e]
    by_cases e2 : v ∈ L.take k
    · rw [if_pos e2, if_pos (hm.2 (Or.inl e2))]
    · rw [if_neg e2, if_neg (fun h => (hm.1 h).elim e2 e)]

theorem info_row : (Try.prog.info? 32).map (fun i => (i.zero, i.size, i.bytes)) = some (some (.slice none 0 0), 1, 24) := by kernel_rfl

/-- the path without its last one -/
theorem sm_pop {f : Fx} {W : World} {v : Vd} {T : MS} (h : SM f W v T) {p0 : List Nat} {m : Nat} (hp : T.path = p0 ++ [m]) :
    (∀ w, (Instr.slice 32 (.slice v.Ap T.path.length v.cp) none (some (.int .i64 (p0.length : Nat))) none).run Try.prog w = .ok (.slice v.Ap p0.length v.cp) w) ∧
    SM f (W.setCell ⟨f.s, 5, none⟩ (.slice v.Ap p0.length v.cp)).drew v { T with path := p0 } ∧ Below f.n0 W (W.setCell ⟨f.s, 5, none⟩ (.slice v.Ap p0.length v.cp)).drew := by
  have hs : Seg W 3 v.Ap v.cp (natI T.path) := h.c 5
  obtain ⟨h1, h2⟩ := hs.upto (t := 32) Try.underlying32 (fun w => sizeOf_int w) p0.length (by rw [natI_len, hp]; simp)
  rw [natI_len] at h1
  have e : (natI T.path).take p0.length = natI p0 := by rw [hp]; simp [natI]
  have h3 := h2 W hs
  rw [e] at h3
  have h4 := h.putPath (W1 := W) (A' := v.Ap) (c' := v.cp) (p' := p0) (n := p0.length) rfl h3 (Fr.refl _ _) (fun g hg => Or.inl hg)
  exact ⟨h1, h4.2.1.drew, h4.2.2.drew⟩

set_option maxRecDepth 100000 in
set_option maxHeartbeats 2000000 in
theorem leave_any (f : Fx) (W : World) (v : Vd) (T : MS) (h : SM f W v T) (hpe : v.pend = []) (m : Nat) (hm : m < f.n) (p0 s0 ls L : List Nat) (hp : T.path = p0 ++ [m]) (hs : T.stack = s0 ++ m :: ls) (hpn : ∀ x ∈ p0, x < f.n) (hmp : m ∉ p0) (hml : m ∉ ls) (hpb : p0.length ≤ 100) (hsb : s0.length + ls.length ≤ 100) (hqb : T.parts.length ≤ 100) (R : MS) (hR : (T.low m < T.num m ∧ R = T.back p0 m) ∨ (¬ T.low m < T.num m ∧ ((m :: ls).Perm L ∧ L.Pairwise (· < ·) ∧ ∀ x ∈ L, x < f.n) ∧ R = (T.back p0 m).shut s0 L)) :
    Calls Try.prog 38 #[.pointer (some ⟨f.s, 0, none⟩), .int .i64 (m : Nat)] W (EnP f W R) := by
  have H := Lib.hid h
  have HR := Lib.hid hR
  have HU := Lib.hid (back_facts T hmp)
  have HML := Lib.hid hml
  clear hR hmp hml
  obtain ⟨r1, r2, r3⟩ := sm_pop h hp
  have S1 := Lib.hid r2
  have B1 := Lib.hid r3
  have f5 := h.free 5
  obtain ⟨c0, c1, c2, c3, c4, c5, c6, c7, c8⟩ := h.cells
  have hl : (T.path.length : Int) = (p0.length : Int) + 1 := by rw [hp]; simp
  rw [show T.path.length = p0.length + 1 by rw [hp]; simp] at r1 c5
  obtain ⟨k, hk⟩ : ∃ k, k = p0.length := ⟨_, rfl⟩
  have Hk := Lib.hid hk
  rw [← hk] at r1 c5 S1 B1 hpb
  clear h c0 c1 c2 c3 c4 c6 c7 c8 r2 r3 hl hk
  have HP := Lib.hid hp
  have HS := Lib.hid hs
  clear hp hs
  go_enter Try.func38, Try.ntmps38
  go_wp2_with fail
  go_region
  clear r1 c5 f5
  generalize (W.setCell ⟨f.s, 5, none⟩ (.slice v.Ap k v.cp)).drew = W1 at *
  obtain ⟨c0, c1, c2, c3, c4, c5o, c6, c7, c8⟩ := S1.out.cells
  have c5 : W1.cell? ⟨f.s, 5, none⟩ = some (.slice v.Ap k v.cp) := by rw [Hk.out]; exact c5o
  clear c5o
  go_upto_if 28 with fail
  go_cut [4] (fun _ wx => ∃ v', Hid (SM f wx v' (T.back p0 m)) ∧ v'.pend = [] ∧ Hid (Below f.n0 W wx))
  case first =>
    rcases hl : p0.getLast? with _ | b
    · obtain rfl : p0 = [] := List.getLast?_eq_none_iff.1 hl
      obtain rfl : k = 0 := Hk.out
      have hb : Hid (T.back [] m = { T with path := [] }) := Lib.hid rfl
      go_wp2_with fail
      go_meet
      exact ⟨v, by rw [hb.out]; exact S1, hpe, B1⟩
    · obtain ⟨p1, rfl⟩ := List.getLast?_eq_some_iff.1 hl
      have hbn : b < f.n := hpn b (by simp)
      have hb : Hid (T.back (p1 ++ [b]) m = { T with path := p1 ++ [b], low := upd T.low b (min (T.low b) (T.low m)) }) := Lib.hid (by unfold MS.back; rw [hl])
      obtain ⟨j, hj⟩ : ∃ j, j = p1.length := ⟨_, rfl⟩
      obtain rfl : k = j + 1 := by rw [Hk.out, hj]; simp
      have Hj := Lib.hid hj
      obtain ⟨g, off, hA, hlt, hc⟩ := (show Seg W1 3 v.Ap v.cp (natI (p1 ++ [b])) from S1.out.c 5).at_ (by simp [natI])
      have kb : W1.cell? ⟨g, off + j, none⟩ = some (.int .i64 (b : Nat)) := by
        rw [hj, hc p1.length (by simp [natI])]
        simp [natI]
      rw [hA] at c5
      clear hj
      obtain ⟨lb, lb'⟩ := S1.out.low hbn
      obtain ⟨lm, lm'⟩ := S1.out.low hm
      have hbI : (b : Int) < (f.n : Int) := by omega
      have hmI : (m : Int) < (f.n : Int) := by omega
      clear hc hA hl
      have hmin : Hid (min ((T.low b : Nat) : Int) ((T.low m : Nat) : Int) = ((min (T.low b) (T.low m) : Nat) : Int)) := Lib.hid (by omega)
      go_wp2_with fail
      go_quiet (fail)
      go_wp2_with fail
      go_region
      go_wp2_with fail
      go_meet
      rw [hmin.out, hb.out]
      exact ⟨v, Lib.hid ((S1.out.drewN _).setLow b _).1, hpe, Lib.hid (B1.out.trans ((((Fr.refl [] W1).drewN _).below (by simp) S1.out.n0).trans ((S1.out.drewN _).setLow b _).2))⟩
  case rest =>
    obtain ⟨v2, S2, hpe2, B2⟩ := hcut
    clear c0 c1 c2 c3 c4 c5 c6 c7 c8 S1 B1 H
    obtain ⟨u1, u2, u3, u4', u5'⟩ := HU.out
    have HR2 : Hid ((T.low m < T.num m ∧ R = T.back p0 m) ∨ (¬ T.low m < T.num m ∧ ((m :: ls).Perm L ∧ L.Pairwise (· < ·) ∧ ∀ x ∈ L, x < f.n) ∧ R = (T.back p0 m).shut s0 L)) := HR
    have hdl : (T.back p0 m).low m = T.low m := u1
    have hdn : (T.back p0 m).num m = T.num m := by rw [u2]
    have HS2 : Hid ((T.back p0 m).stack = s0 ++ m :: ls) := Lib.hid (by rw [u3]; exact HS.out)
    have HQ2 : (T.back p0 m).parts.length ≤ 100 := by rw [u4']; exact hqb
    rw [← hdl, ← hdn] at HR2
    clear u1 u2 u3 u4' u5' hdl hdn HR HU HS hqb HP
    generalize T.back p0 m = U at *
    have fin := Lib.hid (fun (W' : World) (v' : Vd) (h1 : SM f W' v' R) (h2 : v'.pend = []) (h3 : Below f.n0 W W') => show EnP f W R (.returned (.tuple #[])) W' from ⟨rfl, v', h1, h2, h3⟩)
    obtain ⟨c0, c1, c2, c3, c4, c5, c6, c7, c8⟩ := S2.out.cells
    obtain ⟨lm, lm'⟩ := S2.out.low hm
    obtain ⟨nm, nm'⟩ := S2.out.num hm
    have hmI : (m : Int) < (f.n : Int) := by omega
    clear c0 c1 c4 c5 c6 c7 c8
    rcases HR2.out with ⟨hlt, hR⟩ | ⟨hlt, ⟨hLp, hLs, hLn⟩, hR⟩
    · have d1 : decide (((U.low m : Nat) : Int) < ((U.num m : Nat) : Int)) = true := decide_eq_true (by omega)
      have hR := Lib.hid hR
      clear HR2
      go_wp2_with fail
      go_quiet (fail)
      go_wp2_with fail
      go_end0
      exact fin.out _ _ (by rw [hR.out]; exact S2.out.drewN _) hpe2 (B2.out.trans (((Fr.refl [] wc).drewN _).below (by simp) S2.out.n0))
    · have d1 : decide (((U.low m : Nat) : Int) < ((U.num m : Nat) : Int)) = false := decide_eq_false (by omega)
      have HLP := Lib.hid hLp
      have HLS := Lib.hid hLs
      have HLN := Lib.hid hLn
      clear hLp hLs hLn
      have hR := Lib.hid hR
      clear HR2
      go_wp2_with fail
      go_quiet (fail)
      have S3 := Lib.hid (S2.out.drewN nq)
      have B3 := Lib.hid (B2.out.trans (((Fr.refl [] wc).drewN nq).below (by simp) S2.out.n0))
      clear S2 B2 lm lm' nm nm' c2 c3
      generalize wc.drewN nq = W3 at *
      obtain ⟨c0, c1, c2, c3, c4, c5, c6, c7, c8⟩ := S3.out.cells
      have hsl : U.stack.length = s0.length + ls.length + 1 := by rw [HS2.out]; simp; omega
      rw [hsl] at c6
      obtain ⟨g, off, hA, hlt2, hc⟩ := (show Seg W3 3 v2.As v2.cs (natI U.stack) from S3.out.c 6).at_ (by rw [natI_len, hsl]; omega)
      have kel : Hid (∀ i, s0.length ≤ i → i ≤ s0.length + ls.length → ∃ x : Nat, W3.cell? ⟨g, off + i, none⟩ = some (.int .i64 (x : Nat)) ∧ (x = m ↔ i = s0.length)) := Lib.hid (by
        intro i h1 h2
        have hil : i < (natI U.stack).length := by rw [natI_len, hsl]; omega
        refine ⟨U.stack[i]'(by rw [hsl]; omega), ?_, ?_⟩
        · rw [hc i hil]; simp [natI]
        · have e : U.stack[i]? = (s0 ++ m :: ls)[i]? := by rw [HS2.out]
          rw [List.getElem?_append_right h1] at e
          rcases Nat.eq_or_lt_of_le h1 with h3 | h3
          · subst h3
            rw [Nat.sub_self, List.getElem?_cons_zero, List.getElem?_eq_getElem (by rw [hsl]; omega)] at e
            have e := Option.some.inj e
            simp [e]
          · obtain ⟨j, hj⟩ : ∃ j, i = s0.length + (j + 1) := ⟨i - s0.length - 1, by omega⟩
            rw [hj, Nat.add_sub_cancel_left, List.getElem?_cons_succ, List.getElem?_eq_getElem (by rw [hsl]; omega), List.getElem?_eq_getElem (by omega)] at e
            have e := Option.some.inj e
            subst hj
            constructor
            · intro e2
              rw [e] at e2
              exact absurd (e2 ▸ List.getElem_mem _) HML.out
            · intro h5; omega)
      obtain ⟨A', r8, hblk, hseg⟩ := (show Seg W3 3 v2.As v2.cs (natI U.stack) from S3.out.c 6).from_ (t := 32) Try.underlying32 (fun w => sizeOf_int w) s0.length (by rw [natI_len, hsl]; omega)
      obtain ⟨r9, hseg9⟩ := (show Seg W3 3 v2.As v2.cs (natI U.stack) from S3.out.c 6).upto (t := 32) Try.underlying32 (fun w => sizeOf_int w) s0.length (by rw [natI_len, hsl]; omega)
      rw [natI_len, hsl, hA, show s0.length + ls.length + 1 - s0.length = L.length by rw [← HLP.out.length_eq]; simp; omega] at r8
      rw [natI_len, hsl] at r9
      have e8 : (natI U.stack).drop s0.length = natI (m :: ls) := by rw [HS2.out]; simp [natI]
      have e9 : (natI U.stack).take s0.length = natI s0 := by rw [HS2.out]; simp [natI]
      have hseg := Lib.hid (hseg W3 (S3.out.c 6))
      rw [e8] at hseg
      have hseg9 := Lib.hid hseg9
      have HE9 := Lib.hid e9
      have HSL := Lib.hid hsl
      rw [hA] at c6
      clear hA e8 e9 hblk hc c0 c1 c2 c3 c4 c5 c7 c8 hsl
      go_wp2_with fail
      go_loopw [5] (fun i wr => ∃ k : Nat, s0.length ≤ k ∧ k ≤ s0.length + ls.length ∧ i = .int .i64 k ∧ W3 = wr) (fun i _ => (intOf i).toNat)
      case atStart => exact ⟨s0.length + ls.length, by omega, by omega, by go_num, rfl⟩
      case round =>
        obtain ⟨k, hk1, hk2, rfl, rfl⟩ := hrel
        obtain ⟨x, kx, hx⟩ := kel.out k hk1 hk2
        have hkI : (k : Int) < (s0.length + ls.length + 1 : Int) := by omega
        by_cases hks : k = s0.length
        · have e1 : ((x : Int) != (m : Int)) = false := by rw [hx.2 hks]; simp
          subst hks
          have KC := clone_row W3 A' (v2.cs - s0.length) (m :: ls) hseg.out.rd (by simp) (by simp; omega)
          have hLl := HLP.out.length_eq
          rw [hLl] at KC
          have hLb : L.length ≤ 200 := by rw [← hLl]; simp; omega
          have hL0 : 0 < L.length := by rw [← hLl]; simp
          have HLL := Lib.hid hLl
          have KC := Lib.hid KC
          clear hLl kel hx
          go_wp2_with fail
          refine KC.out.mono ?_
          rintro e w4 ⟨g4, cap4, rfl, hg4, hcb4, hb4⟩
          have S4 := Lib.hid (S3.out.newPend hb4 ⟨some ⟨g4, 0, none⟩, cap4, m :: ls⟩ (by have := hcb4.seg; rwa [zs_natI] at this) (fun q hq => by rw [blk_some, List.mem_singleton] at hq; omega))
          have B4 := Lib.hid (B3.out.trans (hb4.mono S3.out.n0))
          have HCB := Lib.hid hcb4
          have hne : Hid (g4 ∉ [f.s]) := Lib.hid (by have := S3.out.lts.1; simp; omega)
          clear hg4 hcb4 hb4 KC r8 hseg S3 B3 c6 kx
          obtain ⟨c0, c1, c2, c3, c4, c5, c6, c7, c8⟩ := S4.out.cells
          have f6 := S4.out.free 6
          dsimp only at c6
          rw [HSL.out] at c6
          have hp5 := S4.out.putStack (W1 := w4) (A' := v2.As) (c' := v2.cs) (p' := s0) (n := s0.length) rfl (by rw [← HE9.out]; exact hseg9.out w4 (S4.out.c 6)) (Fr.refl _ _) (fun q hq => Or.inl hq)
          have S5 := Lib.hid hp5.2.1
          have B5 := Lib.hid (B4.out.trans hp5.2.2)
          have HCB5 := Lib.hid (HCB.out.kept eI (((Fr.refl [f.s] w4).setCell (p := ⟨f.s, 6, none⟩) (Or.inl (by simp)) (.slice v2.As s0.length v2.cs)).block g4 HCB.out.lt hne.out))
          clear c0 c1 c2 c3 c4 c5 c7 c8 hp5 S4 B4 HCB
          go_upto_region 10 with fail
          clear c6 f6 r9
          generalize w4.setCell ⟨f.s, 6, none⟩ (.slice v2.As s0.length v2.cs) = w5 at *
          have KS := sort_row w5 g4 cap4 (m :: ls) L HCB5.out (by rw [HLL.out]; omega) HLP.out HLS.out
          rw [HLL.out] at KS
          have KS := Lib.hid KS
          go_wp2_with fail
          refine KS.out.mono ?_
          rintro e w6 ⟨rfl, hcb6, hf6⟩
          have hp6 := S5.out.setPend (v := { v2 with As := v2.As, cs := v2.cs }) (W' := w6) hf6 L (by have := hcb6.seg; rwa [zs_natI] at this)
          have S6 := Lib.hid hp6.1
          have B6 := Lib.hid (B5.out.trans hp6.2)
          clear hcb6 hf6 hp6 KS S5 B5 HCB5
          go_wp2_with fail
          go_loopw [114] (fun i wr => ∃ k : Nat, k ≤ L.length ∧ i = .int .i64 k ∧ Hid (SM f wr { v2 with As := v2.As, cs := v2.cs, pend := [⟨some ⟨g4, 0, none⟩, cap4, L⟩] } { U with stack := s0, part := prt U.part L U.parts.length k }) ∧ Hid (Below f.n0 W wr)) (fun i _ => L.length - (intOf i).toNat)
          case atStart => exact ⟨0, by omega, rfl, by rw [prt_zero]; exact S6, B6⟩
          case round =>
            obtain ⟨k, hk, rfl, hS, hB⟩ := hrel
            rename_i wr _
            clear S6 B6
            by_cases hkl : k < L.length
            · have e2 : decide ((k : Int) < (L.length : Int)) = true := decide_eq_true (by omega)
              have hkI : (k : Int) < (L.length : Int) := by omega
              have kp : wr.cell? ⟨g4, k, none⟩ = some (.int .i64 ((L[k] : Nat) : Int)) := by
                obtain ⟨g', off', e, _, hc⟩ := ((hS.out.c 9) _ (List.mem_singleton.2 rfl)).at_ (by rw [natI_len]; omega)
                cases e
                have := hc k (by rw [natI_len]; omega)
                rw [Nat.zero_add] at this
                rw [this]
                simp [natI]
              have hps := Lib.hid (prt_succ U.part U.parts.length hkl)
              have hpn2 := HLN.out L[k] (List.getElem_mem hkl)
              generalize L[k] = p at *
              have hpI : (p : Int) < (f.n : Int) := by omega
              obtain ⟨c0, c1, c2, c3, c4, c5, c6, c7, c8⟩ := hS.out.cells
              obtain ⟨pa, pb⟩ := hS.out.part hpn2
              have hp7 := hS.out.setPart p (U.parts.length : Nat)
              have S7 := Lib.hid hp7.1.drew
              have B7 := Lib.hid (hB.out.trans hp7.2.drew)
              clear c0 c1 c2 c3 c5 c6 c8 hp7
              try dsimp only at c7
              go_wp2_with fail
              go_region
              go_wp2_with fail
              go_roundw
              case rel => exact ⟨k + 1, by omega, by go_num, by rw [← hps.out]; exact S7, B7⟩
              case measure => simp [intOf]; omega
            · obtain rfl : k = L.length := by omega
              have e2 : decide ((L.length : Int) < (L.length : Int)) = false := decide_eq_false (by omega)
              obtain ⟨i0, hi0, hz0, hz1, hz2⟩ := info_parts info_row
              have Hi := Lib.hid hi0
              have Hz0 := Lib.hid hz0
              have Hz1 := Lib.hid hz1
              have Hz2 := Lib.hid hz2
              clear hi0 hz0 hz1 hz2
              have hsg := Lib.hid ((show Seg wr 32 v2.Aq v2.cq (v2.rows.map hdr) from hS.out.c 7).alloc (.cells #[.slice (some ⟨g4, 0, none⟩) L.length cap4] 32))
              have hrl : v2.rows.length = U.parts.length := by
                have := congrArg List.length hS.out.rw_
                simpa using this
              have hlen : Hid (U.parts.length = (v2.rows.map hdr).length) := Lib.hid (by simp [hrl])
              obtain ⟨c0, c1, c2, c3, c4, c5, c6, c7, c8⟩ := hS.out.cells
              try dsimp only at c7
              clear c0 c1 c2 c3 c4 c5 c6 c8 hrl
              go_wp2_with (at_builtin
                           refine wpList_push (u := .slice (some ⟨g4, 0, none⟩) L.length cap4) rfl (.tmp 134) (.tmp 136) _ rfl hsg.out hlen.out Try.underlying25 Hi.out Hz0.out Hz1.out Hz2.out rfl rfl rfl (new_cell _ _ _) rfl (by omega) (by omega) ?_
                           intro A7 cap7 w7 hs7 f7 b7
                           have Q := hS.out.putParts (r := ⟨some ⟨g4, 0, none⟩, cap4, L⟩) (v := { v2 with As := v2.As, cs := v2.cs }) (W1 := w7) (A' := A7) (c' := cap7) (n := U.parts.length + 1) rfl (by rw [List.map_append]; exact hs7) (((Fr.refl [] wr).alloc _).trans f7 (by simp) (fun g hg => Or.inl hg)) (fun g hg => by
                             rcases b7 with e | e
                             · exact Or.inl (e ▸ hg)
                             · rw [e, List.mem_singleton] at hg
                               subst hg
                               exact Or.inr (by simp))
                           have hQ := Lib.hid Q
                           have q7 := Q.1.cell 7
                           have p7 := Q.1.free 7
                           clear Q hs7 f7 b7)
              go_end0
              have h1 := hQ.out.2.1
              rw [prt_all] at h1
              rw [hR.out] at fin
              exact fin.out _ _ h1 rfl (hB.out.trans hQ.out.2.2)
        · have e1 : ((x : Int) != (m : Int)) = true := by
            have : ¬ x = m := fun e => hks (hx.1 e)
            simp; omega
          have e2 : (k : Int) - 1 = ((k - 1 : Nat) : Int) := by omega
          go_wp2_with fail
          go_roundw
          case rel => exact ⟨k - 1, by omega, by omega, by rw [← e2], trivial⟩
          case measure => simp [intOf]; omega
end Go.Proofs.Ytpdidgacmikllaa.tj
