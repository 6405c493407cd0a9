/-
  tarjan: a heap in memory: up and down.
-/
import Derived.Test.YtpdidgacmikllaaTjX
import Derived.Deep.CutRange
import Derived.Deep.DeepCutAuto
import Derived.Laws.OwnMore
import Derived.Handy
namespace Go.Proofs.Ytpdidgacmikllaa.tj
open Go.RowKit Go.Proofs.Ytpdidgacmikllaa.mem

theorem m_len0 (n : Nat) (w : World) (h : Nat) : (method (n + 1) 57 (.pointer (some ⟨h, 0, none⟩)) "Len").run Try.prog w = (loadVar 58 ⟨h, 0, none⟩ >>= fun v => pure (32, v)).run Try.prog w := by kernel_rfl
theorem m_less0 (n : Nat) (w : World) (h : Nat) : (method (n + 1) 57 (.pointer (some ⟨h, 0, none⟩)) "Less").run Try.prog w = (loadVar 58 ⟨h, 0, none⟩ >>= fun v => pure (76, v)).run Try.prog w := by kernel_rfl
theorem m_swap0 (n : Nat) (w : World) (h : Nat) : (method (n + 1) 57 (.pointer (some ⟨h, 0, none⟩)) "Swap").run Try.prog w = (loadVar 58 ⟨h, 0, none⟩ >>= fun v => pure (80, v)).run Try.prog w := by kernel_rfl

theorem m_len {w : World} {h : Nat} {v : Value} (hc : w.cell? ⟨h, 0, none⟩ = some v) (n : Nat) : (method (n + 1) 57 (.pointer (some ⟨h, 0, none⟩)) "Len").run Try.prog w = .ok (32, v) w := by
  rw [m_len0]
  simp [loadVar, hc]
theorem m_less {w : World} {h : Nat} {v : Value} (hc : w.cell? ⟨h, 0, none⟩ = some v) (n : Nat) : (method (n + 1) 57 (.pointer (some ⟨h, 0, none⟩)) "Less").run Try.prog w = .ok (76, v) w := by
  rw [m_less0]
  simp [loadVar, hc]
theorem m_swap {w : World} {h : Nat} {v : Value} (hc : w.cell? ⟨h, 0, none⟩ = some v) (n : Nat) : (method (n + 1) 57 (.pointer (some ⟨h, 0, none⟩)) "Swap").run Try.prog w = .ok (80, v) w := by
  rw [m_swap0]
  simp [loadVar, hc]

/-- a heap that was turned in its place -/
structure HS (W : World) (h : Nat) (A : Option Addr) (c : Nat) (w : World) (ys : List Nat) : Prop where
  lh : LH w h A c ys
  fr : Fr (blk A) W w

theorem HS.below {W w w' : World} {h : Nat} {A : Option Addr} {c : Nat} {ys : List Nat} (k : HS W h A c w ys) (hb : Below w.heap.size w w') : HS W h A c w' ys :=
  ⟨k.lh.below hb, k.fr.trans (Fr.of_below hb []) (fun g hg => Or.inl hg) (fun g hg => (by cases hg))⟩
theorem HS.cell {W w : World} {h : Nat} {A : Option Addr} {c : Nat} {ys : List Nat} (k : HS W h A c w ys) : w.cell? ⟨h, 0, none⟩ = some (.slice A ys.length c) := k.lh.bx.cell 0

def UpPost (W : World) (h : Nat) (A : Option Addr) (c : Nat) (xs : List Nat) (e : Ending) (W' : World) : Prop := e = .returned (.tuple #[]) ∧ ∃ ys, Hp ys ∧ ys.Perm xs ∧ HS W h A c W' ys

set_option maxRecDepth 100000 in
theorem up_any (W : World) (h : Nat) (A : Option Addr) (c : Nat) (xs : List Nat) (hs : LH W h A c xs) (hl : xs.length ≤ 1000) (j : Nat) (hj : j < xs.length) (hu : HU xs j) :
    Calls Try.prog 39 #[.iface 57 (.pointer (some ⟨h, 0, none⟩)), .int .i64 (j : Nat)] W (UpPost W h A c xs) := by
  have H0 : Hid (HS W h A c W xs ∧ HU xs j ∧ j < xs.length ∧ xs.Perm xs) := Lib.hid ⟨⟨hs, Fr.refl _ _⟩, hu, hj, List.Perm.refl _⟩
  obtain ⟨n, hn⟩ : ∃ n, Hid (xs.length = n) := ⟨_, Lib.hid rfl⟩
  have hl : n ≤ 1000 := by rw [← hn.out]; exact hl
  clear hs hu hj
  go_enter Try.func39, Try.ntmps39
  go_wp2_with fail
  go_loopw [1] (fun s wr => ∃ (j : Nat) (ys : List Nat), s = .int .i64 (j : Nat) ∧ Hid (HS W h A c wr ys ∧ HU ys j ∧ j < ys.length ∧ ys.Perm xs)) (fun s _ => (intOf s).toNat)
  case atStart => exact ⟨j, xs, rfl, H0⟩
  case round =>
    obtain ⟨j, ys, rfl, hI⟩ := hrel
    clear H0
    rename World => wr
    have hny : ys.length = n := by rw [hI.out.2.2.2.length_eq]; exact hn.out
    have hjn : j < n := by rw [← hny]; exact hI.out.2.2.1
    have HNY := Lib.hid hny
    clear hny
    by_cases hj0 : j = 0
    · subst hj0
      have fin := Lib.hid (show ∀ w', w' = wr → UpPost W h A c xs (.returned (.tuple #[])) w' from fun w' e => by subst e; exact ⟨rfl, ys, hI.out.2.1.done (Or.inl rfl), hI.out.2.2.2, hI.out.1⟩)
      clear hI
      go_wp2_with fail
      go_end0
      exact fin.out _ rfl
    · obtain ⟨m, hm⟩ : ∃ m, m + 1 = j := ⟨j - 1, by omega⟩
      obtain ⟨p, hp⟩ : ∃ p, p = (j - 1) / 2 := ⟨_, rfl⟩
      have hpn : p < n := by omega
      have KL := less_any wr A c ys hI.out.1.lh.sq j p (by rw [HNY.out]; exact hjn) (by rw [HNY.out]; exact hpn)
      have KL := Lib.hid KL
      have ml := m_less hI.out.1.cell
      have hsub : IntKind.i64.wrap ((j : Int) - 1) = (m : Int) := by rw [show (j : Int) - 1 = (m : Int) by omega]; exact IntWalk.i64_in _ (by omega)
      have hne : ((p : Int) == (j : Int)) = false := by rw [beq_eq_false_iff_ne]; omega
      have hquo : Int.tdiv (m : Int) 2 = (p : Int) := by rw [Int.tdiv_eq_ediv_of_nonneg (by omega)]; omega
      have hpw : IntKind.i64.wrap (p : Int) = (p : Int) := IntWalk.i64_in _ (by omega)
      have HP_ := Lib.hid (And.intro hm hp)
      clear hm hp
      go_wp2_with fail
      refine KL.out.mono ?_
      rintro e w2 ⟨rfl, b2⟩
      have H2 : Hid (HS W h A c w2 ys) := Lib.hid (hI.out.1.below b2)
      have HU_ := Lib.hid hI.out.2
      clear KL ml hsub hne hquo hpw b2 hI
      by_cases hlt : gd ys j < gd ys p
      · have d1 : decide (gd ys j < gd ys p) = true := decide_eq_true hlt
        have KS := Lib.hid (swap_any w2 h A c ys H2.out.lh p j (by rw [HNY.out]; exact hpn) (by rw [HNY.out]; exact hjn))
        have ms := m_swap H2.out.cell
        have hst : Hid (HU (sw ys p j) p ∧ p < (sw ys p j).length ∧ (sw ys p j).Perm xs) := Lib.hid (by
          have e := HP_.out.2
          have h1 := HU_.out.1.step HU_.out.2.1 (by omega) (by rw [← e]; exact hlt)
          rw [← e] at h1
          exact ⟨h1, by rw [sw_len, HNY.out]; exact hpn, (sw_perm (by rw [HNY.out]; exact hpn) (by rw [HNY.out]; exact hjn)).trans HU_.out.2.2⟩)
        have hpj : p < j := by have := HP_.out; omega
        clear hlt
        go_wp2_with fail
        refine KS.out.mono ?_
        rintro e w3 ⟨rfl, l3, f3⟩
        have H3 : Hid (HS W h A c w3 (sw ys p j) ∧ HU (sw ys p j) p ∧ p < (sw ys p j).length ∧ (sw ys p j).Perm xs) := Lib.hid ⟨⟨l3, H2.out.fr.trans f3 (fun g hg => Or.inl hg) (fun g hg => Or.inl hg)⟩, hst.out⟩
        clear l3 f3 KS ms hst
        go_wp2_with fail
        go_roundw
        case rel => exact ⟨p, _, rfl, H3⟩
        case measure => simp [intOf]; omega
      · have d1 : decide (gd ys j < gd ys p) = false := decide_eq_false hlt
        have fin := Lib.hid (show ∀ w', w' = w2 → UpPost W h A c xs (.returned (.tuple #[])) w' from fun w' e => by subst e; exact ⟨rfl, ys, HU_.out.1.done (Or.inr (by have e := HP_.out.2; rw [← e]; omega)), HU_.out.2.2, H2.out⟩)
        go_wp2_with fail
        go_end0
        exact fin.out _ rfl

def DnPost (W : World) (h : Nat) (A : Option Addr) (c n : Nat) (xs : List Nat) (e : Ending) (W' : World) : Prop := (∃ b, e = .returned (.bool b)) ∧ ∃ ys, Hn ys n ∧ ys.Perm xs ∧ (∀ k, n ≤ k → gd ys k = gd xs k) ∧ HS W h A c W' ys

def DnI (W : World) (h : Nat) (A : Option Addr) (c n : Nat) (xs : List Nat) (w : World) (ys : List Nat) (i : Nat) : Prop := HS W h A c w ys ∧ HD ys n i ∧ ys.Perm xs ∧ ∀ k, n ≤ k → gd ys k = gd xs k

set_option maxRecDepth 100000 in
theorem down_any (W : World) (h : Nat) (A : Option Addr) (c : Nat) (xs : List Nat) (hs : LH W h A c xs) (hl : xs.length ≤ 1000) (n : Nat) (hn : n ≤ xs.length) (hu : HD xs n 0) :
    Calls Try.prog 40 #[.iface 57 (.pointer (some ⟨h, 0, none⟩)), .int .i64 0, .int .i64 (n : Nat)] W (DnPost W h A c n xs) := by
  have H0 : Hid (DnI W h A c n xs W xs 0) := Lib.hid ⟨⟨hs, Fr.refl _ _⟩, hu, List.Perm.refl _, fun _ _ => rfl⟩
  have HN := Lib.hid hn
  have hn' : n ≤ 1000 := by omega
  clear hs hu hn
  go_enter Try.func40, Try.ntmps40
  go_wp2_with fail
  go_loopw [7] (fun s wr => ∃ (i : Nat) (ys : List Nat), s = .int .i64 (i : Nat) ∧ i ≤ n ∧ Hid (DnI W h A c n xs wr ys i)) (fun s _ => n - (intOf s).toNat)
  case atStart => exact ⟨0, xs, rfl, by omega, H0⟩
  case round =>
    obtain ⟨i, ys, rfl, hin, hI⟩ := hrel
    clear H0
    rename World => wr
    obtain ⟨d, hd⟩ : ∃ d, d = 2 * i := ⟨_, rfl⟩
    obtain ⟨q, hq⟩ : ∃ q, q = d + 1 := ⟨_, rfl⟩
    have hmul : IntKind.i64.wrap (2 * (i : Int)) = (d : Int) := by rw [show 2 * (i : Int) = (d : Int) by omega]; exact IntWalk.i64_in _ (by omega)
    have hadd : IntKind.i64.wrap ((d : Int) + 1) = (q : Int) := by rw [show (d : Int) + 1 = (q : Int) by omega]; exact IntWalk.i64_in _ (by omega)
    have Hq := Lib.hid (show q = 2 * i + 1 by omega)
    clear hd hq
    by_cases hqn : q < n
    · have d1 : decide ((n : Int) ≤ (q : Int)) = false := decide_eq_false (by omega)
      have d2 : decide ((q : Int) < 0) = false := decide_eq_false (by omega)
      have d3 : decide (n ≤ q) = false := decide_eq_false (by omega)
      go_upto_region 4 with fail
      go_cut [9] (fun s9 wx => s9 = .int .i64 (q : Nat) ∧ wx = wr)
      case first =>
        go_wp2_with fail
        go_meet
        exact ⟨rfl, rfl⟩
      case rest =>
        obtain ⟨rfl, rfl⟩ := hcut
        rename_i hK
        refine hK _ _ ?_
        apply wp_seq_k
        intro K2 hK2
        clear hK
        have hqi : q < ys.length ∧ i < ys.length := by
          have h1 := hI.out.2.2.1.length_eq
          have h2 := HN.out
          have h3 := Hq.out
          omega
        have Hqi := Lib.hid hqi
        clear hqi
        go_cut [9, 10] from 12 to 34 (fun s9 s10 wx => s9 = .int .i64 (lc ys n i : Nat) ∧ Hid (DnI W h A c n xs wx ys i))
        case first =>
          clear hK2
          obtain ⟨r, hr⟩ : ∃ r, r = q + 1 := ⟨_, rfl⟩
          have hadd2 : IntKind.i64.wrap ((q : Int) + 1) = (r : Int) := by rw [show (q : Int) + 1 = (r : Int) by omega]; exact IntWalk.i64_in _ (by omega)
          have Hr := Lib.hid (show r = 2 * i + 2 by have := Hq.out; omega)
          clear hr
          by_cases hrn : r < n
          · have d4 : decide ((r : Int) < (n : Int)) = true := decide_eq_true (by omega)
            have d5 : decide (r < n) = true := decide_eq_true (by omega)
            have KL := Lib.hid (less_any wc A c ys hI.out.1.lh.sq r q (by have h1 := hI.out.2.2.1.length_eq; have h2 := HN.out; omega) Hqi.out.1)
            have ml := m_less hI.out.1.cell
            go_wp2_with fail
            refine KL.out.mono ?_
            rintro e w2 ⟨rfl, b2⟩
            have H2 : Hid (DnI W h A c n xs w2 ys i) := Lib.hid ⟨hI.out.1.below b2, hI.out.2⟩
            clear KL ml b2 hI
            by_cases hlt : gd ys r < gd ys q
            · have d6 : decide (gd ys r < gd ys q) = true := decide_eq_true hlt
              have hlc : Hid (lc ys n i = r) := Lib.hid (by have e1 := Hr.out; have e2 := Hq.out; unfold lc; rw [← e1, show 2 * i + 1 = q from e2.symm, if_pos ⟨hrn, hlt⟩])
              go_wp2_with fail
              go_meet
              exact ⟨by rw [hlc.out], H2⟩
            · have d6 : decide (gd ys r < gd ys q) = false := decide_eq_false hlt
              have hlc : Hid (lc ys n i = q) := Lib.hid (by have e1 := Hr.out; have e2 := Hq.out; unfold lc; rw [← e1, show 2 * i + 1 = q from e2.symm, if_neg (fun h => hlt h.2)])
              go_wp2_with fail
              go_meet
              exact ⟨by rw [hlc.out], H2⟩
          · have d4 : decide ((r : Int) < (n : Int)) = false := decide_eq_false (by omega)
            have d5 : decide (r < n) = false := decide_eq_false (by omega)
            have hlc : Hid (lc ys n i = q) := Lib.hid (by have e1 := Hr.out; have e2 := Hq.out; unfold lc; rw [← e1, show 2 * i + 1 = q from e2.symm, if_neg (fun h => hrn h.1)])
            go_wp2_with fail
            go_meet
            exact ⟨by rw [hlc.out], hI⟩
        case rest =>
          obtain ⟨rfl, hI2⟩ := hcut
          refine hK2 _ _ ?_
          clear hK2 hI
          have hlt := Lib.hid (lc_lt (xs := ys) (n := n) (i := i) (by have := Hq.out; omega))
          generalize hj : lc ys n i = j at *
          have hjn := hlt.out.1
          have Hj := Lib.hid hj
          clear hj
          rename World => wd
          have hjl : j < ys.length := by have h1 := hI2.out.2.2.1.length_eq; have h2 := HN.out; omega
          have KL := Lib.hid (less_any wd A c ys hI2.out.1.lh.sq j i hjl Hqi.out.2)
          have ml := m_less hI2.out.1.cell
          have Hjl := Lib.hid hjl
          clear hjl
          go_wp2_with fail
          refine KL.out.mono ?_
          rintro e w2 ⟨rfl, b2⟩
          have H2 : Hid (DnI W h A c n xs w2 ys i) := Lib.hid ⟨hI2.out.1.below b2, hI2.out.2⟩
          clear KL ml b2 hI2
          by_cases hl2 : gd ys j < gd ys i
          · have d6 : decide (gd ys j < gd ys i) = true := decide_eq_true hl2
            have KS := Lib.hid (swap_any w2 h A c ys H2.out.1.lh i j Hqi.out.2 Hjl.out)
            have ms := m_swap H2.out.1.cell
            have hst : Hid (HD (sw ys i j) n j ∧ (sw ys i j).Perm xs ∧ ∀ k, n ≤ k → gd (sw ys i j) k = gd xs k) := Lib.hid (by
              have h1 := H2.out.2.1.step (by have := Hq.out; omega) (by have h1 := H2.out.2.2.1.length_eq; have h2 := HN.out; omega) (by rw [Hj.out]; exact hl2)
              rw [Hj.out] at h1
              refine ⟨h1, (sw_perm Hqi.out.2 Hjl.out).trans H2.out.2.2.1, fun k hk => ?_⟩
              rw [← H2.out.2.2.2 k hk]
              by_cases hkl : k < ys.length
              · rw [gd_sw hkl, if_neg (by omega), if_neg (by have := hlt.out.2.2; omega)]
              · unfold gd
                rw [List.getD_eq_getElem?_getD, List.getD_eq_getElem?_getD, List.getElem?_eq_none (by rw [sw_len]; omega), List.getElem?_eq_none (by omega)])
            have hij : i < j := hlt.out.2.2
            clear hl2
            go_wp2_with fail
            refine KS.out.mono ?_
            rintro e w3 ⟨rfl, l3, f3⟩
            have H3 : Hid (DnI W h A c n xs w3 (sw ys i j) j) := Lib.hid ⟨⟨l3, H2.out.1.fr.trans f3 (fun g hg => Or.inl hg) (fun g hg => Or.inl hg)⟩, hst.out⟩
            clear l3 f3 KS ms hst
            go_wp2_with fail
            go_roundw
            case rel => exact ⟨j, _, rfl, by omega, H3⟩
            case measure => simp [intOf]; omega
          · have d6 : decide (gd ys j < gd ys i) = false := decide_eq_false hl2
            have fin := Lib.hid (show ∀ b w', w' = w2 → DnPost W h A c n xs (.returned (.bool b)) w' from fun b w' e => by subst e; exact ⟨⟨b, rfl⟩, ys, H2.out.2.1.done (by rw [Hj.out]; omega), H2.out.2.2.1, H2.out.2.2.2, H2.out.1⟩)
            go_wp2_with fail
            go_ret
            exact fin.out _ _ rfl
    · have d1 : decide ((n : Int) ≤ (q : Int)) = true := decide_eq_true (by omega)
      have d3 : decide (n ≤ q) = true := decide_eq_true (by omega)
      have fin := Lib.hid (show ∀ b w', w' = wr → DnPost W h A c n xs (.returned (.bool b)) w' from fun b w' e => by subst e; exact ⟨⟨b, rfl⟩, ys, hI.out.2.1.leaf (by have := Hq.out; omega), hI.out.2.2.1, hI.out.2.2.2, hI.out.1⟩)
      clear hI
      go_wp2_with fail
      go_ret
      exact fin.out _ _ rfl
end Go.Proofs.Ytpdidgacmikllaa.tj
