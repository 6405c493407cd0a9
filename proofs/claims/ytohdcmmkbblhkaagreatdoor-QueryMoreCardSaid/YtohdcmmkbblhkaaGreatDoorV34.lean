import Derived.Test.YtohdcmmkbblhkaaGreatDoorUTjX
import Derived.Deep.CutRange
import Derived.Deep.DeepCutAuto
import Derived.Laws.OwnMore
import Derived.Handy
/-
  tarjan: a heap in memory: up and down.
-/
set_option linter.all false
namespace Go.Proofs.YtohdcmmkbblhkaaGreatDoor.tj
open Go.RowKit Go.Proofs.YtohdcmmkbblhkaaGreatDoor.mem

theorem m_len0 (n : Nat) (w : World) (h : Nat) : (method (n + 1) 124 (.pointer (some ⟨h, 0, none⟩)) "Len").run Tryz.prog w = (loadVar 125 ⟨h, 0, none⟩ >>= fun v => pure (80, v)).run Tryz.prog w := by kernel_rfl
theorem m_less0 (n : Nat) (w : World) (h : Nat) : (method (n + 1) 124 (.pointer (some ⟨h, 0, none⟩)) "Less").run Tryz.prog w = (loadVar 125 ⟨h, 0, none⟩ >>= fun v => pure (160, v)).run Tryz.prog w := by kernel_rfl
theorem m_swap0 (n : Nat) (w : World) (h : Nat) : (method (n + 1) 124 (.pointer (some ⟨h, 0, none⟩)) "Swap").run Tryz.prog w = (loadVar 125 ⟨h, 0, none⟩ >>= fun v => pure (164, v)).run Tryz.prog w := by kernel_rfl

theorem m_len {w : World} {h : Nat} {v : Value} (hc : w.cell? ⟨h, 0, none⟩ = some v) (n : Nat) : (method (n + 1) 124 (.pointer (some ⟨h, 0, none⟩)) "Len").run Tryz.prog w = .ok (80, v) w := by
  rw [m_len0]
  simp [loadVar, hc]
theorem m_less {w : World} {h : Nat} {v : Value} (hc : w.cell? ⟨h, 0, none⟩ = some v) (n : Nat) : (method (n + 1) 124 (.pointer (some ⟨h, 0, none⟩)) "Less").run Tryz.prog w = .ok (160, v) w := by
  rw [m_less0]
  simp [loadVar, hc]
theorem m_swap {w : World} {h : Nat} {v : Value} (hc : w.cell? ⟨h, 0, none⟩ = some v) (n : Nat) : (method (n + 1) 124 (.pointer (some ⟨h, 0, none⟩)) "Swap").run Tryz.prog w = .ok (164, v) w := by
  rw [m_swap0]
  simp [loadVar, hc]

/-- a heap that was turned in its place -/
structure HS (W : World) (h : Nat) (A : Option Addr) (c : Nat) (w : World) (ys : List Nat) : Prop where
  lh : LH w h A c ys
  fr : Fr (blk A) W w

theorem HS.below {W w w' : World} {h : Nat} {A : Option Addr} {c : Nat} {ys : List Nat} (k : HS W h A c w ys) (hb : Below w.heap.size w w') : HS W h A c w' ys :=
  ⟨k.lh.below hb, k.fr.trans (Fr.of_below hb []) (fun g hg => Or.inl hg) (fun g hg => (by cases hg))⟩
theorem HS.cell {W w : World} {h : Nat} {A : Option Addr} {c : Nat} {ys : List Nat} (k : HS W h A c w ys) : w.cell? ⟨h, 0, none⟩ = some (.slice A ys.length c) := k.lh.bx.cell 0

def UpPost (W : World) (h : Nat) (A : Option Addr) (c : Nat) (xs : List Nat) (e : Ending) (W' : World) : Prop := e = .returned (.tuple #[]) ∧ ∃ ys, Hp ys ∧ ys.Perm xs ∧ HS W h A c W' ys

set_option maxRecDepth 100000 in
theorem up_any (W : World) (h : Nat) (A : Option Addr) (c : Nat) (xs : List Nat) (hs : LH W h A c xs) (hl : xs.length ≤ 1000) (j : Nat) (hj : j < xs.length) (hu : HU xs j) :
    Calls Tryz.prog 96 #[.iface 124 (.pointer (some ⟨h, 0, none⟩)), .int .i64 (j : Nat)] W (UpPost W h A c xs) := by
  have H0 : Hid (HS W h A c W xs ∧ HU xs j ∧ j < xs.length ∧ xs.Perm xs) := Lib.hid ⟨⟨hs, Fr.refl _ _⟩, hu, hj, List.Perm.refl _⟩
  obtain ⟨n, hn⟩ : ∃ n, Hid (xs.length = n) := ⟨_, Lib.hid rfl⟩
  have hl : n ≤ 1000 := by rw [← hn.out]; exact hl
  clear hs hu hj
  go_enter Tryz.func96, Tryz.ntmps96
  go_wp2_with fail
  go_loopw [1] (fun s wr => ∃ (j : Nat) (ys : List Nat), s = .int .i64 (j : Nat) ∧ Hid (HS W h A c wr ys ∧ HU ys j ∧ j < ys.length ∧ ys.Perm xs)) (fun s _ => (intOf s).toNat)
  case atStart => exact ⟨j, xs, rfl, H0⟩
  case round =>
    obtain ⟨j, ys, rfl, hI⟩ := hrel
    clear H0
    rename World => wr
    have hny : ys.length = n := by rw [hI.out.2.2.2.length_eq]; exact hn.out
    have hjn : j < n := by rw [← hny]; exact hI.out.2.2.1
    have HNY := Lib.hid hny
    clear hny
    by_cases hj0 : j = 0
    · subst hj0
      have fin := Lib.hid (show ∀ w', w' = wr → UpPost W h A c xs (.returned (.tuple #[])) w' from fun w' e => by subst e; exact ⟨rfl, ys, hI.out.2.1.done (Or.inl rfl), hI.out.2.2.2, hI.out.1⟩)
      clear hI
      go_wp2_with fail
      go_end0
      exact fin.out _ rfl
    · obtain ⟨m, hm⟩ : ∃ m, m + 1 = j := ⟨j - 1, by omega⟩
      obtain ⟨p, hp⟩ : ∃ p, p = (j - 1) / 2 := ⟨_, rfl⟩
      have hpn : p < n := by omega
      have KL := less_any wr A c ys hI.out.1.lh.sq j p (by rw [HNY.out]; exact hjn) (by rw [HNY.out]; exact hpn)
      have KL := Lib.hid KL
      have ml := m_less hI.out.1.cell
      have hsub : IntKind.i64.wrap ((j : Int) - 1) = (m : Int) := by rw [show (j : Int) - 1 = (m : Int) by omega]; exact IntWalk.i64_in _ (by omega)
      have hne : ((p : Int) == (j : Int)) = false := by rw [beq_eq_false_iff_ne]; omega
      have hquo : Int.tdiv (m : Int) 2 = (p : Int) := by rw [Int.tdiv_eq_ediv_of_nonneg (by omega)]; omega
      have hpw : IntKind.i64.wrap (p : Int) = (p : Int) := IntWalk.i64_in _ (by omega)
      have HP_ := Lib.hid (And.intro hm hp)
      clear hm hp
      go_wp2_with fail
      refine KL.out.mono ?_
      rintro e w2 ⟨rfl, b2⟩
      have H2 : Hid (HS W h A c w2 ys) := Lib.hid (hI.out.1.below b2)
      have HU_ := Lib.hid hI.out.2
      clear KL ml hsub hne hquo hpw b2 hI
      by_cases hlt : gd ys j < gd ys p
      · have d1 : decide (gd ys j < gd ys p) = true := decide_eq_true hlt
        have KS := Lib.hid (swap_any w2 h A c ys H2.out.lh p j (by rw [HNY.out]; exact hpn) (by rw [HNY.out]; exact hjn))
        have ms := m_swap H2.out.cell
        have hst : Hid (HU (sw ys p j) p ∧ p < (sw ys p j).length ∧ (sw ys p j).Perm xs) := Lib.hid (by
          have e := HP_.out.2
          have h1 := HU_.out.1.step HU_.out.2.1 (by omega) (by rw [← e]; exact hlt)
          rw [← e] at h1
          exact ⟨h1, by rw [sw_len, HNY.out]; exact hpn, (sw_perm (by rw [HNY.out]; exact hpn) (by rw [HNY.out]; exact hjn)).trans HU_.out.2.2⟩)
        have hpj : p < j := by have := HP_.out; omega
        clear hlt
        go_wp2_with fail
        refine KS.out.mono ?_
        rintro e w3 ⟨rfl, l3, f3⟩
        have H3 : Hid (HS W h A c w3 (sw ys p j) ∧ HU (sw ys p j) p ∧ p < (sw ys p j).length ∧ (sw ys p j).Perm xs) := Lib.hid ⟨⟨l3, H2.out.fr.trans f3 (fun g hg => Or.inl hg) (fun g hg => Or.inl hg)⟩, hst.out⟩
        clear l3 f3 KS ms hst
        go_wp2_with fail
        go_roundw
        case rel => exact ⟨p, _, rfl, H3⟩
        case measure => simp [intOf]; omega
      · have d1 : decide (gd ys j < gd ys p) = false := decide_eq_false hlt
        have fin := Lib.hid (show ∀ w', w' = w2 → UpPost W h A c xs (.returned (.tuple #[])) w' from fun w' e => by subst e; exact ⟨rfl, ys, HU_.out.1.done (Or.inr (by have e := HP_.out.2; rw [← e]; omega)), HU_.out.2.2, H2.out⟩)
        go_wp2_with fail
        go_end0
        exact fin.out _ rfl

def DnPost (W : World) (h : Nat) (A : Option Addr) (c n : Nat) (xs : List Nat) (e : Ending) (W' : World) : Prop := (∃ b, e = .returned (.bool b)) ∧ ∃ ys, Hn ys n ∧ ys.Perm xs ∧ (∀ k, n ≤ k → gd ys k = gd xs k) ∧ HS W h A c W' ys

def DnI (W : World) (h : Nat) (A : Option Addr) (c n : Nat) (xs : List Nat) (w : World) (ys : List Nat) (i : Nat) : Prop := HS W h A c w ys ∧ HD ys n i ∧ ys.Perm xs ∧ ∀ k, n ≤ k → gd ys k = gd xs k

set_option maxRecDepth 100000 in
theorem down_any (W : World) (h : Nat) (A : Option Addr) (c : Nat) (xs : List Nat) (hs : LH W h A c xs) (hl : xs.length ≤ 1000) (n : Nat) (hn : n ≤ xs.length) (hu : HD xs n 0) :
    Calls Tryz.prog 97 #[.iface 124 (.pointer (some ⟨h, 0, none⟩)), .int .i64 0, .int .i64 (n : Nat)] W (DnPost W h A c n xs) := by
  have H0 : Hid (DnI W h A c n xs W xs 0) := Lib.hid ⟨⟨hs, Fr.refl _ _⟩, hu, List.Perm.refl _, fun _ _ => rfl⟩
  have HN := Lib.hid hn
  have hn' : n ≤ 1000 := by omega
  clear hs hu hn
  go_enter Tryz.func97, Tryz.ntmps97
  go_wp2_with fail
  go_loopw [7] (fun s wr => ∃ (i : Nat) (ys : List Nat), s = .int .i64 (i : Nat) ∧ i ≤ n ∧ Hid (DnI W h A c n xs wr ys i)) (fun s _ => n - (intOf s).toNat)
  case atStart => exact ⟨0, xs, rfl, by omega, H0⟩
  case round =>
    obtain ⟨i, ys, rfl, hin, hI⟩ := hrel
    clear H0
    rename World => wr
    obtain ⟨d, hd⟩ : ∃ d, d = 2 * i := ⟨_, rfl⟩
    obtain ⟨q, hq⟩ : ∃ q, q = d + 1 := ⟨_, rfl⟩
    have hmul : IntKind.i64.wrap (2 * (i : Int)) = (d : Int) := by rw [show 2 * (i : Int) = (d : Int) by omega]; exact IntWalk.i64_in _ (by omega)
    have hadd : IntKind.i64.wrap ((d : Int) + 1) = (q : Int) := by rw [show (d : Int) + 1 = (q : Int) by omega]; exact IntWalk.i64_in _ (by omega)
    have Hq := Lib.hid (show q = 2 * i + 1 by omega)
    clear hd hq
    by_cases hqn : q < n
    · have d1 : decide ((n : Int) ≤ (q : Int)) = false := decide_eq_false (by omega)
      have d2 : decide ((q : Int) < 0) = false := decide_eq_false (by omega)
      have d3 : decide (n ≤ q) = false := decide_eq_false (by omega)
      go_upto_region 4 with fail
      go_cut [9] (fun s9 wx => s9 = .int .i64 (q : Nat) ∧ wx = wr)
      case first =>
        go_wp2_with fail
        go_meet
        exact ⟨rfl, rfl⟩
      case rest =>
        obtain ⟨rfl, rfl⟩ := hcut
        rename_i hK
        refine hK _ _ ?_
        apply wp_seq_k
        intro K2 hK2
        clear hK
        have hqi : q < ys.length ∧ i < ys.length := by
          have h1 := hI.out.2.2.1.length_eq
          have h2 := HN.out
          have h3 := Hq.out
          omega
        have Hqi := Lib.hid hqi
        clear hqi
        go_cut [9, 10] from 12 to 34 (fun s9 s10 wx => s9 = .int .i64 (lc ys n i : Nat) ∧ Hid (DnI W h A c n xs wx ys i))
        case first =>
          clear hK2
          obtain ⟨r, hr⟩ : ∃ r, r = q + 1 := ⟨_, rfl⟩
          have hadd2 : IntKind.i64.wrap ((q : Int) + 1) = (r : Int) := by rw [show (q : Int) + 1 = (r : Int) by omega]; exact IntWalk.i64_in _ (by omega)
          have Hr := Lib.hid (show r = 2 * i + 2 by have := Hq.out; omega)
          clear hr
          by_cases hrn : r < n
          · have d4 : decide ((r : Int) < (n : Int)) = true := decide_eq_true (by omega)
            have d5 : decide (r < n) = true := decide_eq_true (by omega)
            have KL := Lib.hid (less_any wc A c ys hI.out.1.lh.sq r q (by have h1 := hI.out.2.2.1.length_eq; have h2 := HN.out; omega) Hqi.out.1)
            have ml := m_less hI.out.1.cell
            go_wp2_with fail
            refine KL.out.mono ?_
            rintro e w2 ⟨rfl, b2⟩
            have H2 : Hid (DnI W h A c n xs w2 ys i) := Lib.hid ⟨hI.out.1.below b2, hI.out.2⟩
            clear KL ml b2 hI
            by_cases hlt : gd ys r < gd ys q
            · have d6 : decide (gd ys r < gd ys q) = true := decide_eq_true hlt
              have hlc : Hid (lc ys n i = r) := Lib.hid (by have e1 := Hr.out; have e2 := Hq.out; unfold lc; rw [← e1, show 2 * i + 1 = q from e2.symm, if_pos ⟨hrn, hlt⟩])
              go_wp2_with fail
              go_meet
              exact ⟨by rw [hlc.out], H2⟩
            · have d6 : decide (gd ys r < gd ys q) = false := decide_eq_false hlt
              have hlc : Hid (lc ys n i = q) := Lib.hid (by have e1 := Hr.out; have e2 := Hq.out; unfold lc; rw [← e1, show 2 * i + 1 = q from e2.symm, if_neg (fun h => hlt h.2)])
              go_wp2_with fail
              go_meet
              exact ⟨by rw [hlc.out], H2⟩
          · have d4 : decide ((r : Int) < (n : Int)) = false := decide_eq_false (by omega)
            have d5 : decide (r < n) = false := decide_eq_false (by omega)
            have hlc : Hid (lc ys n i = q) := Lib.hid (by have e1 := Hr.out; have e2 := Hq.out; unfold lc; rw [← e1, show 2 * i + 1 = q from e2.symm, if_neg (fun h => hrn h.1)])
            go_wp2_with fail
            go_meet
            exact ⟨by rw [hlc.out], hI⟩
        case rest =>
          obtain ⟨rfl, hI2⟩ := hcut
          refine hK2 _ _ ?_
          clear hK2 hI
          have hlt := Lib.hid (lc_lt (xs := ys) (n := n) (i := i) (by have := Hq.out; omega))
          generalize hj : lc ys n i = j at *
          have hjn := hlt.out.1
          have Hj := Lib.hid hj
          clear hj
          rename World => wd
          have hjl : j < ys.length := by have h1 := hI2.out.2.2.1.length_eq; have h2 := HN.out; omega
          have KL := Lib.hid (less_any wd A c ys hI2.out.1.lh.sq j i hjl Hqi.out.2)
          have ml := m_less hI2.out.1.cell
          have Hjl := Lib.hid hjl
          clear hjl
          go_wp2_with fail
          refine KL.out.mono ?_
          rintro e w2 ⟨rfl, b2⟩
          have H2 : Hid (DnI W h A c n xs w2 ys i) := Lib.hid ⟨hI2.out.1.below b2, hI2.out.2⟩
          clear KL ml b2 hI2
          by_cases hl2 : gd ys j < gd ys i
          · have d6 : decide (gd ys j < gd ys i) = true := decide_eq_true hl2
            have KS := Lib.hid (swap_any w2 h A c ys H2.out.1.lh i j Hqi.out.2 Hjl.out)
            have ms := m_swap H2.out.1.cell
            have hst : Hid (HD (sw ys i j) n j ∧ (sw ys i j).Perm xs ∧ ∀ k, n ≤ k → gd (sw ys i j) k = gd xs k) := Lib.hid (by
              have h1 := H2.out.2.1.step (by have := Hq.out; omega) (by have h1 := H2.out.2.2.1.length_eq; have h2 := HN.out; omega) (by rw [Hj.out]; exact hl2)
              rw [Hj.out] at h1
              refine ⟨h1, (sw_perm Hqi.out.2 Hjl.out).trans H2.out.2.2.1, fun k hk => ?_⟩
              rw [← H2.out.2.2.2 k hk]
              by_cases hkl : k < ys.length
              · rw [gd_sw hkl, if_neg (by omega), if_neg (by have := hlt.out.2.2; omega)]
              · unfold gd
                rw [List.getD_eq_getElem?_getD, List.getD_eq_getElem?_getD, List.getElem?_eq_none (by rw [sw_len]; omega), List.getElem?_eq_none (by omega)])
            have hij : i < j := hlt.out.2.2
            clear hl2
            go_wp2_with fail
            refine KS.out.mono ?_
            rintro e w3 ⟨rfl, l3, f3⟩
            have H3 : Hid (DnI W h A c n xs w3 (sw ys i j) j) := Lib.hid ⟨⟨l3, H2.out.1.fr.trans f3 (fun g hg => Or.inl hg) (fun g hg => Or.inl hg)⟩, hst.out⟩
            clear l3 f3 KS ms hst
            go_wp2_with fail
            go_roundw
            case rel => exact ⟨j, _, rfl, by omega, H3⟩
            case measure => simp [intOf]; omega
          · have d6 : decide (gd ys j < gd ys i) = false := decide_eq_false hl2
            have fin := Lib.hid (show ∀ b w', w' = w2 → DnPost W h A c n xs (.returned (.bool b)) w' from fun b w' e => by subst e; exact ⟨⟨b, rfl⟩, ys, H2.out.2.1.done (by rw [Hj.out]; omega), H2.out.2.2.1, H2.out.2.2.2, H2.out.1⟩)
            go_wp2_with fail
            go_ret
            exact fin.out _ _ rfl
    · have d1 : decide ((n : Int) ≤ (q : Int)) = true := decide_eq_true (by omega)
      have d3 : decide (n ≤ q) = true := decide_eq_true (by omega)
      have fin := Lib.hid (show ∀ b w', w' = wr → DnPost W h A c n xs (.returned (.bool b)) w' from fun b w' e => by subst e; exact ⟨⟨b, rfl⟩, ys, hI.out.2.1.leaf (by have := Hq.out; omega), hI.out.2.2.1, hI.out.2.2.2, hI.out.1⟩)
      clear hI
      go_wp2_with fail
      go_ret
      exact fin.out _ _ rfl
end Go.Proofs.YtohdcmmkbblhkaaGreatDoor.tj

/-
  tarjan: a heap in memory: one put, the least one taken.
-/
set_option linter.all false
namespace Go.Proofs.YtohdcmmkbblhkaaGreatDoor.tj
open Go.RowKit Go.Proofs.YtohdcmmkbblhkaaGreatDoor.mem

theorem m_push (n : Nat) (w : World) (h : Nat) : (method (n + 1) 124 (.pointer (some ⟨h, 0, none⟩)) "Push").run Tryz.prog w = .ok (162, .pointer (some ⟨h, 0, none⟩)) w := by kernel_rfl
theorem m_pop (n : Nat) (w : World) (h : Nat) : (method (n + 1) 124 (.pointer (some ⟨h, 0, none⟩)) "Pop").run Tryz.prog w = .ok (161, .pointer (some ⟨h, 0, none⟩)) w := by kernel_rfl

def PuPost (W : World) (h : Nat) (A : Option Addr) (xs : List Nat) (x : Nat) (e : Ending) (W' : World) : Prop := e = .returned (.tuple #[]) ∧ ∃ ys, Hp ys ∧ ys.Perm (x :: xs) ∧ HP W W' h A ys
def PoPost (W : World) (h : Nat) (A : Option Addr) (xs : List Nat) (e : Ending) (W' : World) : Prop := e = .returned (.iface 3 (.int .i64 ((gd xs 0 : Nat) : Int))) ∧ ∃ ys, Hp ys ∧ (gd xs 0 :: ys).Perm xs ∧ HP W W' h A ys

theorem HP.turn {W W1 W2 : World} {h : Nat} {A A' : Option Addr} {c' : Nat} {ys zs : List Nat} (hl : LH W1 h A' c' ys) (hf : Fr (h :: blk A) W W1) (hg : ∀ g ∈ blk A', g ∈ blk A ∨ W.heap.size ≤ g) (hs : HS W1 h A' c' W2 zs) : HP W W2 h A zs :=
  ⟨A', c', hs.lh, hf.trans hs.fr (fun g hg => Or.inl hg) (fun g hg' => (hg g hg').imp (fun h => List.mem_cons_of_mem _ h) id), hg⟩

set_option maxRecDepth 100000 in
theorem hpush_any (W : World) (h : Nat) (A : Option Addr) (c : Nat) (xs : List Nat) (hs : LH W h A c xs) (hp : Hp xs) (hl : xs.length ≤ 900) (x : Nat) :
    Calls Tryz.prog 79 #[.iface 124 (.pointer (some ⟨h, 0, none⟩)), .iface 3 (.int .i64 (x : Nat))] W (PuPost W h A xs x) := by
  have KP := Lib.hid (push_any W h A c xs hs (by omega) x)
  have HH := Lib.hid hp
  obtain ⟨n, hn⟩ : ∃ n, Hid (xs.length = n) := ⟨_, Lib.hid rfl⟩
  have hl : n ≤ 900 := by rw [← hn.out]; exact hl
  have mp := fun n => m_push n W h
  clear hs hp
  go_enter Tryz.func79, Tryz.ntmps79
  go_wp2_with fail
  refine KP.out.mono ?_
  rintro e w1 ⟨rfl, A1, c1, l1, f1, g1⟩
  have hlen : (xs ++ [x]).length = n + 1 := by simp [hn.out]
  have ml := m_len (l1.bx.cell 0)
  have L1 := Lib.hid l1
  have F1 := Lib.hid f1
  have G1 := Lib.hid g1
  have KL := len_any w1 A1 c1 (xs ++ [x]).length
  rw [hlen] at KL ml
  have KL := Lib.hid KL
  have KU := Lib.hid (up_any w1 h A1 c1 (xs ++ [x]) L1.out (by rw [hlen]; omega) n (by rw [hlen]; omega) (by rw [← hn.out]; exact HH.out.push x))
  clear mp l1 f1 g1 KP hlen
  go_wp2_with fail
  refine KL.out.mono ?_
  rintro e w2 ⟨rfl, rfl⟩
  go_wp2_with fail
  refine KU.out.mono ?_
  rintro e w3 ⟨rfl, ys, y1, y2, y3⟩
  have fin : Hid (PuPost W h A xs x (.returned (.tuple #[])) w3) := Lib.hid ⟨rfl, ys, y1, y2.trans (List.perm_append_comm (l₁ := xs) (l₂ := [x])), HP.turn L1.out F1.out G1.out y3⟩
  clear y1 y2 y3 ml KL KU
  go_wp2_with fail
  go_end0
  exact fin.out

set_option maxRecDepth 100000 in
theorem hpop_any (W : World) (h : Nat) (A : Option Addr) (c : Nat) (xs : List Nat) (hs : LH W h A c xs) (hp : Hp xs) (h0 : 0 < xs.length) (hl : xs.length ≤ 900) :
    Calls Tryz.prog 81 #[.iface 124 (.pointer (some ⟨h, 0, none⟩))] W (PoPost W h A xs) := by
  obtain ⟨n, hn⟩ : ∃ n, Hid (xs.length = n + 1) := ⟨xs.length - 1, Lib.hid (by omega)⟩
  have hl : n ≤ 900 := by have := hn.out; omega
  have HH := Lib.hid hp
  have H := Lib.hid hs
  have ml := m_len (hs.bx.cell 0)
  have KL := len_any W A c xs.length
  have ms := m_swap (hs.bx.cell 0)
  have KS := swap_any W h A c xs hs 0 n (by rw [hn.out]; omega) (by rw [hn.out]; omega)
  rw [hn.out] at ml KL ms KS
  have KL := Lib.hid KL
  have KS := Lib.hid KS
  clear hs hp h0
  go_enter Tryz.func81, Tryz.ntmps81
  go_wp2_with fail
  refine KL.out.mono ?_
  rintro e W2 ⟨rfl, he⟩
  obtain rfl : W = W2 := he.symm
  go_wp2_with fail
  refine KS.out.mono ?_
  rintro e w2 ⟨rfl, l2, f2⟩
  have L2 := Lib.hid l2
  have F2 := Lib.hid f2
  have hpp := HH.out.pop (by rw [hn.out]; omega)
  rw [show xs.length - 1 = n by rw [hn.out]; rfl] at hpp
  have KD := Lib.hid (down_any w2 h A c (sw xs 0 n) l2 (by rw [sw_len, hn.out]; omega) n (by rw [sw_len, hn.out]; omega) hpp)
  clear l2 f2 hpp KL KS ml ms
  go_wp2_with fail
  refine KD.out.mono ?_
  rintro e w3 ⟨⟨b, rfl⟩, ys, y1, y2, y3, y4⟩
  have hyl : ys.length = n + 1 := by rw [y2.length_eq, sw_len]; exact hn.out
  have hyn : gd ys n = gd xs 0 := by rw [y3 n (Nat.le_refl _), gd_sw (by rw [hn.out]; omega), if_pos rfl]
  have KO := pop_any w3 h A c ys y4.lh (by omega) (by omega)
  rw [show ys.length - 1 = n by omega, hyn] at KO
  have KO := Lib.hid KO
  have hdl : ys.dropLast = ys.take n := by rw [List.dropLast_eq_take, hyl]; rfl
  have hlast : ys = ys.take n ++ [gd xs 0] := by
    have e : ys.take (n + 1) = ys.take n ++ [ys[n]'(by omega)] := List.take_succ_eq_append_getElem (by omega)
    rw [List.take_of_length_le (by omega)] at e
    have e2 : ys[n]'(by omega) = gd xs 0 := by rw [← hyn]; simp [gd, show n < ys.length by omega]
    rw [e2] at e
    exact e
  have HQ : Hid (Hp ys.dropLast ∧ (gd xs 0 :: ys.dropLast).Perm xs) := Lib.hid (by
    rw [hdl]
    refine ⟨y1.take (by omega), ?_⟩
    have h1 : (ys.take n ++ [gd xs 0]).Perm xs := by rw [← hlast]; exact y2.trans (sw_perm (by rw [hn.out]; omega) (by rw [hn.out]; omega))
    exact (by simpa using List.perm_append_comm (l₁ := [gd xs 0]) (l₂ := ys.take n) : (gd xs 0 :: ys.take n).Perm (ys.take n ++ [gd xs 0])).trans h1)
  have F3 := Lib.hid (show Fr (blk A) W w3 from F2.out.trans y4.fr (fun g hg => Or.inl hg) (fun g hg => Or.inl hg))
  have mp := fun n => m_pop n w3 h
  clear y1 y2 y3 y4 hyl hyn hdl hlast KD
  go_wp2_with fail
  refine KO.out.mono ?_
  rintro e w4 ⟨rfl, A4, c4, l4, f4, g4⟩
  have fin : Hid (PoPost W h A xs (.returned (.iface 3 (.int .i64 ((gd xs 0 : Nat) : Int)))) w4) := Lib.hid ⟨rfl, _, HQ.out.1, HQ.out.2, A4, c4, l4, F3.out.trans f4 (fun g hg => Or.inl (List.mem_cons_of_mem _ hg)) (fun g hg => Or.inl hg), fun g hg => (g4 g hg).imp id (fun h => Nat.le_trans F3.out.size h)⟩
  clear l4 f4 g4 KO mp
  go_wp2_with fail
  go_ret
  exact fin.out
end Go.Proofs.YtohdcmmkbblhkaaGreatDoor.tj
