import Derived.Test.YtohdcmmkbblhkaaGreatDoorV42
import Derived.Test.YtohdcmmkbblhkaaGreatDoorV32
/-
  tarjan: the reference's parts: the walk.
-/
set_option linter.all false
namespace Go.Proofs.YtohdcmmkbblhkaaGreatDoor.tj
open Go.RowKit Go.Proofs.YtohdcmmkbblhkaaGreatDoor.mem

theorem rq_start {w W : World} {g : G} {mb : Nat} {bi : Nat → Nat} (hm : MX W w.heap.size mb bi g.n g.n g.R) (on : Below w.heap.size w W) : RQ w (W.alloc (.cells (bv (fun _ => false) g.n) 4)) g mb bi W.heap.size (fun _ => false) none 0 [] :=
  ⟨hm.on ((Below.refl _ _).alloc (Nat.le_refl _) _), fun i hi e => by have := (hm.rw_ i hi).lt; omega, Box.new _ _ _, on.size, Seg.nil _ _, fun x hx => (by cases hx), fun r hr => (by cases hr), on.alloc on.size _⟩

set_option maxRecDepth 100000 in
set_option maxHeartbeats 4000000 in
theorem rparts_any (n : Int) (hn : n ≤ 100) (A : Option Addr) (cap : Nat) (l : List (Int × Int)) (hl : l.length ≤ 1000) (w : World) (h : Eds w A l) :
    Calls Tryz.prog 37 #[.int .i64 n, .slice A l.length cap] w (PaPost w (gof n l).parts) := by
  have KR := Lib.hid (reach_any n hn A cap l hl w h)
  have d0 : decide (20000 < n) = false := decide_eq_false (by omega)
  obtain ⟨g, hg⟩ : ∃ g, Hid (gof n l = g) := ⟨_, Lib.hid rfl⟩
  have hgn : g.n ≤ 100 := by rw [← hg.out]; show n.toNat ≤ 100; omega
  have HGN := Lib.hid hgn
  rw [hg.out] at KR ⊢
  obtain ⟨m, hm⟩ : ∃ m, Hid (g.n = m) := ⟨_, Lib.hid rfl⟩
  have hm' : m ≤ 100 := by rw [← hm.out]; exact hgn
  have hmk2 := run_make_row' (P := Tryz.prog) 109 4 (.bool false) 1 Tryz.underlying109 info_bool rfl .i64 .i64 m (by omega) (by omega)
  rw [made_bv] at hmk2
  clear h hgn
  go_enter Tryz.func37, Tryz.ntmps37
  go_wp2_with fail
  refine KR.out.mono ?_
  rintro e w1 ⟨mb, bi, he, hM, hB⟩
  rw [hm.out] at he
  subst he
  have hQ := rq_start hM hB
  rw [hm.out] at hQ
  have hQ0 : Hid (RQ w (w1.alloc (.cells (bv (fun _ => false) m) 4)) g mb bi w1.heap.size (fun _ => false) none 0 []) := Lib.hid hQ
  clear hM hB hQ KR
  go_upto_region 6 with fail
  clear hmk2
  generalize w1.alloc (.cells (bv (fun _ => false) m) 4) = w2 at *
  generalize w1.heap.size = db at *
  go_wp2_with fail
  go_loopw [7, 21] (fun s i wr => ∃ (k : Nat) (done : Nat → Bool) (Ao : Option Addr) (co : Nat) (rows : List Row), k ≤ m ∧ rows.length ≤ k ∧ i = .int .i64 k ∧ s = .slice Ao rows.length co ∧ Hid (RQ w wr g mb bi db done Ao co rows ∧ rows.map (·.xs) ++ g.ord (m - k) done = g.parts)) (fun _ i _ => m - (intOf i).toNat)
  case atStart => exact ⟨0, _, none, 0, [], by omega, by simp, rfl, rfl, Lib.hid ⟨hQ0.out, by show [] ++ g.ord (m - 0) _ = g.parts; rw [List.nil_append, Nat.sub_zero, ← hm.out]; rfl⟩⟩
  case round =>
    obtain ⟨k, done, Ao, co, rows, hk, hrl, rfl, rfl, hI⟩ := hrel
    clear hQ0
    rename World => wr
    obtain ⟨nr, hnr⟩ : ∃ nr, Hid (rows.length = nr) := ⟨_, Lib.hid rfl⟩
    rw [hnr.out] at hrl ⊢
    by_cases hkm : k < m
    · have d1 : decide ((k : Int) < (m : Int)) = true := decide_eq_true (by omega)
      obtain ⟨f, hf⟩ : ∃ f, Hid (m - k = f + 1) := ⟨m - k - 1, Lib.hid (by omega)⟩
      have hf2 : Hid (m - (k + 1) = f) := Lib.hid (by have := hf.out; omega)
      go_wp2_with fail
      go_loopw [7, 8] (fun s i wx => ∃ (i' : Nat), i' ≤ m ∧ i = .int .i64 i' ∧ s = .slice Ao nr co ∧ wr = wx ∧ Hid (∀ q, q < i' → done q = true ∨ g.free done q = false)) (fun _ i _ => m - (intOf i).toNat)
      case atStart => exact ⟨0, by omega, rfl, rfl, rfl, Lib.hid (fun q hq => by omega)⟩
      case round =>
        obtain ⟨i, hi, rfl, rfl, rfl, hno⟩ := hrel
        by_cases him : i < m
        · have d2 : decide ((i : Int) < (m : Int)) = true := decide_eq_true (by omega)
          have hiI : (i : Int) < (m : Int) := by omega
          have hig : i < g.n := by rw [hm.out]; exact him
          have cd := (hI.out.1.dn.cell i).trans (bv_at _ hig)
          have KF := free_any g HGN.out wr w.heap.size mb bi hI.out.1.mx db done hI.out.1.dn i hig
          rw [hm.out] at KF
          have KF := Lib.hid KF
          have hno2 : Hid (done i = true ∨ g.free done i = false → ∀ q, q < i + 1 → done q = true ∨ g.free done q = false) := Lib.hid (fun h q hq => by
            by_cases e : q = i
            · subst e; exact h
            · exact hno.out q (by omega))
          have hyes : Hid (done i = false → g.free done i = true → g.next done = some i) := Lib.hid (fun a b => g.next_of hig a b hno.out)
          clear hig hno
          cases hd : done i with
          | true =>
            rw [hd] at cd
            have hno3 := Lib.hid (hno2.out (Or.inl hd))
            clear hno2 hyes KF hd
            go_wp2_with fail
            go_roundw
            case rel => exact ⟨i + 1, by omega, by go_num, rfl, trivial, hno3⟩
            case measure => simp [intOf]; omega
          | false =>
            rw [hd] at cd
            cases hfr : g.free done i with
            | false =>
              rw [hfr] at KF
              have hno3 := Lib.hid (hno2.out (Or.inr hfr))
              clear hno2 hyes hd hfr
              go_wp2_with fail
              refine KF.out.mono ?_
              rintro e w3 ⟨rfl, rfl⟩
              clear KF
              go_wp2_with fail
              go_roundw
              case rel => exact ⟨i + 1, by omega, by go_num, rfl, trivial, hno3⟩
              case measure => simp [intOf]; omega
            | true =>
              rw [hfr] at KF
              have hnx := Lib.hid (hyes.out hd hfr)
              clear hno2 hyes hd hfr
              go_wp2_with fail
              refine KF.out.mono ?_
              rintro e w3 ⟨rfl, rfl⟩
              have hP := Lib.hid (hI.out.1.start i)
              have hE := Lib.hid hI.out.2
              clear KF hI cd
              go_wp2_with fail
              go_loopw [9, 10] (fun s c wx => ∃ (j : Nat) (Ap : Option Addr) (cp : Nat) (p : List Nat), j ≤ m ∧ p.length ≤ j ∧ c = .int .i64 j ∧ s = .slice Ap p.length cp ∧ Hid (RP w wr wx g mb bi db done Ao co rows i j Ap cp p)) (fun _ c _ => m - (intOf c).toNat)
              case atStart => exact ⟨0, none, 0, [], by omega, by simp, rfl, rfl, hP⟩
              case round =>
                obtain ⟨j, Ap, cp, p, hj, hpj, rfl, rfl, hR⟩ := hrel
                clear hP
                rename World => wx
                obtain ⟨np, hnp⟩ : ∃ np, Hid (p.length = np) := ⟨_, Lib.hid rfl⟩
                rw [hnp.out] at hpj ⊢
                by_cases hjm : j < m
                · have d3 : decide ((j : Int) < (m : Int)) = true := decide_eq_true (by omega)
                  have hjI : (j : Int) < (m : Int) := by omega
                  have hjg : j < g.n := by rw [hm.out]; exact hjm
                  have hig : i < g.n := by rw [hm.out]; exact him
                  have hmx := hR.out.mx
                  have hh1 := hmx.hd hig
                  have hh2 := hmx.hd hjg
                  have c1 := hmx.at_ hig hjg
                  have c2 := hmx.at_ hjg hig
                  rw [hm.out] at hh1 hh2
                  have hq : Hid (g.Q i j = (g.R i j && g.R j i)) := Lib.hid rfl
                  have HJG := Lib.hid hjg
                  clear hmx hjg hig
                  generalize g.R i j = u at *
                  generalize g.R j i = v at *
                  cases u with
                  | false =>
                    have hR2 := Lib.hid (hR.out.skip (by rw [hq.out]; rfl))
                    clear hR hq
                    go_wp2_with fail
                    go_roundw
                    case rel => exact ⟨j + 1, Ap, cp, p, by omega, by rw [hnp.out]; omega, by go_num, by rw [hnp.out], hR2⟩
                    case measure => simp [intOf]; omega
                  | true =>
                    cases v with
                    | false =>
                      have hR2 := Lib.hid (hR.out.skip (by rw [hq.out]; rfl))
                      clear hR hq
                      go_wp2_with fail
                      go_roundw
                      case rel => exact ⟨j + 1, Ap, cp, p, by omega, by rw [hnp.out]; omega, by go_num, by rw [hnp.out], hR2⟩
                      case measure => simp [intOf]; omega
                    | true =>
                      have HQ : Hid (g.Q i j = true) := Lib.hid (by rw [hq.out]; rfl)
                      obtain ⟨i0, hi0, hz0, hz1, hz2⟩ := info_parts info_int
                      have Hi := Lib.hid hi0
                      have Hz0 := Lib.hid hz0
                      have Hz1 := Lib.hid hz1
                      have Hz2 := Lib.hid hz2
                      have hsg := Lib.hid (hR.out.sp.alloc (.cells #[.int .i64 (j : Nat)] 3))
                      have hlen2 : Hid (np = (natI p).length) := Lib.hid (by rw [natI_len, hnp.out])
                      clear hi0 hz0 hz1 hz2 hq
                      go_wp2_with (at_builtin
                                   refine wpList_push (u := .int .i64 (j : Nat)) rfl (.tmp 62) (.tmp 64) _ rfl hsg.out hlen2.out Tryz.underlying71 Hi.out Hz0.out Hz1.out Hz2.out rfl rfl rfl (new_cell _ _ _) rfl (by omega) (by omega) ?_
                                   intro A5 c5 w5 hs5 f5 b5
                                   have Q := hR.out.take HQ.out hs5 (((Fr.refl [] wx).alloc _).trans f5 (by simp) (fun g hg => Or.inl hg)) (fun g hg => by
                                     rcases b5 with e | e
                                     · exact Or.inl (e ▸ hg)
                                     · rw [e, List.mem_singleton] at hg
                                       subst hg
                                       exact Or.inr (by simp))
                                   have hQ := Lib.hid Q.1
                                   have q3 := Q.2.2
                                   obtain ⟨v5, q2⟩ := Q.2.1
                                   have q2 := q2.resolve_right (fun h => h HJG.out)
                                   clear Q hs5 f5 b5)
                      go_roundw
                      case rel => exact ⟨j + 1, A5, c5, p ++ [j], by omega, by simp [hnp.out]; omega, by go_num, by simp [hnp.out], hQ⟩
                      case measure => simp [intOf]; omega
                · obtain rfl : j = m := by omega
                  have d3 : decide ((j : Int) < (j : Int)) = false := decide_eq_false (by omega)
                  obtain ⟨i0, hi0, hz0, hz1, hz2⟩ := info_parts info_row2
                  have Hi := Lib.hid hi0
                  have Hz0 := Lib.hid hz0
                  have Hz1 := Lib.hid hz1
                  have Hz2 := Lib.hid hz2
                  have hR2 : Hid (RP w wr wx g mb bi db done Ao co rows i g.n Ap cp p) := Lib.hid (by rw [hm.out]; exact hR.out)
                  have hso : Seg wx 71 Ao co (rows.map hdr) := hR2.out.q.so.kept hR2.out.fr (fun x hx e => by rw [List.mem_singleton] at e; subst e; exact (hR2.out.q.so.ne_box hR2.out.q.dn (by decide)) hx)
                  have hsg := Lib.hid (hso.alloc (.cells #[.slice Ap np cp] 71))
                  have hlen2 : Hid (nr = (rows.map hdr).length) := Lib.hid (by rw [List.length_map, hnr.out])
                  have hhd : Hid (hdr ⟨Ap, cp, p⟩ = .slice Ap np cp) := Lib.hid (by unfold hdr; rw [hnp.out])
                  clear hi0 hz0 hz1 hz2 hR hso
                  go_wp2_with (at_builtin
                               refine wpList_push (u := .slice Ap np cp) rfl (.tmp 69) (.tmp 71) _ rfl hsg.out hlen2.out Tryz.underlying69 Hi.out Hz0.out Hz1.out Hz2.out rfl rfl rfl (new_cell _ _ _) rfl (by omega) (by omega) ?_
                               intro A5 c5 w5 hs5 f5 b5
                               have Q := hR2.out.close (A' := A5) (c' := c5) (W1 := w5) (by rw [hhd.out]; exact hs5) (((Fr.refl [] wx).alloc _).trans f5 (by simp) (fun g hg => Or.inl hg)) (fun g hg => by
                                 rcases b5 with e | e
                                 · exact Or.inl (e ▸ hg)
                                 · rw [e, List.mem_singleton] at hg
                                   subst hg
                                   exact Or.inr (by simp))
                               have hQ := Lib.hid Q
                               clear Q hs5 f5 b5)
                  have hI2 : Hid (RQ w w5 g mb bi db (g.add done i) A5 c5 (rows ++ [(⟨Ap, cp, p⟩ : Row)]) ∧ (rows ++ [(⟨Ap, cp, p⟩ : Row)]).map (·.xs) ++ g.ord (j - (k + 1)) (g.add done i) = g.parts) := Lib.hid ⟨hQ.out.1, by
                    have h1 := hE.out
                    rw [hf.out, g.ord_some hnx.out] at h1
                    rw [hf2.out, List.map_append, List.map_singleton, hQ.out.2, List.append_assoc]
                    exact h1⟩
                  clear hQ hE
                  go_roundw
                  case rel => exact ⟨k + 1, _, A5, c5, rows ++ [(⟨Ap, cp, p⟩ : Row)], by omega, by rw [List.length_append, hnr.out]; simp; omega, by go_num, by rw [List.length_append, hnr.out]; rfl, hI2⟩
                  case measure => simp [intOf]; omega
        · obtain rfl : i = m := by omega
          have d2 : decide ((i : Int) < (i : Int)) = false := decide_eq_false (by omega)
          have hnn : g.next done = none := g.next_none.2 (by rw [hm.out]; exact hno.out)
          have hI2 : Hid (RQ w wr g mb bi db done Ao co rows ∧ rows.map (·.xs) ++ g.ord (i - (k + 1)) done = g.parts) := Lib.hid ⟨hI.out.1, by have := hI.out.2; rw [g.ord_none hnn] at this ⊢; exact this⟩
          clear hno hI hnn
          go_wp2_with fail
          go_roundw
          case rel => exact ⟨k + 1, done, Ao, co, rows, by omega, by rw [hnr.out]; omega, by go_num, by rw [hnr.out], hI2⟩
          case measure => simp [intOf]; omega
    · obtain rfl : k = m := by omega
      have d1 : decide ((k : Int) < (k : Int)) = false := decide_eq_false (by omega)
      have fin : Hid (PaPost w g.parts (.returned (.slice Ao nr co)) wr) := Lib.hid ⟨Ao, co, rows, by rw [hnr.out], by have := hI.out.2; rw [Nat.sub_self] at this; simpa [G.ord] using this, hI.out.1.so, fun r hr => (hI.out.1.rw_ r hr).rd, hI.out.1.on⟩
      clear hI
      go_wp2_with fail
      go_ret
      exact fin.out
end Go.Proofs.YtohdcmmkbblhkaaGreatDoor.tj
