/-
  tarjan: the reference: whether anything leads round.
-/
import Derived.Test.YtpdidgacmikllaaTjA3
namespace Go.Proofs.Ytpdidgacmikllaa.tj
open Go.RowKit Go.Proofs.Ytpdidgacmikllaa.mem

def slf (n : Int) (e : Int × Int) : Bool := inG n e.1 && e.1 == e.2

theorem any_take {n : Int} {l : List (Int × Int)} {k : Nat} (hk : k < l.length) : (l.take (k + 1)).any (slf n) = ((l.take k).any (slf n) || slf n l[k]) := by
  rw [List.take_succ_eq_append_getElem hk, List.any_append]
  simp

theorem rmember_q (n x : Int) (w : World) : Calls Try.prog 26 #[.int .i64 n, .int .i64 x] w fun e w' => e = .returned (.bool (inG n x)) ∧ w' = w :=
  (rmember_any n x w).mono fun _ _ h => ⟨h.1, h.2.symm⟩

set_option maxRecDepth 100000 in
set_option maxHeartbeats 2000000 in
theorem rround_big (n : Int) (hn : 20000 < n) (A : Option Addr) (cap : Nat) (l : List (Int × Int)) (hl : l.length ≤ 1000) (w : World) :
    Calls Try.prog 14 #[.int .i64 n, .slice A l.length cap] w (SaPost false w) := by
  have KP := Lib.hid (fun w1 => rparts_big n hn (.slice A l.length cap) w1)
  have d0 : decide (n ≤ 20000) = false := decide_eq_false (by omega)
  obtain ⟨m, hm⟩ : ∃ m, Hid (l.length = m) := ⟨_, Lib.hid rfl⟩
  have hmb : m ≤ 1000 := by rw [← hm.out]; exact hl
  rw [hm.out] at KP ⊢
  clear hl
  go_enter Try.func14, Try.ntmps14
  go_wp2_with fail
  go_loopw [5] (fun s wr => ∃ k : Nat, k ≤ m ∧ s = .int .i64 k ∧ Hid (Below w.heap.size w wr)) (fun s _ => m - (intOf s).toNat)
  case atStart => exact ⟨0, by omega, rfl, Lib.hid (Below.refl _ _)⟩
  case round =>
    obtain ⟨k, hk, rfl, hB⟩ := hrel
    rename World => wr
    by_cases hkm : k < m
    · have d1 : decide ((k : Int) < (m : Int)) = true := decide_eq_true (by omega)
      have hB2 : Hid (∀ i, Below w.heap.size w (wr.drewN i)) := Lib.hid (fun i => hB.out.trans ((((Fr.refl [] wr).drewN i).all).mono hB.out.size))
      clear hB
      go_wp2_with fail
      go_quiet (fail)
      go_wp2_with fail
      go_roundw
      case rel => exact ⟨k + 1, by omega, by go_num, Lib.hid (hB2.out _)⟩
      case measure => simp [intOf]; omega
    · obtain rfl : k = m := by omega
      have d1 : decide ((k : Int) < (k : Int)) = false := decide_eq_false (by omega)
      go_wp2_with fail
      refine (KP.out _).mono ?_
      rintro e w2 ⟨rfl, rfl⟩
      clear KP
      go_wp2_with fail
      go_loopw [7] (fun s wx => s = .int .i64 0 ∧ wr = wx) (fun _ _ => 0)
      case atStart => exact ⟨rfl, rfl⟩
      case round =>
        obtain ⟨rfl, rfl⟩ := hrel
        go_wp2_with fail
        go_ret
        exact ⟨rfl, hB.out⟩

set_option maxRecDepth 100000 in
set_option maxHeartbeats 4000000 in
theorem rround_any (n : Int) (hn : n ≤ 100) (A : Option Addr) (cap : Nat) (l : List (Int × Int)) (hl : l.length ≤ 1000) (w : World) (h : Eds w A l) :
    Calls Try.prog 14 #[.int .i64 n, .slice A l.length cap] w (SaPost (gof n l).rnd w) := by
  have KP := Lib.hid (fun w1 (hb : Below w.heap.size w w1) => rparts_any n hn A cap l hl w1 (h.on hb))
  have d0 : decide (n ≤ 20000) = true := decide_eq_true (by omega)
  have H := Lib.hid h
  obtain ⟨m, hm⟩ : ∃ m, Hid (l.length = m) := ⟨_, Lib.hid rfl⟩
  have hmb : m ≤ 1000 := by rw [← hm.out]; exact hl
  have hgok := Lib.hid (gof_ok n l)
  have hgp : Hid ((gof n l).parts.length ≤ 100) := Lib.hid (Nat.le_trans ((gof n l).parts_len (gof_ok n l)) (by show n.toNat ≤ 100; omega))
  obtain ⟨r, hr⟩ : ∃ r, Hid ((gof n l).rnd = r) := ⟨_, Lib.hid rfl⟩
  have hr2 : Hid (r = (l.any (slf n) || decide ((gof n l).parts.length < (gof n l).n))) := Lib.hid (by rw [← hr.out]; unfold G.rnd; rw [gof_self]; rfl)
  rw [hr.out]
  rw [hm.out] at KP ⊢
  clear hl h
  go_enter Try.func14, Try.ntmps14
  go_wp2_with fail
  go_loopw [5] (fun s wr => ∃ k : Nat, k ≤ m ∧ s = .int .i64 k ∧ Hid (Below w.heap.size w wr) ∧ Hid ((l.take k).any (slf n) = false)) (fun s _ => m - (intOf s).toNat)
  case atStart => exact ⟨0, by omega, rfl, Lib.hid (Below.refl _ _), Lib.hid (by simp)⟩
  case round =>
    obtain ⟨k, hk, rfl, hB, hS⟩ := hrel
    rename World => wr
    by_cases hkm : k < m
    · have d1 : decide ((k : Int) < (m : Int)) = true := decide_eq_true (by omega)
      have hkI : (k : Int) < (m : Int) := by omega
      have hkl : k < l.length := by rw [hm.out]; exact hkm
      obtain ⟨b, off, rfl, hlt, hcell⟩ := H.out (by omega)
      obtain ⟨ca0, cb0⟩ := hcell k hkl
      have ca := (hB.out.cell (p := ⟨b, off + k * 2, none⟩) hlt).trans ca0
      have cb := (hB.out.cell (p := ⟨b, off + k * 2 + 1, none⟩) hlt).trans cb0
      have hat := Lib.hid (any_take (n := n) hkl)
      have hin : Hid (slf n l[k] = true → l.any (slf n) = true) := Lib.hid (fun h => List.any_eq_true.2 ⟨_, List.getElem_mem hkl, h⟩)
      clear hcell ca0 cb0 hlt
      generalize l[k] = pk at *
      clear hkl
      obtain ⟨x, y⟩ := pk
      simp only at ca cb
      have hB2 : Hid (∀ i, Below w.heap.size w (wr.drewN i)) := Lib.hid (fun i => hB.out.trans ((((Fr.refl [] wr).drewN i).all).mono hB.out.size))
      have KA := Lib.hid (fun W => rmember_q n x W)
      cases hx : inG n x with
      | false =>
        rw [hx] at KA
        have hS2 : Hid ((l.take (k + 1)).any (slf n) = false) := Lib.hid (by rw [hat.out, hS.out]; simp [slf, hx])
        clear hB hS hat hin hx
        go_wp2_with fail
        go_quiet ((go_at_call 26; exact Calls.quiet_of_same (KA.out _)))
        go_wp2_with fail
        go_roundw
        case rel => exact ⟨k + 1, by omega, by go_num, Lib.hid (hB2.out _), hS2⟩
        case measure => simp [intOf]; omega
      | true =>
        rw [hx] at KA
        by_cases hxy : x = y
        · subst hxy
          have d2 : (x == x) = true := by simp
          have fin : Hid (∀ i, SaPost r w (.returned (.bool true)) (wr.drewN i)) := Lib.hid (fun i => ⟨by rw [hr2.out, hin.out (by simp [slf, hx])]; rfl, hB2.out i⟩)
          clear hB hS hat hin hx
          go_wp2_with fail
          go_quiet ((go_at_call 26; exact Calls.quiet_of_same (KA.out _)))
          go_wp2_with fail
          go_ret
          exact fin.out _
        · have d2 : (x == y) = false := by simpa using hxy
          have hS2 : Hid ((l.take (k + 1)).any (slf n) = false) := Lib.hid (by rw [hat.out, hS.out]; simp [slf, hx, hxy])
          clear hB hS hat hin hx hxy
          go_wp2_with fail
          go_quiet ((go_at_call 26; exact Calls.quiet_of_same (KA.out _)))
          go_wp2_with fail
          go_roundw
          case rel => exact ⟨k + 1, by omega, by go_num, Lib.hid (hB2.out _), hS2⟩
          case measure => simp [intOf]; omega
    · obtain rfl : k = m := by omega
      have d1 : decide ((k : Int) < (k : Int)) = false := decide_eq_false (by omega)
      have hS2 : Hid (l.any (slf n) = false) := Lib.hid (by have := hS.out; rw [← hm.out, List.take_length] at this; exact this)
      have KQ := Lib.hid (KP.out wr hB.out)
      clear hS KP
      go_wp2_with fail
      refine KQ.out.mono ?_
      rintro e w2 ⟨A2, c2, rows, rfl, hxs, hsq, hrd, hb2⟩
      have hB3 := Lib.hid (hB.out.trans (hb2.mono hB.out.size))
      have hrr : Hid (Rd w2 A2 (rows.map hdr)) := Lib.hid hsq.rd
      have HX := Lib.hid hxs
      obtain ⟨K, hK⟩ : ∃ K, Hid (rows.length = K) := ⟨_, Lib.hid rfl⟩
      have hKb : K ≤ 100 := by rw [← hK.out]; have := congrArg List.length hxs; rw [List.length_map] at this; rw [this]; exact hgp.out
      rw [hK.out]
      clear hxs hsq hrd hb2 KQ hB
      go_wp2_with fail
      go_loopw [7] (fun s wx => ∃ j : Nat, j ≤ K ∧ s = .int .i64 j ∧ w2 = wx ∧ Hid (∀ q ∈ (gof n l).parts.take j, ¬ 1 < q.length)) (fun s _ => K - (intOf s).toNat)
      case atStart => exact ⟨0, by omega, rfl, rfl, Lib.hid (by simp)⟩
      case round =>
        obtain ⟨j, hj, rfl, rfl, hno⟩ := hrel
        by_cases hjK : j < K
        · have d2 : decide ((j : Int) < (K : Int)) = true := decide_eq_true (by omega)
          have hjI : (j : Int) < (K : Int) := by omega
          have hjr : j < rows.length := by rw [hK.out]; exact hjK
          obtain ⟨bq, oq, rfl, _, hc⟩ := hrr.out (by rw [List.length_map]; omega)
          have cr0 := hc j (by rw [List.length_map]; exact hjr)
          rw [List.getElem_map] at cr0
          have cr : w2.cell? ⟨bq, oq + j, none⟩ = some (.slice rows[j].A rows[j].xs.length rows[j].cap) := cr0
          have hjp : j < (gof n l).parts.length := by rw [← HX.out, List.length_map]; exact hjr
          have hel : rows[j].xs = (gof n l).parts[j] := by
            have := congrArg (fun L => L[j]?) HX.out
            simpa [hjr, hjp] using this
          have hts := Lib.hid (List.take_succ_eq_append_getElem hjp)
          have hmem := Lib.hid (List.getElem_mem hjp)
          rw [hel] at cr
          clear hc hel cr0
          generalize (gof n l).parts[j] = p at *
          clear hjp
          generalize rows[j].A = Aj at *
          generalize rows[j].cap = cj at *
          clear hjr
          obtain ⟨np, hnp⟩ : ∃ np, Hid (p.length = np) := ⟨_, Lib.hid rfl⟩
          rw [hnp.out] at cr
          by_cases h1 : 1 < np
          · have d3 : decide ((1 : Int) < (np : Int)) = true := decide_eq_true (by omega)
            have d3' : decide (1 < np) = true := decide_eq_true h1
            have h1I : (1 : Int) < (np : Int) := by omega
            have fin : Hid (SaPost r w (.returned (.bool true)) w2) := Lib.hid ⟨by
              rw [hr2.out, hS2.out, decide_eq_true (((gof n l).rnd_iff hgok.out).2 ⟨p, hmem.out, by rw [hnp.out]; exact h1⟩)]; rfl, hB3.out⟩
            clear hno hts hmem
            go_wp2_with fail
            go_ret
            exact fin.out
          · have d3 : decide ((1 : Int) < (np : Int)) = false := decide_eq_false (by omega)
            have d3' : decide (1 < np) = false := decide_eq_false h1
            have hno2 : Hid (∀ q ∈ (gof n l).parts.take (j + 1), ¬ 1 < q.length) := Lib.hid (fun q hq => by
              rw [hts.out, List.mem_append, List.mem_singleton] at hq
              rcases hq with hq | rfl
              · exact hno.out q hq
              · rw [hnp.out]; exact h1)
            clear hno hts hmem
            go_wp2_with fail
            go_roundw
            case rel => exact ⟨j + 1, by omega, by go_num, trivial, hno2⟩
            case measure => simp [intOf]; omega
        · obtain rfl : j = K := by omega
          have d2 : decide ((j : Int) < (j : Int)) = false := decide_eq_false (by omega)
          have fin : Hid (SaPost r w (.returned (.bool false)) w2) := Lib.hid ⟨by
            have h1 : ¬ (gof n l).parts.length < (gof n l).n := fun h => by
              obtain ⟨p, hp, h2⟩ := ((gof n l).rnd_iff hgok.out).1 h
              refine hno.out p ?_ h2
              rw [List.take_of_length_le (by rw [← HX.out, List.length_map, hK.out]; exact Nat.le_refl _)]
              exact hp
            rw [hr2.out, hS2.out, decide_eq_false h1]; rfl, hB3.out⟩
          clear hno
          go_wp2_with fail
          go_ret
          exact fin.out
end Go.Proofs.Ytpdidgacmikllaa.tj
