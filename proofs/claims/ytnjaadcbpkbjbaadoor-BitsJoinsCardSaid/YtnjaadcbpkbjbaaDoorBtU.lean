/-
  Bits: whatever is added and joined: the law's walk.
-/
import Derived.Test.YtnjaadcbpkbjbaaDoorBtT
import Derived.Test.YtnjaadcbpkbjbaaDoorBtE
import Derived.Deep.Cut
import Derived.Deep.CutRange
import Derived.Deep.CutBlock
namespace Go.Proofs.YtnjaadcbpkbjbaaDoor.bt
open Go.RowKit Go.Sort Go.Proofs.YtnjaadcbpkbjbaaDoor.mem

/-- the operations as they come in -/
def Ops (w : World) (A : Option Addr) (l : List (Int × Int)) : Prop := 0 < l.length → ∃ b off, A = some ⟨b, off, none⟩ ∧ b < w.heap.size ∧ ∀ j (hj : j < l.length), w.cell? ⟨b, off + j * 2, none⟩ = some (.int .i64 l[j].1) ∧ w.cell? ⟨b, off + j * 2 + 1, none⟩ = some (.int .i64 l[j].2)

/-- an operation is done, on both sides alike -/
def OpP (w : World) (s1 s2 k : Nat) (c d m q x y : Value) (W : World) : Prop :=
  ∃ (B C : List Blk) (R1 : Option Addr) (rc1 : Nat) (R2 : Option Addr) (rc2 : Nat) (z : Nat) (v : Bool), c = .slice R1 (flat B).length rc1 ∧ d = .slice R2 (flat C).length rc2 ∧ m = .int .i64 (z : Nat) ∧ q = .int .i64 (z : Nat) ∧ x = .bool v ∧ y = .bool v ∧ Hid (ST w W s1 s2 k B C R1 rc1 R2 rc2)

def DoesPost (w : World) (e : Ending) (w' : World) : Prop := e = .returned (.bool true) ∧ Below w.heap.size w w'

theorem st_new (w : World) : ST w ((w.alloc (.cells #[.slice none 0 0] 26)).alloc (.cells #[.slice none 0 0] 26)) w.heap.size (w.heap.size + 1) 0 [] [] none 0 none 0 := by
  have e1 : (w.alloc (.cells #[.slice none 0 0] 26)).heap.size = w.heap.size + 1 := by simp
  have ba (W : World) : BA W none 0 [] := ⟨Sg.new 2 W _, ⟨List.Pairwise.nil, fun b hb => by cases hb⟩, by simp, fun b hb => by cases hb⟩
  have rs (W : World) : RS W none 0 (flat []) := ⟨Seg.nil _ _, by simp [flat], fun x hx => by simp [flat] at hx⟩
  have b1 := (Box.new w 26 #[.slice none 0 0]).kept ((Fr.refl [] _).alloc (.cells #[.slice none 0 0] 26)) (by simp)
  have b2 := Box.new (w.alloc (.cells #[.slice none 0 0] 26)) 26 #[.slice none 0 0]
  rw [e1] at b2
  exact ⟨none, 0, none, 0, ⟨⟨b1, ba _⟩, ⟨b2, ba _⟩, rs _, rs _, by omega, by simp [blk], Nat.le_refl _, by omega, by simp [blk], by simp [blk], ((Below.refl _ w).alloc (Nat.le_refl _) _).alloc (by simp) _⟩, Bd.zero⟩

set_option maxRecDepth 100000 in
set_option maxHeartbeats 4000000 in
theorem law_does (A : Option Addr) (cap : Nat) (l : List (Int × Int)) (w : World) (h : Ops w A l) (hm : l.length ≤ 9223372036854775807) (hT : TabB w) (hz : 0 < w.heap.size) :
    Calls Tryd.prog 3 #[.slice A l.length cap] w (DoesPost w) := by
  have H := Lib.hid h
  have HT := Lib.hid hT
  have fin := Lib.hid (fun w' (h : Below w.heap.size w w') => show DoesPost w (.returned (.bool true)) w' from ⟨rfl, h⟩)
  have S0 := Lib.hid (st_new w)
  clear h hT
  go_enter Tryd.func3, Tryd.ntmps3
  go_wp2_with fail
  obtain ⟨s2, hs2⟩ : ∃ s, s = w.heap.size + 1 := ⟨_, rfl⟩
  rw [← hs2] at S0 ⊢
  clear hs2
  go_loopw [5, 6, 7] (fun c d i wr => ∃ (j : Nat) (B C : List Blk) (R1 : Option Addr) (rc1 : Nat) (R2 : Option Addr) (rc2 : Nat), j ≤ l.length ∧ j ≤ 150 ∧ i = .int .i64 j ∧ c = .slice R1 (flat B).length rc1 ∧ d = .slice R2 (flat C).length rc2 ∧ Hid (ST w wr w.heap.size s2 j B C R1 rc1 R2 rc2)) (fun _ _ i _ => l.length - (intOf i).toNat)
  case atStart => exact ⟨0, [], [], none, 0, none, 0, by omega, by omega, rfl, rfl, rfl, S0⟩
  case round =>
    obtain ⟨j, B, C, R1, rc1, R2, rc2, hj, hj2, rfl, rfl, rfl, hst⟩ := hrel
    rename_i wr _
    clear S0
    by_cases hgo : j < l.length ∧ j < 150
    · obtain ⟨hjl, hj150⟩ := hgo
      have e1 : decide ((j : Int) < (l.length : Int)) = true := decide_eq_true (by omega)
      have e2 : decide ((j : Int) < 150) = true := decide_eq_true (by omega)
      obtain ⟨b, off, rfl, hblt, hc⟩ := H.out (by omega)
      obtain ⟨k0, k1⟩ := hc j hjl
      rw [← hst.out.on.cell (p := ⟨b, off + j * 2, none⟩) hblt] at k0
      rw [← hst.out.on.cell (p := ⟨b, off + j * 2 + 1, none⟩) hblt] at k1
      have hjI : (j : Int) < (l.length : Int) := by omega
      generalize l[j] = pj at *
      obtain ⟨K, n⟩ := pj
      simp only at k0 k1
      clear hc hblt
      have hlen1 := hst.out.len
      have hlen2 := hst.out.swap.len
      go_upto_block 2 with fail
      go_cut [5, 6, 9, 10, 11, 12] from 17 to 125 (fun c d m q x y wx => OpP w w.heap.size s2 (j + 1) c d m q x y wx)
      case first =>
        by_cases h0 : K = 0
        · subst h0
          have KA := Lib.hid (st_add hst.out (by omega) n)
          go_wp2_with fail
          refine KA.out.mono ?_
          rintro e w2 ⟨rfl, hR⟩
          have KR := Lib.hid hR
          clear hR KA
          go_wp2_with fail
          refine KR.out.mono ?_
          rintro e w3 ⟨R3, rc3, rfl, h3⟩
          have H3 : Hid (ST w w3 w.heap.size s2 (j + 1) (addB n B) C R3 rc3 R2 rc2) := Lib.hid (h3)
          clear h3 KR
          go_wp2_with fail
          go_meet
          exact ⟨addB n B, C, R3, rc3, R2, rc2, 0, _, rfl, rfl, rfl, rfl, rfl, rfl, H3⟩
        · skip
          by_cases h1 : K = 1
          · subst h1
            clear h0
            have KA := Lib.hid (st_add hst.out.swap (by omega) n)
            go_wp2_with fail
            refine KA.out.mono ?_
            rintro e w2 ⟨rfl, hR⟩
            have KR := Lib.hid hR
            clear hR KA
            go_wp2_with fail
            refine KR.out.mono ?_
            rintro e w3 ⟨R3, rc3, rfl, h3⟩
            have H3 : Hid (ST w w3 w.heap.size s2 (j + 1) B (addB n C) R1 rc1 R3 rc3) := Lib.hid (h3.swap)
            clear h3 KR
            go_wp2_with fail
            go_meet
            exact ⟨B, addB n C, R1, rc1, R3, rc3, 0, _, rfl, rfl, rfl, rfl, rfl, rfl, H3⟩
          · skip
            by_cases h2 : K = 2
            · subst h2
              clear h0 h1
              have KA := Lib.hid (st_join hst.out (by omega))
              go_wp2_with fail
              refine KA.out.mono ?_
              rintro e w2 ⟨rfl, hR⟩
              have KR := Lib.hid hR
              clear hR KA
              go_wp2_with fail
              refine KR.out.mono ?_
              rintro e w3 ⟨R3, rc3, rfl, h3⟩
              have H3 : Hid (ST w w3 w.heap.size s2 (j + 1) (orB B C) C R3 rc3 R2 rc2) := Lib.hid (h3.mono (Nat.le_succ j))
              clear h3 KR
              go_wp2_with fail
              go_meet
              exact ⟨orB B C, C, R3, rc3, R2, rc2, _, false, rfl, rfl, rfl, rfl, rfl, rfl, H3⟩
            · skip
              by_cases h3 : K = 3
              · subst h3
                clear h0 h1 h2
                have KA := Lib.hid (st_join hst.out.swap (by omega))
                go_wp2_with fail
                refine KA.out.mono ?_
                rintro e w2 ⟨rfl, hR⟩
                have KR := Lib.hid hR
                clear hR KA
                go_wp2_with fail
                refine KR.out.mono ?_
                rintro e w3 ⟨R3, rc3, rfl, h3⟩
                have H3 : Hid (ST w w3 w.heap.size s2 (j + 1) B (orB C B) R1 rc1 R3 rc3) := Lib.hid (h3.swap.mono (Nat.le_succ j))
                clear h3 KR
                go_wp2_with fail
                go_meet
                exact ⟨B, orB C B, R1, rc1, R3, rc3, _, false, rfl, rfl, rfl, rfl, rfl, rfl, H3⟩
              · skip
                by_cases h4 : K = 4
                · subst h4
                  clear h0 h1 h2 h3
                  have KA := Lib.hid (st_self hst.out)
                  go_wp2_with fail
                  refine KA.out.mono ?_
                  rintro e w2 ⟨rfl, h3⟩
                  have H3 := Lib.hid (h3.mono (Nat.le_succ j))
                  clear h3 KA
                  go_wp2_with fail
                  go_meet
                  exact ⟨B, C, R1, rc1, R2, rc2, 0, false, rfl, rfl, rfl, rfl, rfl, rfl, H3⟩
                · skip
                  have d0 : (K == 0) = false := by simpa using h0
                  have d1 : (K == 1) = false := by simpa using h1
                  have d2 : (K == 2) = false := by simpa using h2
                  have d3 : (K == 3) = false := by simpa using h3
                  have d4 : (K == 4) = false := by simpa using h4
                  have H3 := Lib.hid (hst.out.mono (Nat.le_succ j))
                  go_wp2_with fail
                  go_meet
                  exact ⟨B, C, R1, rc1, R2, rc2, 0, false, rfl, rfl, rfl, rfl, rfl, rfl, H3⟩
      case rest =>
        clear hst k0 k1 hlen1 hlen2
        obtain ⟨B, C, R1, rc1, R2, rc2, z, v, rfl, rfl, rfl, rfl, rfl, rfl, hst⟩ := hcut
        have KK := Lib.hid (fun W (h : ST w W w.heap.size s2 (j + 1) B C R1 rc1 R2 rc2) => st_asks heldB h n)
        generalize hasZ n B = hz2 at *
        generalize decide (B = C) = sm at *
        generalize B.length = q at *
        have hL := Lib.hid (rfl : (flat B).length = (flat B).length)
        go_wp2_with fail
        refine (KK.out _ hst.out).has.mono ?_
        rintro e wa0 ⟨rfl, g0⟩
        have G0 := Lib.hid g0
        clear g0
        go_wp2_with fail
        refine (KK.out _ G0.out).rhas.mono ?_
        rintro e wa1 ⟨rfl, g1⟩
        have G1 := Lib.hid g1
        clear g1
        go_wp2_with fail
        refine (KK.out _ G1.out).len.mono ?_
        rintro e wa2 ⟨rfl, g2⟩
        have G2 := Lib.hid g2
        clear g2
        go_wp2_with fail
        refine (KK.out _ G2.out).blocks.mono ?_
        rintro e wa3 ⟨rfl, g3⟩
        have G3 := Lib.hid g3
        clear g3
        go_wp2_with fail
        refine (KK.out _ G3.out).rblocks.mono ?_
        rintro e wa4 ⟨rfl, g4⟩
        have G4 := Lib.hid g4
        clear g4
        go_wp2_with fail
        refine (KK.out _ G4.out).same.mono ?_
        rintro e wa5 ⟨rfl, g5⟩
        have G5 := Lib.hid g5
        clear g5
        go_wp2_with fail
        refine (KK.out _ G5.out).rsame.mono ?_
        rintro e wa6 ⟨rfl, g6⟩
        have G6 := Lib.hid g6
        clear g6
        go_wp2_with fail
        go_roundw
        case rel => exact ⟨j + 1, B, C, R1, rc1, R2, rc2, by omega, by omega, by go_num, rfl, rfl, G6⟩
        case measure => simp [intOf]; omega
    · skip
      have K1 := Lib.hid (st_list hst.out HT.out hz (by omega))
      have K2 := Lib.hid (fun W (h : ST w W w.heap.size s2 j B C R1 rc1 R2 rc2) => st_list h.swap HT.out hz (by omega))
      by_cases hjl : j < l.length
      · have e1 : decide ((j : Int) < (l.length : Int)) = true := decide_eq_true (by omega)
        have e2 : decide ((j : Int) < 150) = false := decide_eq_false (by omega)
        go_wp2_with fail
        refine K1.out.mono ?_
        rintro e w2 ⟨A2, c2, rfl, h2, hs⟩
        have KS := Lib.hid hs
        clear hs h2
        go_wp2_with fail
        refine KS.out.mono ?_
        rintro e w3 ⟨rfl, h3⟩
        have H3 := Lib.hid h3
        clear h3 KS
        go_wp2_with fail
        refine (K2.out _ H3.out).mono ?_
        rintro e w4 ⟨A4, c4, rfl, h4, hs⟩
        have KS := Lib.hid hs
        clear hs h4
        go_wp2_with fail
        refine KS.out.mono ?_
        rintro e w5 ⟨rfl, h5⟩
        have H5 := Lib.hid (fin.out _ h5.on)
        clear h5 KS
        go_wp2_with fail
        go_ret
        exact H5.out
      · have e1 : decide ((j : Int) < (l.length : Int)) = false := decide_eq_false (by omega)
        go_wp2_with fail
        refine K1.out.mono ?_
        rintro e w2 ⟨A2, c2, rfl, h2, hs⟩
        have KS := Lib.hid hs
        clear hs h2
        go_wp2_with fail
        refine KS.out.mono ?_
        rintro e w3 ⟨rfl, h3⟩
        have H3 := Lib.hid h3
        clear h3 KS
        go_wp2_with fail
        refine (K2.out _ H3.out).mono ?_
        rintro e w4 ⟨A4, c4, rfl, h4, hs⟩
        have KS := Lib.hid hs
        clear hs h4
        go_wp2_with fail
        refine KS.out.mono ?_
        rintro e w5 ⟨rfl, h5⟩
        have H5 := Lib.hid (fin.out _ h5.on)
        clear h5 KS
        go_wp2_with fail
        go_ret
        exact H5.out
end Go.Proofs.YtnjaadcbpkbjbaaDoor.bt
