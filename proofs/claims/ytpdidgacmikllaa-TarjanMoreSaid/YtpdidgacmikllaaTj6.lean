/-
  tarjan: Parts, Round.
-/
import Derived.Test.YtpdidgacmikllaaTj4
namespace Go.Proofs.Ytpdidgacmikllaa.tj
open Go.RowKit Go.Proofs.Ytpdidgacmikllaa.mem

/-- rows that were handed out -/
def PaPost (w : World) (L : List (List Nat)) (e : Ending) (W : World) : Prop := ∃ A c rows, e = .returned (.slice A (List.length rows) c) ∧ List.map (·.xs) rows = L ∧ Seg W 32 A c (List.map hdr rows) ∧ (∀ r ∈ rows, Rd W r.A (natI r.xs)) ∧ Below w.heap.size w W

theorem gof_len (n : Int) (l : List (Int × Int)) : (gof n l).E.length ≤ l.length := by
  unfold gof
  rw [List.length_map]
  exact List.length_filter_le _ _

set_option maxRecDepth 100000 in
theorem parts_big (n : Int) (hn : 20000 < n) (v : Value) (w : World) : Calls Try.prog 10 #[.int .i64 n, v] w fun e w' => e = .returned (.slice none 0 0) ∧ w = w' := by
  have K := Lib.hid (outs_big n hn v w)
  go_enter Try.func10, Try.ntmps10
  go_wp2_with fail
  refine K.out.mono ?_
  rintro e w1 ⟨rfl, rfl⟩
  go_wp2_with fail
  go_ret
  exact ⟨rfl, rfl⟩

theorem OU.om {w W : World} {n : Int} {l : List (Int × Int)} {o : Nat} {rows : Nat → Row} (h : OU w W n l o l.length rows) : OM W W.heap.size o (gof n l) :=
  RG.om (g := gof n l) h.rg (fun i hi => by rw [h.xs i hi, outN_all])

set_option maxRecDepth 100000 in
theorem parts_any (n : Int) (hn : n ≤ 100) (A : Option Addr) (cap : Nat) (l : List (Int × Int)) (hl : l.length ≤ 1000) (w : World) (h : Eds w A l) :
    Calls Try.prog 10 #[.int .i64 n, .slice A l.length cap] w (PaPost w (gof n l).parts) := by
  have KO := Lib.hid (outs_any n hn A cap l hl w h)
  obtain ⟨m, hm⟩ : ∃ m, Hid ((gof n l).n = m) := ⟨_, Lib.hid rfl⟩
  have hm2 : Hid (n.toNat = m) := Lib.hid hm.out
  have hgn : (gof n l).n ≤ 100 := by show n.toNat ≤ 100; omega
  have hgE : (gof n l).E.length ≤ 1000 := Nat.le_trans (gof_len n l) hl
  have hgo : ∀ u, ((gof n l).out u).length ≤ 1000 := fun u => Nat.le_trans (G.out_le _ u) hgE
  have HP := Lib.hid (And.intro hgn (And.intro hgE hgo))
  clear h hgn hgE hgo
  go_enter Try.func10, Try.ntmps10
  go_wp2_with fail
  refine KO.out.mono ?_
  rintro e w1 ⟨o, rows, he, h1⟩
  rw [hm2.out] at he
  subst he
  have H1 := Lib.hid h1
  have KD := parted_any (gof n l) (gof_ok n l) HP.out.1 HP.out.2.2 w1 o h1.om
  rw [hm.out] at KD
  have KD := Lib.hid KD
  clear h1 KO
  go_wp2_with fail
  refine KD.out.mono ?_
  rintro e w2 ⟨T, Aq, cq, tp, rws, he, p2, b2⟩
  rw [hm.out] at he
  subst he
  have hgm := p2.gm ((H1.out.om.below b2 : OM w2 _ o (gof n l)) |> fun h => ⟨Nat.lt_of_lt_of_le h.lt b2.size, fun v hv => by
    obtain ⟨A, c, x1, x2, x3⟩ := h.row v hv
    exact ⟨A, c, x1, x2, fun hz x hx => Nat.lt_of_lt_of_le (x3 hz x hx) b2.size⟩⟩)
  have KR := ordered_any (gof n l) (gof_ok n l) HP.out.1 HP.out.2.1 w2 T o Aq cq tp rws hgm
  rw [hm.out] at KR
  have KR := Lib.hid KR
  have B2 := Lib.hid (H1.out.on.trans (b2.mono H1.out.on.size))
  clear p2 hgm b2 KD
  go_wp2_with fail
  refine KR.out.mono ?_
  rintro e w3 ⟨Al, cl, lrows, he, x1, x2, x3, x4⟩
  subst he
  have fin : Hid (PaPost w (gof n l).parts (.returned (.slice Al lrows.length cl)) w3) := Lib.hid ⟨Al, cl, lrows, rfl, x1, x2, x3, B2.out.trans (x4.mono B2.out.size)⟩
  clear x1 x2 x3 x4 KR
  go_wp2_with fail
  go_ret
  exact fin.out
end Go.Proofs.Ytpdidgacmikllaa.tj
