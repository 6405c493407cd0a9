/-
  Shape: the closure of Cells, and Cells.
-/
import Derived.Test.YtmahoppjefhnjaaDoorShT
import Derived.Deep.QuietTactic
namespace Go.Proofs.YtmahoppjefhnjaaDoor.sh
open Go.RowKit Go.Sort Go.Proofs.YtmahoppjefhnjaaDoor.mem

theorem putc_any (w0 : World) (n : Nat) (A : Option Addr) (cap : Nat) (ss : List St) (hss : ∀ st ∈ ss, ∀ fd ∈ st.2, deepB 8 fd.2 = false) (g1 g2 g0 gp : Nat) : ∀ (f : Nat), f ≤ 4 → ∀ (T : Ty) (q : Nat) (v0 v1 v2 v3 : Value) (w : World) (x : Pk) (M : Option Addr) (mc : Nat), Arg w n q A ss T v0 v1 v2 v3 → faultC ss f T = 0 → LC w A cap ss g1 g2 g0 gp x M mc →
    x.1.length + 9 ^ f ≤ 1000000 → x.2.length + 9 ^ f ≤ 1000000 → (∃ m, f + 3 < m ∧ deepB m T = false) → TBs w0 w (g1 :: g2 :: blk M) →
    Calls Tryd.prog 57 #[.agg #[v0, v1, v2, v3], .pointer (some ⟨g1, 0, none⟩), .pointer (some ⟨g2, 0, none⟩), .pointer (some ⟨g0, 0, none⟩), .pointer (some ⟨gp, 0, none⟩)] w (CxPost w A cap ss g1 g2 g0 gp M (putC ss f T x)) := by
  intro f
  induction f with
  | zero =>
    intro _ T q v0 v1 v2 v3 w x M mc _ hf
    have : faultC ss 0 T = 10 := by unfold faultC wrongC; rw [if_pos (by decide)]
    rw [this] at hf
    exact absurd hf (by decide)
  | succ f ih =>
    intro hf4 T q v0 v1 v2 v3 w x M mc h hf hle n1 n2 hdT htb
    obtain ⟨hw, hin⟩ := fault_ok hf
    obtain ⟨k1, k4, hl8, h4, _⟩ := wrong_ok hw
    have hdw := within_deep hss hf4 hdT (fun hk => (h4 hk).1)
    have hex : ∀ E ∈ withinL ss T, faultC ss f E = 0 ∧ ∃ m, f + 3 < m ∧ deepB m E = false := fun E hE => ⟨hin E hE, hdw E hE⟩
    have KI := fun (T : Ty) (v0 v1 v2 v3 : Value) (w : World) (x : Pk) (M : Option Addr) (mc : Nat) a b c d e g i => ih (by omega) T n v0 v1 v2 v3 w x M mc a b c d e g i
    obtain ⟨k, name, num, of⟩ := T
    by_cases hk3 : k = 3
    · subst hk3
      obtain ⟨⟨nm⟩⟩ := name
      exact put_rec w0 w n q A cap ss nm num of v0 v1 v2 v3 h f g1 g2 g0 gp KI hl8 hex x M mc hle n1 n2 htb
    · by_cases hk4 : k = 4
      · subst hk4
        obtain ⟨E, rfl⟩ := one_of (h4 rfl).1
        obtain ⟨m, hm, hd⟩ := hdT
        have hfz : faultC ss f E = 0 := hin E (by unfold withinL; rw [if_pos (show (Ty.mk 4 name num [E]).kind = 4 from rfl)]; simp [Ty.of])
        have hf1 : 1 ≤ f := by
          cases f with
          | zero =>
            have : faultC ss 0 E = 10 := by unfold faultC wrongC; rw [if_pos (by decide)]
            rw [this] at hfz
            exact absurd hfz (by decide)
          | succ f => omega
        obtain ⟨m, rfl⟩ : ∃ m', m = m' + 1 := ⟨m - 1, by omega⟩
        exact put_arr w0 w n q A cap ss name num E v0 v1 v2 v3 h f m (by omega) (deep_elem (m := 0) hd) g1 g2 g0 gp KI hl8 hex x M mc hle n1 n2 htb
      · have h9 : 1 ≤ 9 ^ (f + 1) := Nat.pow_pos (by omega)
        simp only [Ty.kind] at k1 k4
        exact put_leaf w n q A cap ss k (by omega) name num of v0 v1 v2 v3 h f g1 g2 g0 gp x M mc hle (by omega)

/-- what Cells tells -/
def cellsC (ss : List St) (T : Ty) : Pk := if checkC ss T ≠ 0 then ([], []) else putC ss 4 T ([], [])

def ClPost (ss : List St) (T : Ty) (w : World) (e : Ending) (w' : World) : Prop :=
  ∃ M mc, e = .returned (.tuple #[.string ⟨(cellsC ss T).1.toArray⟩, .slice M (cellsC ss T).2.length mc, .int .i64 (checkC ss T)]) ∧ Below w.heap.size w w' ∧ Sg 2 w' 64 M mc (cellsC ss T).2.length (marksV (cellsC ss T).2)

theorem lc_new (w2 : World) (A : Option Addr) (cap : Nat) (ss : List St) (g0 : Nat) (hb : Box w2 g0 55 #[.slice A ss.length cap]) (w3 : World) (hw : w3 = ((w2.alloc (.cells #[.string ⟨#[]⟩] 9)).alloc (.cells #[.slice none 0 0] 56)).alloc (.cells #[.func (.func 57) #[] #[.pointer (some ⟨w2.heap.size, 0, none⟩), .pointer (some ⟨w2.heap.size + 1, 0, none⟩), .pointer (some ⟨g0, 0, none⟩), .pointer (some ⟨w2.heap.size + 1 + 1, 0, none⟩)]] 90)) :
    LC w3 A cap ss w2.heap.size (w2.heap.size + 1) g0 (w2.heap.size + 1 + 1) ([], []) none 0 ∧ Below w2.heap.size w2 w3 := by
  subst hw
  have hl := hb.lt
  have hF := ((((Fr.refl [] w2).alloc (.cells #[.string ⟨#[]⟩] 9)).alloc (.cells #[.slice none 0 0] 56)).alloc (.cells #[.func (.func 57) #[] #[.pointer (some ⟨w2.heap.size, 0, none⟩), .pointer (some ⟨w2.heap.size + 1, 0, none⟩), .pointer (some ⟨g0, 0, none⟩), .pointer (some ⟨w2.heap.size + 1 + 1, 0, none⟩)]] 90))
  refine ⟨⟨((Box.new w2 _ _).kept ((Fr.refl [] _).alloc _) (by simp)).kept ((Fr.refl [] _).alloc _) (by simp), (box_new1 w2 _ _ _).kept ((Fr.refl [] _).alloc _) (by simp), hb.kept hF (by simp), ⟨_, box_new2 w2 _ _ _ _⟩, Sg.new 2 _ _, fun a ha => (by cases ha), by simp [blk], by omega⟩, hF.all⟩

set_option maxRecDepth 100000 in
set_option maxHeartbeats 1000000 in
theorem cells_any (w : World) (n q : Nat) (A : Option Addr) (cap : Nat) (ss : List St) (hss : ∀ st ∈ ss, ∀ fd ∈ st.2, deepB 8 fd.2 = false) (T : Ty) (v0 v1 v2 v3 : Value) (h : Arg w n q A ss T v0 v1 v2 v3) (hdT : ∃ m, 7 < m ∧ deepB m T = false) (htab : TabS w) :
    Calls Tryd.prog 31 #[.slice A ss.length cap, .agg #[v0, v1, v2, v3]] w (ClPost ss T w) := by
  have KC := Lib.hid (fun w' (h : Arg w' n q A ss T v0 v1 v2 v3) => h.check (cap := cap))
  have K0 := Lib.hid (kw_new w n q A cap ss T v0 v1 v2 v3 h)
  have hm := h.hm
  obtain ⟨A2, cap2, rfl, rfl, rfl, rfl⟩ := h.cells
  unfold WrPost at KC
  clear h
  by_cases hd : checkC ss T = 0
  · have hf := (check_ok hd).1
    have hv : cellsC ss T = putC ss 4 T ([], []) := by unfold cellsC; rw [if_neg (by simp [hd])]
    have KP := Lib.hid (fun w' g1 g2 g0 gp (ha : Arg w' n q A ss T (.int .i64 T.kind) (.string T.name) (.int .i64 T.num) (.slice A2 T.of.length cap2)) (hl : LC w' A cap ss g1 g2 g0 gp ([], []) none 0) (ht : TBs w w' [g1, g2]) => putc_any w n A cap ss hss g1 g2 g0 gp 4 (by omega) T q _ _ _ _ w' ([], []) none 0 ha hf hl (by decide) (by decide) hdT ht)
    have hlen : (putC ss 4 T ([], [])).1.length ≤ 1000000 ∧ (putC ss 4 T ([], [])).2.length ≤ 1000000 := by
      have := putC_le 4 T hf ([], [])
      have h9 : (9 : Nat) ^ 4 = 6561 := by decide
      simp only [List.length_nil] at this
      omega
    have TA := Lib.hid (fun w' g1 g2 (hb : Below w.heap.size w w') (h1 : w.heap.size ≤ g1) (h2 : w.heap.size ≤ g2) => (⟨htab, hb, by simp [h1, h2]⟩ : TBs w w' [g1, g2]))
    unfold ClPost
    rw [hv]
    rw [hd] at KC ⊢
    unfold CxPost at KP
    clear hv hd hf hdT htab hss
    generalize putC ss 4 T ([], []) = R at *
    obtain ⟨P, ms⟩ := R
    simp only at hlen ⊢
    go_enter Tryd.func31, Tryd.ntmps31
    go_wp2_with fail
    refine (KC.out _ K0.out.arg).mono ?_
    rintro e w2 ⟨rfl, b2⟩
    have K2 := Lib.hid (K0.out.kept b2)
    clear b2 K0 KC
    obtain ⟨w3, hw3⟩ : ∃ w3, w3 = ((w2.alloc (.cells #[.string ⟨#[]⟩] 9)).alloc (.cells #[.slice none 0 0] 56)).alloc (.cells #[.func (.func 57) #[] #[.pointer (some ⟨w2.heap.size, 0, none⟩), .pointer (some ⟨w2.heap.size + 1, 0, none⟩), .pointer (some ⟨w.heap.size, 0, none⟩), .pointer (some ⟨w2.heap.size + 1 + 1, 0, none⟩)]] 90) := ⟨_, rfl⟩
    obtain ⟨hl3, hb3⟩ := lc_new w2 A cap ss w.heap.size K2.out.b1 w3 hw3
    have K3 := K2.out.kept hb3
    have hz2 := K2.out.on.size
    have t0 : w3.cell? ⟨w.heap.size + 1, 0, none⟩ = some (.int .i64 T.kind) := K3.bt.cell 0
    have t1 : w3.cell? ⟨w.heap.size + 1, 1, none⟩ = some (.string T.name) := K3.bt.cell 1
    have t2 : w3.cell? ⟨w.heap.size + 1, 2, none⟩ = some (.int .i64 T.num) := K3.bt.cell 2
    have t3 : w3.cell? ⟨w.heap.size + 1, 3, none⟩ = some (.slice A2 T.of.length cap2) := K3.bt.cell 3
    have T3 := TA.out w3 w2.heap.size (w2.heap.size + 1) K3.on hz2 (by omega)
    have KP3 := Lib.hid (KP.out w3 _ _ _ _ K3.arg hl3 T3)
    have ON3 := Lib.hid K3.on
    subst hw3
    clear KP K2 K3 hl3 hb3 T3 TA
    go_wp2_with fail
    refine KP3.out.mono ?_
    rintro e w4 ⟨rfl, M4, mc4, hl4, hf4, hb4⟩
    have c1 : w4.cell? ⟨w2.heap.size, 0, none⟩ = some (.string ⟨P.toArray⟩) := hl4.b1.cell 0
    have c2 : w4.cell? ⟨w2.heap.size + 1, 0, none⟩ = some (.slice M4 ms.length mc4) := hl4.b2.cell 0
    have SG4 := Lib.hid hl4.sg
    have HB4 := Lib.hid (ON3.out.trans (hf4.below (B := w.heap.size) (by simp [blk]; omega) ON3.out.size))
    clear hl4 hf4 hb4 KP3 t0 t1 t2 t3
    go_wp2_with fail
    go_quiet (fail)
    go_wp2_with fail
    refine bodyPost_ret (v := .tuple #[.string ⟨P.toArray⟩, .slice M4 ms.length mc4, .int .i64 0]) (by simp only [results, Tryd.results31]; go_simp) rfl ?_
    exact ⟨M4, mc4, rfl, ((Fr.of_below HB4.out []).drewN _).all, SG4.out.kept ((Fr.refl [] w4).drewN _) (by simp)⟩
  · have hv : cellsC ss T = ([], []) := by unfold cellsC; rw [if_pos hd]
    unfold ClPost
    rw [hv]
    have x1 : (checkC ss T != 0) = true := by simpa using hd
    clear hv hd hdT htab hss
    generalize checkC ss T = d at *
    go_enter Tryd.func31, Tryd.ntmps31
    go_wp2_with fail
    refine (KC.out _ K0.out.arg).mono ?_
    rintro e w2 ⟨rfl, b2⟩
    have K2 := Lib.hid (K0.out.kept b2)
    clear b2 K0 KC
    go_wp2_with fail
    refine bodyPost_ret (v := .tuple #[.string ⟨#[]⟩, .slice none 0 0, .int .i64 d]) (by simp only [results, Tryd.results31]; go_simp) rfl ?_
    exact ⟨none, 0, rfl, K2.out.on, Sg.new 2 _ _⟩
end Go.Proofs.YtmahoppjefhnjaaDoor.sh
