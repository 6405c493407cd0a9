/-
  Shape: Cell.
-/
import Derived.Test.YtmahoppjefhnjaaDoorShF
import Derived.Laws.EntriesVeiled
namespace Go.Proofs.YtmahoppjefhnjaaDoor.sh
open Go.RowKit Go.Sort Go.Proofs.YtmahoppjefhnjaaDoor.mem

/-- the cell of a place -/
def cellC (ss : List St) (T : Ty) (p : Int) : Int := if placeC ss T p ≠ 0 then 0 else downC ss 4 T p 0

def CePost (ss : List St) (T : Ty) (p : Int) (w : World) (e : Ending) (w' : World) : Prop := e = .returned (.tuple #[.int .i64 (cellC ss T p), .int .i64 (placeC ss T p)]) ∧ Below w.heap.size w w'

/-- the worlds that Cell makes ahead of its closure -/
structure KW (w W : World) (n q : Nat) (A : Option Addr) (cap : Nat) (ss : List St) (T : Ty) (v0 v1 v2 v3 : Value) : Prop where
  on : Below w.heap.size w W
  b1 : Box W w.heap.size 55 #[.slice A ss.length cap]
  bt : Box W (w.heap.size + 1) 51 #[v0, v1, v2, v3]
  arg : Arg W n q A ss T v0 v1 v2 v3

theorem KW.kept {w W W' : World} {n q : Nat} {A : Option Addr} {cap : Nat} {ss : List St} {T : Ty} {v0 v1 v2 v3 : Value} (h : KW w W n q A cap ss T v0 v1 v2 v3) (hb : Below W.heap.size W W') : KW w W' n q A cap ss T v0 v1 v2 v3 :=
  ⟨h.on.trans (hb.mono h.on.size), h.b1.kept (Fr.of_below hb []) (by simp), h.bt.kept (Fr.of_below hb []) (by simp), h.arg.kept hb⟩

theorem kw_new (w : World) (n q : Nat) (A : Option Addr) (cap : Nat) (ss : List St) (T : Ty) (v0 v1 v2 v3 : Value) (h : Arg w n q A ss T v0 v1 v2 v3) : KW w ((w.alloc (.cells #[.slice A ss.length cap] 55)).alloc (.cells #[v0, v1, v2, v3] 51)) n q A cap ss T v0 v1 v2 v3 := by
  have hb := (((Fr.refl [] w).alloc (.cells #[.slice A ss.length cap] 55)).alloc (.cells #[v0, v1, v2, v3] 51)).all
  exact ⟨hb, (Box.new w _ _).kept ((Fr.refl [] _).alloc _) (by simp), box_new1 w _ _ _, h.kept hb⟩

set_option maxRecDepth 100000 in
set_option maxHeartbeats 1000000 in
theorem cell_any (w : World) (n q : Nat) (A : Option Addr) (cap : Nat) (ss : List St) (T : Ty) (v0 v1 v2 v3 : Value) (h : Arg w n q A ss T v0 v1 v2 v3) (p : Int) :
    Calls Tryd.prog 33 #[.slice A ss.length cap, .agg #[v0, v1, v2, v3], .int .i64 p] w (CePost ss T p w) := by
  have KP := Lib.hid (fun w' (h : Arg w' n q A ss T v0 v1 v2 v3) => place_any w' n q A cap ss T v0 v1 v2 v3 h p)
  have K0 := Lib.hid (kw_new w n q A cap ss T v0 v1 v2 v3 h)
  have hm := h.hm
  have hplace : Hid (placeC ss T p = 0 → checkC ss T = 0 ∧ 0 ≤ p ∧ p < (extC ss 4 T).2) := Lib.hid (fun hp => place_ok hp)
  obtain ⟨A2, cap2, rfl, rfl, rfl, rfl⟩ := h.cells
  unfold CePost
  unfold WrPost at KP
  clear h
  by_cases hd : placeC ss T p = 0
  · obtain ⟨hc, p0, p1⟩ := hplace.out hd
    obtain ⟨hf, _, e2⟩ := check_ok hc
    have hv : cellC ss T p = downC ss 4 T p 0 := by unfold cellC; rw [if_neg (by simp [hd])]
    have KD := Lib.hid (fun w' g1 g (ha : Arg w' n q A ss T (.int .i64 T.kind) (.string T.name) (.int .i64 T.num) (.slice A2 T.of.length cap2)) (hl : LE w' n A cap ss g1 g 0) => downc_any n A cap ss g1 g 4 (by omega) T q _ _ _ _ w' p 0 ha hf hl p0 (by omega) (by omega) (by omega))
    rw [hv, hd]
    rw [hd] at KP
    unfold C1Post at KD
    clear hv hd hc hf e2 p1 hplace
    generalize downC ss 4 T p 0 = R at *
    go_enter Tryd.func33, Tryd.ntmps33
    go_wp2_with fail
    refine (KP.out _ K0.out.arg).mono ?_
    rintro e w2 ⟨rfl, b2⟩
    have K2 := Lib.hid (K0.out.kept b2)
    clear b2 K0 KP
    have BA : Below w2.heap.size w2 (w2.alloc (.cells #[.int .i64 0] 3)) := (Below.refl _ _).alloc (Nat.le_refl _) _
    have K3 := Lib.hid (K2.out.kept BA)
    have L3 : Hid (LE (w2.alloc (.cells #[.int .i64 0] 3)) n A cap ss w.heap.size w2.heap.size 0) := Lib.hid ⟨K3.out.b1, Box.new w2 _ _⟩
    have hz2 := K2.out.on.size
    have s0 : (w2.alloc (.cells #[.int .i64 0] 3)).cell? ⟨w.heap.size, 0, none⟩ = some (.slice A ss.length cap) := K3.out.b1.cell 0
    have t0 : (w2.alloc (.cells #[.int .i64 0] 3)).cell? ⟨w.heap.size + 1, 0, none⟩ = some (.int .i64 T.kind) := K3.out.bt.cell 0
    have t1 : (w2.alloc (.cells #[.int .i64 0] 3)).cell? ⟨w.heap.size + 1, 1, none⟩ = some (.string T.name) := K3.out.bt.cell 1
    have t2 : (w2.alloc (.cells #[.int .i64 0] 3)).cell? ⟨w.heap.size + 1, 2, none⟩ = some (.int .i64 T.num) := K3.out.bt.cell 2
    have t3 : (w2.alloc (.cells #[.int .i64 0] 3)).cell? ⟨w.heap.size + 1, 3, none⟩ = some (.slice A2 T.of.length cap2) := K3.out.bt.cell 3
    go_wp2_with fail
    refine (KD.out _ _ _ K3.out.arg L3.out).mono ?_
    rintro e w4 ⟨rfl, hl4, hf4⟩
    have c4 : w4.cell? ⟨w2.heap.size, 0, none⟩ = some (.int .i64 R) := hl4.bg.cell 0
    have HB4 := Lib.hid (K3.out.on.trans (hf4.below (B := w.heap.size) (by simpa using hz2) (by simp; omega)))
    clear hl4 hf4
    go_wp2_with fail
    go_ret2
    exact ⟨rfl, HB4.out⟩
  · have hv : cellC ss T p = 0 := by unfold cellC; rw [if_pos hd]
    rw [hv]
    have x1 : (placeC ss T p != 0) = true := by simpa using hd
    clear hv hd hplace
    generalize placeC ss T p = d at *
    go_enter Tryd.func33, Tryd.ntmps33
    go_wp2_with fail
    refine (KP.out _ K0.out.arg).mono ?_
    rintro e w2 ⟨rfl, b2⟩
    have K2 := Lib.hid (K0.out.kept b2)
    clear b2 K0 KP
    go_wp2_with fail
    go_ret2
    exact ⟨rfl, K2.out.on⟩
end Go.Proofs.YtmahoppjefhnjaaDoor.sh
