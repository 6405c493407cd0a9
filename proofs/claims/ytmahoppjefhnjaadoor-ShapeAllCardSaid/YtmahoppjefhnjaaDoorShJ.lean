/-
  Shape: Begins.
-/
import Derived.Test.YtmahoppjefhnjaaDoorShI
import Derived.Test.YtmahoppjefhnjaaDoorShG
import Derived.Laws.EntriesVeiled
namespace Go.Proofs.YtmahoppjefhnjaaDoor.sh
open Go.RowKit Go.Sort Go.Proofs.YtmahoppjefhnjaaDoor.mem

/-- whether an object of a tag begins at a place -/
def beginsC (ss : List St) (T : Ty) (p : Int) (tag : List UInt8) : Bool := if placeC ss T p ≠ 0 then false else begC ss tag 4 T p false

def BgPost (ss : List St) (T : Ty) (p : Int) (tag : List UInt8) (w : World) (e : Ending) (w' : World) : Prop := e = .returned (.bool (beginsC ss T p tag)) ∧ Below w.heap.size w w'

theorem bx_new2 (w : World) (o1 o2 : Obj) (cs : Array Value) (t : TypeId) : Box (((w.alloc o1).alloc o2).alloc (.cells cs t)) (w.heap.size + 2) t cs := by
  have h := Box.new ((w.alloc o1).alloc o2) t cs
  rwa [World.size_alloc, World.size_alloc] at h

theorem kw2_new (w : World) (n q : Nat) (A : Option Addr) (cap : Nat) (ss : List St) (T : Ty) (v0 v1 v2 v3 : Value) (h : Arg w n q A ss T v0 v1 v2 v3) (x : Value) : KW w (((w.alloc (.cells #[.slice A ss.length cap] 55)).alloc (.cells #[v0, v1, v2, v3] 51)).alloc (.cells #[x] 9)) n q A cap ss T v0 v1 v2 v3 :=
  (kw_new w n q A cap ss T v0 v1 v2 v3 h).kept ((Below.refl _ _).alloc (Nat.le_refl _) _)

set_option maxRecDepth 100000 in
set_option maxHeartbeats 1000000 in
theorem begins_any (w : World) (n q : Nat) (A : Option Addr) (cap : Nat) (ss : List St) (hss : ∀ st ∈ ss, ∀ fd ∈ st.2, deepB 8 fd.2 = false) (T : Ty) (v0 v1 v2 v3 : Value) (h : Arg w n q A ss T v0 v1 v2 v3) (p : Int) (tag : List UInt8) (hdT : ∃ m, 7 < m ∧ deepB m T = false) (htab : TabS w) :
    Calls Tryd.prog 34 #[.slice A ss.length cap, .agg #[v0, v1, v2, v3], .int .i64 p, .string ⟨tag.toArray⟩] w (BgPost ss T p tag w) := by
  have KP := Lib.hid (fun w' (h : Arg w' n q A ss T v0 v1 v2 v3) => place_any w' n q A cap ss T v0 v1 v2 v3 h p)
  have K0 := Lib.hid (kw2_new w n q A cap ss T v0 v1 v2 v3 h (.string ⟨tag.toArray⟩))
  have G0 : Hid (Box (((w.alloc (.cells #[.slice A ss.length cap] 55)).alloc (.cells #[v0, v1, v2, v3] 51)).alloc (.cells #[.string ⟨tag.toArray⟩] 9)) (w.heap.size + 2) 9 #[.string ⟨tag.toArray⟩]) := Lib.hid (bx_new2 w _ _ _ _)
  have hm := h.hm
  have hplace : Hid (placeC ss T p = 0 → checkC ss T = 0 ∧ 0 ≤ p ∧ p < (extC ss 4 T).2) := Lib.hid (fun hp => place_ok hp)
  obtain ⟨A2, cap2, rfl, rfl, rfl, rfl⟩ := h.cells
  unfold BgPost
  unfold WrPost at KP
  clear h
  by_cases hd : placeC ss T p = 0
  · obtain ⟨hc, p0, p1⟩ := hplace.out hd
    obtain ⟨hf, _, e2⟩ := check_ok hc
    have hv : beginsC ss T p tag = begC ss tag 4 T p false := by unfold beginsC; rw [if_neg (by simp [hd])]
    have KD := Lib.hid (fun w' g0 gt g (ha : Arg w' n q A ss T (.int .i64 T.kind) (.string T.name) (.int .i64 T.num) (.slice A2 T.of.length cap2)) (hl : LB w' A cap ss g0 gt g tag false) (ht : TB w w' g) => downb_any w n A cap ss hss g0 gt g tag 4 (by omega) T q _ _ _ _ w' p false ha hf hl p0 (by omega) hdT ht)
    have TA := Lib.hid (fun w' g (hb : Below w.heap.size w w') (hg : w.heap.size ≤ g) => (⟨htab, hb, hg⟩ : TB w w' g))
    rw [hv]
    rw [hd] at KP
    unfold B1Post at KD
    clear hv hd hc hf e2 p1 hplace hdT htab hss
    generalize begC ss tag 4 T p false = R at *
    go_enter Tryd.func34, Tryd.ntmps34
    go_wp2_with fail
    refine (KP.out _ K0.out.arg).mono ?_
    rintro e w2 ⟨rfl, b2⟩
    have K2 := Lib.hid (K0.out.kept b2)
    have G2 := Lib.hid (G0.out.kept (Fr.of_below b2 []) (by simp))
    clear b2 K0 KP G0
    have BA : Below w2.heap.size w2 (w2.alloc (.cells #[.bool false] 4)) := (Below.refl _ _).alloc (Nat.le_refl _) _
    have K3 := Lib.hid (K2.out.kept BA)
    have L3 : Hid (LB (w2.alloc (.cells #[.bool false] 4)) A cap ss w.heap.size (w.heap.size + 2) w2.heap.size tag false) := Lib.hid ⟨K3.out.b1, G2.out.kept (Fr.of_below BA []) (by simp), Box.new w2 _ _⟩
    have hz2 := K2.out.on.size
    have T3 := Lib.hid (TA.out _ w2.heap.size K3.out.on hz2)
    have s0 : (w2.alloc (.cells #[.bool false] 4)).cell? ⟨w.heap.size, 0, none⟩ = some (.slice A ss.length cap) := K3.out.b1.cell 0
    have t0 : (w2.alloc (.cells #[.bool false] 4)).cell? ⟨w.heap.size + 1, 0, none⟩ = some (.int .i64 T.kind) := K3.out.bt.cell 0
    have t1 : (w2.alloc (.cells #[.bool false] 4)).cell? ⟨w.heap.size + 1, 1, none⟩ = some (.string T.name) := K3.out.bt.cell 1
    have t2 : (w2.alloc (.cells #[.bool false] 4)).cell? ⟨w.heap.size + 1, 2, none⟩ = some (.int .i64 T.num) := K3.out.bt.cell 2
    have t3 : (w2.alloc (.cells #[.bool false] 4)).cell? ⟨w.heap.size + 1, 3, none⟩ = some (.slice A2 T.of.length cap2) := K3.out.bt.cell 3
    go_wp2_with fail
    refine (KD.out _ _ _ _ K3.out.arg L3.out T3.out).mono ?_
    rintro e w4 ⟨rfl, hl4, hf4⟩
    have c4 : w4.cell? ⟨w2.heap.size, 0, none⟩ = some (.bool R) := hl4.bg.cell 0
    have HB4 := Lib.hid (K3.out.on.trans (hf4.below (B := w.heap.size) (by simpa using hz2) (by simp; omega)))
    clear hl4 hf4
    go_wp2_with fail
    go_ret
    exact ⟨rfl, HB4.out⟩
  · have hv : beginsC ss T p tag = false := by unfold beginsC; rw [if_pos hd]
    rw [hv]
    have x1 : (placeC ss T p != 0) = true := by simpa using hd
    clear hv hd hplace hdT htab hss
    generalize placeC ss T p = d at *
    go_enter Tryd.func34, Tryd.ntmps34
    go_wp2_with fail
    refine (KP.out _ K0.out.arg).mono ?_
    rintro e w2 ⟨rfl, b2⟩
    have K2 := Lib.hid (K0.out.kept b2)
    clear b2 K0 KP
    go_wp2_with fail
    go_ret
    exact ⟨rfl, K2.out.on⟩
end Go.Proofs.YtmahoppjefhnjaaDoor.sh
