/-
  Shape: Check, Size, and whether a place is one.
-/
import Derived.Test.YtmahoppjefhnjaaDoorShA
import Derived.Laws.EntriesVeiled
namespace Go.Proofs.YtmahoppjefhnjaaDoor.sh
open Go.RowKit Go.Sort Go.Proofs.YtmahoppjefhnjaaDoor.mem

/-- what is wrong with a type -/
def checkC (ss : List St) (T : Ty) : Int :=
  if faultC ss 4 T ≠ 0 then faultC ss 4 T else if 64 < (extC ss 4 T).1 ∨ 1024 < (extC ss 4 T).2 then 4 else 0

def sizeC (ss : List St) (T : Ty) : Nat := if checkC ss T ≠ 0 then 0 else (extC ss 4 T).2

theorem check_ok {ss : List St} {T : Ty} (h : checkC ss T = 0) : faultC ss 4 T = 0 ∧ (extC ss 4 T).1 ≤ 64 ∧ (extC ss 4 T).2 ≤ 1024 := by
  unfold checkC at h
  split at h
  · rename_i h0
    exact absurd h h0
  · rename_i h0
    split at h
    · simp at h
    · exact ⟨Classical.byContradiction h0, by omega, by omega⟩

/-- the worlds that Check makes ahead of its closure's call -/
structure CW (w W : World) (n : Nat) (A : Option Addr) (cap : Nat) (ss : List St) (v0 v1 v2 v3 : Value) : Prop where
  on : Below w.heap.size w W
  ce : CE W n A cap ss w.heap.size (w.heap.size + 1 + 1)
  box : Box W (w.heap.size + 1) 51 #[v0, v1, v2, v3]

theorem CW.kept {w W W' : World} {n : Nat} {A : Option Addr} {cap : Nat} {ss : List St} {v0 v1 v2 v3 : Value} (h : CW w W n A cap ss v0 v1 v2 v3) (hb : Below W.heap.size W W') : CW w W' n A cap ss v0 v1 v2 v3 :=
  ⟨h.on.trans (hb.mono h.on.size), h.ce.kept hb, h.box.kept (Fr.of_below hb []) (by simp)⟩

theorem box_new1 (w : World) (o : Obj) (t : TypeId) (cs : Array Value) : Box ((w.alloc o).alloc (.cells cs t)) (w.heap.size + 1) t cs := by
  have h := Box.new (w.alloc o) t cs
  rwa [World.size_alloc] at h
theorem box_new2 (w : World) (o o' : Obj) (t : TypeId) (cs : Array Value) : Box (((w.alloc o).alloc o').alloc (.cells cs t)) (w.heap.size + 1 + 1) t cs := by
  have h := Box.new ((w.alloc o).alloc o') t cs
  rwa [World.size_alloc, World.size_alloc] at h

theorem cw_new (w : World) (n : Nat) (A : Option Addr) (cap : Nat) (ss : List St) (v0 v1 v2 v3 : Value) (hs : SsAt w n A ss) :
    CW w (((w.alloc (.cells #[.slice A ss.length cap] 55)).alloc (.cells #[v0, v1, v2, v3] 51)).alloc (.cells #[.func (.func 75) #[] #[.pointer (some ⟨w.heap.size, 0, none⟩), .pointer (some ⟨w.heap.size + 1 + 1, 0, none⟩)]] 106)) n A cap ss v0 v1 v2 v3 := by
  have hb := ((((Fr.refl [] w).alloc (.cells #[.slice A ss.length cap] 55)).alloc (.cells #[v0, v1, v2, v3] 51)).alloc (.cells #[.func (.func 75) #[] #[.pointer (some ⟨w.heap.size, 0, none⟩), .pointer (some ⟨w.heap.size + 1 + 1, 0, none⟩)]] 106)).all
  exact ⟨hb, ⟨((Box.new w _ _).kept ((Fr.refl [] _).alloc _) (by simp)).kept ((Fr.refl [] _).alloc _) (by simp), box_new2 w _ _ _ _, hs.kept hb⟩, (box_new1 w _ _ _).kept ((Fr.refl [] _).alloc _) (by simp)⟩

set_option maxRecDepth 100000 in
set_option maxHeartbeats 1000000 in
theorem check_any (w : World) (n q : Nat) (A : Option Addr) (cap : Nat) (ss : List St) (hss : SsAt w n A ss) (hm : ss.length ≤ 9223372036854775807) (hfew : ∀ st ∈ ss, st.2.length ≤ 1000) (T : Ty) (v0 v1 v2 v3 : Value) (ht : TyAt w q T v0 v1 v2 v3) (hq : q ≤ n) :
    Calls Tryd.prog 56 #[.slice A ss.length cap, .agg #[v0, v1, v2, v3]] w (WrPost (checkC ss T) w) := by
  have KF := Lib.hid (fun w' g1 g2 (hb : Below w.heap.size w w') (hce : CE w' n A cap ss g1 g2) => fault_any n A cap ss hm hfew g1 g2 4 (by omega) T q v0 v1 v2 v3 w' hq (ht.kept hb) hce)
  have e5 : (5 : Int) - ((4 : Nat) : Int) = 1 := rfl
  rw [e5] at KF
  have KE := Lib.hid (fun w' (hb : Below w.heap.size w w') (hf : faultC ss 4 T = 0) => extent_any n A cap ss hm hfew 4 (by omega) T q v0 v1 v2 v3 w' hq (ht.kept hb) (hss.kept hb) hf)
  obtain ⟨R, hR⟩ : ∃ R, checkC ss T = R := ⟨_, rfl⟩
  rw [hR]
  unfold checkC at hR
  have HR := Lib.hid hR.symm
  have HS := Lib.hid (fun w' (hb : Below w.heap.size w w') => hss.kept hb)
  have hle := fun (hf : faultC ss 4 T = 0) => ext_le 4 T hf
  clear hR e5 hss
  cases q with
  | zero => exact ht.elim
  | succ q =>
  obtain ⟨rfl, _, rfl, _, rfl, _, A2, cap2, rfl, _, _, _⟩ := ht
  go_enter Tryd.func56, Tryd.ntmps56
  have HW := Lib.hid (cw_new w n A cap ss (.int .i64 T.kind) (.string T.name) (.int .i64 T.num) (.slice A2 T.of.length cap2) (HS.out w (Below.refl _ _)))
  go_wp2_with fail
  refine (KF.out _ _ _ HW.out.on HW.out.ce).mono ?_
  rintro e w2 ⟨rfl, b2⟩
  have HW2 := Lib.hid (HW.out.kept b2)
  have B1 : w2.cell? ⟨w.heap.size, 0, none⟩ = some (.slice A ss.length cap) := HW2.out.ce.b1.cell 0
  have t0 : w2.cell? ⟨w.heap.size + 1, 0, none⟩ = some (.int .i64 T.kind) := HW2.out.box.cell 0
  have t1 : w2.cell? ⟨w.heap.size + 1, 1, none⟩ = some (.string T.name) := HW2.out.box.cell 1
  have t2 : w2.cell? ⟨w.heap.size + 1, 2, none⟩ = some (.int .i64 T.num) := HW2.out.box.cell 2
  have t3 : w2.cell? ⟨w.heap.size + 1, 3, none⟩ = some (.slice A2 T.of.length cap2) := HW2.out.box.cell 3
  clear HW b2 KF HS
  by_cases hd : faultC ss 4 T = 0
  · have HR := Lib.hid (HR.out.trans (if_neg (by simp [hd])))
    have KE2 := Lib.hid (KE.out w2 HW2.out.on hd)
    obtain ⟨l1, l2⟩ := hle hd
    have l3 : (16 : Nat) ^ 4 = 65536 := by decide
    rw [l3] at l1 l2
    have hd' : faultC ss 4 T = 0 := hd
    rw [hd']
    obtain ⟨x, hx⟩ : ∃ x, extC ss 4 T = x := ⟨_, rfl⟩
    rw [hx] at HR KE2 l1 l2
    obtain ⟨a, b⟩ := x
    unfold ExPost at KE2
    simp only at HR l1 l2 KE2
    have HR := Lib.hid HR.out
    have HON := Lib.hid HW2.out.on
    clear KE hx hd hd' HW2 hle
    by_cases c1 : 64 < a
    · have hr := Lib.hid (HR.out.trans (if_pos (Or.inl c1)))
      have d1 : decide ((64 : Int) < (a : Int)) = true := decide_eq_true (by omega)
      go_wp2_with fail
      refine KE2.out.mono ?_
      rintro e w3 ⟨rfl, b3⟩
      have HB3 := Lib.hid (HON.out.trans (b3.mono HON.out.size))
      clear b3
      go_wp2_with fail
      go_ret
      exact wrpost hr.out HB3.out
    · have d1 : decide ((64 : Int) < (a : Int)) = false := decide_eq_false (by omega)
      by_cases c2 : 1024 < b
      · have hr := Lib.hid (HR.out.trans (if_pos (Or.inr c2)))
        have d2 : decide ((1024 : Int) < (b : Int)) = true := decide_eq_true (by omega)
        go_wp2_with fail
        refine KE2.out.mono ?_
        rintro e w3 ⟨rfl, b3⟩
        have HB3 := Lib.hid (HON.out.trans (b3.mono HON.out.size))
        clear b3
        go_wp2_with fail
        go_ret
        exact wrpost hr.out HB3.out
      · have hr := Lib.hid (HR.out.trans (if_neg (not_or.2 ⟨c1, c2⟩)))
        have d2 : decide ((1024 : Int) < (b : Int)) = false := decide_eq_false (by omega)
        go_wp2_with fail
        refine KE2.out.mono ?_
        rintro e w3 ⟨rfl, b3⟩
        have HB3 := Lib.hid (HON.out.trans (b3.mono HON.out.size))
        clear b3
        go_wp2_with fail
        go_ret
        exact wrpost hr.out HB3.out
  · have hr := Lib.hid (HR.out.trans (if_pos hd))
    have HON := Lib.hid HW2.out.on
    have x1 : (faultC ss 4 T != 0) = true := by simpa using hd
    clear KE HR hle HW2
    generalize faultC ss 4 T = d at *
    go_wp2_with fail
    go_ret
    exact wrpost hr.out HON.out
end Go.Proofs.YtmahoppjefhnjaaDoor.sh
