/-
  Shape: Size, and whether a place is one.
-/
import Derived.Test.YtmahoppjefhnjaaDoorShB
namespace Go.Proofs.YtmahoppjefhnjaaDoor.sh
open Go.RowKit Go.Sort Go.Proofs.YtmahoppjefhnjaaDoor.mem

/-- what is asked of whoever is told structs and a type -/
structure Arg (w : World) (n q : Nat) (A : Option Addr) (ss : List St) (T : Ty) (v0 v1 v2 v3 : Value) : Prop where
  at_ : SsAt w n A ss
  hm : ss.length ≤ 9223372036854775807
  few : ∀ st ∈ ss, st.2.length ≤ 1000
  ty : TyAt w q T v0 v1 v2 v3
  hq : q ≤ n

theorem Arg.kept {w w' : World} {n q : Nat} {A : Option Addr} {ss : List St} {T : Ty} {v0 v1 v2 v3 : Value} (h : Arg w n q A ss T v0 v1 v2 v3) (hb : Below w.heap.size w w') : Arg w' n q A ss T v0 v1 v2 v3 := ⟨h.at_.kept hb, h.hm, h.few, h.ty.kept hb, h.hq⟩

theorem Arg.check {w : World} {n q : Nat} {A : Option Addr} {cap : Nat} {ss : List St} {T : Ty} {v0 v1 v2 v3 : Value} (h : Arg w n q A ss T v0 v1 v2 v3) : Calls Tryd.prog 56 #[.slice A ss.length cap, .agg #[v0, v1, v2, v3]] w (WrPost (checkC ss T) w) :=
  check_any w n q A cap ss h.at_ h.hm h.few T v0 v1 v2 v3 h.ty h.hq

theorem Arg.extent {w : World} {n q : Nat} {A : Option Addr} {cap : Nat} {ss : List St} {T : Ty} {v0 v1 v2 v3 : Value} (h : Arg w n q A ss T v0 v1 v2 v3) (f : Nat) (hf4 : f ≤ 4) (hf : faultC ss f T = 0) : Calls Tryd.prog 59 #[.slice A ss.length cap, .agg #[v0, v1, v2, v3]] w (ExPost (extC ss f T) w) :=
  extent_any n A cap ss h.hm h.few f hf4 T q v0 v1 v2 v3 w h.hq h.ty h.at_ hf

theorem Arg.within {w : World} {n q : Nat} {A : Option Addr} {cap : Nat} {ss : List St} {T : Ty} {v0 v1 v2 v3 : Value} (h : Arg w n q A ss T v0 v1 v2 v3) : Calls Tryd.prog 58 #[.slice A ss.length cap, .agg #[v0, v1, v2, v3]] w (WiPost n (withinL ss T) w) :=
  within_any w n q A cap ss h.at_ h.hm T v0 v1 v2 v3 h.ty h.hq h.few

theorem Arg.cells {w : World} {n q : Nat} {A : Option Addr} {ss : List St} {T : Ty} {v0 v1 v2 v3 : Value} (h : Arg w n q A ss T v0 v1 v2 v3) : ∃ A2 cap2, v0 = .int .i64 T.kind ∧ v1 = .string T.name ∧ v2 = .int .i64 T.num ∧ v3 = .slice A2 T.of.length cap2 := by
  have ht := h.ty
  cases q with
  | zero => exact ht.elim
  | succ q =>
  obtain ⟨rfl, _, rfl, _, rfl, _, A2, cap2, rfl, _, _, _⟩ := ht
  exact ⟨A2, cap2, rfl, rfl, rfl, rfl⟩

def SzPost (ss : List St) (T : Ty) (w : World) (e : Ending) (w' : World) : Prop := e = .returned (.tuple #[.int .i64 (sizeC ss T : Nat), .int .i64 (checkC ss T)]) ∧ Below w.heap.size w w'

set_option maxRecDepth 100000 in
theorem size_any (w : World) (n q : Nat) (A : Option Addr) (cap : Nat) (ss : List St) (T : Ty) (v0 v1 v2 v3 : Value) (h : Arg w n q A ss T v0 v1 v2 v3) :
    Calls Tryd.prog 32 #[.slice A ss.length cap, .agg #[v0, v1, v2, v3]] w (SzPost ss T w) := by
  have KC := Lib.hid (fun w' (hb : Below w.heap.size w w') => (h.kept hb).check (cap := cap))
  have KE := Lib.hid (fun w' (hb : Below w.heap.size w w') (hf : faultC ss 4 T = 0) => (h.kept hb).extent (cap := cap) 4 (by omega) hf)
  have hm := h.hm
  obtain ⟨A2, cap2, rfl, rfl, rfl, rfl⟩ := h.cells
  have B0 := Lib.hid (fun o => (Below.refl w.heap.size w).alloc (Nat.le_refl _) o)
  have BX : Hid (Box (w.alloc (.cells #[.int .i64 T.kind, .string T.name, .int .i64 T.num, .slice A2 T.of.length cap2] 51)) w.heap.size 51 #[.int .i64 T.kind, .string T.name, .int .i64 T.num, .slice A2 T.of.length cap2]) := Lib.hid (Box.new w _ _)
  unfold SzPost
  unfold WrPost at KC
  clear h
  by_cases hd : checkC ss T = 0
  · have hsz : sizeC ss T = (extC ss 4 T).2 := by unfold sizeC; rw [if_neg (by simp [hd])]
    have hf := (check_ok hd).1
    rw [hsz, hd]
    rw [hd] at KC
    have KE : Hid (∀ w', Below w.heap.size w w' → Calls Tryd.prog 59 #[.slice A ss.length cap, .agg #[.int .i64 T.kind, .string T.name, .int .i64 T.num, .slice A2 T.of.length cap2]] w' (ExPost (extC ss 4 T) w')) := Lib.hid (fun w' hb => KE.out w' hb hf)
    unfold ExPost at KE
    clear hd hsz hf
    generalize extC ss 4 T = x at *
    go_enter Tryd.func32, Tryd.ntmps32
    go_wp2_with fail
    refine (KC.out _ (B0.out _)).mono ?_
    rintro e w2 ⟨rfl, b2⟩
    have HB2 := Lib.hid ((B0.out _).trans (b2.mono (B0.out _).size))
    have BX2 := BX.out.kept (Fr.of_below b2 []) (by simp)
    have t0 : w2.cell? ⟨w.heap.size, 0, none⟩ = some (.int .i64 T.kind) := BX2.cell 0
    have t1 : w2.cell? ⟨w.heap.size, 1, none⟩ = some (.string T.name) := BX2.cell 1
    have t2 : w2.cell? ⟨w.heap.size, 2, none⟩ = some (.int .i64 T.num) := BX2.cell 2
    have t3 : w2.cell? ⟨w.heap.size, 3, none⟩ = some (.slice A2 T.of.length cap2) := BX2.cell 3
    have KE2 := Lib.hid (KE.out w2 HB2.out)
    clear BX BX2 b2 KC KE
    go_wp2_with fail
    refine KE2.out.mono ?_
    rintro e w3 ⟨rfl, b3⟩
    have HB3 := Lib.hid (HB2.out.trans (b3.mono HB2.out.size))
    clear b3
    go_wp2_with fail
    go_ret2
    exact ⟨rfl, HB3.out⟩
  · have hsz : sizeC ss T = 0 := by unfold sizeC; rw [if_pos hd]
    rw [hsz]
    have x1 : (checkC ss T != 0) = true := by simpa using hd
    clear hd hsz KE BX
    generalize checkC ss T = d at *
    go_enter Tryd.func32, Tryd.ntmps32
    go_wp2_with fail
    refine (KC.out _ (B0.out _)).mono ?_
    rintro e w2 ⟨rfl, b2⟩
    have HB2 := Lib.hid ((B0.out _).trans (b2.mono (B0.out _).size))
    clear b2 KC
    go_wp2_with fail
    go_ret2
    exact ⟨rfl, HB2.out⟩

/-- whether a place is one -/
def placeC (ss : List St) (T : Ty) (p : Int) : Int := if checkC ss T ≠ 0 then checkC ss T else if p < 0 ∨ (sizeC ss T : Int) ≤ p then 2 else 0

theorem place_ok {ss : List St} {T : Ty} {p : Int} (h : placeC ss T p = 0) : checkC ss T = 0 ∧ 0 ≤ p ∧ p < (extC ss 4 T).2 := by
  unfold placeC at h
  split at h
  · rename_i h0
    exact absurd h h0
  · rename_i h0
    have h0 : checkC ss T = 0 := Classical.byContradiction h0
    split at h
    · simp at h
    · rename_i h1
      have hs : sizeC ss T = (extC ss 4 T).2 := by unfold sizeC; rw [if_neg (by simp [h0])]
      rw [hs] at h1
      exact ⟨h0, by omega, by omega⟩

set_option maxRecDepth 100000 in
theorem place_any (w : World) (n q : Nat) (A : Option Addr) (cap : Nat) (ss : List St) (T : Ty) (v0 v1 v2 v3 : Value) (h : Arg w n q A ss T v0 v1 v2 v3) (p : Int) :
    Calls Tryd.prog 60 #[.slice A ss.length cap, .agg #[v0, v1, v2, v3], .int .i64 p] w (WrPost (placeC ss T p) w) := by
  have KS := Lib.hid (fun w' (hb : Below w.heap.size w w') => size_any w' n q A cap ss T v0 v1 v2 v3 (h.kept hb))
  have hm := h.hm
  obtain ⟨A2, cap2, rfl, rfl, rfl, rfl⟩ := h.cells
  have B0 := Lib.hid (fun o => (Below.refl w.heap.size w).alloc (Nat.le_refl _) o)
  obtain ⟨R, hR⟩ : ∃ R, placeC ss T p = R := ⟨_, rfl⟩
  rw [hR]
  unfold placeC at hR
  have HR := Lib.hid hR.symm
  unfold SzPost at KS
  clear h hR
  generalize checkC ss T = d at *
  generalize sizeC ss T = z at *
  by_cases hd : d = 0
  · subst hd
    have HR := Lib.hid (HR.out.trans (if_neg (by simp)))
    by_cases c1 : p < 0
    · have hr := Lib.hid (HR.out.trans (if_pos (Or.inl c1)))
      have d1 : decide (p < 0) = true := decide_eq_true c1
      clear HR
      go_enter Tryd.func60, Tryd.ntmps60
      go_wp2_with fail
      refine (KS.out _ (B0.out _)).mono ?_
      rintro e w2 ⟨rfl, b2⟩
      have HB2 := Lib.hid ((B0.out _).trans (b2.mono (B0.out _).size))
      clear b2 KS
      go_wp2_with fail
      go_ret
      exact wrpost hr.out HB2.out
    · have d1 : decide (p < 0) = false := decide_eq_false c1
      by_cases c2 : (z : Int) ≤ p
      · have hr := Lib.hid (HR.out.trans (if_pos (Or.inr c2)))
        have d2 : decide ((z : Int) ≤ p) = true := decide_eq_true c2
        clear HR
        go_enter Tryd.func60, Tryd.ntmps60
        go_wp2_with fail
        refine (KS.out _ (B0.out _)).mono ?_
        rintro e w2 ⟨rfl, b2⟩
        have HB2 := Lib.hid ((B0.out _).trans (b2.mono (B0.out _).size))
        clear b2 KS
        go_wp2_with fail
        go_ret
        exact wrpost hr.out HB2.out
      · have hr := Lib.hid (HR.out.trans (if_neg (not_or.2 ⟨c1, c2⟩)))
        have d2 : decide ((z : Int) ≤ p) = false := decide_eq_false c2
        clear HR
        go_enter Tryd.func60, Tryd.ntmps60
        go_wp2_with fail
        refine (KS.out _ (B0.out _)).mono ?_
        rintro e w2 ⟨rfl, b2⟩
        have HB2 := Lib.hid ((B0.out _).trans (b2.mono (B0.out _).size))
        clear b2 KS
        go_wp2_with fail
        go_ret
        exact wrpost hr.out HB2.out
  · have hr := Lib.hid (HR.out.trans (if_pos hd))
    have d1 : (d == 0) = false := by simpa using hd
    clear HR
    go_enter Tryd.func60, Tryd.ntmps60
    go_wp2_with fail
    refine (KS.out _ (B0.out _)).mono ?_
    rintro e w2 ⟨rfl, b2⟩
    have HB2 := Lib.hid ((B0.out _).trans (b2.mono (B0.out _).size))
    clear b2 KS
    go_wp2_with fail
    go_ret
    exact wrpost hr.out HB2.out
end Go.Proofs.YtmahoppjefhnjaaDoor.sh
