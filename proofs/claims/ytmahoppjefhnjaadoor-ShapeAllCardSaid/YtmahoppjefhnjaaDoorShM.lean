/-
  Shape: structs, fields and types in memory; the first struct of a name.
-/
import Derived.Test.YtmahoppjefhnjaaDoorTy
import Derived.ProofKit
import Derived.WalkKit
namespace Go.Proofs.YtmahoppjefhnjaaDoor.sh
open Go.RowKit Go.Proofs.YtmahoppjefhnjaaDoor.mem

abbrev Fd := ByteArray × Ty
abbrev St := ByteArray × List Fd

def TysAt (W : World) (n : Nat) (A : Option Addr) (ts : List Ty) : Prop :=
  (0 < ts.length → ∃ b off, A = some ⟨b, off, none⟩ ∧ b < W.heap.size) ∧
  ∀ j (hj : j < ts.length) b off, A = some ⟨b, off, none⟩ → ∃ c0 c1 c2 c3, W.cell? ⟨b, off + j * 4, none⟩ = some c0 ∧ W.cell? ⟨b, off + j * 4 + 1, none⟩ = some c1 ∧
    W.cell? ⟨b, off + j * 4 + 2, none⟩ = some c2 ∧ W.cell? ⟨b, off + j * 4 + 3, none⟩ = some c3 ∧ TyAt W n ts[j] c0 c1 c2 c3

def FsAt (W : World) (n : Nat) (A : Option Addr) (fs : List Fd) : Prop :=
  (0 < fs.length → ∃ b off, A = some ⟨b, off, none⟩ ∧ b < W.heap.size) ∧
  ∀ j (hj : j < fs.length) b off, A = some ⟨b, off, none⟩ → ∃ c0 c1 c2 c3, W.cell? ⟨b, off + j * 5, none⟩ = some (.string fs[j].1) ∧ W.cell? ⟨b, off + j * 5 + 1, none⟩ = some c0 ∧ W.cell? ⟨b, off + j * 5 + 2, none⟩ = some c1 ∧
    W.cell? ⟨b, off + j * 5 + 3, none⟩ = some c2 ∧ W.cell? ⟨b, off + j * 5 + 4, none⟩ = some c3 ∧ TyAt W n fs[j].2 c0 c1 c2 c3

def SsAt (W : World) (n : Nat) (A : Option Addr) (ss : List St) : Prop :=
  (0 < ss.length → ∃ b off, A = some ⟨b, off, none⟩ ∧ b < W.heap.size) ∧
  ∀ j (hj : j < ss.length) b off, A = some ⟨b, off, none⟩ → ∃ B cap, W.cell? ⟨b, off + j * 2, none⟩ = some (.string ss[j].1) ∧ W.cell? ⟨b, off + j * 2 + 1, none⟩ = some (.slice B ss[j].2.length cap) ∧
    ss[j].2.length ≤ 9223372036854775807 ∧ FsAt W n B ss[j].2

theorem TysAt.kept {W W' : World} {n : Nat} {A : Option Addr} {ts : List Ty} (h : TysAt W n A ts) (hb : Below W.heap.size W W') : TysAt W' n A ts := by
  refine ⟨fun hz => ?_, fun j hj b off hA => ?_⟩
  · obtain ⟨b, off, hA, hl⟩ := h.1 hz
    exact ⟨b, off, hA, Nat.lt_of_lt_of_le hl hb.size⟩
  · obtain ⟨b', off', hA', hl⟩ := h.1 (by omega)
    have hlt : b < W.heap.size := by rw [hA] at hA'; cases hA'; exact hl
    obtain ⟨c0, c1, c2, c3, k0, k1, k2, k3, k4⟩ := h.2 j hj b off hA
    exact ⟨c0, c1, c2, c3, (hb.cell (p := ⟨b, _, none⟩) hlt).trans k0, (hb.cell (p := ⟨b, _, none⟩) hlt).trans k1, (hb.cell (p := ⟨b, _, none⟩) hlt).trans k2, (hb.cell (p := ⟨b, _, none⟩) hlt).trans k3, TyAt.kept hb _ _ _ _ _ _ k4⟩

theorem FsAt.kept {W W' : World} {n : Nat} {A : Option Addr} {fs : List Fd} (h : FsAt W n A fs) (hb : Below W.heap.size W W') : FsAt W' n A fs := by
  refine ⟨fun hz => ?_, fun j hj b off hA => ?_⟩
  · obtain ⟨b, off, hA, hl⟩ := h.1 hz
    exact ⟨b, off, hA, Nat.lt_of_lt_of_le hl hb.size⟩
  · obtain ⟨b', off', hA', hl⟩ := h.1 (by omega)
    have hlt : b < W.heap.size := by rw [hA] at hA'; cases hA'; exact hl
    obtain ⟨c0, c1, c2, c3, k, k0, k1, k2, k3, k4⟩ := h.2 j hj b off hA
    exact ⟨c0, c1, c2, c3, (hb.cell (p := ⟨b, _, none⟩) hlt).trans k, (hb.cell (p := ⟨b, _, none⟩) hlt).trans k0, (hb.cell (p := ⟨b, _, none⟩) hlt).trans k1, (hb.cell (p := ⟨b, _, none⟩) hlt).trans k2, (hb.cell (p := ⟨b, _, none⟩) hlt).trans k3, TyAt.kept hb _ _ _ _ _ _ k4⟩

theorem SsAt.kept {W W' : World} {n : Nat} {A : Option Addr} {ss : List St} (h : SsAt W n A ss) (hb : Below W.heap.size W W') : SsAt W' n A ss := by
  refine ⟨fun hz => ?_, fun j hj b off hA => ?_⟩
  · obtain ⟨b, off, hA, hl⟩ := h.1 hz
    exact ⟨b, off, hA, Nat.lt_of_lt_of_le hl hb.size⟩
  · obtain ⟨b', off', hA', hl⟩ := h.1 (by omega)
    have hlt : b < W.heap.size := by rw [hA] at hA'; cases hA'; exact hl
    obtain ⟨B, cap, k0, k1, k2, k3⟩ := h.2 j hj b off hA
    exact ⟨B, cap, (hb.cell (p := ⟨b, _, none⟩) hlt).trans k0, (hb.cell (p := ⟨b, _, none⟩) hlt).trans k1, k2, k3.kept hb⟩

/-- the first struct of a name -/
def findS (ss : List St) (name : ByteArray) : Option St := ss.find? fun s => s.1.toList == name.toList

def FindPost (w : World) (n : Nat) (R : Option St) (e : Ending) (w' : World) : Prop :=
  Below w.heap.size w w' ∧ ((∃ st B cap, R = some st ∧ e = .returned (.tuple #[.agg #[.string st.1, .slice B st.2.length cap], .bool true]) ∧ st.2.length ≤ 9223372036854775807 ∧ FsAt w n B st.2) ∨
    (R = none ∧ e = .returned (.tuple #[.agg #[.string ⟨#[]⟩, .slice none 0 0], .bool false])))

theorem find_skip {ss : List St} {name : ByteArray} {k : Nat} (hk : k < ss.length) (h : (ss[k].1.toList == name.toList) = false) : findS (ss.drop k) name = findS (ss.drop (k + 1)) name := by
  rw [List.drop_eq_getElem_cons hk]
  unfold findS
  rw [List.find?_cons, h]
theorem find_hit {ss : List St} {name : ByteArray} {k : Nat} (hk : k < ss.length) (h : (ss[k].1.toList == name.toList) = true) : findS (ss.drop k) name = some ss[k] := by
  rw [List.drop_eq_getElem_cons hk]
  unfold findS
  rw [List.find?_cons, h]

theorem findpost_hit {w w' : World} {n : Nat} {R : Option St} {st : St} {B : Option Addr} {cap : Nat} (hR : R = some st) (hl : st.2.length ≤ 9223372036854775807) (hf : FsAt w n B st.2) (hb : Below w.heap.size w w') :
    FindPost w n R (.returned (.tuple #[.agg #[.string st.1, .slice B st.2.length cap], .bool true])) w' := ⟨hb, Or.inl ⟨st, B, cap, hR, rfl, hl, hf⟩⟩
theorem findpost_none {w w' : World} {n : Nat} {R : Option St} (hR : R = none) (hb : Below w.heap.size w w') : FindPost w n R (.returned (.tuple #[.agg #[.string ⟨#[]⟩, .slice none 0 0], .bool false])) w' := ⟨hb, Or.inr ⟨hR, rfl⟩⟩

set_option maxRecDepth 100000 in
theorem find_any (w : World) (n : Nat) (A : Option Addr) (cap : Nat) (ss : List St) (name : ByteArray) (h : SsAt w n A ss) (hm : ss.length ≤ 9223372036854775807) :
    Calls Tryd.prog 77 #[.slice A ss.length cap, .string name] w (FindPost w n (findS ss name)) := by
  have Hh := Lib.hid h
  have HH := Lib.hid (fun (w' : World) st B cap (hR : findS ss name = some st) (hl : st.2.length ≤ 9223372036854775807) (hf : FsAt w n B st.2) (hb : Below w.heap.size w w') => findpost_hit (cap := cap) hR hl hf hb)
  have HN := Lib.hid (fun (w' : World) (hR : findS ss name = none) (hb : Below w.heap.size w w') => findpost_none (n := n) hR hb)
  obtain ⟨R, hR⟩ : ∃ R, findS ss name = R := ⟨_, rfl⟩
  have R0 : Hid (findS (ss.drop 0) name = R) := Lib.hid hR
  rw [hR] at HH HN ⊢
  clear h hR
  go_enter Tryd.func77, Tryd.ntmps77
  go_wp2_with fail
  have B0 : Hid (Below w.heap.size w (w.alloc (.cells #[.string ⟨#[]⟩, .slice none 0 0] 83))) := Lib.hid ((Below.refl _ _).alloc (Nat.le_refl _) _)
  have X0 : Hid (Box (w.alloc (.cells #[.string ⟨#[]⟩, .slice none 0 0] 83)) w.heap.size 83 #[.string ⟨#[]⟩, .slice none 0 0]) := Lib.hid (Box.new w _ _)
  go_loopw [10] (fun i wr => ∃ k : Nat, k ≤ ss.length ∧ i = .int .i64 k ∧ Hid (findS (ss.drop k) name = R) ∧ Hid (Below w.heap.size w wr) ∧ Hid (Box wr w.heap.size 83 #[.string ⟨#[]⟩, .slice none 0 0])) (fun i _ => ss.length - (intOf i).toNat)
  case atStart => exact ⟨0, by omega, rfl, R0, B0, X0⟩
  case round =>
    obtain ⟨k, hk, rfl, hR, hb, hx⟩ := hrel
    rename_i wr _
    have z0 : wr.cell? ⟨w.heap.size, 0, none⟩ = some (.string ⟨#[]⟩) := hx.out.cell 0
    have z1 : wr.cell? ⟨w.heap.size, 1, none⟩ = some (.slice none 0 0) := hx.out.cell 1
    have y0 : wr.frozen? ⟨w.heap.size, 0, none⟩ = false := hx.out.free 0
    have y1 : wr.frozen? ⟨w.heap.size, 1, none⟩ = false := hx.out.free 1
    have zl := hx.out.lt
    by_cases hkl : k < ss.length
    · have e1 : decide ((k : Int) < (ss.length : Int)) = true := decide_eq_true (by omega)
      obtain ⟨b, off, rfl, hlt⟩ := (Hh.out.kept hb.out).1 (by omega)
      obtain ⟨B, cap', k0, k1, hfl, hf⟩ := (Hh.out.kept hb.out).2 k hkl b off rfl
      have hlw : b < w.heap.size := by
        obtain ⟨b', off', hA', hl⟩ := Hh.out.1 (by omega)
        cases hA'; exact hl
      obtain ⟨B', cap2, j0, j1, hfl', hfw⟩ := Hh.out.2 k hkl b off rfl
      have hsame : Value.slice B' ss[k].2.length cap2 = .slice B ss[k].2.length cap' := by
        have := (hb.out.cell (p := ⟨b, off + k * 2 + 1, none⟩) hlw).trans j1
        rw [k1] at this
        exact (Option.some.inj this).symm
      injection hsame with e1' _ e2'
      subst e1' e2'
      have HHk := Lib.hid (fun (w' : World) (hRk : R = some ss[k]) (hb : Below w.heap.size w w') => HH.out w' ss[k] B' cap2 hRk hfl' hfw hb)
      have HS := Lib.hid (find_skip (name := name) hkl)
      have HT := Lib.hid (find_hit (name := name) hkl)
      clear hf hfw j0 j1 hfl'
      generalize ss[k] = st at *
      obtain ⟨nm, fs⟩ := st
      simp only at k0 k1 hfl HHk HS HT
      rcases hq : (nm.toList == name.toList) with _ | _
      · go_wp2_with fail
        go_roundw
        case rel =>
          exact ⟨k + 1, by omega, by go_num, Lib.hid ((HS.out hq).symm.trans hR.out), Lib.hid (hb.out.alloc hb.out.size _), Lib.hid (hx.out.kept ((Fr.refl [] wr).alloc _) (by simp))⟩
        case measure => simp [intOf]; omega
      · have FB : Hid (∀ o u v, Below w.heap.size w (((wr.setCell ⟨w.heap.size, 0, none⟩ u).setCell ⟨w.heap.size, 1, none⟩ v).alloc o)) := Lib.hid (fun o u v => hb.out.trans (((((Fr.refl [w.heap.size] wr).setCell (p := ⟨w.heap.size, 0, none⟩) (Or.inl (by simp)) u).setCell (p := ⟨w.heap.size, 1, none⟩) (Or.inl (by simp)) v).alloc o).below (by simp) hb.out.size))
        have T := Lib.hid (fun w' hb => HHk.out w' (hR.out.symm.trans (HT.out hq)) hb)
        go_wp2_with fail
        refine bodyPost_ret (v := .tuple #[.agg #[.string nm, .slice B' fs.length cap2], .bool true]) (by simp only [results, Tryd.results77]; go_simp) rfl ?_
        exact T.out _ (FB.out _ _ _)
    · obtain rfl : k = ss.length := by omega
      have e1 : decide ((ss.length : Int) < (ss.length : Int)) = false := decide_eq_false (by omega)
      have hRn : R = none := by rw [← hR.out, List.drop_length]; rfl
      have T := Lib.hid (fun w' hb => HN.out w' hRn hb)
      have FB : Hid (∀ u v, Below w.heap.size w ((wr.setCell ⟨w.heap.size, 0, none⟩ u).setCell ⟨w.heap.size, 1, none⟩ v)) := Lib.hid (fun u v => hb.out.trans ((((Fr.refl [w.heap.size] wr).setCell (p := ⟨w.heap.size, 0, none⟩) (Or.inl (by simp)) u).setCell (p := ⟨w.heap.size, 1, none⟩) (Or.inl (by simp)) v).below (by simp) hb.out.size))
      go_wp2_with fail
      refine bodyPost_ret (v := .tuple #[.agg #[.string ⟨#[]⟩, .slice none 0 0], .bool false]) (by simp only [results, Tryd.results77]; go_simp) rfl ?_
      exact T.out _ (FB.out _ _)
end Go.Proofs.YtmahoppjefhnjaaDoor.sh
