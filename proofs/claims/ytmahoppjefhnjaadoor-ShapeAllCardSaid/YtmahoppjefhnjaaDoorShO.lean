/-
  Shape: the closure of Cells at an int and at a pointer.
-/
import Derived.Test.YtmahoppjefhnjaaDoorShN
import Derived.Laws.EntriesVeiled
import Derived.Deep.Cut
namespace Go.Proofs.YtmahoppjefhnjaaDoor.sh
open Go.RowKit Go.Sort Go.Proofs.YtmahoppjefhnjaaDoor.mem

def CxPost (w : World) (A : Option Addr) (cap : Nat) (ss : List St) (g1 g2 g0 gp : Nat) (M : Option Addr) (x : Pk) (e : Ending) (w' : World) : Prop :=
  e = .returned (.tuple #[]) ∧ ∃ M' mc', LC w' A cap ss g1 g2 g0 gp x M' mc' ∧ Fr (g1 :: g2 :: blk M) w w' ∧ ∀ b ∈ blk M', b ∈ blk M ∨ w.heap.size ≤ b

theorem cxpost_kind {w w' : World} {A : Option Addr} {cap : Nat} {ss : List St} {g1 g2 g0 gp : Nat} {M : Option Addr} {mc : Nat} {x y : Pk} (hy : y = x) (h : LC w' A cap ss g1 g2 g0 gp x M mc) (hf : Fr (g1 :: g2 :: blk M) w w') : CxPost w A cap ss g1 g2 g0 gp M y (.returned (.tuple #[])) w' := by
  subst hy
  exact ⟨rfl, M, mc, h, hf, fun b hb => Or.inl hb⟩

theorem frs_bel {F : List Nat} {a b c : World} (h : Fr F a b) (k : Below b.heap.size b c) : Fr F a c := h.trans (Fr.of_below k []) (fun q hq => Or.inl hq) (by simp)

set_option maxRecDepth 100000 in
set_option maxHeartbeats 1000000 in
theorem put_leaf (w : World) (n q : Nat) (A : Option Addr) (cap : Nat) (ss : List St) (k : Int) (hk : k = 1 ∨ k = 2) (name : ByteArray) (num : Int) (of : List Ty) (v0 v1 v2 v3 : Value) (h : Arg w n q A ss (.mk k name num of) v0 v1 v2 v3) (f : Nat)
    (g1 g2 g0 gp : Nat) (x : Pk) (M : Option Addr) (mc : Nat) (hle : LC w A cap ss g1 g2 g0 gp x M mc) (hx : x.1.length ≤ 1000000) :
    Calls Tryd.prog 57 #[.agg #[v0, v1, v2, v3], .pointer (some ⟨g1, 0, none⟩), .pointer (some ⟨g2, 0, none⟩), .pointer (some ⟨g0, 0, none⟩), .pointer (some ⟨gp, 0, none⟩)] w (CxPost w A cap ss g1 g2 g0 gp M (putC ss (f + 1) (.mk k name num of) x)) := by
  have hL : withinL ss (.mk k name num of) = [] := by
    unfold withinL
    rw [if_neg (show ¬ (Ty.mk k name num of).kind = 4 by simp only [Ty.kind]; omega), if_neg (show ¬ (Ty.mk k name num of).kind = 3 by simp only [Ty.kind]; omega)]
  obtain ⟨c, hc⟩ : ∃ c : UInt8, putStep (.mk k name num of) x = (x.1 ++ [c], x.2) ∧ (k = 1 → c = 105) ∧ (k = 2 → c = 112) := by
    unfold putStep
    rcases hk with rfl | rfl
    · exact ⟨105, by rw [if_pos (show (Ty.mk 1 name num of).kind = 1 from rfl)], fun _ => rfl, fun h => absurd h (by decide)⟩
    · exact ⟨112, by rw [if_neg (show ¬ (Ty.mk 2 name num of).kind = 1 by simp [Ty.kind]), if_pos (show (Ty.mk 2 name num of).kind = 2 from rfl)], fun h => absurd h (by decide), fun _ => rfl⟩
  obtain ⟨hc, hc1, hc2⟩ := hc
  have hv : Hid (putC ss (f + 1) (.mk k name num of) x = (x.1 ++ [c], x.2)) := Lib.hid (by unfold putC; rw [hL, hc]; rfl)
  have KW' := Lib.hid (fun w' (ha : Arg w' n q A ss (.mk k name num of) v0 v1 v2 v3) => ha.within (cap := cap))
  rw [hL] at KW'
  have hm := h.hm
  have HA := Lib.hid h
  obtain ⟨A2, cap2, rfl, rfl, rfl, rfl⟩ := h.cells
  simp only [Ty.kind, Ty.name, Ty.num, Ty.of] at *
  unfold WiPost at KW'
  have BA : Below w.heap.size w (w.alloc (.cells #[.int .i64 k, .string name, .int .i64 num, .slice A2 of.length cap2] 51)) := (Below.refl _ _).alloc (Nat.le_refl _) _
  have L1 := Lib.hid (hle.kept BA)
  have F1 : Hid (Fr (g1 :: g2 :: blk M) w (w.alloc (.cells #[.int .i64 k, .string name, .int .i64 num, .slice A2 of.length cap2] 51))) := Lib.hid (Fr.of_below BA _)
  have HA1 := Lib.hid (HA.out.kept BA)
  have BX : Hid (Box (w.alloc (.cells #[.int .i64 k, .string name, .int .i64 num, .slice A2 of.length cap2] 51)) w.heap.size 51 #[.int .i64 k, .string name, .int .i64 num, .slice A2 of.length cap2]) := Lib.hid (Box.new w _ _)
  have hg1 : g1 < w.heap.size := hle.b1.lt
  obtain ⟨P, ms⟩ := x
  simp only at *
  have z1 : ¬ 9223372036854775807 < P.length + 1 := by omega
  have s1 : (ByteArray.mk P.toArray ++ ByteArray.mk #[c]) = ByteArray.mk (P ++ [c]).toArray := ByteArray.mk_append_mk P [c]
  have L2 := Lib.hid (L1.out.kind (P ++ [c]))
  have hs : Hid (Fr [g1] (w.alloc (.cells #[.int .i64 k, .string name, .int .i64 num, .slice A2 of.length cap2] 51)) ((w.alloc (.cells #[.int .i64 k, .string name, .int .i64 num, .slice A2 of.length cap2] 51)).setCell ⟨g1, 0, none⟩ (.string ⟨(P ++ [c]).toArray⟩))) := Lib.hid ((Fr.refl [g1] _).setCell (p := ⟨g1, 0, none⟩) (Or.inl (by simp)) _)
  have F2 := Lib.hid (F1.out.trans hs.out (fun q hq => Or.inl hq) (fun q hq => Or.inl (by simp only [List.mem_singleton] at hq; subst hq; simp)))
  have HA2 := Lib.hid (HA1.out.frs (NoSl.box L1.out.b1) hs.out)
  have BX2 := Lib.hid (BX.out.kept hs.out (by simp; omega))
  have cg : (w.alloc (.cells #[.int .i64 k, .string name, .int .i64 num, .slice A2 of.length cap2] 51)).cell? ⟨g1, 0, none⟩ = some (.string ⟨P.toArray⟩) := L1.out.b1.cell 0
  have yg : (w.alloc (.cells #[.int .i64 k, .string name, .int .i64 num, .slice A2 of.length cap2] 51)).frozen? ⟨g1, 0, none⟩ = false := L1.out.b1.free 0
  have i0 : ((w.alloc (.cells #[.int .i64 k, .string name, .int .i64 num, .slice A2 of.length cap2] 51)).setCell ⟨g1, 0, none⟩ (.string ⟨(P ++ [c]).toArray⟩)).cell? ⟨g0, 0, none⟩ = some (.slice A ss.length cap) := L2.out.b0.cell 0
  have u0 : ((w.alloc (.cells #[.int .i64 k, .string name, .int .i64 num, .slice A2 of.length cap2] 51)).setCell ⟨g1, 0, none⟩ (.string ⟨(P ++ [c]).toArray⟩)).cell? ⟨w.heap.size, 0, none⟩ = some (.int .i64 k) := BX2.out.cell 0
  have u1 : ((w.alloc (.cells #[.int .i64 k, .string name, .int .i64 num, .slice A2 of.length cap2] 51)).setCell ⟨g1, 0, none⟩ (.string ⟨(P ++ [c]).toArray⟩)).cell? ⟨w.heap.size, 1, none⟩ = some (.string name) := BX2.out.cell 1
  have u2 : ((w.alloc (.cells #[.int .i64 k, .string name, .int .i64 num, .slice A2 of.length cap2] 51)).setCell ⟨g1, 0, none⟩ (.string ⟨(P ++ [c]).toArray⟩)).cell? ⟨w.heap.size, 2, none⟩ = some (.int .i64 num) := BX2.out.cell 2
  have u3 : ((w.alloc (.cells #[.int .i64 k, .string name, .int .i64 num, .slice A2 of.length cap2] 51)).setCell ⟨g1, 0, none⟩ (.string ⟨(P ++ [c]).toArray⟩)).cell? ⟨w.heap.size, 3, none⟩ = some (.slice A2 of.length cap2) := BX2.out.cell 3
  clear h hle BA HA hL hc hs HA1 L1 F1
  have hkk := Lib.hid hk
  clear hk
  rcases hkk.out with rfl | rfl
  · obtain rfl := hc1 rfl
    clear hc1 hc2 hkk
    go_enter Tryd.func57, Tryd.ntmps57
    go_upto_region 3 with fail
    generalize (w.alloc (.cells #[.int .i64 1, .string name, .int .i64 num, .slice A2 of.length cap2] 51)) = w1 at *
    go_wp2_with fail
    refine (KW'.out _ HA2.out).mono ?_
    rintro e w3 ⟨B, cb, rfl, b3, hty, hLm⟩
    have L3 := Lib.hid (L2.out.kept b3)
    have F3 := Lib.hid (frs_bel F2.out b3)
    clear b3 hty KW' L2 F2 HA2 BX2 i0 u0 u1 u2 u3
    go_wp2_with fail
    go_loopw [45] (fun i wr => i = .int .i64 0 ∧ w3 = wr) (fun _ _ => 0)
    case atStart => exact ⟨rfl, rfl⟩
    case round =>
      obtain ⟨rfl, rfl⟩ := hrel
      go_wp2_with fail
      go_end0
      exact cxpost_kind hv.out L3.out F3.out
  · obtain rfl := hc2 rfl
    clear hc1 hc2 hkk
    go_enter Tryd.func57, Tryd.ntmps57
    go_upto_region 5 with fail
    generalize (w.alloc (.cells #[.int .i64 2, .string name, .int .i64 num, .slice A2 of.length cap2] 51)) = w1 at *
    go_wp2_with fail
    refine (KW'.out _ HA2.out).mono ?_
    rintro e w3 ⟨B, cb, rfl, b3, hty, hLm⟩
    have L3 := Lib.hid (L2.out.kept b3)
    have F3 := Lib.hid (frs_bel F2.out b3)
    clear b3 hty KW' L2 F2 HA2 BX2 i0 u0 u1 u2 u3
    go_wp2_with fail
    go_loopw [45] (fun i wr => i = .int .i64 0 ∧ w3 = wr) (fun _ _ => 0)
    case atStart => exact ⟨rfl, rfl⟩
    case round =>
      obtain ⟨rfl, rfl⟩ := hrel
      go_wp2_with fail
      go_end0
      exact cxpost_kind hv.out L3.out F3.out
end Go.Proofs.YtmahoppjefhnjaaDoor.sh
