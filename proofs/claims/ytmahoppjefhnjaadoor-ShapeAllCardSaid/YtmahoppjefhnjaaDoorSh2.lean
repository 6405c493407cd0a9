/-
  Shape: is a type, with no structs, too great to be asked?
-/
import Derived.Test.YtmahoppjefhnjaaDoorSh1
namespace Go.Proofs.YtmahoppjefhnjaaDoor.sh
open Go.RowKit Go.Proofs.YtmahoppjefhnjaaDoor.mem

set_option maxRecDepth 100000 in
theorem great_none (T : Ty) (n : Nat) (v0 v1 v2 v3 : Value) (w : World) (ht : TyAt w n T v0 v1 v2 v3) :
    Calls Tryd.prog 25 #[.slice none 0 0, .agg #[v0, v1, v2, v3]] w fun e w' => e = .returned (.bool (deepB 8 T)) ∧ Below w.heap.size w w' := by
  have Hd := Lib.hid (fun wr h => deep_any 8 T n v0 v1 v2 v3 wr (by omega) h)
  cases n with
  | zero => exact ht.elim
  | succ n =>
  have ht2 := Lib.hid (fun o => TyAt.kept ((Below.refl w.heap.size w).alloc (Nat.le_refl _) o) _ _ _ _ _ _ ht)
  obtain ⟨rfl, w0, rfl, w1, rfl, w2, A, cap, rfl, h7, h8, h9⟩ := ht
  clear h8 h9
  go_enter Tryd.func25, Tryd.ntmps25
  go_wp2_with fail
  refine (Hd.out _ (ht2.out _)).mono ?_
  rintro e w2 ⟨rfl, hb⟩
  have hb2 := Lib.hid (((Below.refl w.heap.size w).alloc (Nat.le_refl _) _).trans (hb.mono (by simp)))
  clear hb
  cases hd : deepB 8 T with
  | true =>
    have hd2 := Lib.hid hd
    clear hd
    go_wp2_with fail
    go_ret
    exact ⟨by rw [hd2.out]; rfl, hb2.out⟩
  | false =>
    have hd2 := Lib.hid hd
    clear hd
    go_wp2_with fail
    go_loopw [5] (fun i wr => i = .int .i64 0 ∧ w2 = wr) (fun _ _ => 0)
    case atStart => exact ⟨rfl, rfl⟩
    case round =>
      obtain ⟨rfl, rfl⟩ := hrel
      go_wp2_with fail
      go_ret
      exact ⟨by rw [hd2.out]; rfl, hb2.out⟩
end Go.Proofs.YtmahoppjefhnjaaDoor.sh
