/-
  Shape: the law's own structs.
-/
import Derived.Test.YtmahoppjefhnjaaDoorShC
namespace Go.Proofs.YtmahoppjefhnjaaDoor.sh
open Go.RowKit Go.Sort Go.Proofs.YtmahoppjefhnjaaDoor.mem

def tInt : Ty := .mk 1 ⟨#[]⟩ 0 []
def tPtr : Ty := .mk 2 ⟨#[]⟩ 0 []
def tArr : Ty := .mk 4 ⟨#[]⟩ 3 [tInt]
def ssL : List St := [(⟨#[83]⟩, [(⟨#[97]⟩, tPtr), (⟨#[98]⟩, tArr), (⟨#[99]⟩, tPtr)])]

def StPost (w : World) (e : Ending) (w' : World) : Prop := ∃ A, e = .returned (.slice A ssL.length 1) ∧ Below w.heap.size w w' ∧ SsAt w' 3 A ssL

theorem tint_at (w : World) (n : Nat) : TyAt w (n + 1) tInt (.int .i64 1) (.string ⟨#[]⟩) (.int .i64 0) (.slice none 0 0) := ⟨rfl, rfl, rfl, Nat.zero_le _, rfl, rfl, none, 0, rfl, by simp [tInt, Ty.of], fun h => by simp [tInt, Ty.of] at h, fun j hj => by simp [tInt, Ty.of] at hj⟩
theorem tptr_at (w : World) (n : Nat) : TyAt w (n + 1) tPtr (.int .i64 2) (.string ⟨#[]⟩) (.int .i64 0) (.slice none 0 0) := ⟨rfl, rfl, rfl, Nat.zero_le _, rfl, rfl, none, 0, rfl, by simp [tPtr, Ty.of], fun h => by simp [tPtr, Ty.of] at h, fun j hj => by simp [tPtr, Ty.of] at hj⟩
theorem tarr_at (w : World) (n g : Nat) (t : TypeId) (hb : Box w g t #[.int .i64 1, .string ⟨#[]⟩, .int .i64 0, .slice none 0 0]) : TyAt w (n + 1 + 1) tArr (.int .i64 4) (.string ⟨#[]⟩) (.int .i64 3) (.slice (some ⟨g, 0, none⟩) 1 1) := by
  refine ⟨rfl, rfl, rfl, Nat.zero_le _, rfl, rfl, some ⟨g, 0, none⟩, 1, rfl, by simp [tArr, Ty.of], fun _ => ⟨g, 0, rfl, hb.lt⟩, fun j hj b off hA => ?_⟩
  have hj : j = 0 := by simp [tArr, Ty.of] at hj; exact hj
  subst hj
  cases hA
  exact ⟨_, _, _, _, hb.cell 0, hb.cell 1, hb.cell 2, hb.cell 3, tint_at w n⟩

theorem ss_at (w : World) (g1 g2 g3 : Nat) (t1 t2 t3 : TypeId) (h1 : Box w g1 t1 #[.int .i64 1, .string ⟨#[]⟩, .int .i64 0, .slice none 0 0])
    (h2 : Box w g2 t2 #[.string ⟨#[97]⟩, .int .i64 2, .string ⟨#[]⟩, .int .i64 0, .slice none 0 0, .string ⟨#[98]⟩, .int .i64 4, .string ⟨#[]⟩, .int .i64 3, .slice (some ⟨g1, 0, none⟩) 1 1, .string ⟨#[99]⟩, .int .i64 2, .string ⟨#[]⟩, .int .i64 0, .slice none 0 0])
    (h3 : Box w g3 t3 #[.string ⟨#[83]⟩, .slice (some ⟨g2, 0, none⟩) 3 3]) : SsAt w 3 (some ⟨g3, 0, none⟩) ssL := by
  refine ⟨fun _ => ⟨g3, 0, rfl, h3.lt⟩, fun j hj b off hA => ?_⟩
  have hj : j = 0 := by simp [ssL] at hj; exact hj
  subst hj
  cases hA
  refine ⟨some ⟨g2, 0, none⟩, 3, h3.cell 0, h3.cell 1, by simp [ssL], fun _ => ⟨g2, 0, rfl, h2.lt⟩, fun i hi b off hA => ?_⟩
  cases hA
  have hi : i < 3 := hi
  match i, hi with
  | 0, _ => exact ⟨_, _, _, _, h2.cell 0, h2.cell 1, h2.cell 2, h2.cell 3, h2.cell 4, tptr_at w 2⟩
  | 1, _ => exact ⟨_, _, _, _, h2.cell 5, h2.cell 6, h2.cell 7, h2.cell 8, h2.cell 9, tarr_at w 1 g1 t1 h1⟩
  | 2, _ => exact ⟨_, _, _, _, h2.cell 10, h2.cell 11, h2.cell 12, h2.cell 13, h2.cell 14, tptr_at w 2⟩

set_option maxRecDepth 100000 in
theorem structs_any (w : World) : Calls Tryd.prog 55 #[] w (StPost w) := by
  go_enter Tryd.func55, Tryd.ntmps55
  go_wp2_with fail
  go_ret
  refine ⟨_, rfl, ((((Fr.refl [] w).alloc _).alloc _).alloc _).all, ?_⟩
  exact ss_at _ w.heap.size (w.heap.size + 1) (w.heap.size + 1 + 1) _ _ _ (((Box.new w _ _).kept ((Fr.refl [] _).alloc _) (by simp)).kept ((Fr.refl [] _).alloc _) (by simp)) ((box_new1 w _ _ _).kept ((Fr.refl [] _).alloc _) (by simp)) (box_new2 w _ _ _ _)
end Go.Proofs.YtmahoppjefhnjaaDoor.sh
