/-
  bound: sizes held against each other.
-/
import Derived.Test.YtdmmkjijgoiecaaGreatDoorBd2
import Derived.Laws.StructEq
set_option linter.all false
namespace Go.Proofs.YtdmmkjijgoiecaaGreatDoor.bd
open Go.RowKit

theorem underZ : Tryz.prog.underlying 48 = some (.struct (Tryz.prog.fieldsOf 48)) := by kernel_rfl
theorem stoodZ : Tryz.prog.stoodInHeld 48 = false := by kernel_rfl
theorem guardZ : Tryz.prog.eqGuardType Tryz.prog.depth 48 = false := by kernel_rfl
theorem zFields : (Tryz.prog.fieldsOf 48).toList.map (fun f => (f.name == "_", f.type, f.offset)) = [(false, 3, 0), (false, 3, 1)] := by kernel_rfl
theorem eq_stepZ {P : Program} (d : Nat) (xs ys : Array Value) (f : Field) (fs : List Field) (a b : Value) (r : Bool) (w : World) (hn : (f.name == "_") = false)
    (ha : (part f.type xs f.offset).run P w = .ok a w) (hb : (part f.type ys f.offset).run P w = .ok b w) (hr : (Op.equalIn d f.type a b).run P w = .ok r w) :
    (Op.eqFields d xs ys (f :: fs)).run P w = if r then (Op.eqFields d xs ys fs).run P w else .ok false w := by
  have hn' : f.name ≠ "_" := by simpa using hn
  rw [Op.eqFields, if_pos hn']
  simp only [Sem.run_bind, ha, hb, hr, Result.andThen_ok, Sem.run_ite, Sem.run_pure]
  cases r <;> simp

theorem eql_z (a b c d : Int) (w : World) : (binOp .eql 48 (szV a b) (szV c d)).run Tryz.prog w = .ok (.bool (sameZ a b c d)) w := by
  unfold szV
  rw [run_eql_struct, run_equalIn_struct _ _ _ _ _ underZ stoodZ]
  have h := zFields
  generalize (Tryz.prog.fieldsOf 48).toList = fs at *
  rcases fs with _ | ⟨f0, _ | ⟨f1, _ | ⟨f2, fs⟩⟩⟩
  all_goals first | (simp at h; done) | skip
  simp only [List.map_cons, List.map_nil, List.cons.injEq, Prod.mk.injEq, and_true] at h
  obtain ⟨⟨a0, b0, c0⟩, ⟨a1, b1, c1⟩⟩ := h
  have p0 : ∀ x y : Int, (part f0.type #[.int .i64 x, .int .i64 y] f0.offset).run Tryz.prog w = .ok (.int .i64 x) w := fun x y => by rw [b0, c0]; kernel_rfl
  have p1 : ∀ x y : Int, (part f1.type #[.int .i64 x, .int .i64 y] f1.offset).run Tryz.prog w = .ok (.int .i64 y) w := fun x y => by rw [b1, c1]; kernel_rfl
  have i0 : (Op.equalIn 9999 f0.type (.int .i64 a) (.int .i64 c)).run Tryz.prog w = .ok (a == c) w := by rw [b0]; exact run_equalIn_int w 9998 _ _ _ _ _ Tryz.underlying3
  have i1 : (Op.equalIn 9999 f1.type (.int .i64 b) (.int .i64 d)).run Tryz.prog w = .ok (b == d) w := by rw [b1]; exact run_equalIn_int w 9998 _ _ _ _ _ Tryz.underlying3
  rw [eq_stepZ 9999 _ _ f0 _ _ _ _ w a0 (p0 a b) (p0 c d) i0, eq_stepZ 9999 _ _ f1 _ _ _ _ w a1 (p1 a b) (p1 c d) i1]
  unfold sameZ
  cases (a == c) <;> cases (b == d) <;> simp [Op.eqFields, Sem.run_pure, Result.andThen]
theorem neq_z (a b c d : Int) (w : World) : (binOp .neq 48 (szV a b) (szV c d)).run Tryz.prog w = .ok (.bool (!sameZ a b c d)) w := by
  unfold szV
  rw [run_neq_struct, run_equalIn_struct _ _ _ _ _ underZ stoodZ]
  have h := zFields
  generalize (Tryz.prog.fieldsOf 48).toList = fs at *
  rcases fs with _ | ⟨f0, _ | ⟨f1, _ | ⟨f2, fs⟩⟩⟩
  all_goals first | (simp at h; done) | skip
  simp only [List.map_cons, List.map_nil, List.cons.injEq, Prod.mk.injEq, and_true] at h
  obtain ⟨⟨a0, b0, c0⟩, ⟨a1, b1, c1⟩⟩ := h
  have p0 : ∀ x y : Int, (part f0.type #[.int .i64 x, .int .i64 y] f0.offset).run Tryz.prog w = .ok (.int .i64 x) w := fun x y => by rw [b0, c0]; kernel_rfl
  have p1 : ∀ x y : Int, (part f1.type #[.int .i64 x, .int .i64 y] f1.offset).run Tryz.prog w = .ok (.int .i64 y) w := fun x y => by rw [b1, c1]; kernel_rfl
  have i0 : (Op.equalIn 9999 f0.type (.int .i64 a) (.int .i64 c)).run Tryz.prog w = .ok (a == c) w := by rw [b0]; exact run_equalIn_int w 9998 _ _ _ _ _ Tryz.underlying3
  have i1 : (Op.equalIn 9999 f1.type (.int .i64 b) (.int .i64 d)).run Tryz.prog w = .ok (b == d) w := by rw [b1]; exact run_equalIn_int w 9998 _ _ _ _ _ Tryz.underlying3
  rw [eq_stepZ 9999 _ _ f0 _ _ _ _ w a0 (p0 a b) (p0 c d) i0, eq_stepZ 9999 _ _ f1 _ _ _ _ w a1 (p1 a b) (p1 c d) i1]
  unfold sameZ
  cases (a == c) <;> cases (b == d) <;> simp [Op.eqFields, Sem.run_pure, Result.andThen]
theorem heldZ : HeldZ := ⟨eql_z, neq_z, fun op x y xs ys w => run_eqGuard_agg w op _ x y xs ys guardZ⟩
end Go.Proofs.YtdmmkjijgoiecaaGreatDoor.bd
