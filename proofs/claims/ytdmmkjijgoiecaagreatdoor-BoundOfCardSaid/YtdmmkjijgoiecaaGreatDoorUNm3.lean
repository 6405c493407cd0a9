import Derived.Test.YtdmmkjijgoiecaaGreatDoorUNm
import Derived.Laws.StructEq
/-
  Two nodes held against each other.
-/
set_option linter.all false
namespace Go.Proofs.YtdmmkjijgoiecaaGreatDoor.nm
open Go.RowKit

theorem under : Tryz.prog.underlying 175 = some (.struct (Tryz.prog.fieldsOf 175)) := by kernel_rfl
theorem stood : Tryz.prog.stoodInHeld 175 = false := by kernel_rfl
theorem guardN : Tryz.prog.eqGuardType Tryz.prog.depth 175 = false := by kernel_rfl
theorem nFields : (Tryz.prog.fieldsOf 175).toList.map (fun f => (f.name == "_", f.type, f.offset)) = [(false, 3, 0), (false, 9, 1), (false, 3, 2), (false, 9, 3), (false, 3, 4), (false, 3, 5)] := by kernel_rfl

theorem eq_step {P : Program} (d : Nat) (xs ys : Array Value) (f : Field) (fs : List Field) (a b : Value) (r : Bool) (w : World) (hn : (f.name == "_") = false)
    (ha : (part f.type xs f.offset).run P w = .ok a w) (hb : (part f.type ys f.offset).run P w = .ok b w) (hr : (Op.equalIn d f.type a b).run P w = .ok r w) :
    (Op.eqFields d xs ys (f :: fs)).run P w = if r then (Op.eqFields d xs ys fs).run P w else .ok false w := by
  have hn' : f.name ≠ "_" := by simpa using hn
  rw [Op.eqFields, if_pos hn']
  simp only [Sem.run_bind, ha, hb, hr, Result.andThen_ok, Sem.run_ite, Sem.run_pure]
  cases r <;> simp

theorem neq_nodes (a b : Nd) (w : World) : (binOp .neq 175 a.val b.val).run Tryz.prog w = .ok (.bool (!sameB a b)) w := by
  unfold Nd.val
  rw [run_neq_struct, run_equalIn_struct _ _ _ _ _ under stood]
  have h := nFields
  generalize (Tryz.prog.fieldsOf 175).toList = fs at *
  rcases fs with _ | ⟨f0, _ | ⟨f1, _ | ⟨f2, _ | ⟨f3, _ | ⟨f4, _ | ⟨f5, _ | ⟨f6, fs⟩⟩⟩⟩⟩⟩⟩
  all_goals first | (simp at h; done) | skip
  simp only [List.map_cons, List.map_nil, List.cons.injEq, Prod.mk.injEq, and_true] at h
  obtain ⟨⟨a0, b0, c0⟩, ⟨a1, b1, c1⟩, ⟨a2, b2, c2⟩, ⟨a3, b3, c3⟩, ⟨a4, b4, c4⟩, ⟨a5, b5, c5⟩⟩ := h
  have p0 : ∀ d : Nd, (part f0.type d.cells f0.offset).run Tryz.prog w = .ok (.int .i64 d.kind) w := fun d => by rw [b0, c0]; unfold Nd.cells; kernel_rfl
  have p1 : ∀ d : Nd, (part f1.type d.cells f1.offset).run Tryz.prog w = .ok (.string d.fn) w := fun d => by rw [b1, c1]; unfold Nd.cells; kernel_rfl
  have p2 : ∀ d : Nd, (part f2.type d.cells f2.offset).run Tryz.prog w = .ok (.int .i64 d.copy) w := fun d => by rw [b2, c2]; unfold Nd.cells; kernel_rfl
  have p3 : ∀ d : Nd, (part f3.type d.cells f3.offset).run Tryz.prog w = .ok (.string d.name) w := fun d => by rw [b3, c3]; unfold Nd.cells; kernel_rfl
  have p4 : ∀ d : Nd, (part f4.type d.cells f4.offset).run Tryz.prog w = .ok (.int .i64 d.n) w := fun d => by rw [b4, c4]; unfold Nd.cells; kernel_rfl
  have p5 : ∀ d : Nd, (part f5.type d.cells f5.offset).run Tryz.prog w = .ok (.int .i64 d.cell) w := fun d => by rw [b5, c5]; unfold Nd.cells; kernel_rfl
  have i0 : (Op.equalIn 9999 f0.type (.int .i64 a.kind) (.int .i64 b.kind)).run Tryz.prog w = .ok (a.kind == b.kind) w := by rw [b0]; exact run_equalIn_int w 9998 _ _ _ _ _ Tryz.underlying3
  have i1 : (Op.equalIn 9999 f1.type (.string a.fn) (.string b.fn)).run Tryz.prog w = .ok (a.fn.toList == b.fn.toList) w := by rw [b1]; exact run_equalIn_string w 9998 _ _ _ Tryz.underlying9
  have i2 : (Op.equalIn 9999 f2.type (.int .i64 a.copy) (.int .i64 b.copy)).run Tryz.prog w = .ok (a.copy == b.copy) w := by rw [b2]; exact run_equalIn_int w 9998 _ _ _ _ _ Tryz.underlying3
  have i3 : (Op.equalIn 9999 f3.type (.string a.name) (.string b.name)).run Tryz.prog w = .ok (a.name.toList == b.name.toList) w := by rw [b3]; exact run_equalIn_string w 9998 _ _ _ Tryz.underlying9
  have i4 : (Op.equalIn 9999 f4.type (.int .i64 a.n) (.int .i64 b.n)).run Tryz.prog w = .ok (a.n == b.n) w := by rw [b4]; exact run_equalIn_int w 9998 _ _ _ _ _ Tryz.underlying3
  have i5 : (Op.equalIn 9999 f5.type (.int .i64 a.cell) (.int .i64 b.cell)).run Tryz.prog w = .ok (a.cell == b.cell) w := by rw [b5]; exact run_equalIn_int w 9998 _ _ _ _ _ Tryz.underlying3
  rw [eq_step 9999 _ _ f0 _ _ _ _ w a0 (p0 a) (p0 b) i0, eq_step 9999 _ _ f1 _ _ _ _ w a1 (p1 a) (p1 b) i1, eq_step 9999 _ _ f2 _ _ _ _ w a2 (p2 a) (p2 b) i2,
    eq_step 9999 _ _ f3 _ _ _ _ w a3 (p3 a) (p3 b) i3, eq_step 9999 _ _ f4 _ _ _ _ w a4 (p4 a) (p4 b) i4, eq_step 9999 _ _ f5 _ _ _ _ w a5 (p5 a) (p5 b) i5]
  unfold sameB
  cases (a.kind == b.kind) <;> cases (a.fn.toList == b.fn.toList) <;> cases (a.copy == b.copy) <;> cases (a.name.toList == b.name.toList) <;> cases (a.n == b.n) <;> cases (a.cell == b.cell) <;> simp [Op.eqFields, Sem.run_pure, Result.andThen]

theorem held : Held := ⟨neq_nodes, fun op x y xs ys w => run_eqGuard_agg w op _ x y xs ys guardN⟩
end Go.Proofs.YtdmmkjijgoiecaaGreatDoor.nm
