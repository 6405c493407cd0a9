import Derived.Test.YtdmmkjijgoiecaaGreatDoorV16
import Derived.Test.YtdmmkjijgoiecaaGreatDoorUNm3
import Derived.Laws.StructEq
/-
  system: marks, and functions, held against each other by ==.
-/
set_option linter.all false
namespace Go.Proofs.YtdmmkjijgoiecaaGreatDoor.sy
open Go.RowKit

theorem under_mk : Tryz.prog.underlying 101 = some (.struct (Tryz.prog.fieldsOf 101)) := by kernel_rfl
theorem stood_mk : Tryz.prog.stoodInHeld 101 = false := by kernel_rfl
theorem guard_mk : Tryz.prog.eqGuardType Tryz.prog.depth 101 = false := by kernel_rfl
theorem fields_mk : (Tryz.prog.fieldsOf 101).toList.map (fun f => (f.name == "_", f.type, f.offset)) = [(false, 3, 0), (false, 9, 1)] := by kernel_rfl
theorem eql_mk (a b : Mk) (w : World) : (binOp .eql 101 (mkV a) (mkV b)).run Tryz.prog w = .ok (.bool (sameMk a b)) w := by
  unfold mkV
  rw [run_eql_struct, run_equalIn_struct _ _ _ _ _ under_mk stood_mk]
  have h := fields_mk
  generalize (Tryz.prog.fieldsOf 101).toList = fs at *
  rcases fs with _ | ⟨f0, _ | ⟨f1, _ | ⟨f2, fs⟩⟩⟩
  all_goals first | (simp at h; done) | skip
  simp only [List.map_cons, List.map_nil, List.cons.injEq, Prod.mk.injEq, and_true] at h
  obtain ⟨⟨a0, b0, c0⟩, ⟨a1, b1, c1⟩⟩ := h
  have p0 : ∀ d : Mk, (part f0.type #[.int .i64 d.at_, .string d.tag] f0.offset).run Tryz.prog w = .ok (.int .i64 d.at_) w := fun d => by rw [b0, c0]; kernel_rfl
  have p1 : ∀ d : Mk, (part f1.type #[.int .i64 d.at_, .string d.tag] f1.offset).run Tryz.prog w = .ok (.string d.tag) w := fun d => by rw [b1, c1]; kernel_rfl
  have i0 : (Op.equalIn 9999 f0.type (.int .i64 a.at_) (.int .i64 b.at_)).run Tryz.prog w = .ok (a.at_ == b.at_) w := by rw [b0]; exact run_equalIn_int w 9998 _ _ _ _ _ Tryz.underlying3
  have i1 : (Op.equalIn 9999 f1.type (.string a.tag) (.string b.tag)).run Tryz.prog w = .ok (a.tag.toList == b.tag.toList) w := by rw [b1]; exact run_equalIn_string w 9998 _ _ _ Tryz.underlying9
  rw [nm.eq_step 9999 _ _ f0 _ _ _ _ w a0 (p0 a) (p0 b) i0, nm.eq_step 9999 _ _ f1 _ _ _ _ w a1 (p1 a) (p1 b) i1]
  unfold sameMk
  cases (a.at_ == b.at_) <;> cases (a.tag.toList == b.tag.toList) <;> simp [Op.eqFields, Sem.run_pure, Result.andThen]
theorem neq_mk (a b : Mk) (w : World) : (binOp .neq 101 (mkV a) (mkV b)).run Tryz.prog w = .ok (.bool (!sameMk a b)) w := by
  unfold mkV
  rw [run_neq_struct, run_equalIn_struct _ _ _ _ _ under_mk stood_mk]
  have h := fields_mk
  generalize (Tryz.prog.fieldsOf 101).toList = fs at *
  rcases fs with _ | ⟨f0, _ | ⟨f1, _ | ⟨f2, fs⟩⟩⟩
  all_goals first | (simp at h; done) | skip
  simp only [List.map_cons, List.map_nil, List.cons.injEq, Prod.mk.injEq, and_true] at h
  obtain ⟨⟨a0, b0, c0⟩, ⟨a1, b1, c1⟩⟩ := h
  have p0 : ∀ d : Mk, (part f0.type #[.int .i64 d.at_, .string d.tag] f0.offset).run Tryz.prog w = .ok (.int .i64 d.at_) w := fun d => by rw [b0, c0]; kernel_rfl
  have p1 : ∀ d : Mk, (part f1.type #[.int .i64 d.at_, .string d.tag] f1.offset).run Tryz.prog w = .ok (.string d.tag) w := fun d => by rw [b1, c1]; kernel_rfl
  have i0 : (Op.equalIn 9999 f0.type (.int .i64 a.at_) (.int .i64 b.at_)).run Tryz.prog w = .ok (a.at_ == b.at_) w := by rw [b0]; exact run_equalIn_int w 9998 _ _ _ _ _ Tryz.underlying3
  have i1 : (Op.equalIn 9999 f1.type (.string a.tag) (.string b.tag)).run Tryz.prog w = .ok (a.tag.toList == b.tag.toList) w := by rw [b1]; exact run_equalIn_string w 9998 _ _ _ Tryz.underlying9
  rw [nm.eq_step 9999 _ _ f0 _ _ _ _ w a0 (p0 a) (p0 b) i0, nm.eq_step 9999 _ _ f1 _ _ _ _ w a1 (p1 a) (p1 b) i1]
  unfold sameMk
  cases (a.at_ == b.at_) <;> cases (a.tag.toList == b.tag.toList) <;> simp [Op.eqFields, Sem.run_pure, Result.andThen]
theorem held_mk : HeldM := ⟨eql_mk, neq_mk, fun op x y xs ys w => run_eqGuard_agg w op _ x y xs ys guard_mk⟩

theorem under_sf : Tryz.prog.underlying 103 = some (.struct (Tryz.prog.fieldsOf 103)) := by kernel_rfl
theorem stood_sf : Tryz.prog.stoodInHeld 103 = false := by kernel_rfl
theorem guard_sf : Tryz.prog.eqGuardType Tryz.prog.depth 103 = false := by kernel_rfl
theorem fields_sf : (Tryz.prog.fieldsOf 103).toList.map (fun f => (f.name == "_", f.type, f.offset)) = [(false, 9, 0), (false, 9, 1), (false, 9, 2)] := by kernel_rfl
theorem eql_sf (a b : SF) (w : World) : (binOp .eql 103 (fnV a) (fnV b)).run Tryz.prog w = .ok (.bool (sameF a b)) w := by
  unfold fnV
  rw [run_eql_struct, run_equalIn_struct _ _ _ _ _ under_sf stood_sf]
  have h := fields_sf
  generalize (Tryz.prog.fieldsOf 103).toList = fs at *
  rcases fs with _ | ⟨f0, _ | ⟨f1, _ | ⟨f2, _ | ⟨f3, fs⟩⟩⟩⟩
  all_goals first | (simp at h; done) | skip
  simp only [List.map_cons, List.map_nil, List.cons.injEq, Prod.mk.injEq, and_true] at h
  obtain ⟨⟨a0, b0, c0⟩, ⟨a1, b1, c1⟩, ⟨a2, b2, c2⟩⟩ := h
  have p0 : ∀ d : SF, (part f0.type #[.string d.name, .string d.kinds, .string d.ret] f0.offset).run Tryz.prog w = .ok (.string d.name) w := fun d => by rw [b0, c0]; kernel_rfl
  have p1 : ∀ d : SF, (part f1.type #[.string d.name, .string d.kinds, .string d.ret] f1.offset).run Tryz.prog w = .ok (.string d.kinds) w := fun d => by rw [b1, c1]; kernel_rfl
  have p2 : ∀ d : SF, (part f2.type #[.string d.name, .string d.kinds, .string d.ret] f2.offset).run Tryz.prog w = .ok (.string d.ret) w := fun d => by rw [b2, c2]; kernel_rfl
  have i0 : (Op.equalIn 9999 f0.type (.string a.name) (.string b.name)).run Tryz.prog w = .ok (a.name.toList == b.name.toList) w := by rw [b0]; exact run_equalIn_string w 9998 _ _ _ Tryz.underlying9
  have i1 : (Op.equalIn 9999 f1.type (.string a.kinds) (.string b.kinds)).run Tryz.prog w = .ok (a.kinds.toList == b.kinds.toList) w := by rw [b1]; exact run_equalIn_string w 9998 _ _ _ Tryz.underlying9
  have i2 : (Op.equalIn 9999 f2.type (.string a.ret) (.string b.ret)).run Tryz.prog w = .ok (a.ret.toList == b.ret.toList) w := by rw [b2]; exact run_equalIn_string w 9998 _ _ _ Tryz.underlying9
  rw [nm.eq_step 9999 _ _ f0 _ _ _ _ w a0 (p0 a) (p0 b) i0, nm.eq_step 9999 _ _ f1 _ _ _ _ w a1 (p1 a) (p1 b) i1, nm.eq_step 9999 _ _ f2 _ _ _ _ w a2 (p2 a) (p2 b) i2]
  unfold sameF
  cases (a.name.toList == b.name.toList) <;> cases (a.kinds.toList == b.kinds.toList) <;> cases (a.ret.toList == b.ret.toList) <;> simp [Op.eqFields, Sem.run_pure, Result.andThen]
theorem neq_sf (a b : SF) (w : World) : (binOp .neq 103 (fnV a) (fnV b)).run Tryz.prog w = .ok (.bool (!sameF a b)) w := by
  unfold fnV
  rw [run_neq_struct, run_equalIn_struct _ _ _ _ _ under_sf stood_sf]
  have h := fields_sf
  generalize (Tryz.prog.fieldsOf 103).toList = fs at *
  rcases fs with _ | ⟨f0, _ | ⟨f1, _ | ⟨f2, _ | ⟨f3, fs⟩⟩⟩⟩
  all_goals first | (simp at h; done) | skip
  simp only [List.map_cons, List.map_nil, List.cons.injEq, Prod.mk.injEq, and_true] at h
  obtain ⟨⟨a0, b0, c0⟩, ⟨a1, b1, c1⟩, ⟨a2, b2, c2⟩⟩ := h
  have p0 : ∀ d : SF, (part f0.type #[.string d.name, .string d.kinds, .string d.ret] f0.offset).run Tryz.prog w = .ok (.string d.name) w := fun d => by rw [b0, c0]; kernel_rfl
  have p1 : ∀ d : SF, (part f1.type #[.string d.name, .string d.kinds, .string d.ret] f1.offset).run Tryz.prog w = .ok (.string d.kinds) w := fun d => by rw [b1, c1]; kernel_rfl
  have p2 : ∀ d : SF, (part f2.type #[.string d.name, .string d.kinds, .string d.ret] f2.offset).run Tryz.prog w = .ok (.string d.ret) w := fun d => by rw [b2, c2]; kernel_rfl
  have i0 : (Op.equalIn 9999 f0.type (.string a.name) (.string b.name)).run Tryz.prog w = .ok (a.name.toList == b.name.toList) w := by rw [b0]; exact run_equalIn_string w 9998 _ _ _ Tryz.underlying9
  have i1 : (Op.equalIn 9999 f1.type (.string a.kinds) (.string b.kinds)).run Tryz.prog w = .ok (a.kinds.toList == b.kinds.toList) w := by rw [b1]; exact run_equalIn_string w 9998 _ _ _ Tryz.underlying9
  have i2 : (Op.equalIn 9999 f2.type (.string a.ret) (.string b.ret)).run Tryz.prog w = .ok (a.ret.toList == b.ret.toList) w := by rw [b2]; exact run_equalIn_string w 9998 _ _ _ Tryz.underlying9
  rw [nm.eq_step 9999 _ _ f0 _ _ _ _ w a0 (p0 a) (p0 b) i0, nm.eq_step 9999 _ _ f1 _ _ _ _ w a1 (p1 a) (p1 b) i1, nm.eq_step 9999 _ _ f2 _ _ _ _ w a2 (p2 a) (p2 b) i2]
  unfold sameF
  cases (a.name.toList == b.name.toList) <;> cases (a.kinds.toList == b.kinds.toList) <;> cases (a.ret.toList == b.ret.toList) <;> simp [Op.eqFields, Sem.run_pure, Result.andThen]
theorem held_sf : HeldF := ⟨eql_sf, neq_sf, fun op x y xs ys w => run_eqGuard_agg w op _ x y xs ys guard_sf⟩

end Go.Proofs.YtdmmkjijgoiecaaGreatDoor.sy
