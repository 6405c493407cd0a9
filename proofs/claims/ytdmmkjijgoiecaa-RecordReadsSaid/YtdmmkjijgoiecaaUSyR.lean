import Derived.Test.YtdmmkjijgoiecaaV22
import Derived.Test.YtdmmkjijgoiecaaUNm3
import Derived.Laws.StructEq
/-
  system: marks, and functions, held against each other by ==.
-/
set_option linter.all false
namespace Go.Proofs.Ytdmmkjijgoiecaa.sy
open Go.RowKit

theorem under_mk : Try.prog.underlying 98 = some (.struct (Try.prog.fieldsOf 98)) := by kernel_rfl
theorem stood_mk : Try.prog.stoodInHeld 98 = false := by kernel_rfl
theorem fields_mk : (Try.prog.fieldsOf 98).toList.map (fun f => (f.name == "_", f.type, f.offset)) = [(false, 3, 0), (false, 9, 1)] := by kernel_rfl
theorem eql_mk (a b : Mk) (w : World) : (binOp .eql 98 (mkV a) (mkV b)).run Try.prog w = .ok (.bool (sameMk a b)) w := by
  unfold mkV
  rw [run_eql_struct, run_equalIn_struct _ _ _ _ _ under_mk stood_mk]
  have h := fields_mk
  generalize (Try.prog.fieldsOf 98).toList = fs at *
  rcases fs with _ | ⟨f0, _ | ⟨f1, _ | ⟨f2, fs⟩⟩⟩
  all_goals first | (simp at h; done) | skip
  simp only [List.map_cons, List.map_nil, List.cons.injEq, Prod.mk.injEq, and_true] at h
  obtain ⟨⟨a0, b0, c0⟩, ⟨a1, b1, c1⟩⟩ := h
  have p0 : ∀ d : Mk, (part f0.type #[.int .i64 d.at_, .string d.tag] f0.offset).run Try.prog w = .ok (.int .i64 d.at_) w := fun d => by rw [b0, c0]; kernel_rfl
  have p1 : ∀ d : Mk, (part f1.type #[.int .i64 d.at_, .string d.tag] f1.offset).run Try.prog w = .ok (.string d.tag) w := fun d => by rw [b1, c1]; kernel_rfl
  have i0 : (Op.equalIn 9999 f0.type (.int .i64 a.at_) (.int .i64 b.at_)).run Try.prog w = .ok (a.at_ == b.at_) w := by rw [b0]; exact run_equalIn_int w 9998 _ _ _ _ _ Try.underlying3
  have i1 : (Op.equalIn 9999 f1.type (.string a.tag) (.string b.tag)).run Try.prog w = .ok (a.tag.toList == b.tag.toList) w := by rw [b1]; exact run_equalIn_string w 9998 _ _ _ Try.underlying9
  rw [nm.eq_step 9999 _ _ f0 _ _ _ _ w a0 (p0 a) (p0 b) i0, nm.eq_step 9999 _ _ f1 _ _ _ _ w a1 (p1 a) (p1 b) i1]
  unfold sameMk
  cases (a.at_ == b.at_) <;> cases (a.tag.toList == b.tag.toList) <;> simp [Op.eqFields, Sem.run_pure, Result.andThen]
theorem neq_mk (a b : Mk) (w : World) : (binOp .neq 98 (mkV a) (mkV b)).run Try.prog w = .ok (.bool (!sameMk a b)) w := by
  unfold mkV
  rw [run_neq_struct, run_equalIn_struct _ _ _ _ _ under_mk stood_mk]
  have h := fields_mk
  generalize (Try.prog.fieldsOf 98).toList = fs at *
  rcases fs with _ | ⟨f0, _ | ⟨f1, _ | ⟨f2, fs⟩⟩⟩
  all_goals first | (simp at h; done) | skip
  simp only [List.map_cons, List.map_nil, List.cons.injEq, Prod.mk.injEq, and_true] at h
  obtain ⟨⟨a0, b0, c0⟩, ⟨a1, b1, c1⟩⟩ := h
  have p0 : ∀ d : Mk, (part f0.type #[.int .i64 d.at_, .string d.tag] f0.offset).run Try.prog w = .ok (.int .i64 d.at_) w := fun d => by rw [b0, c0]; kernel_rfl
  have p1 : ∀ d : Mk, (part f1.type #[.int .i64 d.at_, .string d.tag] f1.offset).run Try.prog w = .ok (.string d.tag) w := fun d => by rw [b1, c1]; kernel_rfl
  have i0 : (Op.equalIn 9999 f0.type (.int .i64 a.at_) (.int .i64 b.at_)).run Try.prog w = .ok (a.at_ == b.at_) w := by rw [b0]; exact run_equalIn_int w 9998 _ _ _ _ _ Try.underlying3
  have i1 : (Op.equalIn 9999 f1.type (.string a.tag) (.string b.tag)).run Try.prog w = .ok (a.tag.toList == b.tag.toList) w := by rw [b1]; exact run_equalIn_string w 9998 _ _ _ Try.underlying9
  rw [nm.eq_step 9999 _ _ f0 _ _ _ _ w a0 (p0 a) (p0 b) i0, nm.eq_step 9999 _ _ f1 _ _ _ _ w a1 (p1 a) (p1 b) i1]
  unfold sameMk
  cases (a.at_ == b.at_) <;> cases (a.tag.toList == b.tag.toList) <;> simp [Op.eqFields, Sem.run_pure, Result.andThen]
end Go.Proofs.Ytdmmkjijgoiecaa.sy
