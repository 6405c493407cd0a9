/-
  Bits: blocks held against each other.
-/
import Derived.Test.YtnjaadcbpkbjbaaDoorBt9
import Derived.Laws.StructEq
namespace Go.Proofs.YtnjaadcbpkbjbaaDoor.bt
open Go.RowKit

theorem bUnder : Tryd.prog.underlying 53 = some (.struct (Tryd.prog.fieldsOf 53)) := by kernel_rfl
theorem bStood : Tryd.prog.stoodInHeld 53 = false := by kernel_rfl
theorem bGuard : Tryd.prog.eqGuardType Tryd.prog.depth 53 = false := by kernel_rfl
theorem bFields : (Tryd.prog.fieldsOf 53).toList.map (fun f => (f.name == "_", f.type, f.offset)) = [(false, 3, 0), (false, 45, 1)] := by kernel_rfl

theorem eq_step {P : Program} (d : Nat) (xs ys : Array Value) (f : Field) (fs : List Field) (a b : Value) (r : Bool) (w : World) (hn : (f.name == "_") = false)
    (ha : (part f.type xs f.offset).run P w = .ok a w) (hb : (part f.type ys f.offset).run P w = .ok b w) (hr : (Op.equalIn d f.type a b).run P w = .ok r w) :
    (Op.eqFields d xs ys (f :: fs)).run P w = if r then (Op.eqFields d xs ys fs).run P w else .ok false w := by
  have hn' : f.name ≠ "_" := by simpa using hn
  rw [Op.eqFields, if_pos hn']
  simp only [Sem.run_bind, ha, hb, hr, Result.andThen_ok, Sem.run_ite, Sem.run_pure]
  cases r <;> simp

theorem neq_blk (a h a' h' : Nat) (w : World) : (binOp .neq 53 (.agg #[.int .i64 (a : Nat), .int .u64 (h : Nat)]) (.agg #[.int .i64 (a' : Nat), .int .u64 (h' : Nat)])).run Tryd.prog w = .ok (.bool (!decide (a = a' ∧ h = h'))) w := by
  rw [run_neq_struct, run_equalIn_struct _ _ _ _ _ bUnder bStood]
  have hf := bFields
  generalize (Tryd.prog.fieldsOf 53).toList = fs at *
  rcases fs with _ | ⟨f0, _ | ⟨f1, _ | ⟨f2, fs⟩⟩⟩
  all_goals first | (simp at hf; done) | skip
  simp only [List.map_cons, List.map_nil, List.cons.injEq, Prod.mk.injEq, and_true] at hf
  obtain ⟨⟨a0, b0, c0⟩, ⟨a1, b1, c1⟩⟩ := hf
  have p0 : ∀ a h : Nat, (part f0.type #[.int .i64 (a : Nat), .int .u64 (h : Nat)] f0.offset).run Tryd.prog w = .ok (.int .i64 (a : Nat)) w := fun a h => by rw [b0, c0]; kernel_rfl
  have p1 : ∀ a h : Nat, (part f1.type #[.int .i64 (a : Nat), .int .u64 (h : Nat)] f1.offset).run Tryd.prog w = .ok (.int .u64 (h : Nat)) w := fun a h => by rw [b1, c1]; kernel_rfl
  have i0 : (Op.equalIn 9999 f0.type (.int .i64 (a : Nat)) (.int .i64 (a' : Nat))).run Tryd.prog w = .ok ((a : Int) == (a' : Int)) w := by rw [b0]; exact run_equalIn_int w 9998 _ _ _ _ _ Tryd.underlying3
  have i1 : (Op.equalIn 9999 f1.type (.int .u64 (h : Nat)) (.int .u64 (h' : Nat))).run Tryd.prog w = .ok ((h : Int) == (h' : Int)) w := by rw [b1]; exact run_equalIn_int w 9998 _ _ _ _ _ Tryd.underlying45
  rw [eq_step 9999 _ _ f0 _ _ _ _ w a0 (p0 a h) (p0 a' h') i0, eq_step 9999 _ _ f1 _ _ _ _ w a1 (p1 a h) (p1 a' h') i1]
  by_cases h1 : a = a'
  · by_cases h2 : h = h'
    · simp [h1, h2, Op.eqFields, Sem.run_pure, Result.andThen]
    · have e2 : ((h : Int) == (h' : Int)) = false := by simp; omega
      simp [h1, h2, e2, Op.eqFields, Sem.run_pure, Result.andThen]
  · have e1 : ((a : Int) == (a' : Int)) = false := by simp; omega
    simp [h1, e1, Op.eqFields, Sem.run_pure, Result.andThen]

theorem heldB : HeldB := ⟨neq_blk, fun op x y xs ys w => run_eqGuard_agg w op _ x y xs ys bGuard⟩
end Go.Proofs.YtnjaadcbpkbjbaaDoor.bt
