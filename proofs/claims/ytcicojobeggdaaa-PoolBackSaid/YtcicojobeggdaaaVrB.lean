/-
  varint: the reference's count.
-/
import Derived.Test.YtcicojobeggdaaaVrA
namespace Go.Proofs.Ytcicojobeggdaaa.vr
open Go.RowKit Go.Proofs.Ytcicojobeggdaaa.mem

/-- the place behind a count -/
def pl (at_ : Nat) (r : Nat × Nat × Nat) : Nat := if r.2.2 = 0 then at_ + r.2.1 else 0

def NPost (s : ByteArray) (p : Nat) (w : World) (e : Ending) (w' : World) : Prop := e = .returned (.tuple #[.int .i64 (cnt (s.data.toList.drop p)).1, .int .i64 (pl p (cnt (s.data.toList.drop p))), .int .i64 (cnt (s.data.toList.drop p)).2.2]) ∧ w = w'

theorem npost_of {s : ByteArray} {p : Nat} {w : World} {a b c : Int} {r : Nat × Nat × Nat} (h : cnt (s.data.toList.drop p) = r) (h1 : a = (r.1 : Int)) (h2 : b = (pl p r : Int)) (h3 : c = (r.2.2 : Int)) : NPost s p w (.returned (.tuple #[.int .i64 a, .int .i64 b, .int .i64 c])) w := by
  unfold NPost
  rw [h, h1, h2, h3]
  exact ⟨rfl, rfl⟩

end Go.Proofs.Ytcicojobeggdaaa.vr
