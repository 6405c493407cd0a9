/-
  varint: works; the law on writing.
-/
import Derived.Test.YtcicojobeggdaaaVr8
namespace Go.Proofs.Ytcicojobeggdaaa.vr
open Go.RowKit Go.Proofs.Ytcicojobeggdaaa.mem

def WorksPost (w : World) (e : Ending) (w' : World) : Prop := e = .returned (.bool true) ∧ Below w.heap.size w w'

def L2 : List PutT := [(false, 300, ⟨#[]⟩), (true, 0, ⟨#[97, 98]⟩)]

theorem nb300 : nb 300 = [172, 2] := by rw [nb_more _ (by omega), nb_small _ (by omega)]; decide
theorem nb2 : nb 2 = [2] := by rw [nb_small _ (by omega)]; decide

theorem L2_all : putAll L2 = ([172, 2, 2, 97, 98], 0) := by
  have h1 : putN ([], 0) 300 = ([172, 2], 0) := by
    unfold putN
    rw [if_neg (by simp), if_neg (by omega)]
    show ([] ++ nb 300, (0 : Int)) = _
    rw [nb300]; rfl
  have h2 : putT ([172, 2], 0) ⟨#[97, 98]⟩ = ([172, 2, 2, 97, 98], 0) := by
    unfold putT
    rw [if_neg (by simp), if_neg (by decide)]
    show ([172, 2] ++ (nb 2 ++ [97, 98]), (0 : Int)) = _
    rw [nb2]; rfl
  show put1 (put1 ([], 0) (false, 300, ⟨#[]⟩)) (true, 0, ⟨#[97, 98]⟩) = _
  have e1 : put1 ([], 0) (false, 300, ⟨#[]⟩) = ([172, 2], 0) := h1
  rw [e1]
  exact h2

end Go.Proofs.Ytcicojobeggdaaa.vr
