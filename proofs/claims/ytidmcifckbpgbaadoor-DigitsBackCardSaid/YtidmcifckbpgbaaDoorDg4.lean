/-
  weftref01.Read: the same answer as digits.Read at every text.
-/
import Derived.Test.YtidmcifckbpgbaaDoorDg3
namespace Go.Proofs.YtidmcifckbpgbaaDoor.dg
open Go.RowKit

theorem hasNon (s : ByteArray) (h : runN (fun b => digB b) s.data.toList < s.size) : ∃ hk : runN (fun b => digB b) s.data.toList < s.size, digB ((s[runN (fun b => digB b) s.data.toList]'hk).toNat : Int) = false := by
  refine ⟨h, ?_⟩
  have key : ∀ (l : List UInt8) (h : runN (fun b => digB b) l < l.length), digB ((l[runN (fun b => digB b) l]'h).toNat : Int) = false := by
    intro l
    induction l with
    | nil => intro h; simp [runN] at h
    | cons c r ih =>
      intro h
      rcases hc : digB (c.toNat : Int) with _ | _
      · have e : runN (fun b => digB b) (c :: r) = 0 := by simp [runN, hc]
        simp only [e]
        exact hc
      · have e : runN (fun b => digB b) (c :: r) = runN (fun b => digB b) r + 1 := by simp [runN, hc]
        have h' : runN (fun b => digB b) r < r.length := by rw [e] at h; simpa using h
        have := ih h'
        simp only [e]
        simpa using this
  have hl := size_list s
  exact key _ (by omega)

theorem before_run (s : ByteArray) (k : Nat) (hk : k < runN (fun b => digB b) s.data.toList) (h : k < s.size) : digB (s[k].toNat : Int) = true := by
  have key : ∀ (l : List UInt8) (k : Nat) (_ : k < runN (fun b => digB b) l) (h' : k < l.length), digB (l[k].toNat : Int) = true := by
    intro l
    induction l with
    | nil => intro k _ h'; simp at h'
    | cons c r ih =>
      intro k h h'
      rcases hc : digB (c.toNat : Int) with _ | _
      · have e : runN (fun b => digB b) (c :: r) = 0 := by simp [runN, hc]
        omega
      · have e : runN (fun b => digB b) (c :: r) = runN (fun b => digB b) r + 1 := by simp [runN, hc]
        cases k with
        | zero => exact hc
        | succ k => exact ih k (by omega) (by simpa using h')
  have hl := size_list s
  exact key _ _ hk (by omega)

end Go.Proofs.YtidmcifckbpgbaaDoor.dg
