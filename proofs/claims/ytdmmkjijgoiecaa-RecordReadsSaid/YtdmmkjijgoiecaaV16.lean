import Derived.Test.YtdmmkjijgoiecaaRows
import Derived.WalkKit
import Derived.WalkSpells
import Derived.BigQuiet
import Derived.Deep.QuietTactic
import Derived.Lib.Hide
/-
  Contracts of the functions of digits, and of their references: what each returns, at every input; nothing that was there is changed.
-/
set_option linter.all false
namespace Go.Proofs.Ytdmmkjijgoiecaa.dg
open Go.RowKit

def digB (b : Int) : Bool := decide (48 ≤ b ∧ b ≤ 57)
end Go.Proofs.Ytdmmkjijgoiecaa.dg

/-
  Contracts of the functions of digits that go through a text.
-/
set_option linter.all false
namespace Go.Proofs.Ytdmmkjijgoiecaa.dg
open Go.RowKit

/-- how many bytes at the beginning are of a class -/
def runN (cls : Int → Bool) (l : List UInt8) : Nat := (l.takeWhile fun c => cls (c.toNat : Int)).length

end Go.Proofs.Ytdmmkjijgoiecaa.dg

/-
  digits.Read, and its reference: the same answer at every text.
-/
set_option linter.all false
namespace Go.Proofs.Ytdmmkjijgoiecaa.dg
open Go.RowKit

/-- the number that digits say, behind what was read; none: it is above the greatest count -/
def acc (n : Int) : List UInt8 → Option Int
  | [] => some n
  | c :: r => if 10 * n + ((c.toNat : Int) - 48) > 268435456 then none else acc (10 * n + ((c.toNat : Int) - 48)) r

def accR (o : Option Int) : Int × Int := match o with
  | some n => (n, 0)
  | none => (0, 2)

/-- a text as a count -/
def rd (s : ByteArray) : Int × Int :=
  if s.size = 0 then (0, 1)
  else if runN (fun b => digB b) s.data.toList < s.size then (0, 3)
  else if ((s.data.toList.headD 0).toNat : Int) = 48 ∧ 1 < s.size then (0, 3)
  else accR (acc 0 s.data.toList)

end Go.Proofs.Ytdmmkjijgoiecaa.dg

/-
  weftref01.Read: the same answer as digits.Read at every text.
-/
set_option linter.all false
namespace Go.Proofs.Ytdmmkjijgoiecaa.dg
open Go.RowKit

end Go.Proofs.Ytdmmkjijgoiecaa.dg
