/-
  bound: sizes held against each other: what the walks take of it.
-/
import Derived.Test.YtdmmkjijgoiecaaGreatDoorBd
set_option linter.all false
namespace Go.Proofs.YtdmmkjijgoiecaaGreatDoor.bd
open Go.RowKit

def szV (n k : Int) : Value := .agg #[.int .i64 n, .int .i64 k]
def sameZ (a b c d : Int) : Bool := a == c && b == d
structure HeldZ : Prop where
  eq : ∀ (a b c d : Int) (w : World), (binOp .eql 48 (szV a b) (szV c d)).run Tryz.prog w = .ok (.bool (sameZ a b c d)) w
  ne : ∀ (a b c d : Int) (w : World), (binOp .neq 48 (szV a b) (szV c d)).run Tryz.prog w = .ok (.bool (!sameZ a b c d)) w
  guard : ∀ (op : BinOp) (x y : Operand) (xs ys : Array Value) (w : World), (eqGuard op 48 x y (.agg xs) (.agg ys)).run Tryz.prog w = .ok () w
end Go.Proofs.YtdmmkjijgoiecaaGreatDoor.bd
