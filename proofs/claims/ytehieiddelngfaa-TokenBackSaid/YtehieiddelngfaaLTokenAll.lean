/-
  token: the law on all tokens, of an argument as it comes in.
-/
import Derived.Test.YtehieiddelngfaaTk9
namespace Go.Proofs.Ytehieiddelngfaa.tk
open Go.RowKit Go.Proofs.Ytehieiddelngfaa.dg Go.Proofs.Ytehieiddelngfaa.mem

theorem max_of {W : World} (h : W.ShapedOpen Try.prog) : MaxAt W := Try.laysM144.s1_3 W h

theorem pf_all (a : ByteArray) (wa : a.size ≤ maxLen) (W : World) (hsh : W.ShapedOpen Try.prog) : Calls Try.prog 6 #[.string a] W (WorksPost W) :=
  law_all W a wa (max_of hsh)
end Go.Proofs.Ytehieiddelngfaa.tk
