/-
  token: the law: tokens that are joined are the same tokens, of arguments as they come in.
-/
import Derived.Test.YtehieiddelngfaaTkE
import Derived.Test.YtehieiddelngfaaLTokenAll
namespace Go.Proofs.Ytehieiddelngfaa.tk
open Go.RowKit Go.Proofs.Ytehieiddelngfaa.dg Go.Proofs.Ytehieiddelngfaa.mem

theorem pf_back (a : ByteArray) (wa : a.size ≤ maxLen) (b : ByteArray) (wb : b.size ≤ maxLen) (W : World) (hsh : W.ShapedOpen Try.prog) : Calls Try.prog 8 #[.string a, .string b] W (WorksPost W) :=
  law_back W a b wa wb (max_of hsh)
end Go.Proofs.Ytehieiddelngfaa.tk
