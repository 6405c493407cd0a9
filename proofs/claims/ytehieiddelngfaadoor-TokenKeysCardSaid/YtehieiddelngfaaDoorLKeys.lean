/-
  token: the law on the language's own words, of an argument as it comes in.
-/
import Derived.Test.YtehieiddelngfaaDoorKy2
namespace Go.Proofs.YtehieiddelngfaaDoor.ky
open Go.RowKit Go.Shelf Go.Proofs.YtehieiddelngfaaDoor.mem

theorem max_of {W : World} (h : W.ShapedOpen Tryd.prog) : MaxAt W := Tryd.laysM144.s1_3 W h

theorem pf_keys (a : ByteArray) (wa : a.size ≤ maxLen) (W : World) (htab : Lib.TabIs Tryd.prog W "strings.asciiSpace" .u8 Lib.asciiSpaceTab) (hr : a.size ≤ reachBytes) (hsh : W.ShapedOpen Tryd.prog) : Calls Tryd.prog 3 #[.string a] W (WorksPost W) :=
  law_keys W a (Nat.le_trans hr (by decide)) (max_of hsh) htab
end Go.Proofs.YtehieiddelngfaaDoor.ky
