/-
  varint: in one way alone, of an argument as it comes in.
-/
import Derived.Test.YtidmcifckbpgbaaVrH
namespace Go.Proofs.Ytidmcifckbpgbaa.vr
open Go.RowKit Go.Proofs.Ytidmcifckbpgbaa.mem

theorem pf_one (s : ByteArray) (ws : s.size ≤ maxLen) (W : World) : Calls Try.prog 8 #[.string s] W (WorksPost W) := law_one s W ws
end Go.Proofs.Ytidmcifckbpgbaa.vr
