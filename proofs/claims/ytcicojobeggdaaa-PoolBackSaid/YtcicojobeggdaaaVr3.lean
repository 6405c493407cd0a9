/-
  varint: the reference's Writer.
-/
import Derived.Test.YtcicojobeggdaaaVr2
import Derived.Deep.RegionHeld3
namespace Go.Proofs.Ytcicojobeggdaaa.vr
open Go.RowKit Go.Proofs.Ytcicojobeggdaaa.mem

def putN (st : List UInt8 × Int) (n : Int) : List UInt8 × Int := if st.2 ≠ 0 then st else if n < 0 ∨ 268435456 < n then (st.1, 2) else (st.1 ++ nb n.toNat, 0)
def putT (st : List UInt8 × Int) (s : ByteArray) : List UInt8 × Int := if st.2 ≠ 0 then st else if 200000 < (s.size : Int) then (st.1, 9) else (st.1 ++ (nb s.size ++ s.data.toList), 0)
def doneS (st : List UInt8 × Int) : List UInt8 := if st.2 ≠ 0 then [] else st.1

theorem app_str (S T : List UInt8) : bs S ++ bs T = bs (S ++ T) := bs_app S T

end Go.Proofs.Ytcicojobeggdaaa.vr
