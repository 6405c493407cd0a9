import Derived.OwnWalkIn
import Derived.RangeFuncNested
import Derived.TacticsInMore
import Derived.Test.YtlkboeajkgbnaaaGreatDoorC09
set_option linter.all false
set_option maxHeartbeats 4000000
namespace Go.Proofs.YtlkboeajkgbnaaaGreatDoor
namespace rng
open RowKit mem
theorem wp_normal{P:Program}{c:Code}{Q:Exit→Act→World→Prop}{a:Act}{w:World}(h:c.wp P (fun e a w=>e=.normal∧Q .normal a w) a w):c.wp P Q a w:=wp_mono h (by rintro e a w ⟨rfl,h⟩;exact h)
theorem boxg{W W':World}{row:Option Nat}{g:Nat}{t:TypeId}{cs:Array Value}(h:Box W g t cs)(hg:W.grownBy W' row)(hr:∀r,row=some r→∃o:Obj,W.heap[r]? = some o∧o.isCells=false):Box W' g t cs:=by
 refine(hg.block g h.lt (fun e=>?_)).trans h;obtain⟨o,ho,hc⟩:=hr g e.symm;unfold Box at h;rw[h]at ho;cases ho;cases hc
end rng
end Go.Proofs.YtlkboeajkgbnaaaGreatDoor
