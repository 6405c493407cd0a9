import Derived.Test.YtdmmkjijgoiecaaV23
import Derived.StillTailTactics
import Derived.Test.YtdmmkjijgoiecaaV11
/-
  system: how two constraints stand: the program's.
-/
set_option linter.all false
namespace Go.Proofs.Ytdmmkjijgoiecaa.sy
open Go.RowKit Go.Sort Go.Proofs.Ytdmmkjijgoiecaa.mem

def conC (a b : SC) : Int := fstN [intC a.op b.op, txtC a.a b.a, txtC a.b b.b, intC a.k b.k, txtC a.tag b.tag, lstC a.args b.args]

def IPost (x : Int) (w : World) (e : Ending) (w' : World) : Prop := e = .returned (.int .i64 x) ∧ Below w.heap.size w w'

theorem rd_new (W : World) (t : TypeId) (l : List Value) : Rd (W.alloc (.cells l.toArray t)) (some ⟨W.heap.size, 0, none⟩) l := fun _ => ⟨W.heap.size, 0, rfl, by simp, fun j hj => by
  rw [Nat.zero_add, (Box.new W t l.toArray).cell j]
  simp [List.getElem?_eq_getElem hj]⟩

theorem region_tail_w {P : Program} {id : Nat} {Q : Exit → Act → World → Prop} {a : Act} {w : World} {l : List Oper} (n : Nat) (hm : P.follows .mixedOrders = true) (hB : Region.lexTailB .any l.toArray n = true)
    (h : ∀ W, W = w.drew → wpStill P l.toArray W (fun a' => wpList P l.toArray Q (l.drop n) a' W) (l.take n) a) : (Code.region id l.toArray true).wp P Q a w := wp_region_still_tail n hm hB (h w.drew rfl)

end Go.Proofs.Ytdmmkjijgoiecaa.sy
