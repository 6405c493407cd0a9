import Derived.Test.YtdmmkjijgoiecaaUNm2
import Derived.WalkSmall
import Derived.Outline
/-
  names.Text: a node in writing.
-/
set_option linter.all false
namespace Go.Proofs.Ytdmmkjijgoiecaa.nm
open Go.RowKit Go.Sort

end Go.Proofs.Ytdmmkjijgoiecaa.nm

/-
  names: what stands behind a mark; what kind a mark tells.
-/
set_option linter.all false
namespace Go.Proofs.Ytdmmkjijgoiecaa.nm
open Go.RowKit Go.Sort

end Go.Proofs.Ytdmmkjijgoiecaa.nm

/-
  names.Read: a text as a node.
-/
set_option linter.all false
namespace Go.Proofs.Ytdmmkjijgoiecaa.nm
open Go.RowKit Go.Sort

end Go.Proofs.Ytdmmkjijgoiecaa.nm

/-
  names.Base, Cell, Object, Of.
-/
set_option linter.all false
namespace Go.Proofs.Ytdmmkjijgoiecaa.nm
open Go.RowKit Go.Sort

end Go.Proofs.Ytdmmkjijgoiecaa.nm

/-
  weftref14.Right: whether a node may be, by definition: what is common.
-/
set_option linter.all false
namespace Go.Proofs.Ytdmmkjijgoiecaa.nm
open Go.RowKit Go.Sort


end Go.Proofs.Ytdmmkjijgoiecaa.nm

/-
  weftref14.Right: its leaves, part a.
-/
set_option linter.all false
namespace Go.Proofs.Ytdmmkjijgoiecaa.nm
open Go.RowKit Go.Sort

end Go.Proofs.Ytdmmkjijgoiecaa.nm

/-
  weftref14.Right: its leaves, part b.
-/
set_option linter.all false
namespace Go.Proofs.Ytdmmkjijgoiecaa.nm
open Go.RowKit Go.Sort

end Go.Proofs.Ytdmmkjijgoiecaa.nm

/-
  weftref14.Right: its leaves, part c.
-/
set_option linter.all false
namespace Go.Proofs.Ytdmmkjijgoiecaa.nm
open Go.RowKit Go.Sort

end Go.Proofs.Ytdmmkjijgoiecaa.nm

/-
  weftref14.Right: its leaves, part d.
-/
set_option linter.all false
namespace Go.Proofs.Ytdmmkjijgoiecaa.nm
open Go.RowKit Go.Sort

end Go.Proofs.Ytdmmkjijgoiecaa.nm

/-
  weftref14.Right: whether a node may be, by definition.
-/
set_option linter.all false
namespace Go.Proofs.Ytdmmkjijgoiecaa.nm
open Go.RowKit Go.Sort

end Go.Proofs.Ytdmmkjijgoiecaa.nm

/-
  weftref14.Right says what names.may says.
-/
set_option linter.all false
namespace Go.Proofs.Ytdmmkjijgoiecaa.nm
open Go.RowKit Go.Sort

end Go.Proofs.Ytdmmkjijgoiecaa.nm

/-
  What is written of a node is read as it was, by the program and by the reference: plain facts on lists of bytes.
-/
set_option linter.all false
namespace Go.Proofs.Ytdmmkjijgoiecaa.nm
open Go.RowKit

end Go.Proofs.Ytdmmkjijgoiecaa.nm

/-
  weftref14.parts: a text as a name, a copy's number, a mark, what is behind it, a cell's number.
-/
set_option linter.all false
namespace Go.Proofs.Ytdmmkjijgoiecaa.nm
open Go.RowKit Go.Sort

end Go.Proofs.Ytdmmkjijgoiecaa.nm

/-
  weftref14.Text: the text of a node, by definition.
-/
set_option linter.all false
namespace Go.Proofs.Ytdmmkjijgoiecaa.nm
open Go.RowKit Go.Sort

end Go.Proofs.Ytdmmkjijgoiecaa.nm

/-
  weftref14.Read: of the few nodes that a text could say the one that is it in writing.
-/
set_option linter.all false
namespace Go.Proofs.Ytdmmkjijgoiecaa.nm
open Go.RowKit Go.Sort

def Box (w : World) (g : Nat) (t : TypeId) (cs : Array Value) : Prop := w.heap[g]? = some (.cells cs t (0, 0))
theorem Box.lt {w : World} {g : Nat} {t : TypeId} {cs : Array Value} (h : Box w g t cs) : g < w.heap.size := by
  rcases Nat.lt_or_ge g w.heap.size with h1 | h1
  · exact h1
  · unfold Box at h; rw [Array.getElem?_eq_none h1] at h; cases h
theorem Box.cell {w : World} {g : Nat} {t : TypeId} {cs : Array Value} (h : Box w g t cs) (i : Nat) : w.cell? ⟨g, i, none⟩ = cs[i]? := cell_of_row w g i cs t (0, 0) h
theorem Box.free {w : World} {g : Nat} {t : TypeId} {cs : Array Value} (h : Box w g t cs) (i : Nat) : w.frozen? ⟨g, i, none⟩ = false := by
  unfold Box at h
  simp [World.frozen?, h]
theorem Box.new (w : World) (t : TypeId) (cs : Array Value) : Box (w.alloc (.cells cs t)) w.heap.size t cs := heap_alloc_new w _
theorem Box.on {w w' : World} {g : Nat} {t : TypeId} {cs : Array Value} (h : Box w g t cs) (hb : Below w.heap.size w w') : Box w' g t cs := (hb.block g h.lt).trans h

end Go.Proofs.Ytdmmkjijgoiecaa.nm

/-
  weftref14's Base, Cell, Object and Of.
-/
set_option linter.all false
namespace Go.Proofs.Ytdmmkjijgoiecaa.nm
open Go.RowKit Go.Sort

end Go.Proofs.Ytdmmkjijgoiecaa.nm

/-
  system: systems of constraints, plain: which texts may be, what is wrong first.
-/
set_option linter.all false
namespace Go.Proofs.Ytdmmkjijgoiecaa.sy
open Go.Proofs.Ytdmmkjijgoiecaa.nm

structure Mk where
  at_ : Int
  tag : ByteArray
structure SO where
  name : ByteArray
  kinds : ByteArray
  marks : List Mk
structure SF where
  name : ByteArray
  kinds : ByteArray
  ret : ByteArray
structure SC where
  op : Int
  a : ByteArray
  b : ByteArray
  k : Int
  tag : ByteArray
  args : List ByteArray
structure SS where
  objs : List SO
  fns : List SF
  cons : List SC

end Go.Proofs.Ytdmmkjijgoiecaa.sy

/-
  the examples of the statements over names.
-/
set_option linter.all false
namespace Go.Proofs.Ytdmmkjijgoiecaa.nm
open Go.RowKit Go.Sort

def WorksPost (w : World) (e : Ending) (w' : World) : Prop := e = .returned (.bool true) ∧ Below w.heap.size w w'

end Go.Proofs.Ytdmmkjijgoiecaa.nm
