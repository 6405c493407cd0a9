/-
  Bits: Less and Both.
-/
import Derived.Test.YtnjaadcbpkbjbaaDoorBtX
import Derived.Test.YtnjaadcbpkbjbaaDoorBtY
import Derived.Test.YtnjaadcbpkbjbaaDoorBtW
namespace Go.Proofs.YtnjaadcbpkbjbaaDoor.bt
open Go.RowKit Go.Shelf Go.Sort Go.Proofs.YtnjaadcbpkbjbaaDoor.mem

theorem new_set {w w3 : World} {A3 : Option Addr} {cap3 : Nat} {B : List Blk} (hb : Below w.heap.size w w3) (hba : BA w3 A3 cap3 B) (hg : ∀ g ∈ blk A3, w.heap.size ≤ g) :
    NewS w B (.returned (.pointer (some ⟨w3.heap.size, 0, none⟩))) (w3.alloc (.cells #[.slice A3 B.length cap3] 26)) :=
  ⟨w3.heap.size, A3, cap3, rfl, hb.alloc hb.size _, ⟨Box.new w3 _ _, hba.kept ((Fr.refl [] w3).alloc _) (by simp)⟩, hb.size, hg⟩

set_option maxRecDepth 100000 in
theorem less_any (w : World) (s s2 : Nat) (A A2 : Option Addr) (cap cap2 : Nat) (B C : List Blk) (h : SA w s A cap B) (k : SA w s2 A2 cap2 C) :
    Calls Tryd.prog 19 #[.pointer (some ⟨s, 0, none⟩), .pointer (some ⟨s2, 0, none⟩)] w (NewS w (lessB B C)) := by
  have K1 := Lib.hid (list_any w s A cap B h)
  have K2 := Lib.hid (list_any w s2 A2 cap2 C k)
  have K3 := Lib.hid (merged_anyL w A A2 cap cap2 B C h.ba k.ba)
  clear h k
  go_enter Tryd.func19, Tryd.ntmps19
  go_wp2_with fail
  refine K1.out.mono ?_
  rintro e w2 ⟨rfl, rfl⟩
  go_wp2_with fail
  refine K2.out.mono ?_
  rintro e w2 ⟨rfl, rfl⟩
  go_wp2_with fail
  refine K3.out.mono ?_
  rintro e w3 ⟨A3, cap3, rfl, hb, hba, hg⟩
  have HF := Lib.hid (new_set hb hba hg)
  clear hb hba hg K1 K2 K3
  go_wp2_with fail
  go_ret
  exact HF.out

set_option maxRecDepth 100000 in
theorem both_any (w : World) (s s2 : Nat) (A A2 : Option Addr) (cap cap2 : Nat) (B C : List Blk) (h : SA w s A cap B) (k : SA w s2 A2 cap2 C) :
    Calls Tryd.prog 20 #[.pointer (some ⟨s, 0, none⟩), .pointer (some ⟨s2, 0, none⟩)] w (NewS w (bothB B C)) := by
  have K1 := Lib.hid (list_any w s A cap B h)
  have K2 := Lib.hid (list_any w s2 A2 cap2 C k)
  have K3 := Lib.hid (merged_anyB w A A2 cap cap2 B C h.ba k.ba)
  clear h k
  go_enter Tryd.func20, Tryd.ntmps20
  go_wp2_with fail
  refine K1.out.mono ?_
  rintro e w2 ⟨rfl, rfl⟩
  go_wp2_with fail
  refine K2.out.mono ?_
  rintro e w2 ⟨rfl, rfl⟩
  go_wp2_with fail
  refine K3.out.mono ?_
  rintro e w3 ⟨A3, cap3, rfl, hb, hba, hg⟩
  have HF := Lib.hid (new_set hb hba hg)
  clear hb hba hg K1 K2 K3
  go_wp2_with fail
  go_ret
  exact HF.out
end Go.Proofs.YtnjaadcbpkbjbaaDoor.bt
