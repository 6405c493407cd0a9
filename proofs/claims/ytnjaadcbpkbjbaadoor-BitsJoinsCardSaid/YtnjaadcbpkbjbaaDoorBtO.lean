/-
  Bits: the law's List of a set.
-/
import Derived.Test.YtnjaadcbpkbjbaaDoorBtN
namespace Go.Proofs.YtnjaadcbpkbjbaaDoor.bt
open Go.RowKit Go.Sort Go.Proofs.YtnjaadcbpkbjbaaDoor.mem

set_option maxRecDepth 100000 in
theorem each_any (w : World) (s : Nat) :
    Calls Tryd.prog 21 #[.pointer (some ⟨s, 0, none⟩)] w fun e w' => e = .returned (.func (.func 37) #[] #[.pointer (some ⟨w.heap.size, 0, none⟩)]) ∧ w' = w.alloc (.cells #[.pointer (some ⟨s, 0, none⟩)] 23) := by
  go_enter Tryd.func21, Tryd.ntmps21
  go_wp2_with fail
  go_ret
  exact ⟨rfl, rfl⟩

def LiPost (w : World) (L : List Nat) (e : Ending) (w' : World) : Prop := ∃ A' cap', e = .returned (.slice A' L.length cap') ∧ Below w.heap.size w w' ∧ Seg w' 3 A' cap' (natI L)

set_option maxRecDepth 100000 in
theorem law_list (w : World) (s : Nat) (A : Option Addr) (cap : Nat) (B : List Blk) (h : SA w s A cap B) (hT : TabB w) (hn : (flat B).length < 5000) (h0 : 0 < w.heap.size) :
    Calls Tryd.prog 16 #[.pointer (some ⟨s, 0, none⟩)] w (LiPost w (flat B)) := by
  obtain ⟨W2, hW2⟩ : ∃ W2, Hid (W2 = (w.alloc (.cells #[.slice none 0 0] 28)).alloc (.cells #[.pointer (some ⟨s, 0, none⟩)] 23)) := ⟨_, Lib.hid rfl⟩
  have hb2 : Below w.heap.size w W2 := by rw [hW2.out]; exact ((Below.refl _ w).alloc (Nat.le_refl _) _).alloc (by simp) _
  have hlb : LB W2 w.heap.size none 0 [] := by
    rw [hW2.out]
    exact ⟨(Box.new w 28 #[.slice none 0 0]).kept ((Fr.refl [] _).alloc _) (by simp), Seg.nil _ _⟩
  have hbs : W2.cell? ⟨w.heap.size + 1, 0, none⟩ = some (.pointer (some ⟨s, 0, none⟩)) := by
    rw [hW2.out]
    have := new_cell (w.alloc (.cells #[.slice none 0 0] 28)) (.pointer (some ⟨s, 0, none⟩)) 23
    rwa [World.size_alloc] at this
  have KE := Lib.hid (each1_list W2 (w.heap.size + 1) s w.heap.size A none cap 0 B hbs (h.below hb2) hlb (tab_kept hT (Fr.of_below hb2 []) (by simp)) hn (by simp [blk]; omega))
  have K0 := Lib.hid (each_any (w.alloc (.cells #[.slice none 0 0] 28)) s)
  rw [← hW2.out, World.size_alloc] at K0
  have HB := Lib.hid hb2
  clear h hlb hbs hT hb2 hW2
  go_enter Tryd.func16, Tryd.ntmps16
  go_wp2_with fail
  refine K0.out.mono ?_
  rintro e w2 ⟨rfl, rfl⟩
  go_wp2_with fail
  refine KE.out.mono ?_
  rintro e w3 ⟨rfl, A3, cap3, hl3, f3, o3⟩
  have c0 : w3.cell? ⟨w.heap.size, 0, none⟩ = some (.slice A3 (flat B).length cap3) := hl3.box.cell 0
  have HF := Lib.hid (show LiPost w (flat B) (.returned (.slice A3 (flat B).length cap3)) w3 from ⟨A3, cap3, rfl, HB.out.trans (f3.below (by simp [blk]) HB.out.size), hl3.seg⟩)
  clear hl3 f3 o3 KE K0
  go_wp2_with fail
  go_ret
  exact HF.out
end Go.Proofs.YtnjaadcbpkbjbaaDoor.bt
