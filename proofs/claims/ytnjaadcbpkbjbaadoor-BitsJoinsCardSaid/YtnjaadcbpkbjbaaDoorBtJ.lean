/-
  Bits: the law's list of a set: what its closure does.
-/
import Derived.Test.YtnjaadcbpkbjbaaDoorBtB
namespace Go.Proofs.YtnjaadcbpkbjbaaDoor.bt
open Go.RowKit Go.Sort Go.Proofs.YtnjaadcbpkbjbaaDoor.mem

/-- a list in a box -/
structure LB (w : World) (g : Nat) (A : Option Addr) (cap : Nat) (L : List Nat) : Prop where
  box : Box w g 28 #[.slice A L.length cap]
  seg : Seg w 3 A cap (natI L)

def LPost (w : World) (g : Nat) (A : Option Addr) (L : List Nat) (n : Nat) (e : Ending) (w' : World) : Prop :=
  e = .returned (.bool true) ∧ ∃ A' cap', LB w' g A' cap' (L ++ [n]) ∧ Fr (g :: blk A) w w' ∧ ∀ q ∈ blk A', q ∈ blk A ∨ w.heap.size ≤ q

theorem lb_add {w w3 : World} {g : Nat} {A A3 : Option Addr} {cap cap3 : Nat} {L : List Nat} {n : Nat} {o : Obj} (h : LB w g A cap L) (hs3 : Seg w3 3 A3 cap3 (natI L ++ [.int .i64 (n : Nat)])) (f3 : Fr (blk A) (w.alloc o) w3) (b3 : blk A3 = blk A ∨ blk A3 = [(w.alloc o).heap.size]) :
    (w3.cell? ⟨g, 0, none⟩ = some (.slice A L.length cap) ∧ w3.frozen? ⟨g, 0, none⟩ = false) ∧ LPost w g A L n (.returned (.bool true)) (w3.setCell ⟨g, 0, none⟩ (.slice A3 (L.length + 1) cap3)) := by
  have hF : Fr (blk A) w w3 := ((Fr.refl [] w).alloc o).trans f3 (by simp) (fun g hg => Or.inl hg)
  have ng : g ∉ blk A := h.seg.ne_box h.box (by decide)
  have hb3 := h.box.kept hF ng
  have n3 : g ∉ blk A3 := hs3.ne_box hb3 (by decide)
  have hset : Fr [g] w3 (w3.setCell ⟨g, 0, none⟩ (.slice A3 (L.length + 1) cap3)) := (Fr.refl _ w3).setCell (Or.inl (by simp)) _
  refine ⟨⟨hb3.cell 0, hb3.free 0⟩, rfl, A3, cap3, ⟨?_, ?_⟩, hF.trans hset (fun q hq => Or.inl (List.mem_cons_of_mem _ hq)) (fun q hq => Or.inl (by rw [List.mem_singleton] at hq; subst hq; exact List.mem_cons_self)), fun q hq => ?_⟩
  · have := hb3.put 0 (.slice A3 (L.length + 1) cap3)
    rw [List.length_append, List.length_singleton]
    exact this
  · have := hs3.kept hset (fun q hq e => by rw [List.mem_singleton] at e; subst e; exact n3 hq)
    rw [natI_app]
    exact this
  · rcases b3 with e | e
    · exact Or.inl (e ▸ hq)
    · rw [e, List.mem_singleton] at hq
      subst hq
      exact Or.inr (by simp)

set_option maxRecDepth 100000 in
theorem list1_any (w : World) (g : Nat) (A : Option Addr) (cap : Nat) (L : List Nat) (n : Nat) (h : LB w g A cap L) (hL : L.length + 1 < 5000) :
    Calls Tryd.prog 32 #[.int .i64 (n : Nat), .pointer (some ⟨g, 0, none⟩)] w (LPost w g A L n) := by
  have c0 : w.cell? ⟨g, 0, none⟩ = some (.slice A L.length cap) := h.box.cell 0
  have HI := Lib.hid h
  obtain ⟨i0, hi0, hz0, hz1, hz2⟩ := info_parts info_i
  have Hi := Lib.hid hi0
  have Hz0 := Lib.hid hz0
  have Hz1 := Lib.hid hz1
  have Hz2 := Lib.hid hz2
  have Hn := Lib.hid (natI_len L).symm
  have e1 : decide ((L.length : Int) + 1 < 5000) = true := decide_eq_true (by omega)
  clear h hi0 hz0 hz1 hz2
  go_enter Tryd.func32, Tryd.ntmps32
  go_wp2_with (at_builtin
               refine wpList_push rfl (.tmp 4) (.tmp 6) _ rfl (HI.out.seg.alloc _) Hn.out Tryd.underlying28 Hi.out Hz0.out Hz1.out Hz2.out rfl rfl rfl (new_cell _ _ _) rfl (by omega) (by omega) ?_
               intro A3 cap3 w3 hs3 f3 b3
               have hga := Lib.hid (lb_add (n := n) HI.out hs3 f3 b3)
               have c4 := hga.out.1.1
               have f4 := hga.out.1.2)
  go_ret
  exact hga.out.2
end Go.Proofs.YtnjaadcbpkbjbaaDoor.bt
