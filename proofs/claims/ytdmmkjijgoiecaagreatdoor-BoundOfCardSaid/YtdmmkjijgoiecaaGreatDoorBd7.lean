/-
  bound: the law's own little system.
-/
import Derived.Test.YtdmmkjijgoiecaaGreatDoorBd5
set_option linter.all false
namespace Go.Proofs.YtdmmkjijgoiecaaGreatDoor.bd
open Go.RowKit Go.Proofs.YtdmmkjijgoiecaaGreatDoor.mem Go.Proofs.YtdmmkjijgoiecaaGreatDoor.sy
open Go.Proofs.YtdmmkjijgoiecaaGreatDoor.nm (Tab tab_below)
open Go.Proofs.YtdmmkjijgoiecaaGreatDoor.tx (rsS)

def bO : SO := ⟨⟨#[120]⟩, ⟨#[112]⟩, []⟩
def bC : SC := ⟨1, ⟨#[102, 46, 112]⟩, ⟨#[120, 43, 48]⟩, 0, ⟨#[]⟩, []⟩
def bS : SS := ⟨[bO], [], [bC]⟩
theorem bS_obj : objE bO = 0 := by
  unfold objE
  rw [if_neg (by rw [show objB bO.name = true from by kernel_rfl]; decide), if_neg (by rw [show kindsB bO.kinds 1 64 = true from by kernel_rfl]; decide), if_pos]
  intro i m hi
  exact absurd hi (Nat.not_lt_zero _)
theorem bS_con : conE bC = 0 := by kernel_rfl
theorem bS_check : checkE bS = 0 := by
  unfold checkE
  rw [if_neg (by decide)]
  have h1 : goE objE badO none bS.objs = 0 := by
    show goE objE badO none [bO] = 0
    rw [goE, if_pos bS_obj]
    rfl
  have h3 : goE conE badC none bS.cons = 0 := by
    show goE conE badC none [bC] = 0
    rw [goE, if_pos bS_con]
    rfl
  rw [h1, h3]
  rfl
theorem bS_nodes : nodesL bS = [⟨#[102, 46, 112]⟩, ⟨#[120, 43, 48]⟩] := by kernel_rfl
theorem bS_places : placesL bS = [⟨#[120, 43, 48]⟩, ⟨#[120, 43, 48]⟩] := by kernel_rfl
theorem bS_n : nodesZ bS = 2 := by
  unfold nodesZ
  rw [if_pos bS_check, bS_nodes, bS_places]
  unfold orNil
  rw [if_pos rfl, if_pos rfl]
  kernel_rfl
theorem bS_k : consZ bS = 0 := by
  unfold consZ
  rw [if_pos bS_check]
  kernel_rfl
theorem fuel_2 : fuelZ 2 0 = 27 := by decide

def bM (g1 g2 : Nat) : MS := ⟨some ⟨g1, 0, none⟩, 1, [⟨bO, none, 0⟩], none, 0, [], some ⟨g2, 0, none⟩, 1, [⟨bC, none, 0⟩]⟩
theorem bM_ok {W : World} {g1 g2 : Nat} (h1 : Box W g1 99 #[.string ⟨#[120]⟩, .string ⟨#[112]⟩, .slice none 0 0]) (h2 : Box W g2 105 #[.int .i64 1, .string ⟨#[102, 46, 112]⟩, .string ⟨#[120, 43, 48]⟩, .int .i64 0, .string ⟨#[]⟩, .slice none 0 0]) : SysM W (bM g1 g2) where
  o := tbl_one h1
  f := tbl_none
  c := tbl_one h2
  ok x hx := by
    obtain rfl : x = ⟨bO, none, 0⟩ := by simpa [bM] using hx
    exact ⟨by decide, by decide, tbl_none, by decide, fun m hm => absurd hm (by simp [bO]), fun m hm => absurd hm (by simp [bO]), by decide⟩
  fk x hx := absurd hx (by simp [bM])
  ck x hx := by
    obtain rfl : x = ⟨bC, none, 0⟩ := by simpa [bM] using hx
    exact ⟨by decide, by decide, by decide, fun h => absurd h (Nat.not_lt_zero _), by decide, by decide, fun s hs => absurd hs (by simp [bC])⟩
  ol := show 1 ≤ maxLen by decide
  fl := show 0 ≤ maxLen by decide
  cl := show 1 ≤ maxLen by decide

/-- the three blocks -/
structure BW (w W : World) (g1 g2 g3 : Nat) : Prop where
  fr : Below w.heap.size w W
  b1 : Box W g1 99 #[.string ⟨#[120]⟩, .string ⟨#[112]⟩, .slice none 0 0]
  b2 : Box W g2 105 #[.int .i64 1, .string ⟨#[102, 46, 112]⟩, .string ⟨#[120, 43, 48]⟩, .int .i64 0, .string ⟨#[]⟩, .slice none 0 0]
  b3 : Box W g3 27 #[.slice (some ⟨g1, 0, none⟩) 1 1, .slice none 0 0, .slice (some ⟨g2, 0, none⟩) 1 1]
theorem BW.new (w : World) : BW w (((w.alloc (.cells #[.string ⟨#[120]⟩, .string ⟨#[112]⟩, .slice none 0 0] 99)).alloc (.cells #[.int .i64 1, .string ⟨#[102, 46, 112]⟩, .string ⟨#[120, 43, 48]⟩, .int .i64 0, .string ⟨#[]⟩, .slice none 0 0] 105)).alloc (.cells #[.slice (some ⟨w.heap.size, 0, none⟩) 1 1, .slice none 0 0, .slice (some ⟨w.heap.size + 1, 0, none⟩) 1 1] 27)) w.heap.size (w.heap.size + 1) (w.heap.size + 1 + 1) := by
  refine ⟨(((Fr.refl [] w).alloc _).alloc _ |>.alloc _).all, box_on (box_on (Box.new w _ _) (all_one _ _)) (all_one _ _), ?_, ?_⟩
  · have := Box.new (w.alloc (.cells #[.string ⟨#[120]⟩, .string ⟨#[112]⟩, .slice none 0 0] 99)) 105 #[.int .i64 1, .string ⟨#[102, 46, 112]⟩, .string ⟨#[120, 43, 48]⟩, .int .i64 0, .string ⟨#[]⟩, .slice none 0 0]
    rw [alloc_size] at this
    exact box_on this (all_one _ _)
  · have := Box.new ((w.alloc (.cells #[.string ⟨#[120]⟩, .string ⟨#[112]⟩, .slice none 0 0] 99)).alloc (.cells #[.int .i64 1, .string ⟨#[102, 46, 112]⟩, .string ⟨#[120, 43, 48]⟩, .int .i64 0, .string ⟨#[]⟩, .slice none 0 0] 105)) 27 #[.slice (some ⟨w.heap.size, 0, none⟩) 1 1, .slice none 0 0, .slice (some ⟨w.heap.size + 1, 0, none⟩) 1 1]
    rw [alloc_size, alloc_size] at this
    exact this

theorem b_of (w W : World) (g1 g2 g3 : Nat) (htab : Tab w) (h : BW w W g1 g2 g3) : Calls Tryz.prog 19 #[.agg #[.slice (some ⟨g1, 0, none⟩) 1 1, .slice none 0 0, .slice (some ⟨g2, 0, none⟩) 1 1]] W fun e w' => e = .returned (.agg #[.int .i64 2, .int .i64 0]) ∧ Below W.heap.size W w' := by
  have := of_any (bM g1 g2) W (bM_ok h.b1 h.b2) (tab_below htab h.fr)
  rw [show nodesZ (bM g1 g2).sys = 2 from bS_n, show consZ (bM g1 g2).sys = 0 from bS_k] at this
  exact this

set_option maxHeartbeats 4000000 in
set_option maxRecDepth 100000 in
theorem works_any (hz : HeldZ) (w : World) (htab : Tab w) : Calls Tryz.prog 23 #[] w (BPost true w) := by
  unfold BPost
  have HC := Lib.hid (fun W g1 g2 g3 h => b_of w W g1 g2 g3 htab h)
  have HFu := Lib.hid (fun W => fuel_any hz 2 0 W)
  have heq := fun W => hz.eq 2 0 2 0 W
  have hgu := hz.guard
  rw [fuel_2] at HFu
  unfold WPost szV at HFu
  unfold szV at heq
  rw [show sameZ 2 0 2 0 = true from rfl] at heq
  clear htab hz
  have X0 := Lib.hid (BW.new w)
  go_enter Tryz.func23, Tryz.ntmps23
  go_wp2_with fail
  generalize hW : World.alloc (World.alloc (World.alloc w _) _) _ = W at *
  clear hW
  generalize h2 : w.heap.size + 1 = g2 at *
  generalize h3 : g2 + 1 = g3 at *
  generalize h1 : w.heap.size = g1 at *
  refine (HC.out W g1 g2 g3 X0.out).mono ?_
  rintro e w1 ⟨rfl, b1⟩
  have B1 := Lib.hid (X0.out.fr.trans (b1.mono X0.out.fr.size))
  clear HC b1 X0
  go_wp2_with fail
  refine (HFu.out _).mono ?_
  rintro e w2 ⟨rfl, b2⟩
  have B2 := Lib.hid (B1.out.trans (b2.mono B1.out.size))
  clear HFu b2 B1
  go_wp2_with fail
  go_ret
  exact ⟨rfl, B2.out⟩
end Go.Proofs.YtdmmkjijgoiecaaGreatDoor.bd
