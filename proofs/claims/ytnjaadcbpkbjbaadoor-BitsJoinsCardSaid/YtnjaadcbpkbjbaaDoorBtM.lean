/-
  Bits: slices.Clone of blocks.
-/
import Derived.Test.YtnjaadcbpkbjbaaDoorBtG
import Derived.Maps.AppendAt
import Derived.Lib.SliceRun
namespace Go.Proofs.YtnjaadcbpkbjbaaDoor.bt
open Go.RowKit Go.Sort Go.Proofs.YtnjaadcbpkbjbaaDoor.mem

theorem sg_of_own {w : World} {base n sz : Nat} {e : TypeId} {v : Value} {xs : List Value} (h : w.ownsRow base e sz v n xs) : ∃ A cap, v = .slice A n cap ∧ Sg sz w e A cap n xs ∧ ∀ g ∈ blk A, base ≤ g := by
  have hl := h.1
  rcases h.2 with ⟨rfl, rfl⟩ | ⟨g, cap, cur, rfl, hb, hc, hn, hm, hs, ht⟩
  · rw [Nat.zero_mul] at hl
    obtain rfl := List.eq_nil_of_length_eq_zero hl
    exact ⟨none, 0, rfl, Sg.new _ _ _, by simp [blk]⟩
  · refine ⟨_, cap, rfl, ⟨hl, hn, hm, fun hn => (by cases hn), fun a ha => ?_⟩, by simpa [blk] using hb⟩
    cases ha
    refine ⟨rfl, cur, hc, by show 0 + cap * sz ≤ _; omega, fun j u hu => ?_⟩
    have hj := (List.getElem?_eq_some_iff.1 hu).1
    rw [← ht, List.getElem?_take, if_pos (by omega)] at hu
    show cur[0 + j]? = _
    rw [Nat.zero_add]
    simpa using hu

def CPost (w : World) (B : List Blk) (e : Ending) (w' : World) : Prop := ∃ A' cap', e = .returned (.slice A' B.length cap') ∧ BA w' A' cap' B ∧ Below w.heap.size w w' ∧ ∀ g ∈ blk A', w.heap.size ≤ g

theorem own_empty (w : World) (e : TypeId) : (w.alloc (.cells #[] e)).ownsRow w.heap.size e 2 (.slice (some ⟨w.heap.size, 0, none⟩) 0 0) 0 [] :=
  ⟨rfl, Or.inr ⟨w.heap.size, 0, #[], rfl, Nat.le_refl _, heap_alloc_new w _, Nat.le_refl _, Nat.zero_le _, rfl, rfl⟩⟩

set_option maxRecDepth 100000 in
theorem cloneB_any (w : World) (A : Option Addr) (cap : Nat) (B : List Blk) (h : BA w A cap B) :
    Calls Tryd.prog 38 #[.slice A B.length cap] w (CPost w B) := by
  cases A with
  | none =>
    have hc0 := h.sg.nil rfl
    have hl0 := h.sg.le
    obtain rfl : B = [] := List.length_eq_zero_iff.1 (by omega)
    have fin := Lib.hid (show CPost w [] (.returned (.slice none 0 0)) w from ⟨none, 0, rfl, by rw [← hc0]; exact h, Below.refl _ _, by simp [blk]⟩)
    have hnil : ∀ w, (binOp .eql 24 (.slice none 0 0) (.slice none 0 0)).run Tryd.prog w = .ok (.bool true) w := fun w => by rw [Lib.run_eql_slice_nil w _ _ _ _ _ _ _ Tryd.underlying24]; rfl
    clear h hl0
    subst hc0
    go_enter Tryd.func38, Tryd.ntmps38
    go_wp2_with fail
    go_ret
    exact fin.out
  | some a =>
    obtain ⟨hsp, cur, hc, _, hcs⟩ := h.sg.ex a rfl
    obtain ⟨b, off, sp⟩ := a
    simp only at hsp hc hcs
    subst hsp
    have hblt := (Array.getElem?_eq_some_iff.1 hc).1
    have hnews := Lib.hid (fun j u (hu : (blksV B)[j]? = some u) => show (w.alloc (.cells #[] 53)).cell? ((⟨b, off, none⟩ : Addr).add j) = some u from by
      have e1 : (⟨b, off, none⟩ : Addr).add j = ⟨b, off + j, none⟩ := by unfold Addr.add; split <;> simp_all
      have e2 : (w.alloc (.cells #[] 53)).heap[b]? = some (.cells cur 53 (0, 0)) := (Below.heap_alloc _ _ _ hblt).trans hc
      rw [e1]
      simp [World.cell?, e2, hcs j u hu])
    have hlen := Lib.hid (blks_len B)
    have hone := Lib.hid (blksV_one B)
    have hfew := h.few
    obtain ⟨i0, hi0, hz0, hz1, hz2⟩ := info_parts info_blk
    have Hi := Lib.hid hi0
    have Hz0 := Lib.hid hz0
    have Hz1 := Lib.hid hz1
    have Hz2 := Lib.hid hz2
    have fin := Lib.hid (fun v' w' (ho : w'.ownsRow w.heap.size 53 2 v' (0 + B.length) ([] ++ blksV B)) (hg : (w.alloc (.cells #[] 53)).grownBy w' (Value.slice (some ⟨w.heap.size, 0, none⟩) 0 0).ownBlock) => show CPost w B (.returned v') w' from by
      rw [Nat.zero_add, List.nil_append] at ho
      obtain ⟨A', cap', rfl, hs, hg'⟩ := sg_of_own ho
      have hb1 : Below w.heap.size w (w.alloc (.cells #[] 53)) := (Below.refl _ w).alloc (Nat.le_refl _) _
      exact ⟨A', cap', rfl, ⟨hs, h.ok, h.few, h.small⟩, hb1.grown hg (by simp) (fun k e => by simp [Value.ownBlock] at e; omega), hg'⟩)
    have hnil : ∀ w, (binOp .eql 24 (.slice (some ⟨b, off, none⟩) B.length cap) (.slice none 0 0)).run Tryd.prog w = .ok (.bool false) w := fun w => by rw [Lib.run_eql_slice_nil w _ _ _ _ _ _ _ Tryd.underlying24]; rfl
    clear h hi0 hz0 hz1 hz2 hc hcs
    go_enter Tryd.func38, Tryd.ntmps38
    go_wp2_with (at_builtin
                 refine wpList_append_own_at _ rfl (.tmp 5) (.tmp 6) _ rfl w.heap.size 53 _ _ 2 16 Tryd.underlying24 Hi.out Hz0.out Hz1.out Hz2.out rfl (by omega) _ 0 [] rfl (own_empty w _) ⟨b, off, none⟩ B.length cap (blksV B) rfl hlen.out hnews.out hone.out (by unfold maxLen; omega) (by omega) (by simp) ?_
                 intro v' w' ho hg _ _
                 have hfin := Lib.hid (fin.out v' w' ho hg)
                 clear ho hg)
    go_ret
    exact hfin.out
end Go.Proofs.YtnjaadcbpkbjbaaDoor.bt
