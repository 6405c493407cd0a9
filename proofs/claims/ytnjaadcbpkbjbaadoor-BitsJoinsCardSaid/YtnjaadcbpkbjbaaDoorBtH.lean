/-
  Bits: Join: the walk.
-/
import Derived.Test.YtnjaadcbpkbjbaaDoorBtG
namespace Go.Proofs.YtnjaadcbpkbjbaaDoor.bt
open Go.RowKit Go.Shelf Go.Sort Go.Proofs.YtnjaadcbpkbjbaaDoor.mem

def JPost (w : World) (s : Nat) (A : Option Addr) (B C : List Blk) (e : Ending) (w' : World) : Prop := e = .returned (.int .i64 (misN (prs B C) : Nat)) ∧ ∃ A' cap', AP w s A (if 0 < misN (prs B C) then orB B C else B) w' A' cap'

theorem jp_store {w w2 w3 : World} {s : Nat} {A A3 : Option Addr} {cap cap3 : Nat} {B D : List Blk} (h : SA w s A cap B) (hb2 : Below w.heap.size w w2) (hb3 : Below w2.heap.size w2 w3) (hba : BA w3 A3 cap3 D) (hg : ∀ g ∈ blk A3, w2.heap.size ≤ g) :
    (w3.cell? ⟨s, 0, none⟩ = some (.slice A B.length cap) ∧ w3.frozen? ⟨s, 0, none⟩ = false) ∧ AP w s A D (w3.setCell ⟨s, 0, none⟩ (.slice A3 D.length cap3)) A3 cap3 := by
  have hb : Below w.heap.size w w3 := hb2.trans (hb3.mono hb2.size)
  have h3 := h.below hb
  have hs := h.box.lt
  have hset : Fr [s] w3 (w3.setCell ⟨s, 0, none⟩ (.slice A3 D.length cap3)) := (Fr.refl _ w3).setCell (Or.inl (by simp)) _
  have hn : ∀ g ∈ blk A3, g ∉ [s] := fun g hg' e => by
    rw [List.mem_singleton] at e
    have := hg g hg'
    have := hb2.size
    omega
  refine ⟨⟨h3.box.cell 0, h3.box.free 0⟩, ⟨⟨?_, hba.kept hset hn⟩, (Fr.of_below hb (s :: blk A)).trans hset (fun g hg => Or.inl hg) (fun g hg => Or.inl (by rw [List.mem_singleton] at hg; subst hg; exact List.mem_cons_self)), fun g hg' => Or.inr (Nat.le_trans hb2.size (hg g hg'))⟩⟩
  have := h3.box.put 0 (.slice A3 D.length cap3)
  exact this

set_option maxRecDepth 100000 in
set_option maxHeartbeats 2000000 in
theorem join_any (w : World) (s s2 : Nat) (A A2 : Option Addr) (cap cap2 : Nat) (B C : List Blk) (h : SA w s A cap B) (k : SA w s2 A2 cap2 C) :
    Calls Tryd.prog 7 #[.pointer (some ⟨s, 0, none⟩), .pointer (some ⟨s2, 0, none⟩)] w (JPost w s A B C) := by
  have KM := Lib.hid (missing_any w s s2 A A2 cap cap2 B C h k)
  rw [misZ_eq h.ba.ok k.ba.ok] at KM
  have H := Lib.hid h
  have HK := Lib.hid k
  have fin := Lib.hid (fun w' A' cap' (hap : AP w s A (if 0 < misN (prs B C) then orB B C else B) w' A' cap') => show JPost w s A B C (.returned (.int .i64 (misN (prs B C) : Nat))) w' from ⟨rfl, A', cap', hap⟩)
  clear h k
  generalize misN (prs B C) = m at *
  go_enter Tryd.func7, Tryd.ntmps7
  go_wp2_with fail
  refine KM.out.mono ?_
  rintro e w2 ⟨rfl, hb2⟩
  clear KM
  have HB2 := Lib.hid hb2
  have H2 := Lib.hid (H.out.below hb2)
  have K2 := Lib.hid (HK.out.below hb2)
  by_cases hm : 0 < m
  · have e1 : decide ((0 : Int) < (m : Int)) = true := decide_eq_true (by omega)
    have HBd := Lib.hid (HB2.out.trans ((Below.drew (Below.refl w2.heap.size w2)).mono hb2.size))
    have Hd := Lib.hid (H.out.below HBd.out)
    have Kd := Lib.hid (HK.out.below HBd.out)
    have KL := Lib.hid (list_any w2.drew s2 A2 cap2 C Kd.out)
    have KG := Lib.hid (merged_any w2.drew A A2 cap cap2 B C Hd.out.ba Kd.out.ba)
    have c0 : w2.drew.cell? ⟨s, 0, none⟩ = some (.slice A B.length cap) := Hd.out.box.cell 0
    clear hb2
    go_wp2_with fail
    refine wp_region_held_drew (S := fun _ => True) (by kernel_rfl) trivial (fun _ => ?_)
    refine wpAnyH_take (i := 0) (v := (.pointer (some ⟨s, 0, none⟩))) rfl (by kernel_rfl) (by kernel_rfl) (by kernel_rfl) (fun _ _ _ h => h) (Or.inl ⟨by kernel_rfl, ?_⟩) trivial ?_
    · intro W' _
      go_simp
    try change wpAnyH _ _ _ _ _ _ _ (Act.put _ (some 13) _) _
    try simp only [Act.put, List.setIfInBounds_toArray, List.set_cons_zero, List.set_cons_succ]
    refine wpAnyH_take (i := 1) (v := (.pointer (some ⟨s, 0, none⟩))) rfl (by kernel_rfl) (by kernel_rfl) (by kernel_rfl) (fun _ _ _ h => h) (Or.inl ⟨by kernel_rfl, ?_⟩) trivial ?_
    · intro W' _
      go_simp
    try change wpAnyH _ _ _ _ _ _ _ (Act.put _ (some 14) _) _
    try simp only [Act.put, List.setIfInBounds_toArray, List.set_cons_zero, List.set_cons_succ]
    refine wpAnyH_take (i := 2) (v := (.pointer (some ⟨s, 0, none⟩))) rfl (by kernel_rfl) (by kernel_rfl) (by kernel_rfl) (fun _ _ _ h => h) (Or.inl ⟨by kernel_rfl, ?_⟩) trivial ?_
    · intro W' _
      go_simp
    try change wpAnyH _ _ _ _ _ _ _ (Act.put _ (some 15) _) _
    try simp only [Act.put, List.setIfInBounds_toArray, List.set_cons_zero, List.set_cons_succ]
    refine wpAnyH_take (i := 3) (v := (.pointer (some ⟨s, 0, none⟩))) rfl (by kernel_rfl) (by kernel_rfl) (by kernel_rfl) (fun _ _ _ h => h) (Or.inl ⟨by kernel_rfl, ?_⟩) trivial ?_
    · intro W' _
      go_simp
    try change wpAnyH _ _ _ _ _ _ _ (Act.put _ (some 16) _) _
    try simp only [Act.put, List.setIfInBounds_toArray, List.set_cons_zero, List.set_cons_succ]
    refine wpAnyH_take (i := 5) (v := (.pointer (some ⟨s2, 0, none⟩))) rfl (by kernel_rfl) (by kernel_rfl) (by kernel_rfl) (fun _ _ _ h => h) (Or.inl ⟨by kernel_rfl, ?_⟩) trivial ?_
    · intro W' _
      go_simp
    try change wpAnyH _ _ _ _ _ _ _ (Act.put _ (some 18) _) _
    try simp only [Act.put, List.setIfInBounds_toArray, List.set_cons_zero, List.set_cons_succ]
    refine wpAnyH_ready (rs := [4, 6]) (by kernel_rfl) (by simp) ?_
    refine AllReadyH.cons rfl (fun K hK => ?_) (AllReadyH.cons rfl (fun K hK => ?_) AllReadyH.nil)
    · go_simp
      refine hK.out _ _ trivial (fun _ => ?_)
      clear hK
      try simp only [Act.put, List.setIfInBounds_toArray, List.set_cons_zero, List.set_cons_succ]
      refine wpAnyH_ready (rs := [6]) (by kernel_rfl) (by simp) ?_
      refine AllReadyH.cons rfl (fun K hK => ?_) AllReadyH.nil
      go_simp
      refine KL.out.mono ?_
      rintro e w4 ⟨rfl, rfl⟩
      refine hK.out _ _ trivial (fun _ => ?_)
      clear hK
      try simp only [Act.put, List.setIfInBounds_toArray, List.set_cons_zero, List.set_cons_succ]
      refine wpAnyH_ready (rs := [7]) (by kernel_rfl) (by simp) ?_
      refine AllReadyH.cons rfl (fun K hK => ?_) AllReadyH.nil
      go_simp
      refine KG.out.mono ?_
      rintro e w3 ⟨A3, cap3, rfl, hb3, hba3, hg3⟩
      have hj := Lib.hid (jp_store H.out HBd.out hb3 hba3 hg3)
      have c3 := hj.out.1.1
      have f3 := hj.out.1.2
      clear hb3 hba3 hg3
      refine hK.out _ _ trivial (fun _ => ?_)
      clear hK
      try simp only [Act.put, List.setIfInBounds_toArray, List.set_cons_zero, List.set_cons_succ]
      refine wpAnyH_take (i := 8) (v := (.pointer (some ⟨s, 0, none⟩))) rfl (by kernel_rfl) (by kernel_rfl) (by kernel_rfl) (fun _ _ _ h => h) (Or.inl ⟨by kernel_rfl, ?_⟩) trivial ?_
      · intro W' _
        go_simp
      try change wpAnyH _ _ _ _ _ _ _ (Act.put _ (some 21) _) _
      try simp only [Act.put, List.setIfInBounds_toArray, List.set_cons_zero, List.set_cons_succ]
      refine wpAnyH_take (i := 9) (v := (.pointer (some ⟨s, 0, none⟩))) rfl (by kernel_rfl) (by kernel_rfl) (by kernel_rfl) (fun _ _ _ h => h) (Or.inl ⟨by kernel_rfl, ?_⟩) trivial ?_
      · intro W' _
        go_simp
      try change wpAnyH _ _ _ _ _ _ _ (Act.put _ (some 22) _) _
      try simp only [Act.put, List.setIfInBounds_toArray, List.set_cons_zero, List.set_cons_succ]
      refine wpAnyH_ready (rs := [10]) (by kernel_rfl) (by simp) ?_
      refine AllReadyH.cons rfl (fun K hK => ?_) AllReadyH.nil
      go_simp
      refine hK.out _ _ trivial (fun _ => ?_)
      clear hK
      refine wpAnyH_done (by kernel_rfl) ?_ _
      have hap := Lib.hid (fin.out _ A3 cap3 (by rw [if_pos hm]; exact hj.out.2))
      clear c3 f3 hj
      go_wp2_with fail
      go_ret
      exact hap.out
    · go_simp
      refine KL.out.mono ?_
      rintro e w4 ⟨rfl, rfl⟩
      refine hK.out _ _ trivial (fun _ => ?_)
      clear hK
      try simp only [Act.put, List.setIfInBounds_toArray, List.set_cons_zero, List.set_cons_succ]
      refine wpAnyH_ready (rs := [4]) (by kernel_rfl) (by simp) ?_
      refine AllReadyH.cons rfl (fun K hK => ?_) AllReadyH.nil
      go_simp
      refine hK.out _ _ trivial (fun _ => ?_)
      clear hK
      try simp only [Act.put, List.setIfInBounds_toArray, List.set_cons_zero, List.set_cons_succ]
      refine wpAnyH_ready (rs := [7]) (by kernel_rfl) (by simp) ?_
      refine AllReadyH.cons rfl (fun K hK => ?_) AllReadyH.nil
      go_simp
      refine KG.out.mono ?_
      rintro e w3 ⟨A3, cap3, rfl, hb3, hba3, hg3⟩
      have hj := Lib.hid (jp_store H.out HBd.out hb3 hba3 hg3)
      have c3 := hj.out.1.1
      have f3 := hj.out.1.2
      clear hb3 hba3 hg3
      refine hK.out _ _ trivial (fun _ => ?_)
      clear hK
      try simp only [Act.put, List.setIfInBounds_toArray, List.set_cons_zero, List.set_cons_succ]
      refine wpAnyH_take (i := 8) (v := (.pointer (some ⟨s, 0, none⟩))) rfl (by kernel_rfl) (by kernel_rfl) (by kernel_rfl) (fun _ _ _ h => h) (Or.inl ⟨by kernel_rfl, ?_⟩) trivial ?_
      · intro W' _
        go_simp
      try change wpAnyH _ _ _ _ _ _ _ (Act.put _ (some 21) _) _
      try simp only [Act.put, List.setIfInBounds_toArray, List.set_cons_zero, List.set_cons_succ]
      refine wpAnyH_take (i := 9) (v := (.pointer (some ⟨s, 0, none⟩))) rfl (by kernel_rfl) (by kernel_rfl) (by kernel_rfl) (fun _ _ _ h => h) (Or.inl ⟨by kernel_rfl, ?_⟩) trivial ?_
      · intro W' _
        go_simp
      try change wpAnyH _ _ _ _ _ _ _ (Act.put _ (some 22) _) _
      try simp only [Act.put, List.setIfInBounds_toArray, List.set_cons_zero, List.set_cons_succ]
      refine wpAnyH_ready (rs := [10]) (by kernel_rfl) (by simp) ?_
      refine AllReadyH.cons rfl (fun K hK => ?_) AllReadyH.nil
      go_simp
      refine hK.out _ _ trivial (fun _ => ?_)
      clear hK
      refine wpAnyH_done (by kernel_rfl) ?_ _
      have hap := Lib.hid (fin.out _ A3 cap3 (by rw [if_pos hm]; exact hj.out.2))
      clear c3 f3 hj
      go_wp2_with fail
      go_ret
      exact hap.out
  · have e1 : decide ((0 : Int) < (m : Int)) = false := decide_eq_false (by omega)
    have hap := Lib.hid (fin.out w2 A cap ⟨by rw [if_neg hm]; exact H2.out, Fr.of_below hb2 _, fun g hg => Or.inl hg⟩)
    clear hb2
    go_wp2_with fail
    go_ret
    exact hap.out
end Go.Proofs.YtnjaadcbpkbjbaaDoor.bt
