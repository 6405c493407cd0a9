/-
  Bits: Each, told to the law's list.
-/
import Derived.Test.YtnjaadcbpkbjbaaDoorBtM
import Derived.Test.YtnjaadcbpkbjbaaDoorBtJ
import Derived.Test.YtnjaadcbpkbjbaaDoorBtK
import Derived.Test.YtnjaadcbpkbjbaaDoorBtL
import Derived.Deep.RegionHeld3
namespace Go.Proofs.YtnjaadcbpkbjbaaDoor.bt
open Go.RowKit Go.Sort Go.Proofs.YtnjaadcbpkbjbaaDoor.mem

theorem sg_seg {sz : Nat} {w : World} {e t : TypeId} {A A2 : Option Addr} {cap cap2 n : Nat} {xs ys : List Value} (h : Sg sz w e A cap n xs) (k : Seg w t A2 cap2 ys) (hne : e ≠ t) : ∀ g ∈ blk A, g ∉ blk A2 := by
  intro g hg hm
  cases A with
  | none => cases hg
  | some a =>
    cases A2 with
    | none => cases hm
    | some b =>
      obtain ⟨_, cur, hc, _⟩ := h.ex a rfl
      obtain ⟨_, cur2, hc2, _⟩ := k.2.2.2 b rfl
      simp only [blk, List.mem_singleton] at hg hm
      rw [← hg, hm, hc2] at hc
      simp at hc
      exact hne hc.2.symm

/-- in the midst of a telling: what is told so far, and the blocks that are gone through -/
structure EI (w W : World) (g : Nat) (A2 A3 : Option Addr) (cap3 : Nat) (L : List Nat) (A1 : Option Addr) (cap1 : Nat) (B : List Blk) : Prop where
  lb : LB W g A3 cap3 L
  ba : BA W A1 cap1 B
  fr : Fr (g :: blk A2) w W
  own : ∀ q ∈ blk A3, q ∈ blk A2 ∨ w.heap.size ≤ q

theorem EI.kept {w W W' : World} {g : Nat} {A2 A3 : Option Addr} {cap3 : Nat} {L : List Nat} {A1 : Option Addr} {cap1 : Nat} {B : List Blk} (h : EI w W g A2 A3 cap3 L A1 cap1 B) (hf : Fr [] W W') : EI w W' g A2 A3 cap3 L A1 cap1 B :=
  ⟨⟨h.lb.box.kept hf (by simp), h.lb.seg.kept hf (by simp)⟩, h.ba.kept hf (by simp), h.fr.trans hf (fun q hq => Or.inl hq) (by simp), h.own⟩

theorem EI.add {w W W' : World} {g : Nat} {A2 A3 : Option Addr} {cap3 : Nat} {L : List Nat} {A1 : Option Addr} {cap1 : Nat} {B : List Blk} {n : Nat} {e : Ending} (h : EI w W g A2 A3 cap3 L A1 cap1 B) (hp : LPost W g A3 L n e W') :
    e = .returned (.bool true) ∧ (∀ p t cs, p ≠ g → t ≠ 3 → Box W p t cs → Box W' p t cs) ∧ ∃ A4 cap4, EI w W' g A2 A4 cap4 (L ++ [n]) A1 cap1 B := by
  obtain ⟨he, A4, cap4, hl, hf, ho⟩ := hp
  have hsz := h.fr.size
  have hng : ∀ q ∈ blk A1, q ∉ g :: blk A3 := fun q hq hm => by
    rcases List.mem_cons.1 hm with e | e
    · subst e
      exact sg_ne h.ba.sg h.lb.box (by decide) hq
    · exact sg_seg h.ba.sg h.lb.seg (by decide) q hq e
  refine ⟨he, fun p t cs hpg ht hb => hb.kept hf (fun hm => ?_), A4, cap4, hl, h.ba.kept hf hng, h.fr.trans hf (fun q hq => Or.inl hq) (fun q hq => ?_), fun q hq => ?_⟩
  · rcases List.mem_cons.1 hm with e | e
    · exact hpg e
    · exact h.lb.seg.ne_box hb (fun e => ht e.symm) e
  · rcases List.mem_cons.1 hq with e | e
    · exact Or.inl (by rw [e]; exact List.mem_cons_self)
    · exact (h.own q e).imp (fun h => List.mem_cons_of_mem _ h) id
  · rcases ho q hq with e | e
    · exact h.own q e
    · exact Or.inr (by omega)

theorem flat_take {B : List Blk} {k : Nat} (hk : k < B.length) : flat (B.take (k + 1)) = flat (B.take k) ++ bitsB B[k].1 B[k].2 := by
  unfold flat
  rw [List.take_succ_eq_append_getElem hk, List.flatMap_append, List.flatMap_cons, List.flatMap_nil, List.append_nil]

theorem tab_kept {F : List Nat} {w W : World} (h : TabB w) (hf : Fr F w W) (h0 : 0 ∉ F) : TabB W := fun j hj => by
  have hc := h j hj
  have h1 := h 0 (by decide)
  have hlt : 0 < w.heap.size := by
    rcases Nat.eq_zero_or_pos w.heap.size with e | e
    · have : w.heap[0]? = none := by rw [Array.getElem?_eq_none_iff]; omega
      simp [World.cell?, this] at h1
    · exact e
  exact (World.cell?_of_block (hf.block 0 hlt h0)).trans hc

theorem flat_take_len {B : List Blk} (k : Nat) : (flat (B.take k)).length ≤ (flat B).length := by
  have e : flat B = flat (B.take k) ++ flat (B.drop k) := by
    unfold flat
    rw [← List.flatMap_append, List.take_append_drop]
  rw [e, List.length_append]
  omega
theorem bitsB_zero (a : Nat) : bitsB a 0 = [] := by
  rw [List.eq_nil_iff_forall_not_mem]
  intro i hi
  simpa using (mem_bitsB.1 hi).2

def EPost (w : World) (g : Nat) (A2 : Option Addr) (L : List Nat) (e : Ending) (w' : World) : Prop := e = .returned (.tuple #[]) ∧ ∃ A3 cap3, LB w' g A3 cap3 L ∧ Fr (g :: blk A2) w w' ∧ ∀ q ∈ blk A3, q ∈ blk A2 ∨ w.heap.size ≤ q

set_option maxRecDepth 100000 in
set_option maxHeartbeats 2000000 in
theorem each1_list (w : World) (bs s g : Nat) (A A2 : Option Addr) (cap cap2 : Nat) (B : List Blk) (hbs : w.cell? ⟨bs, 0, none⟩ = some (.pointer (some ⟨s, 0, none⟩))) (h : SA w s A cap B) (hl : LB w g A2 cap2 []) (hT : TabB w) (hn : (flat B).length < 5000) (hg0 : 0 ∉ g :: blk A2) :
    Calls Tryd.prog 37 #[.func (.func 32) #[] #[.pointer (some ⟨g, 0, none⟩)], .pointer (some ⟨bs, 0, none⟩)] w (EPost w g A2 (flat B)) := by
  have KL := Lib.hid (list_any w s A cap B h)
  have KC := Lib.hid (cloneB_any w A cap B h.ba)
  have fin := Lib.hid (fun w' A3 cap3 A1 cap1 (hi : EI w w' g A2 A3 cap3 (flat B) A1 cap1 B) => show EPost w g A2 (flat B) (.returned (.tuple #[])) w' from ⟨rfl, A3, cap3, hi.lb, hi.fr, hi.own⟩)
  have HL := Lib.hid hl
  have hfew := h.ba.few
  clear h hl
  go_enter Tryd.func37, Tryd.ntmps37
  go_wp2_with fail
  refine KL.out.mono ?_
  rintro e w2 ⟨rfl, rfl⟩
  go_wp2_with fail
  refine KC.out.mono ?_
  rintro e w2 ⟨A1, cap1, rfl, hba, hb2, hf2⟩
  have HI0 := Lib.hid (show EI w w2 g A2 A2 cap2 [] A1 cap1 B from ⟨⟨HL.out.box.kept (Fr.of_below hb2 []) (by simp), HL.out.seg.kept (Fr.of_below hb2 []) (by simp)⟩, hba, Fr.of_below hb2 _, fun q hq => Or.inl hq⟩)
  clear hba hb2 hf2 KL KC hbs HL
  go_wp2_with fail
  go_loopw [10] (fun i wr => ∃ k A3 cap3, k ≤ B.length ∧ i = .int .i64 (k : Nat) ∧ Hid (EI w wr g A2 A3 cap3 (flat (B.take k)) A1 cap1 B)) (fun i _ => B.length - (intOf i).toNat)
  case atStart => exact ⟨0, A2, cap2, by omega, rfl, HI0⟩
  case round =>
    obtain ⟨k, A3, cap3, hk, rfl, hi⟩ := hrel
    clear HI0
    by_cases hkl : k < B.length
    · have e1 : decide ((k : Int) < (B.length : Int)) = true := decide_eq_true (by omega)
      obtain ⟨b, off, rfl, hblt, k0, k1⟩ := hi.out.ba.at_ hkl
      have hft := Lib.hid (flat_take hkl)
      have hok := hi.out.ba.ok.has B[k] (List.getElem_mem hkl)
      have hsm := hi.out.ba.small B[k] (List.getElem_mem hkl)
      have hkI : (k : Int) < (B.length : Int) := by omega
      generalize B[k] = x at *
      obtain ⟨xa, xh⟩ := x
      simp only at k0 k1 hok hsm
      have hlt0 := hi.out.lb.box.lt
      have hlen := Lib.hid (show (flat (B.take k) ++ bitsB xa xh).length ≤ (flat B).length from by rw [← hft.out]; exact flat_take_len _)
      have HI1 := Lib.hid (hi.out.kept ((Fr.refl [] wr).alloc (.cells #[.int .i64 (xa : Nat), .int .u64 (xh : Nat)] 53)))
      have BX1 := Lib.hid (Box.new wr 53 #[.int .i64 (xa : Nat), .int .u64 (xh : Nat)])
      have hpg : wr.heap.size ≠ g := by omega
      clear hi hlt0
      go_wp2_with fail
      clear k0 k1
      obtain ⟨W1, hW1⟩ : ∃ W1, Hid (W1 = wr.alloc (.cells #[.int .i64 (xa : Nat), .int .u64 (xh : Nat)] 53)) := ⟨_, Lib.hid rfl⟩
      rw [← hW1.out] at HI1 BX1 ⊢
      clear hW1
      obtain ⟨p, hp⟩ : ∃ p, p = wr.heap.size := ⟨_, rfl⟩
      rw [← hp] at BX1 hpg ⊢
      clear hp
      go_loopw [5] (fun r wr2 => ∃ (z : Nat) (D : List Nat) (A4 : Option Addr) (cap4 : Nat), z < 18446744073709551616 ∧ r = .int .u64 (z : Nat) ∧ Hid (D ++ bitsB xa z = flat (B.take k) ++ bitsB xa xh) ∧ Hid (EI w wr2 g A2 A4 cap4 D (some ⟨b, off, none⟩) cap1 B) ∧ Hid (Box wr2 p 53 #[.int .i64 (xa : Nat), .int .u64 (xh : Nat)])) (fun r _ => (intOf r).toNat)
      case atStart => exact ⟨xh, _, A3, cap3, hok.2, rfl, Lib.hid rfl, HI1, BX1⟩
      case round =>
        obtain ⟨z, D, A4, cap4, hz, rfl, hD, hi, hb⟩ := hrel
        clear HI1 BX1
        by_cases hz0 : z = 0
        · subst hz0
          have e2 : (((0 : Nat) : Int) != 0) = false := rfl
          have hD2 : Hid (flat (B.take (k + 1)) = D) := Lib.hid (by rw [hft.out, ← hD.out, bitsB_zero, List.append_nil])
          have HI2 : Hid (EI w _ g A2 A4 cap4 (flat (B.take (k + 1))) (some ⟨b, off, none⟩) cap1 B) := Lib.hid (by rw [hD2.out]; exact hi.out)
          clear hi hD hD2 hb
          go_wp2_with fail
          go_roundw
          case rel => exact ⟨k + 1, A4, cap4, by omega, by go_num, HI2⟩
          case measure => simp [intOf]; omega
        · have e2 : ((z : Int) != 0) = true := by simp only [bne_iff_ne, ne_eq]; omega
          obtain ⟨hlow, hdec⟩ := bitsB_low (a := xa) hz0 hz
          have hc64 := (Lib.lowest_bit 64 z hz0 hz).2
          have hi := Lib.hid (hi.out.kept ((Fr.refl [] _).drew))
          have hb := Lib.hid (hb.out.kept ((Fr.refl [] _).drew) (by simp))
          have KT := Lib.hid (tz_any z hz hz0 _ (tab_kept hT hi.out.fr hg0))
          have hDl : D.length + 1 < 5000 := by
            have h1 := congrArg List.length hD.out
            rw [hlow, List.length_append, List.length_cons] at h1
            have := hlen.out
            omega
          have hD2 : Hid ((D ++ [xa * 64 + Lib.ctz 64 z]) ++ bitsB xa (rst z) = flat (B.take k) ++ bitsB xa xh) := Lib.hid (by rw [← hD.out, hlow]; simp)
          have KY := Lib.hid (list1_any _ g A4 cap4 D (xa * 64 + Lib.ctz 64 z) hi.out.lb hDl)
          have hw1 : IntKind.u64.wrap ((z : Int) - 1) = ((z - 1 : Nat) : Int) := by rw [IntKind.wrap_u64]; omega
          have hw2 : bits .and .u64 (z : Int) ((z - 1 : Nat) : Int) = ((rst z : Nat) : Int) := bits_and_u64_nat z (z - 1) hz (by omega)
          generalize rst z = y at *
          generalize Lib.ctz 64 z = c at *
          have hm1 : IntKind.i64.wrap ((xa : Int) * 64) = ((xa * 64 : Nat) : Int) := by
            rw [show ((xa * 64 : Nat) : Int) = (xa : Int) * 64 by omega]
            exact IntWalk.i64_in _ (by omega)
          have hm2 : IntKind.i64.wrap (((xa * 64 : Nat) : Int) + (c : Int)) = ((xa * 64 + c : Nat) : Int) := by
            rw [show ((xa * 64 + c : Nat) : Int) = ((xa * 64 : Nat) : Int) + (c : Int) by omega]
            exact IntWalk.i64_in _ (by omega)
          have HS : World.cell? _ ⟨p, 0, none⟩ = some (.int .i64 (xa : Nat)) := hb.out.cell 0
          clear hlow hD hlen hft hok
          go_wp2_with fail
          refine wp_region_held_drew (S := fun W' => W'.cell? ⟨p, 0, none⟩ = some (.int .i64 (xa : Nat))) (by kernel_rfl) HS (fun _ => ?_)
          refine wpAnyH_take (i := 0) (v := (.func (.func 32) #[] #[.pointer (some ⟨g, 0, none⟩)])) rfl (by kernel_rfl) (by kernel_rfl) (by kernel_rfl) (fun _ _ _ h => h) (Or.inl ⟨by kernel_rfl, ?_⟩) HS ?_
          · intro W' hS
            go_simp
          try change wpAnyH _ _ _ _ _ _ _ (Act.put _ (some 22) _) _
          try simp only [Act.put, List.setIfInBounds_toArray, List.set_cons_zero, List.set_cons_succ]
          refine wpAnyH_take (i := 1) (v := (.pointer (some ⟨p, 0, none⟩))) rfl (by kernel_rfl) (by kernel_rfl) (by kernel_rfl) (fun _ _ _ h => h) (Or.inl ⟨by kernel_rfl, ?_⟩) HS ?_
          · intro W' hS
            go_simp
          try change wpAnyH _ _ _ _ _ _ _ (Act.put _ (some 23) _) _
          try simp only [Act.put, List.setIfInBounds_toArray, List.set_cons_zero, List.set_cons_succ]
          refine wpAnyH_take (i := 2) (v := (.int .i64 (xa : Nat))) rfl (by kernel_rfl) (by kernel_rfl) (by kernel_rfl) (fun _ _ _ h => h) (Or.inl ⟨by kernel_rfl, ?_⟩) HS ?_
          · intro W' hS
            go_simp
          try change wpAnyH _ _ _ _ _ _ _ (Act.put _ (some 24) _) _
          try simp only [Act.put, List.setIfInBounds_toArray, List.set_cons_zero, List.set_cons_succ]
          refine wpAnyH_take (i := 3) (v := (.int .i64 ((xa * 64 : Nat) : Int))) rfl (by kernel_rfl) (by kernel_rfl) (by kernel_rfl) (fun _ _ _ h => h) (Or.inl ⟨by kernel_rfl, ?_⟩) HS ?_
          · intro W' hS
            go_simp
          try change wpAnyH _ _ _ _ _ _ _ (Act.put _ (some 25) _) _
          try simp only [Act.put, List.setIfInBounds_toArray, List.set_cons_zero, List.set_cons_succ]
          refine wpAnyH_take (i := 4) (v := (.int .u64 (z : Nat))) rfl (by kernel_rfl) (by kernel_rfl) (by kernel_rfl) (fun _ _ _ h => h) (Or.inl ⟨by kernel_rfl, ?_⟩) HS ?_
          · intro W' hS
            go_simp
          try change wpAnyH _ _ _ _ _ _ _ (Act.put _ (some 26) _) _
          try simp only [Act.put, List.setIfInBounds_toArray, List.set_cons_zero, List.set_cons_succ]
          refine wpAnyH_ready (rs := [5]) (by kernel_rfl) (by simp) ?_
          refine AllReadyH.cons rfl (fun K hK => ?_) AllReadyH.nil
          go_simp
          refine KT.out.mono ?_
          rintro e w4 ⟨rfl, rfl⟩
          refine hK.out _ _ HS (fun _ => ?_)
          clear hK
          try simp only [Act.put, List.setIfInBounds_toArray, List.set_cons_zero, List.set_cons_succ]
          refine wpAnyH_take (i := 6) (v := (.int .i64 ((xa * 64 + c : Nat) : Int))) rfl (by kernel_rfl) (by kernel_rfl) (by kernel_rfl) (fun _ _ _ h => h) (Or.inl ⟨by kernel_rfl, ?_⟩) HS ?_
          · intro W' hS
            go_simp
            try exact IntWalk.i64_in _ (by omega)
          try change wpAnyH _ _ _ _ _ _ _ (Act.put _ (some 28) _) _
          try simp only [Act.put, List.setIfInBounds_toArray, List.set_cons_zero, List.set_cons_succ]
          refine wpAnyH_ready (rs := [7]) (by kernel_rfl) (by simp) ?_
          refine AllReadyH.cons rfl (fun K hK => ?_) AllReadyH.nil
          go_simp
          refine KY.out.mono ?_
          rintro e w5 hp
          obtain ⟨rfl, hbk, A5, cap5, hi5⟩ := hi.out.add hp
          have hb5 := Lib.hid (hbk p _ _ hpg (by decide) hb.out)
          have HI5 := Lib.hid hi5
          clear hp hi5 hbk HS
          have HS : w5.cell? ⟨p, 0, none⟩ = some (.int .i64 (xa : Nat)) := hb5.out.cell 0
          refine hK.out _ _ HS (fun _ => ?_)
          clear hK
          try simp only [Act.put, List.setIfInBounds_toArray, List.set_cons_zero, List.set_cons_succ]
          refine wpAnyH_take (i := 8) (v := (.bool false)) rfl (by kernel_rfl) (by kernel_rfl) (by kernel_rfl) (fun _ _ _ h => h) (Or.inl ⟨by kernel_rfl, ?_⟩) HS ?_
          · intro W' hS
            go_simp
          try change wpAnyH _ _ _ _ _ _ _ (Act.put _ (some 30) _) _
          try simp only [Act.put, List.setIfInBounds_toArray, List.set_cons_zero, List.set_cons_succ]
          refine wpAnyH_done (by kernel_rfl) ?_ _
          go_wp2_with fail
          go_roundw
          case rel => exact ⟨y, _, A5, cap5, by omega, rfl, hD2, HI5, hb5⟩
          case measure => simp [intOf]; omega
    · obtain rfl : k = B.length := by omega
      have e1 : decide ((B.length : Int) < (B.length : Int)) = false := decide_eq_false (by omega)
      rw [List.take_length] at hi
      have hp := Lib.hid (fin.out _ _ _ _ _ hi.out)
      clear hi
      go_wp2_with fail
      go_end0
      exact hp.out
end Go.Proofs.YtnjaadcbpkbjbaaDoor.bt
