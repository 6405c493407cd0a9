/-
  Bits: Each, told to the law's counting closure.
-/
import Derived.Test.YtnjaadcbpkbjbaaDoorBtN
import Derived.Test.YtnjaadcbpkbjbaaDoorBtL2
namespace Go.Proofs.YtnjaadcbpkbjbaaDoor.bt
open Go.RowKit Go.Sort Go.Proofs.YtnjaadcbpkbjbaaDoor.mem

/-- what the closure counts -/
structure TB (w : World) (g h t st : Nat) : Prop where
  bg : Box w g 3 #[.int .i64 (t : Nat)]
  bh : Box w h 3 #[.int .i64 (st : Nat)]
  ne : g ≠ h
def TPost (w : World) (g h t st : Nat) (e : Ending) (w' : World) : Prop := e = .returned (.bool (decide (t + 1 ≤ st))) ∧ TB w' g h (t + 1) st ∧ Fr [g] w w'

theorem tb_add {w : World} {g h t st : Nat} (hb : TB w g h t st) (e : Ending) (he : e = .returned (.bool (decide (t + 1 ≤ st)))) : TPost w g h t st e (w.setCell ⟨g, 0, none⟩ (.int .i64 ((t + 1 : Nat) : Int))) := by
  have hf : Fr [g] w (w.setCell ⟨g, 0, none⟩ (.int .i64 ((t + 1 : Nat) : Int))) := (Fr.refl _ w).setCell (Or.inl (by simp)) _
  exact ⟨he, ⟨hb.bg.put 0 _, hb.bh.kept hf (by simpa using fun e => hb.ne e.symm), hb.ne⟩, hf⟩

set_option maxRecDepth 100000 in
theorem count1_any (w : World) (g h t st : Nat) (n : Nat) (hb : TB w g h t st) (ht : t < 100) :
    Calls Tryd.prog 22 #[.int .i64 (n : Nat), .pointer (some ⟨g, 0, none⟩), .pointer (some ⟨h, 0, none⟩)] w (TPost w g h t st) := by
  have c0 : w.cell? ⟨g, 0, none⟩ = some (.int .i64 (t : Nat)) := hb.bg.cell 0
  have f0 : w.frozen? ⟨g, 0, none⟩ = false := hb.bg.free 0
  have hp := fun e he => tb_add hb e he
  have c1 : (w.setCell ⟨g, 0, none⟩ (.int .i64 ((t + 1 : Nat) : Int))).cell? ⟨g, 0, none⟩ = some (.int .i64 ((t + 1 : Nat) : Int)) := (hp _ rfl).2.1.bg.cell 0
  have c2 : (w.setCell ⟨g, 0, none⟩ (.int .i64 ((t + 1 : Nat) : Int))).cell? ⟨h, 0, none⟩ = some (.int .i64 (st : Nat)) := (hp _ rfl).2.1.bh.cell 0
  have HP := Lib.hid hp
  have hw : IntKind.i64.wrap ((t : Int) + 1) = ((t + 1 : Nat) : Int) := by
    rw [show ((t + 1 : Nat) : Int) = (t : Int) + 1 by omega]
    exact IntWalk.i64_in _ (by omega)
  have hd : decide (((t + 1 : Nat) : Int) ≤ (st : Int)) = decide (t + 1 ≤ st) := by
    by_cases h : t + 1 ≤ st
    · rw [decide_eq_true h, decide_eq_true (by omega)]
    · rw [decide_eq_false h, decide_eq_false (by omega)]
  clear hb hp
  obtain ⟨q, hq⟩ : ∃ q, Hid (decide (t + 1 ≤ st) = q) := ⟨_, Lib.hid rfl⟩
  rw [hq.out] at hd
  generalize t + 1 = t1 at *
  go_enter Tryd.func22, Tryd.ntmps22
  go_wp2_with fail
  go_ret
  exact HP.out _ (by rw [hq.out]; rfl)

/-- in the midst of a telling -/
structure EC (w W : World) (g h t st : Nat) (A1 : Option Addr) (cap1 : Nat) (B : List Blk) : Prop where
  tb : TB W g h t st
  ba : BA W A1 cap1 B
  fr : Fr [g] w W
theorem EC.kept {w W W' : World} {g h t st : Nat} {A1 : Option Addr} {cap1 : Nat} {B : List Blk} (k : EC w W g h t st A1 cap1 B) (hf : Fr [] W W') : EC w W' g h t st A1 cap1 B :=
  ⟨⟨k.tb.bg.kept hf (by simp), k.tb.bh.kept hf (by simp), k.tb.ne⟩, k.ba.kept hf (by simp), k.fr.trans hf (fun q hq => Or.inl hq) (by simp)⟩
theorem EC.add {w W W' : World} {g h t st : Nat} {A1 : Option Addr} {cap1 : Nat} {B : List Blk} {e : Ending} (k : EC w W g h t st A1 cap1 B) (hp : TPost W g h t st e W') :
    e = .returned (.bool (decide (t + 1 ≤ st))) ∧ (∀ p t cs, p ≠ g → Box W p t cs → Box W' p t cs) ∧ EC w W' g h (t + 1) st A1 cap1 B := by
  obtain ⟨he, hb, hf⟩ := hp
  exact ⟨he, fun p t cs hpg hbx => hbx.kept hf (by simpa using hpg), hb, k.ba.kept hf (fun q hq hm => by
    rw [List.mem_singleton] at hm
    subst hm
    exact sg_ne k.ba.sg k.tb.bg (by decide) hq), k.fr.trans hf (fun q hq => Or.inl hq) (fun q hq => Or.inl hq)⟩

/-- all was told, or as many as were asked for, and one more -/
def CtPost (w : World) (g h st : Nat) (L : List Nat) (e : Ending) (w' : World) : Prop := e = .returned (.tuple #[]) ∧ TB w' g h (min (st + 1) L.length) st ∧ Fr [g] w w'

set_option maxRecDepth 100000 in
set_option maxHeartbeats 2000000 in
theorem each1_count (w : World) (bs s g h st : Nat) (A : Option Addr) (cap : Nat) (B : List Blk) (hbs : w.cell? ⟨bs, 0, none⟩ = some (.pointer (some ⟨s, 0, none⟩))) (hh : SA w s A cap B) (hl : TB w g h 0 st) (hT : TabB w) (hst : st < 20) (hg0 : 0 ∉ [g]) :
    Calls Tryd.prog 37 #[.func (.func 22) #[] #[.pointer (some ⟨g, 0, none⟩), .pointer (some ⟨h, 0, none⟩)], .pointer (some ⟨bs, 0, none⟩)] w (CtPost w g h st (flat B)) := by
  have KL := Lib.hid (list_any w s A cap B hh)
  have KC := Lib.hid (cloneB_any w A cap B hh.ba)
  have fin := Lib.hid (fun w' t A1 cap1 (ht : t = min (st + 1) (flat B).length) (hi : EC w w' g h t st A1 cap1 B) => show CtPost w g h st (flat B) (.returned (.tuple #[])) w' from ⟨rfl, by rw [← ht]; exact hi.tb, hi.fr⟩)
  have HL := Lib.hid hl
  have hfew := hh.ba.few
  clear hh hl
  go_enter Tryd.func37, Tryd.ntmps37
  go_wp2_with fail
  refine KL.out.mono ?_
  rintro e w2 ⟨rfl, rfl⟩
  go_wp2_with fail
  refine KC.out.mono ?_
  rintro e w2 ⟨A1, cap1, rfl, hba, hb2, hf2⟩
  have HI0 := Lib.hid (show EC w w2 g h 0 st A1 cap1 B from ⟨⟨HL.out.bg.kept (Fr.of_below hb2 []) (by simp), HL.out.bh.kept (Fr.of_below hb2 []) (by simp), HL.out.ne⟩, hba, Fr.of_below hb2 _⟩)
  clear hba hb2 hf2 KL KC hbs HL
  go_wp2_with fail
  go_loopw [10] (fun i wr => ∃ k t, k ≤ B.length ∧ t ≤ st ∧ i = .int .i64 (k : Nat) ∧ Hid ((flat (B.take k)).length = t) ∧ Hid (EC w wr g h t st A1 cap1 B)) (fun i _ => B.length - (intOf i).toNat)
  case atStart => exact ⟨0, 0, by omega, by omega, rfl, Lib.hid (by simp [flat]), HI0⟩
  case round =>
    obtain ⟨k, t, hk, ht, rfl, hfl, hi⟩ := hrel
    clear HI0
    by_cases hkl : k < B.length
    · have e1 : decide ((k : Int) < (B.length : Int)) = true := decide_eq_true (by omega)
      obtain ⟨b, off, rfl, hblt, k0, k1⟩ := hi.out.ba.at_ hkl
      have hft := Lib.hid (flat_take hkl)
      have hok := hi.out.ba.ok.has B[k] (List.getElem_mem hkl)
      have hsm := hi.out.ba.small B[k] (List.getElem_mem hkl)
      have hkI : (k : Int) < (B.length : Int) := by omega
      generalize B[k] = x at *
      obtain ⟨xa, xh⟩ := x
      simp only at k0 k1 hok hsm
      have hlt0 := hi.out.tb.bg.lt
      have hlen := Lib.hid (show (flat (B.take k) ++ bitsB xa xh).length ≤ (flat B).length from by rw [← hft.out]; exact flat_take_len _)
      have HI1 := Lib.hid (hi.out.kept ((Fr.refl [] wr).alloc (.cells #[.int .i64 (xa : Nat), .int .u64 (xh : Nat)] 53)))
      have BX1 := Lib.hid (Box.new wr 53 #[.int .i64 (xa : Nat), .int .u64 (xh : Nat)])
      have hpg : wr.heap.size ≠ g := by omega
      clear hi hlt0
      go_wp2_with fail
      clear k0 k1
      obtain ⟨W1, hW1⟩ : ∃ W1, Hid (W1 = wr.alloc (.cells #[.int .i64 (xa : Nat), .int .u64 (xh : Nat)] 53)) := ⟨_, Lib.hid rfl⟩
      rw [← hW1.out] at HI1 BX1 ⊢
      clear hW1
      obtain ⟨p, hp⟩ : ∃ p, p = wr.heap.size := ⟨_, rfl⟩
      rw [← hp] at BX1 hpg ⊢
      clear hp
      go_loopw [5] (fun r wr2 => ∃ (z : Nat) (D : List Nat) (t : Nat), z < 18446744073709551616 ∧ t ≤ st ∧ r = .int .u64 (z : Nat) ∧ Hid (D.length = t) ∧ Hid (D ++ bitsB xa z = flat (B.take k) ++ bitsB xa xh) ∧ Hid (EC w wr2 g h t st (some ⟨b, off, none⟩) cap1 B) ∧ Hid (Box wr2 p 53 #[.int .i64 (xa : Nat), .int .u64 (xh : Nat)])) (fun r _ => (intOf r).toNat)
      case atStart => exact ⟨xh, _, t, hok.2, ht, rfl, hfl, Lib.hid rfl, HI1, BX1⟩
      case round =>
        clear hfl ht
        obtain ⟨z, D, t, hz, ht, rfl, hfl, hD, hi, hb⟩ := hrel
        clear HI1 BX1
        by_cases hz0 : z = 0
        · subst hz0
          have e2 : (((0 : Nat) : Int) != 0) = false := rfl
          have hD2 : Hid (flat (B.take (k + 1)) = D) := Lib.hid (by rw [hft.out, ← hD.out, bitsB_zero, List.append_nil])
          have HF2 : Hid ((flat (B.take (k + 1))).length = t) := Lib.hid (by rw [hD2.out]; exact hfl.out)
          have HI2 := Lib.hid hi.out
          clear hi hD hD2 hb hfl
          go_wp2_with fail
          go_roundw
          case rel => exact ⟨k + 1, t, by omega, ht, by go_num, HF2, HI2⟩
          case measure => simp [intOf]; omega
        · have e2 : ((z : Int) != 0) = true := by simp only [bne_iff_ne, ne_eq]; omega
          obtain ⟨hlow, hdec⟩ := bitsB_low (a := xa) hz0 hz
          have hc64 := (Lib.lowest_bit 64 z hz0 hz).2
          have hi := Lib.hid (hi.out.kept ((Fr.refl [] _).drew))
          have hb := Lib.hid (hb.out.kept ((Fr.refl [] _).drew) (by simp))
          have KT := Lib.hid (tz_any z hz hz0 _ (tab_kept hT hi.out.fr hg0))
          have hDl : Hid (D.length + 1 ≤ (flat B).length) := Lib.hid (by
            have h1 := congrArg List.length hD.out
            rw [hlow, List.length_append, List.length_cons] at h1
            have := hlen.out
            omega)
          have hD2 : Hid ((D ++ [xa * 64 + Lib.ctz 64 z]) ++ bitsB xa (rst z) = flat (B.take k) ++ bitsB xa xh) := Lib.hid (by rw [← hD.out, hlow]; simp)
          have KY := Lib.hid (count1_any _ g h t st (xa * 64 + Lib.ctz 64 z) hi.out.tb (by omega))
          have hw1 : IntKind.u64.wrap ((z : Int) - 1) = ((z - 1 : Nat) : Int) := by rw [IntKind.wrap_u64]; omega
          have hw2 : bits .and .u64 (z : Int) ((z - 1 : Nat) : Int) = ((rst z : Nat) : Int) := bits_and_u64_nat z (z - 1) hz (by omega)
          generalize rst z = y at *
          generalize Lib.ctz 64 z = c at *
          have hm1 : IntKind.i64.wrap ((xa : Int) * 64) = ((xa * 64 : Nat) : Int) := by
            rw [show ((xa * 64 : Nat) : Int) = (xa : Int) * 64 by omega]
            exact IntWalk.i64_in _ (by omega)
          have hm2 : IntKind.i64.wrap (((xa * 64 : Nat) : Int) + (c : Int)) = ((xa * 64 + c : Nat) : Int) := by
            rw [show ((xa * 64 + c : Nat) : Int) = ((xa * 64 : Nat) : Int) + (c : Int) by omega]
            exact IntWalk.i64_in _ (by omega)
          have HS : World.cell? _ ⟨p, 0, none⟩ = some (.int .i64 (xa : Nat)) := hb.out.cell 0
          clear hlow hD hlen hft hok
          go_wp2_with fail
          refine wp_region_held_drew (S := fun W' => W'.cell? ⟨p, 0, none⟩ = some (.int .i64 (xa : Nat))) (by kernel_rfl) HS (fun _ => ?_)
          refine wpAnyH_take (i := 0) (v := (.func (.func 22) #[] #[.pointer (some ⟨g, 0, none⟩), .pointer (some ⟨h, 0, none⟩)])) rfl (by kernel_rfl) (by kernel_rfl) (by kernel_rfl) (fun _ _ _ h => h) (Or.inl ⟨by kernel_rfl, ?_⟩) HS ?_
          · intro W' hS
            go_simp
          try change wpAnyH _ _ _ _ _ _ _ (Act.put _ (some 22) _) _
          try simp only [Act.put, List.setIfInBounds_toArray, List.set_cons_zero, List.set_cons_succ]
          refine wpAnyH_take (i := 1) (v := (.pointer (some ⟨p, 0, none⟩))) rfl (by kernel_rfl) (by kernel_rfl) (by kernel_rfl) (fun _ _ _ h => h) (Or.inl ⟨by kernel_rfl, ?_⟩) HS ?_
          · intro W' hS
            go_simp
          try change wpAnyH _ _ _ _ _ _ _ (Act.put _ (some 23) _) _
          try simp only [Act.put, List.setIfInBounds_toArray, List.set_cons_zero, List.set_cons_succ]
          refine wpAnyH_take (i := 2) (v := (.int .i64 (xa : Nat))) rfl (by kernel_rfl) (by kernel_rfl) (by kernel_rfl) (fun _ _ _ h => h) (Or.inl ⟨by kernel_rfl, ?_⟩) HS ?_
          · intro W' hS
            go_simp
          try change wpAnyH _ _ _ _ _ _ _ (Act.put _ (some 24) _) _
          try simp only [Act.put, List.setIfInBounds_toArray, List.set_cons_zero, List.set_cons_succ]
          refine wpAnyH_take (i := 3) (v := (.int .i64 ((xa * 64 : Nat) : Int))) rfl (by kernel_rfl) (by kernel_rfl) (by kernel_rfl) (fun _ _ _ h => h) (Or.inl ⟨by kernel_rfl, ?_⟩) HS ?_
          · intro W' hS
            go_simp
          try change wpAnyH _ _ _ _ _ _ _ (Act.put _ (some 25) _) _
          try simp only [Act.put, List.setIfInBounds_toArray, List.set_cons_zero, List.set_cons_succ]
          refine wpAnyH_take (i := 4) (v := (.int .u64 (z : Nat))) rfl (by kernel_rfl) (by kernel_rfl) (by kernel_rfl) (fun _ _ _ h => h) (Or.inl ⟨by kernel_rfl, ?_⟩) HS ?_
          · intro W' hS
            go_simp
          try change wpAnyH _ _ _ _ _ _ _ (Act.put _ (some 26) _) _
          try simp only [Act.put, List.setIfInBounds_toArray, List.set_cons_zero, List.set_cons_succ]
          refine wpAnyH_ready (rs := [5]) (by kernel_rfl) (by simp) ?_
          refine AllReadyH.cons rfl (fun K hK => ?_) AllReadyH.nil
          go_simp
          refine KT.out.mono ?_
          rintro e w4 ⟨rfl, rfl⟩
          refine hK.out _ _ HS (fun _ => ?_)
          clear hK
          try simp only [Act.put, List.setIfInBounds_toArray, List.set_cons_zero, List.set_cons_succ]
          refine wpAnyH_take (i := 6) (v := (.int .i64 ((xa * 64 + c : Nat) : Int))) rfl (by kernel_rfl) (by kernel_rfl) (by kernel_rfl) (fun _ _ _ h => h) (Or.inl ⟨by kernel_rfl, ?_⟩) HS ?_
          · intro W' hS
            go_simp
            try exact IntWalk.i64_in _ (by omega)
          try change wpAnyH _ _ _ _ _ _ _ (Act.put _ (some 28) _) _
          try simp only [Act.put, List.setIfInBounds_toArray, List.set_cons_zero, List.set_cons_succ]
          refine wpAnyH_ready (rs := [7]) (by kernel_rfl) (by simp) ?_
          refine AllReadyH.cons rfl (fun K hK => ?_) AllReadyH.nil
          go_simp
          refine KY.out.mono ?_
          rintro e w5 hp
          obtain ⟨rfl, hbk, hi5⟩ := hi.out.add hp
          have hb5 := Lib.hid (hbk p _ _ hpg hb.out)
          have HI5 := Lib.hid hi5
          clear hp hi5 hbk HS
          have HS : w5.cell? ⟨p, 0, none⟩ = some (.int .i64 (xa : Nat)) := hb5.out.cell 0
          by_cases hgo : t + 1 ≤ st
          · rw [decide_eq_true hgo]
            refine hK.out _ _ HS (fun _ => ?_)
            clear hK
            try simp only [Act.put, List.setIfInBounds_toArray, List.set_cons_zero, List.set_cons_succ]
            refine wpAnyH_take (i := 8) (v := (.bool false)) rfl (by kernel_rfl) (by kernel_rfl) (by kernel_rfl) (fun _ _ _ h => h) (Or.inl ⟨by kernel_rfl, ?_⟩) HS ?_
            · intro W' hS
              go_simp
            try change wpAnyH _ _ _ _ _ _ _ (Act.put _ (some 30) _) _
            try simp only [Act.put, List.setIfInBounds_toArray, List.set_cons_zero, List.set_cons_succ]
            refine wpAnyH_done (by kernel_rfl) ?_ _
            go_wp2_with fail
            go_roundw
            case rel => exact ⟨y, _, t + 1, by omega, hgo, rfl, Lib.hid (by rw [List.length_append, List.length_singleton, hfl.out]), hD2, HI5, hb5⟩
            case measure => simp [intOf]; omega
          · rw [decide_eq_false hgo]
            have HP5 := Lib.hid (fin.out _ (t + 1) _ _ (by have := hDl.out; have := hfl.out; omega) HI5.out)
            refine hK.out _ _ HS (fun _ => ?_)
            clear hK
            try simp only [Act.put, List.setIfInBounds_toArray, List.set_cons_zero, List.set_cons_succ]
            refine wpAnyH_take (i := 8) (v := (.bool true)) rfl (by kernel_rfl) (by kernel_rfl) (by kernel_rfl) (fun _ _ _ h => h) (Or.inl ⟨by kernel_rfl, ?_⟩) HS ?_
            · intro W' hS
              go_simp
            try change wpAnyH _ _ _ _ _ _ _ (Act.put _ (some 30) _) _
            try simp only [Act.put, List.setIfInBounds_toArray, List.set_cons_zero, List.set_cons_succ]
            refine wpAnyH_done (by kernel_rfl) ?_ _
            go_wp2_with fail
            go_end0
            exact HP5.out
    · obtain rfl : k = B.length := by omega
      have e1 : decide ((B.length : Int) < (B.length : Int)) = false := decide_eq_false (by omega)
      rw [List.take_length] at hfl
      have hp := Lib.hid (fin.out _ t _ _ (by have := hfl.out; omega) hi.out)
      clear hi
      go_wp2_with fail
      go_end0
      exact hp.out
end Go.Proofs.YtnjaadcbpkbjbaaDoor.bt
