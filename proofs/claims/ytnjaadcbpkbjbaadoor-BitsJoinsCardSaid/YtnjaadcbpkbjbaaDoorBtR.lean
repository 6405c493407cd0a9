/-
  Bits: several sets at once, each in blocks of its own; the anchor.
-/
import Derived.Test.YtnjaadcbpkbjbaaDoorBtL2
import Derived.Test.YtnjaadcbpkbjbaaDoorBtE
import Derived.Lib.QuietBelow
import Derived.Test.YtnjaadcbpkbjbaaDoorPar
namespace Go.Proofs.YtnjaadcbpkbjbaaDoor.bt
open Go.RowKit Go.Shelf Go.Sort Go.Proofs.YtnjaadcbpkbjbaaDoor.mem

/-- a set that lies in blocks of a kind -/
def SX (W : World) (P : Nat → Prop) (s : Nat) (B : List Blk) : Prop := ∃ A cap, SA W s A cap B ∧ P s ∧ ∀ g ∈ blk A, P g

/-- but for blocks of a kind all is as it was -/
structure FrP (P : Nat → Prop) (w w' : World) : Prop where
  os : w'.os = w.os
  tape : w'.tape = w.tape
  output : w'.output = w.output
  size : w.heap.size ≤ w'.heap.size
  block : ∀ k, k < w.heap.size → ¬ P k → w'.heap[k]? = w.heap[k]?

theorem FrP.below {P : Nat → Prop} {w w' : World} {n : Nat} (h : FrP P w w') (hn : n ≤ w.heap.size) (hP : ∀ g, P g → n ≤ g) : Below n w w' := ⟨h.os, h.tape, h.output, h.size, fun k hk => h.block k (by omega) (fun hp => by have := hP k hp; omega)⟩
theorem FrP.of_fr {F : List Nat} {P : Nat → Prop} {w w' : World} (h : Fr F w w') (hF : ∀ g ∈ F, P g) : FrP P w w' := ⟨h.os, h.tape, h.output, h.size, fun k hk hn => h.block k hk (fun hm => hn (hF k hm))⟩
theorem FrP.box {P : Nat → Prop} {w w' : World} {g : Nat} {t : TypeId} {cs : Array Value} (h : FrP P w w') (hb : Box w g t cs) (hg : ¬ P g) : Box w' g t cs := (h.block g hb.lt hg).trans hb

theorem SX.below {W W' : World} {P : Nat → Prop} {s : Nat} {B : List Blk} (h : SX W P s B) (hb : Below W.heap.size W W') : SX W' P s B := let ⟨A, cap, a, b, c⟩ := h; ⟨A, cap, a.below hb, b, c⟩
theorem SX.mono {W : World} {P Q : Nat → Prop} {s : Nat} {B : List Blk} (h : SX W P s B) (hPQ : ∀ g, g < W.heap.size → P g → Q g) : SX W Q s B := let ⟨A, cap, a, b, c⟩ := h; ⟨A, cap, a, hPQ _ a.box.lt b, fun g hg => hPQ _ (a.ba.sg.lt g hg) (c g hg)⟩
theorem SX.ok {W : World} {P : Nat → Prop} {s : Nat} {B : List Blk} (h : SX W P s B) : Ok B := let ⟨_, _, a, _, _⟩ := h; a.ba.ok
theorem SX.apart {W W' : World} {P Q : Nat → Prop} {s : Nat} {B : List Blk} (h : SX W Q s B) (hf : FrP P W W') (hd : ∀ g, g < W.heap.size → Q g → ¬ P g) : SX W' Q s B := by
  obtain ⟨A, cap, a, b, c⟩ := h
  have hb := hf.box a.box (hd s a.box.lt b)
  refine ⟨A, cap, ⟨hb, ⟨⟨a.ba.sg.len, a.ba.sg.le, a.ba.sg.max, a.ba.sg.nil, fun x hx => ?_⟩, a.ba.ok, a.ba.few, a.ba.small⟩⟩, b, c⟩
  obtain ⟨hs, cur, hc, r⟩ := a.ba.sg.ex x hx
  subst hx
  have hl : x.block < W.heap.size := a.ba.sg.lt _ (by simp [blk])
  exact ⟨hs, cur, (hf.block _ hl (hd _ hl (c _ (by simp [blk])))).trans hc, r⟩

/-- a new one -/
def NewX (w : World) (B : List Blk) (e : Ending) (w' : World) : Prop := ∃ s, e = .returned (.pointer (some ⟨s, 0, none⟩)) ∧ Below w.heap.size w w' ∧ SX w' (fun g => w.heap.size ≤ g ∧ g < w'.heap.size) s B
theorem new_x {w w' : World} {B : List Blk} {e : Ending} (h : NewS w B e w') : NewX w B e w' := by
  obtain ⟨s, A, cap, he, hb, hs, h1, h2⟩ := h
  exact ⟨s, he, hb, A, cap, hs, ⟨h1, hs.box.lt⟩, fun g hg => ⟨h2 g hg, hs.ba.sg.lt g hg⟩⟩

theorem x_of (w : World) (A : Option Addr) (c : Nat) (xs : List Int) (hbig : xs.length ≤ 1000) (hA : Rd w A (xs.map eI)) : Calls Tryd.prog 18 #[.slice A xs.length c] w (NewX w (ofB xs)) := (of_any w A c xs hbig hA).mono fun _ _ h => new_x h
theorem x_less {w : World} {P Q : Nat → Prop} {s s2 : Nat} {B C : List Blk} (h : SX w P s B) (k : SX w Q s2 C) : Calls Tryd.prog 19 #[.pointer (some ⟨s, 0, none⟩), .pointer (some ⟨s2, 0, none⟩)] w (NewX w (lessB B C)) :=
  let ⟨A, cap, a, _⟩ := h; let ⟨A2, cap2, b, _⟩ := k; (less_any w s s2 A A2 cap cap2 B C a b).mono fun _ _ h => new_x h
theorem x_both {w : World} {P Q : Nat → Prop} {s s2 : Nat} {B C : List Blk} (h : SX w P s B) (k : SX w Q s2 C) : Calls Tryd.prog 20 #[.pointer (some ⟨s, 0, none⟩), .pointer (some ⟨s2, 0, none⟩)] w (NewX w (bothB B C)) :=
  let ⟨A, cap, a, _⟩ := h; let ⟨A2, cap2, b, _⟩ := k; (both_any w s s2 A A2 cap cap2 B C a b).mono fun _ _ h => new_x h
theorem x_len {w : World} {P : Nat → Prop} {s : Nat} {B : List Blk} (h : SX w P s B) : Calls Tryd.prog 11 #[.pointer (some ⟨s, 0, none⟩)] w fun e w' => e = .returned (.int .i64 ((flat B).length : Nat)) ∧ Below w.heap.size w w' :=
  let ⟨A, cap, a, _⟩ := h; len_any w s A cap B a
theorem x_blocks {w : World} {P : Nat → Prop} {s : Nat} {B : List Blk} (h : SX w P s B) : Calls Tryd.prog 12 #[.pointer (some ⟨s, 0, none⟩)] w fun e w' => e = .returned (.int .i64 (B.length : Nat)) ∧ w = w' :=
  let ⟨A, cap, a, _⟩ := h; blocks_any w s A cap B a
theorem x_same {w : World} {P Q : Nat → Prop} {s s2 : Nat} {B C : List Blk} (h : SX w P s B) (k : SX w Q s2 C) : Calls Tryd.prog 14 #[.pointer (some ⟨s, 0, none⟩), .pointer (some ⟨s2, 0, none⟩)] w fun e w' => e = .returned (.bool (decide (B = C))) ∧ Below w.heap.size w w' :=
  let ⟨A, cap, a, _⟩ := h; let ⟨A2, cap2, b, _⟩ := k; same_any heldB w s s2 A A2 cap cap2 B C a b

def JoinX (w : World) (P : Nat → Prop) (s : Nat) (B C : List Blk) (e : Ending) (w' : World) : Prop := e = .returned (.int .i64 (misN (prs B C) : Nat)) ∧ FrP P w w' ∧ SX w' (fun g => P g ∨ w.heap.size ≤ g) s (orB B C)
theorem x_join {w : World} {P Q : Nat → Prop} {s s2 : Nat} {B C : List Blk} (h : SX w P s B) (k : SX w Q s2 C) : Calls Tryd.prog 7 #[.pointer (some ⟨s, 0, none⟩), .pointer (some ⟨s2, 0, none⟩)] w (JoinX w P s B C) := by
  obtain ⟨A, cap, a, hp, hq⟩ := h
  obtain ⟨A2, cap2, b, _⟩ := k
  refine (join_any w s s2 A A2 cap cap2 B C a b).mono ?_
  rintro e w' ⟨rfl, A', cap', hap⟩
  rw [join_eq a.ba.ok b.ba.ok] at hap
  refine ⟨rfl, FrP.of_fr hap.fr (fun g hg => ?_), A', cap', hap.sa, Or.inl hp, fun g hg => ?_⟩
  · rcases List.mem_cons.1 hg with e | e
    · rw [e]; exact hp
    · exact hq g e
  · rcases hap.bl g hg with e | e
    · exact Or.inl (hq g e)
    · exact Or.inr e

/-! the anchor -/
theorem flat_of {xs : List Int} {L : List Nat} (hs : Srt L) (h : ∀ x, (∃ n ∈ xs, mayB n = true ∧ x = n.toNat) ↔ x ∈ L) : flat (ofB xs) = L :=
  srt_ext (srt_flat (ofB_ok xs).rise) hs fun x => by rw [ofB_mem, h]
theorem f1 : flat (ofB [3, 70, 3]) = [3, 70] := flat_of (by simp) (fun x => by simp [mayB]; omega)
theorem f2 : flat (ofB [1, 2]) = [1, 2] := flat_of (by simp) (fun x => by simp [mayB])
theorem f3 : flat (ofB [2, 3]) = [2, 3] := flat_of (by simp) (fun x => by simp [mayB])
theorem b1 : (ofB [3, 70, 3]).length = 2 := by
  rw [← blocks_flat (ofB_ok _), f1]
  decide
theorem j1 : misN (prs (ofB [1, 2]) (ofB [2, 3])) = 1 := by
  rw [misN_join (ofB_ok _) (ofB_ok _) (by rw [f3]; simp), f2, f3]
  decide

theorem rd_new (w : World) (xs : List Int) (t : TypeId) (n : Nat) (hn : n = w.heap.size) (h0 : 0 < xs.length) : Rd (w.alloc (.cells (xs.map eI).toArray t)) (some ⟨n, 0, none⟩) (xs.map eI) := by
  subst hn
  refine rd_of fun j hj => ?_
  have e1 : (⟨w.heap.size, 0, none⟩ : Addr).add j = ⟨w.heap.size, j, none⟩ := by unfold Addr.add; split <;> simp_all
  rw [e1, (Box.new w t (xs.map eI).toArray).cell j]
  simp only [List.getElem?_toArray]
  exact List.getElem?_eq_getElem hj

def WorksPost (w : World) (e : Ending) (w' : World) : Prop := e = .returned (.bool true) ∧ Below w.heap.size w w'

set_option maxRecDepth 100000 in
theorem works_any (w : World) : Calls Tryd.prog 17 #[] w (WorksPost w) := by
  have K1 := Lib.hid (x_of (w.alloc (.cells #[eI 3, eI 70, eI 3] 3)) (some ⟨w.heap.size, 0, none⟩) 3 [3, 70, 3] (by simp) (rd_new w [3, 70, 3] _ _ rfl (by simp)))
  have K2 := Lib.hid (fun (W : World) => x_of (W.alloc (.cells #[eI 1, eI 2] 3)) (some ⟨W.heap.size, 0, none⟩) 2 [1, 2] (by simp) (rd_new W [1, 2] _ _ rfl (by simp)))
  have K3 := Lib.hid (fun (W : World) => x_of (W.alloc (.cells #[eI 2, eI 3] 3)) (some ⟨W.heap.size, 0, none⟩) 2 [2, 3] (by simp) (rd_new W [2, 3] _ _ rfl (by simp)))
  have B0 := Lib.hid ((Below.refl _ w).alloc (Nat.le_refl _) (.cells #[eI 3, eI 70, eI 3] 3))
  go_enter Tryd.func17, Tryd.ntmps17
  go_wp2_with fail
  refine K1.out.mono ?_
  rintro e w2 ⟨s1, rfl, hb, hs⟩
  have B2 := Lib.hid (B0.out.trans (hb.mono (by simp)))
  have H2 := Lib.hid B2.out.size
  have X2 := Lib.hid hs
  clear hb hs K1 B0
  generalize (w.alloc (.cells #[eI 3, eI 70, eI 3] 3)).heap.size = n1 at *
  go_wp2_with fail
  refine (K2.out w2).mono ?_
  rintro e w3 ⟨s2, rfl, hb, hs⟩
  have A2 := (Below.refl w2.heap.size w2).alloc (Nat.le_refl _) (.cells #[eI 1, eI 2] 3)
  have C3 := A2.trans (hb.mono (by simp))
  have B3 := Lib.hid (B2.out.trans (C3.mono B2.out.size))
  have X3 := Lib.hid (X2.out.below C3)
  have Y3 := Lib.hid hs
  clear hb hs K2 B2 X2 A2 C3
  go_wp2_with fail
  refine (x_len X3.out).mono ?_
  rintro e w4 ⟨rfl, hb⟩
  have B4 := Lib.hid (B3.out.trans (hb.mono B3.out.size))
  have X4 := Lib.hid (X3.out.below hb)
  have Y4 := Lib.hid (Y3.out.below hb)
  clear hb X3 Y3 B3
  rw [f1]
  go_wp2_with fail
  refine (x_blocks X4.out).mono ?_
  rintro e w5 ⟨rfl, rfl⟩
  rw [b1]
  clear X4
  go_wp2_with fail
  refine (K3.out w4).mono ?_
  rintro e w5 ⟨s5, rfl, hb, hs⟩
  have A2 := (Below.refl w4.heap.size w4).alloc (Nat.le_refl _) (.cells #[eI 2, eI 3] 3)
  have C3 := A2.trans (hb.mono (by simp))
  have B5 := Lib.hid (B4.out.trans (C3.mono B4.out.size))
  have Y5 := Lib.hid (Y4.out.below C3)
  have Z5 := Lib.hid hs
  clear hb hs K3 B4 Y4 A2 C3
  go_wp2_with fail
  refine (x_join Y5.out Z5.out).mono ?_
  rintro e w6 ⟨rfl, hf, _⟩
  have B6 := Lib.hid (B5.out.trans (hf.below B5.out.size (fun g hg => by have := hg.1; simp at this; have := H2.out; omega)))
  clear hf Y5 Z5 B5
  rw [j1]
  go_wp2_with fail
  go_ret
  exact ⟨rfl, B6.out⟩
end Go.Proofs.YtnjaadcbpkbjbaaDoor.bt
