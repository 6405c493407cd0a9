/-
  agenda over whole numbers: Put.
-/
import Derived.Test.YtenohenkedofkaaAg
import Derived.Outline
import Derived.WalkSpells
namespace Go.Proofs.Ytenohenkedofkaa.ag
open Go.RowKit Go.Proofs.Ytenohenkedofkaa.mem

theorem put_no (w : World) (b : Nat) (A : Option Addr) (cap : Nat) (m : Option Nat) (N : Nat) (xs : List Int) (x : Int) (h : Ag w b A cap m N xs) (hx : WF x) (hin : x ∈ xs) :
    Calls Try.prog 24 #[.pointer (some ⟨b, 0, none⟩), .int .i64 x] w fun e w' => e = .returned (.bool false) ∧ Below w.heap.size w w' := by
  have H := Lib.hid (fun w hb hs => has_any w b m N xs x (.slice A xs.length cap) hb hs hx)
  rw [decide_eq_true hin] at H
  have Hb := Lib.hid h.box
  have Hs := Lib.hid h.set
  clear h hx hin
  go_enter Try.func24, Try.ntmps24
  go_wp2_with fail
  refine (H.out _ Hb.out Hs.out).mono ?_
  rintro e w1 ⟨rfl, b1⟩
  go_wp2_with fail
  go_ret
  exact ⟨rfl, b1⟩

set_option maxRecDepth 100000 in
theorem put_yes (w : World) (b : Nat) (A : Option Addr) (cap : Nat) (mb N : Nat) (xs : List Int) (x : Int) (h : Ag w b A cap (some mb) N xs) (hx : WF x) (hin : x ∉ xs) (hN : N < 1000000) :
    Calls Try.prog 24 #[.pointer (some ⟨b, 0, none⟩), .int .i64 x] w (PutPost w b A (some mb) N xs x) := by
  have H := Lib.hid (fun w hb hs => has_any w b (some mb) N xs x (.slice A xs.length cap) hb hs hx)
  rw [decide_eq_false hin] at H
  have Hh := Lib.hid h
  have Hx := Lib.hid hx
  have Hin := Lib.hid hin
  have hlen := h.len
  obtain ⟨i0, hi0, hz0, hz1, hz2⟩ := info_parts info_int
  have Hi := Lib.hid hi0
  have Hz0 := Lib.hid hz0
  have Hz1 := Lib.hid hz1
  have Hz2 := Lib.hid hz2
  have hmn : ∀ (w : World), (binOp .eql 40 (.map (some mb)) (.map none)).run Try.prog w = .ok (.bool false) w := fun w => by rw [run_eql_map_nil w _ _ _ _ Try.underlying40]; rfl
  clear h hx hin hi0 hz0 hz1 hz2
  go_enter Try.func24, Try.ntmps24
  go_wp2_with fail
  refine (H.out _ Hh.out.box Hh.out.set).mono ?_
  rintro e w1 ⟨rfl, b1⟩
  have Hh1 := Lib.hid (Hh.out.kept (Fr.of_below b1 []) (by simp))
  have c1 : w1.cell? ⟨b, 1, none⟩ = some (.map (some mb)) := Hh1.out.box.cell 1
  have hset := Hh1.out.set
  rcases hset with ⟨h0, _⟩ | ⟨mb', D, h0, ho, hD⟩
  · cases h0
  injection h0 with h0
  subst h0
  have HD := Lib.hid hD
  have hne := box_ne_map Hh1.out.box ho
  clear hD
  go_wp2_with (first
    | (at_mapUpdate
       refine wpList_mapUpdate_own _ rfl _ _ _ 40 rfl 3 86 (Maps.int_keyed Try.underlying3) Try.underlying40 unitElem mb N D rfl ho (by unfold maxLen; omega) _ _ (.int .i64 x) rfl rfl (Maps.keyOf_int_mk Try.underlying3 Hx.out) (.agg []) [] unitElem_mk ?_
       intro w2 ho2 hg2
       have b2 : Fr [mb] w1 w2 := (Fr.refl _ w1).grown hg2 (fun k hk => (by cases hk; exact Or.inl (by simp)))
       have Hb2 : Hid (Box w2 b 42 #[.slice A xs.length cap, .map (some mb)]) := Lib.hid ((hg2.block b Hh1.out.box.lt (fun e => hne (by injection e))).trans Hh1.out.box)
       have Hs2 : Hid (Seg w2 3 A cap (vals xs)) := Lib.hid (Hh1.out.seg.kept b2 (by intro g hg he; rw [List.mem_singleton] at he; subst he; exact seg_ne_map Hh1.out.seg ho hg))
       have c0 : w2.cell? ⟨b, 0, none⟩ = some (.slice A xs.length cap) := Hb2.out.cell 0
       have f0 : w2.frozen? ⟨b, 0, none⟩ = false := Hb2.out.free 0
       have l0 := Hb2.out.lt)
    | (at_builtin
       refine wpList_push rfl _ _ _ rfl (Hs2.out.alloc _) (vals_len xs).symm Try.underlying25 Hi.out Hz0.out Hz1.out Hz2.out rfl rfl rfl (new_cell _ _ _) rfl (by omega) (by omega) ?_
       intro A' cap' w3 hs3 b3 hf3
       have Hb3 : Hid (Box w3 b 42 #[.slice A xs.length cap, .map (some mb)]) := Lib.hid ((Hb2.out.kept ((Fr.refl [] w2).alloc _) (by simp)).kept b3 (Hs2.out.ne_box Hb2.out (by decide)))
       have c3 : w3.cell? ⟨b, 0, none⟩ = some (.slice A xs.length cap) := Hb3.out.cell 0
       have f3 : w3.frozen? ⟨b, 0, none⟩ = false := Hb3.out.free 0))
  go_ret
  exact put_end Hh.out.wf Hx.out Hin.out Hh.out.nod hlen (by simp [foot]) ((Fr.of_below b1 _).trans b2 (fun g hg => Or.inl hg) (fun g hg => Or.inl (by rw [List.mem_singleton] at hg; subst hg; simp [foot]))) Hb2.out ho2 ho.isMap HD.out (Or.inl (by simp [foot])) (Hs2.out.ne_box Hb2.out (by decide)) (seg_ne_map Hs2.out ho2) hs3 b3 hf3

set_option maxRecDepth 100000 in
theorem put_new (w : World) (b : Nat) (A : Option Addr) (cap N : Nat) (x : Int) (h : Ag w b A cap none N []) (hx : WF x) :
    Calls Try.prog 24 #[.pointer (some ⟨b, 0, none⟩), .int .i64 x] w (PutPost w b A none N [] x) := by
  have H := Lib.hid (fun w hb hs => has_any w b none N [] x (.slice A 0 cap) hb hs hx)
  rw [decide_eq_false (by simp)] at H
  have Hh := Lib.hid h
  have Hx := Lib.hid hx
  obtain ⟨i0, hi0, hz0, hz1, hz2⟩ := info_parts info_int
  have Hi := Lib.hid hi0
  have Hz0 := Lib.hid hz0
  have Hz1 := Lib.hid hz1
  have Hz2 := Lib.hid hz2
  have hmn : ∀ (w : World), (binOp .eql 40 (.map none) (.map none)).run Try.prog w = .ok (.bool true) w := fun w => by rw [run_eql_map_nil w _ _ _ _ Try.underlying40]; rfl
  have hmm := @run_makeMap Try.prog
  clear h hx hi0 hz0 hz1 hz2
  go_enter Try.func24, Try.ntmps24
  go_wp2_with fail
  refine (H.out _ Hh.out.box Hh.out.set).mono ?_
  rintro e w1 ⟨rfl, b1⟩
  have Hh1 := Lib.hid (Hh.out.kept (Fr.of_below b1 []) (by simp))
  have c1 : w1.cell? ⟨b, 1, none⟩ = some (.map none) := Hh1.out.box.cell 1
  have f1 : w1.frozen? ⟨b, 1, none⟩ = false := Hh1.out.box.free 1
  have l1 := Hh1.out.box.lt
  have Hbm : Hid (Box ((w1.setCell ⟨b, 1, none⟩ (.map (some w1.heap.size))).alloc (.map #[] 0)) b 42 #[.slice A 0 cap, .map (some w1.heap.size)]) := Lib.hid ((Hh1.out.box.put 1 _).kept ((Fr.refl [] _).alloc _) (by simp))
  have Ho : Hid (World.ownsMap (H := Unit) ((w1.setCell ⟨b, 1, none⟩ (.map (some w1.heap.size))).alloc (.map #[] 0)) Try.prog 3 unitElem w1.heap.size 0 (.map [])) := Lib.hid (by have h := World.ownsMap_made (H := Unit) (w1.setCell ⟨b, 1, none⟩ (.map (some w1.heap.size))) Try.prog 3 unitElem; rw [show (w1.setCell ⟨b, 1, none⟩ (.map (some w1.heap.size))).heap.size = w1.heap.size by simp [World.setCell]] at h; exact h)
  have Hsm : Hid (Seg ((w1.setCell ⟨b, 1, none⟩ (.map (some w1.heap.size))).alloc (.map #[] 0)) 3 A cap (vals [])) := Lib.hid ((Hh1.out.seg.kept ((Fr.refl [b] _).setCell (Or.inl (by simp)) _) (fun g hg he => by rw [List.mem_singleton] at he; subst he; exact Hh1.out.seg.ne_box Hh1.out.box (by decide) hg)).alloc _)
  have Fm : Hid (Fr (foot b A none) w ((w1.setCell ⟨b, 1, none⟩ (.map (some w1.heap.size))).alloc (.map #[] 0))) := Lib.hid (((Fr.of_below b1 _).setCell (Or.inl (by simp [foot])) _).alloc _)
  have l2 : w1.heap.size < ((w1.setCell ⟨b, 1, none⟩ (.map (some w1.heap.size))).alloc (.map #[] 0)).heap.size := by simp [World.setCell]
  go_wp2_with (first
    | (at_mapUpdate
       refine wpList_mapUpdate_own _ rfl _ _ _ 40 rfl 3 86 (Maps.int_keyed Try.underlying3) Try.underlying40 unitElem w1.heap.size 0 (.map []) rfl Ho.out (by unfold maxLen; omega) _ _ (.int .i64 x) rfl rfl (Maps.keyOf_int_mk Try.underlying3 Hx.out) (.agg []) [] unitElem_mk ?_
       intro w2 ho2 hg2
       have b2 : Fr [w1.heap.size] ((w1.setCell ⟨b, 1, none⟩ (.map (some w1.heap.size))).alloc (.map #[] 0)) w2 := (Fr.refl _ _).grown hg2 (fun k hk => (by cases hk; exact Or.inl (by simp)))
       have Hb2 : Hid (Box w2 b 42 #[.slice A 0 cap, .map (some w1.heap.size)]) := Lib.hid (Hbm.out.kept b2 (by simp; omega))
       have Hs2 : Hid (Seg w2 3 A cap (vals [])) := Lib.hid (Hsm.out.kept b2 (by intro g hg he; rw [List.mem_singleton] at he; subst he; exact seg_ne_map Hsm.out Ho.out hg))
       have c0 : w2.cell? ⟨b, 0, none⟩ = some (.slice A 0 cap) := Hb2.out.cell 0
       have f0 : w2.frozen? ⟨b, 0, none⟩ = false := Hb2.out.free 0
       have l0 := Hb2.out.lt)
    | (at_builtin
       refine wpList_push (n := 0) rfl _ _ _ rfl (Hs2.out.alloc _) rfl Try.underlying25 Hi.out Hz0.out Hz1.out Hz2.out rfl rfl rfl (new_cell _ _ _) rfl (by omega) (by omega) ?_
       intro A' cap' w3 hs3 b3 hf3
       have Hb3 : Hid (Box w3 b 42 #[.slice A 0 cap, .map (some w1.heap.size)]) := Lib.hid ((Hb2.out.kept ((Fr.refl [] w2).alloc _) (by simp)).kept b3 (Hs2.out.ne_box Hb2.out (by decide)))
       have c3 : w3.cell? ⟨b, 0, none⟩ = some (.slice A 0 cap) := Hb3.out.cell 0
       have f3 : w3.frozen? ⟨b, 0, none⟩ = false := Hb3.out.free 0))
  go_ret
  exact put_end (mb := w1.heap.size) (xs := []) (by simp) Hx.out (by simp) (by simp) (by simp) (by simp [foot]) (Fm.out.trans b2 (fun g hg => Or.inl hg) (fun g hg => Or.inr (by rw [List.mem_singleton] at hg; subst hg; exact b1.size))) Hb2.out (ho2.mono (by omega)) ⟨[], rfl⟩ (by intro y _; rfl) (Or.inr b1.size) (Hs2.out.ne_box Hb2.out (by decide)) (seg_ne_map Hs2.out ho2) hs3 b3 hf3

theorem put_any (w : World) (b : Nat) (A : Option Addr) (cap : Nat) (m : Option Nat) (N : Nat) (xs : List Int) (x : Int) (h : Ag w b A cap m N xs) (hx : WF x) (hin : x ∉ xs) (hN : N < 1000000) :
    Calls Try.prog 24 #[.pointer (some ⟨b, 0, none⟩), .int .i64 x] w (PutPost w b A m N xs x) := by
  cases m with
  | some mb => exact put_yes w b A cap mb N xs x h hx hin hN
  | none =>
    rcases h.set with ⟨_, rfl⟩ | ⟨_, _, h0, _⟩
    · exact put_new w b A cap N x h hx
    · cases h0
end Go.Proofs.Ytenohenkedofkaa.ag
