/-
  intern: Put of what is new.
-/
import Derived.Test.YtehieiddelngfaaInE
namespace Go.Proofs.Ytehieiddelngfaa.ins
open Go.RowKit Go.Shelf Go.Proofs.Ytehieiddelngfaa.mem Go.Proofs.Ytehieiddelngfaa.inn

def PutPost (w : World) (b : Nat) (A : Option Addr) (m : Option Nat) (N : Nat) (xs : List (List UInt8)) (x : List UInt8) (e : Ending) (w' : World) : Prop :=
  e = .returned (.tuple #[.int .i64 (xs.length : Nat), .bool true]) ∧ Fr (foot b A m) w w' ∧ ∃ A' cap' m', Tb w' b A' cap' m' (N + 1) (xs ++ [x]) ∧ ∀ g ∈ foot b A' m', g ∈ foot b A m ∨ w.heap.size ≤ g

/-- the table behind Put -/
theorem put_end {w w2 w3 : World} {b : Nat} {A A' : Option Addr} {cap cap' mb N : Nat} {m : Option Nat} {xs : List (List UInt8)} {x : List UInt8} {D : DataW Unit} {o : Obj} (hwf : ∀ y ∈ xs, WF y) (hx : WF x) (hin : x ∉ xs) (hnod : xs.Nodup) (hlen : xs.length ≤ N) (hbA : b ∈ foot b A m)
    (f2 : Fr (foot b A m) w w2) (hb2 : Box w2 b 27 #[.map (some mb), .slice A xs.length cap]) (ho2 : w2.ownsMap (H := Unit) Try.prog 9 (plainElem Try.prog 3) mb (N + 1) (D.put (.string x) (.lit (.int .i64 (xs.length : Nat))))) (hD : Maps.IsMap D) (hh : Reads D xs) (hmb : mb ∈ foot b A m ∨ w.heap.size ≤ mb)
    (hbl : b ∉ blk A) (hml : mb ∉ blk A) (hs3 : Seg w3 9 A' cap' (vals xs ++ [encStr x])) (f3 : Fr (blk A) (w2.alloc o) w3) (hf3 : blk A' = blk A ∨ blk A' = [(w2.alloc o).heap.size]) :
    PutPost w b A m N xs x (.returned (.tuple #[.int .i64 (xs.length : Nat), .bool true])) (w3.setCell ⟨b, 1, none⟩ (.slice A' (xs.length + 1) cap')) := by
  have hb3 : Box w3 b 27 #[.map (some mb), .slice A xs.length cap] := (hb2.kept ((Fr.refl [] w2).alloc o) (by simp)).kept f3 hbl
  have fall : Fr (blk A) w2 w3 := ((Fr.refl (blk A) w2).alloc o).trans f3 (fun g hg => Or.inl hg) (fun g hg => Or.inl hg)
  obtain ⟨es, clock, hmh, hr⟩ := ho2
  have hmh3 : w3.heap[mb]? = some (.map es clock) := (fall.block mb (Array.getElem?_eq_some_iff.1 hmh).1 hml).trans hmh
  have hmlt : mb < w2.heap.size := (Array.getElem?_eq_some_iff.1 hmh).1
  have hne : mb ≠ b := fun e => by
    subst e
    unfold Box at hb2
    rw [hb2] at hmh
    cases hmh
  have fw : Fr (foot b A m) w w3 := f2.trans fall (fun g hg => Or.inl hg) (fun g hg => Or.inl (by simp only [foot, List.mem_cons, List.mem_append]; exact Or.inr (Or.inl hg)))
  have hfb : ∀ g ∈ blk A', g ∈ blk A ∨ w2.heap.size ≤ g := by
    intro g hg
    rcases hf3 with e | e
    · exact Or.inl (e ▸ hg)
    · right
      rw [e, List.mem_singleton] at hg
      subst hg
      simp
  have hb4 : b ∉ blk A' := by
    intro hm
    rcases hfb b hm with h | h
    · exact hbl h
    · have := hb2.lt; omega
  refine ⟨rfl, fw.setCell (Or.inl hbA) _, A', cap', some mb, ⟨?_, ?_, ?_, ?_, ?_, by simpa using hlen⟩, ?_⟩
  · have := hb3.put 1 (.slice A' (xs.length + 1) cap')
    simpa using this
  · rw [← vals_snoc]
    exact hs3.kept ((Fr.refl [b] w3).setCell (Or.inl (by simp)) _) (fun g hg he => by rw [List.mem_singleton] at he; subst he; exact hb4 hg)
  · refine Or.inr ⟨mb, _, rfl, ⟨es, clock, ?_, hr⟩, reads_put hD hin hh⟩
    exact (Below.heap_setCell w3 _ _ mb hne).trans hmh3
  · rw [List.nodup_append]
    refine ⟨hnod, by simp, ?_⟩
    intro a ha c hc
    rw [List.mem_singleton] at hc
    subst hc
    exact fun e => hin (e ▸ ha)
  · intro y hy
    rcases List.mem_append.1 hy with h | h
    · exact hwf y h
    · rw [List.mem_singleton] at h; subst h; exact hx
  · intro g hg
    simp only [foot, List.mem_cons, List.mem_append, Option.toList_some, List.not_mem_nil, or_false] at hg
    rcases hg with rfl | hg | rfl
    · exact Or.inl hbA
    · rcases hfb g hg with h | h
      · left; simp only [foot, List.mem_cons, List.mem_append]; exact Or.inr (Or.inl h)
      · right; exact Nat.le_trans f2.size h
    · exact hmb

set_option maxRecDepth 100000 in
theorem put_yes (w : World) (b : Nat) (A : Option Addr) (cap : Nat) (mb N : Nat) (xs : List (List UInt8)) (x : List UInt8) (h : Tb w b A cap (some mb) N xs) (hx : WF x) (hin : x ∉ xs) (hN : N < 1000000) :
    Calls Try.prog 11 #[.pointer (some ⟨b, 0, none⟩), encStr x] w (PutPost w b A (some mb) N xs x) := by
  have hl := h.set.look x hx
  rw [decide_eq_false hin] at hl
  have Hh := Lib.hid h
  have Hx := Lib.hid hx
  have Hin := Lib.hid hin
  have hlen := h.len
  have Hln := Lib.hid (wf_len (n := xs.length) (by omega))
  obtain ⟨i0, hi0, hz0, hz1, hz2⟩ := info_parts info_str
  have Hi := Lib.hid hi0
  have Hz0 := Lib.hid hz0
  have Hz1 := Lib.hid hz1
  have Hz2 := Lib.hid hz2
  have hmn : ∀ (w : World), (binOp .eql 25 (.map (some mb)) (.map none)).run Try.prog w = .ok (.bool false) w := fun w => by rw [run_eql_map_nil w _ _ _ _ Try.underlying25]; rfl
  have c0 : w.cell? ⟨b, 0, none⟩ = some (.map (some mb)) := h.box.cell 0
  have c1 : w.cell? ⟨b, 1, none⟩ = some (.slice A xs.length cap) := h.box.cell 1
  have hset := h.set
  rcases hset with ⟨h0, _⟩ | ⟨mb', D, h0, ho, hD⟩
  · cases h0
  injection h0 with h0
  subst h0
  have HD := Lib.hid hD
  have hne := box_ne_map h.box ho
  generalize noOf xs x = r at *
  clear h hx hin hi0 hz0 hz1 hz2 hD
  go_enter Try.func11, Try.ntmps11
  go_wp2_with (first
    | (at_mapUpdate
       refine wpList_mapUpdate_own _ rfl _ _ _ 25 rfl 9 3 (Maps.string_keyed Try.underlying9) Try.underlying25 (plainElem Try.prog 3) mb N D rfl ho (by unfold maxLen; omega) _ _ (.string x) rfl rfl (key_s Hx.out) (.lit (.int .i64 (xs.length : Nat))) [] (plainElem_int Try.underlying3 Hln.out) ?_
       intro w2 ho2 hg2
       have b2 : Fr [mb] w w2 := (Fr.refl _ w).grown hg2 (fun k hk => (by cases hk; exact Or.inl (by simp)))
       have Hb2 : Hid (Box w2 b 27 #[.map (some mb), .slice A xs.length cap]) := Lib.hid ((hg2.block b Hh.out.box.lt (fun e => hne (by injection e))).trans Hh.out.box)
       have Hs2 : Hid (Seg w2 9 A cap (vals xs)) := Lib.hid (Hh.out.seg.kept b2 (by intro g hg he; rw [List.mem_singleton] at he; subst he; exact seg_ne_map Hh.out.seg ho hg))
       have c2 : w2.cell? ⟨b, 1, none⟩ = some (.slice A xs.length cap) := Hb2.out.cell 1
       have f2 : w2.frozen? ⟨b, 1, none⟩ = false := Hb2.out.free 1
       have l2 := Hb2.out.lt)
    | (at_builtin
       refine wpList_push rfl _ _ _ rfl (Hs2.out.alloc _) (vals_len xs).symm Try.underlying22 Hi.out Hz0.out Hz1.out Hz2.out rfl rfl rfl (new_cell _ _ _) rfl (by omega) (by omega) ?_
       intro A' cap' w3 hs3 b3 hf3
       have Hb3 : Hid (Box w3 b 27 #[.map (some mb), .slice A xs.length cap]) := Lib.hid ((Hb2.out.kept ((Fr.refl [] w2).alloc _) (by simp)).kept b3 (Hs2.out.ne_box Hb2.out (by decide)))
       have c3 : w3.cell? ⟨b, 1, none⟩ = some (.slice A xs.length cap) := Hb3.out.cell 1
       have f3 : w3.frozen? ⟨b, 1, none⟩ = false := Hb3.out.free 1))
  go_ret2
  exact put_end Hh.out.wf Hx.out Hin.out Hh.out.nod hlen (by simp [foot]) ((Fr.refl _ _).trans b2 (fun g hg => Or.inl hg) (fun g hg => Or.inl (by rw [List.mem_singleton] at hg; subst hg; simp [foot]))) Hb2.out ho2 ho.isMap HD.out (Or.inl (by simp [foot])) (Hs2.out.ne_box Hb2.out (by decide)) (seg_ne_map Hs2.out ho2) hs3 b3 hf3

set_option maxRecDepth 100000 in
theorem put_new (w : World) (b : Nat) (A : Option Addr) (cap N : Nat) (x : List UInt8) (h : Tb w b A cap none N []) (hx : WF x) :
    Calls Try.prog 11 #[.pointer (some ⟨b, 0, none⟩), encStr x] w (PutPost w b A none N [] x) := by
  have hl := h.set.look x hx
  rw [decide_eq_false (by simp)] at hl
  have Hh := Lib.hid h
  have Hx := Lib.hid hx
  have Hln := Lib.hid (wf_len (n := 0) (by omega))
  obtain ⟨i0, hi0, hz0, hz1, hz2⟩ := info_parts info_str
  have Hi := Lib.hid hi0
  have Hz0 := Lib.hid hz0
  have Hz1 := Lib.hid hz1
  have Hz2 := Lib.hid hz2
  have hmn : ∀ (w : World), (binOp .eql 25 (.map none) (.map none)).run Try.prog w = .ok (.bool true) w := fun w => by rw [run_eql_map_nil w _ _ _ _ Try.underlying25]; rfl
  have hmm := @run_makeMap Try.prog
  have c0 : w.cell? ⟨b, 0, none⟩ = some (.map none) := h.box.cell 0
  have c1 : w.cell? ⟨b, 1, none⟩ = some (.slice A 0 cap) := h.box.cell 1
  have f1 : w.frozen? ⟨b, 0, none⟩ = false := h.box.free 0
  have l1 := h.box.lt
  have Hbm : Hid (Box ((w.setCell ⟨b, 0, none⟩ (.map (some w.heap.size))).alloc (.map #[] 0)) b 27 #[.map (some w.heap.size), .slice A 0 cap]) := Lib.hid ((h.box.put 0 _).kept ((Fr.refl [] _).alloc _) (by simp))
  have Ho : Hid (World.ownsMap (H := Unit) ((w.setCell ⟨b, 0, none⟩ (.map (some w.heap.size))).alloc (.map #[] 0)) Try.prog 9 (plainElem Try.prog 3) w.heap.size 0 (.map [])) := Lib.hid (by have h := World.ownsMap_made (H := Unit) (w.setCell ⟨b, 0, none⟩ (.map (some w.heap.size))) Try.prog 9 (plainElem Try.prog 3); rw [show (w.setCell ⟨b, 0, none⟩ (.map (some w.heap.size))).heap.size = w.heap.size by simp [World.setCell]] at h; exact h)
  have Hsm : Hid (Seg ((w.setCell ⟨b, 0, none⟩ (.map (some w.heap.size))).alloc (.map #[] 0)) 9 A cap (vals [])) := Lib.hid ((h.seg.kept ((Fr.refl [b] _).setCell (Or.inl (by simp)) _) (fun g hg he => by rw [List.mem_singleton] at he; subst he; exact h.seg.ne_box h.box (by decide) hg)).alloc _)
  have Fm : Hid (Fr (foot b A none) w ((w.setCell ⟨b, 0, none⟩ (.map (some w.heap.size))).alloc (.map #[] 0))) := Lib.hid (((Fr.refl _ _).setCell (Or.inl (by simp [foot])) _).alloc _)
  have cm : ((w.setCell ⟨b, 0, none⟩ (.map (some w.heap.size))).alloc (.map #[] 0)).cell? ⟨b, 1, none⟩ = some (.slice A 0 cap) := Hbm.out.cell 1
  have cm0 : ((w.setCell ⟨b, 0, none⟩ (.map (some w.heap.size))).alloc (.map #[] 0)).cell? ⟨b, 0, none⟩ = some (.map (some w.heap.size)) := Hbm.out.cell 0
  clear h hx hi0 hz0 hz1 hz2
  have e0 : noOf [] x = 0 := rfl
  rw [e0] at hl
  go_enter Try.func11, Try.ntmps11
  go_wp2_with (first
    | (at_mapUpdate
       refine wpList_mapUpdate_own _ rfl _ _ _ 25 rfl 9 3 (Maps.string_keyed Try.underlying9) Try.underlying25 (plainElem Try.prog 3) w.heap.size 0 (.map []) rfl Ho.out (by unfold maxLen; omega) _ _ (.string x) rfl rfl (key_s Hx.out) (.lit (.int .i64 (0 : Nat))) [] (plainElem_int Try.underlying3 Hln.out) ?_
       intro w2 ho2 hg2
       have b2 : Fr [w.heap.size] ((w.setCell ⟨b, 0, none⟩ (.map (some w.heap.size))).alloc (.map #[] 0)) w2 := (Fr.refl _ _).grown hg2 (fun k hk => (by cases hk; exact Or.inl (by simp)))
       have Hb2 : Hid (Box w2 b 27 #[.map (some w.heap.size), .slice A 0 cap]) := Lib.hid (Hbm.out.kept b2 (by simp; omega))
       have Hs2 : Hid (Seg w2 9 A cap (vals [])) := Lib.hid (Hsm.out.kept b2 (by intro g hg he; rw [List.mem_singleton] at he; subst he; exact seg_ne_map Hsm.out Ho.out hg))
       have c2 : w2.cell? ⟨b, 1, none⟩ = some (.slice A 0 cap) := Hb2.out.cell 1
       have f2 : w2.frozen? ⟨b, 1, none⟩ = false := Hb2.out.free 1
       have l2 := Hb2.out.lt)
    | (at_builtin
       refine wpList_push (n := 0) rfl _ _ _ rfl (Hs2.out.alloc _) rfl Try.underlying22 Hi.out Hz0.out Hz1.out Hz2.out rfl rfl rfl (new_cell _ _ _) rfl (by omega) (by omega) ?_
       intro A' cap' w3 hs3 b3 hf3
       have Hb3 : Hid (Box w3 b 27 #[.map (some w.heap.size), .slice A 0 cap]) := Lib.hid ((Hb2.out.kept ((Fr.refl [] w2).alloc _) (by simp)).kept b3 (Hs2.out.ne_box Hb2.out (by decide)))
       have c3 : w3.cell? ⟨b, 1, none⟩ = some (.slice A 0 cap) := Hb3.out.cell 1
       have f3 : w3.frozen? ⟨b, 1, none⟩ = false := Hb3.out.free 1))
  go_ret2
  exact put_end (mb := w.heap.size) (xs := []) (by simp) Hx.out (by simp) (by simp) (by simp) (by simp [foot]) (Fm.out.trans b2 (fun g hg => Or.inl hg) (fun g hg => Or.inr (by rw [List.mem_singleton] at hg; subst hg; exact Nat.le_refl _))) Hb2.out (ho2.mono (by omega)) ⟨[], rfl⟩ (by intro y _; exact ⟨rfl, rfl⟩) (Or.inr (Nat.le_refl _)) (Hs2.out.ne_box Hb2.out (by decide)) (seg_ne_map Hs2.out ho2) hs3 b3 hf3

theorem put_any (w : World) (b : Nat) (A : Option Addr) (cap : Nat) (m : Option Nat) (N : Nat) (xs : List (List UInt8)) (x : List UInt8) (h : Tb w b A cap m N xs) (hx : WF x) (hin : x ∉ xs) (hN : N < 1000000) :
    Calls Try.prog 11 #[.pointer (some ⟨b, 0, none⟩), encStr x] w (PutPost w b A m N xs x) := by
  cases m with
  | some mb => exact put_yes w b A cap mb N xs x h hx hin hN
  | none =>
    rcases h.set with ⟨_, rfl⟩ | ⟨_, _, h0, _⟩
    · exact put_new w b A cap N x h hx
    · cases h0
end Go.Proofs.Ytehieiddelngfaa.ins
