/-
  agenda over whole numbers: what an agenda is in memory; Len, Has.
-/
import Derived.Test.YtenohenkedofkaaMem
import Derived.Maps.OwnSet
import Derived.Maps.Views
namespace Go.Proofs.Ytenohenkedofkaa.ag
open Go.RowKit Go.Proofs.Ytenohenkedofkaa.mem

def WF (x : Int) : Prop := (Lit.int .i64 x).wf = true
def vals (xs : List Int) : List Value := xs.map (Value.int .i64)
theorem vals_len (xs : List Int) : (vals xs).length = xs.length := by simp [vals]

/-- the set of what waits -/
def Waits (w : World) (m : Option Nat) (N : Nat) (xs : List Int) : Prop :=
  (m = none ∧ xs = []) ∨ ∃ b D, m = some b ∧ w.ownsMap (H := Unit) Try.prog 3 unitElem b N D ∧ ∀ x, WF x → Maps.has D (.int .i64 x) = decide (x ∈ xs)

/-- an agenda in a block -/
structure Ag (w : World) (b : Nat) (A : Option Addr) (cap : Nat) (m : Option Nat) (N : Nat) (xs : List Int) : Prop where
  box : Box w b 42 #[.slice A xs.length cap, .map m]
  seg : Seg w 3 A cap (vals xs)
  set : Waits w m N xs
  nod : xs.Nodup
  wf : ∀ x ∈ xs, WF x
  len : xs.length ≤ N

def foot (b : Nat) (A : Option Addr) (m : Option Nat) : List Nat := b :: (blk A ++ m.toList)

theorem Waits.lt {w : World} {m : Option Nat} {N : Nat} {xs : List Int} (h : Waits w m N xs) : ∀ g ∈ m.toList, g < w.heap.size := by
  intro g hg
  rcases h with ⟨rfl, _⟩ | ⟨b, D, rfl, ho, _⟩
  · simp at hg
  · simp at hg; subst hg; exact ho.lt

theorem Waits.kept {F : List Nat} {w w' : World} {m : Option Nat} {N : Nat} {xs : List Int} (h : Waits w m N xs) (hf : Fr F w w') (hd : ∀ g ∈ m.toList, g ∉ F) : Waits w' m N xs := by
  rcases h with ⟨rfl, h⟩ | ⟨b, D, rfl, ho, h⟩
  · exact Or.inl ⟨rfl, h⟩
  · right
    obtain ⟨es, clock, hb, r⟩ := ho
    exact ⟨b, D, rfl, ⟨es, clock, (hf.block b (Array.getElem?_eq_some_iff.1 hb).1 (hd b (by simp))).trans hb, r⟩, h⟩

theorem Waits.mono {w : World} {m : Option Nat} {N N' : Nat} {xs : List Int} (h : Waits w m N xs) (hN : N ≤ N') : Waits w m N' xs := by
  rcases h with h | ⟨b, D, rfl, ho, h⟩
  · exact Or.inl h
  · exact Or.inr ⟨b, D, rfl, ho.mono hN, h⟩

theorem Ag.lt {w : World} {b : Nat} {A : Option Addr} {cap : Nat} {m : Option Nat} {N : Nat} {xs : List Int} (h : Ag w b A cap m N xs) : ∀ g ∈ foot b A m, g < w.heap.size := by
  intro g hg
  simp only [foot, List.mem_cons, List.mem_append] at hg
  rcases hg with rfl | hg | hg
  · exact h.box.lt
  · exact h.seg.lt g hg
  · exact h.set.lt g hg

theorem Ag.kept {F : List Nat} {w w' : World} {b : Nat} {A : Option Addr} {cap : Nat} {m : Option Nat} {N : Nat} {xs : List Int} (h : Ag w b A cap m N xs) (hf : Fr F w w') (hd : ∀ g ∈ foot b A m, g ∉ F) : Ag w' b A cap m N xs :=
  ⟨h.box.kept hf (hd b (by simp [foot])), h.seg.kept hf (fun g hg => hd g (by simp [foot, hg])), h.set.kept hf (fun g hg => hd g (by simp only [foot, List.mem_cons, List.mem_append]; exact Or.inr (Or.inr hg))), h.nod, h.wf, h.len⟩

theorem len_any (w : World) (b : Nat) (A : Option Addr) (cap n : Nat) (v : Value) (h : Box w b 42 #[.slice A n cap, v]) :
    Calls Try.prog 30 #[.pointer (some ⟨b, 0, none⟩)] w fun e w' => e = .returned (.int .i64 n) ∧ w = w' := by
  have c0 : w.cell? ⟨b, 0, none⟩ = some (.slice A n cap) := h.cell 0
  clear h
  go_enter Try.func30, Try.ntmps30
  go_wp2
  go_ret
  exact ⟨rfl, rfl⟩

theorem len_nil (w : World) : Calls Try.prog 30 #[.pointer none] w fun e w' => e = .returned (.int .i64 0) ∧ w = w' := by
  go_enter Try.func30, Try.ntmps30
  go_wp2
  go_ret
  exact ⟨rfl, rfl⟩

/-- 'v, ok := m[k]', as the walk takes it -/
theorem Waits.look {w : World} {m : Option Nat} {N : Nat} {xs : List Int} (h : Waits w m N xs) (x : Int) (hx : WF x) :
    (Instr.lookup 40 (.map m) (.int .i64 x) true).run Try.prog w = .ok (.tuple #[.agg #[], .bool (decide (x ∈ xs))]) w := by
  have hz : (zeroValue 86).run Try.prog w = .ok (.agg #[]) w := by kernel_rfl
  rcases h with ⟨rfl, rfl⟩ | ⟨b, D, rfl, ho, hh⟩
  · exact Maps.look_nil (w := w) true (Maps.int_keyed Try.underlying3) Try.underlying40 hz (Maps.keyOf_int_mk Try.underlying3 hx)
  · obtain ⟨v, ps, hrun, hv⟩ := ho.look_ok (Maps.int_keyed Try.underlying3) Try.underlying40 hz (zd := .agg []) (zp := []) unitElem_mk (Maps.keyOf_int_mk Try.underlying3 hx)
    obtain ⟨rfl, _⟩ := unitElem_inv hv
    rw [hrun, hh x hx]

theorem has_any (w : World) (b : Nat) (m : Option Nat) (N : Nat) (xs : List Int) (x : Int) (v : Value) (hb : Box w b 42 #[v, .map m]) (hs : Waits w m N xs) (hx : WF x) :
    Calls Try.prog 28 #[.pointer (some ⟨b, 0, none⟩), .int .i64 x] w fun e w' => e = .returned (.bool (decide (x ∈ xs))) ∧ Below w.heap.size w w' := by
  have c1 : w.cell? ⟨b, 1, none⟩ = some (.map m) := hb.cell 1
  have hl := hs.look x hx
  generalize decide (x ∈ xs) = r at *
  clear hb hs
  go_enter Try.func28, Try.ntmps28
  go_wp2
  go_ret
  exact ⟨rfl, (Below.refl _ _).alloc (Nat.le_refl _) _⟩

theorem box_ne_map {w : World} {b mb n : Nat} {t k : TypeId} {cs : Array Value} {D : DataW Unit} {P : Program} {R : Value → Option (DataW Unit × List MemPlace)} (h : Box w b t cs) (ho : w.ownsMap P k R mb n D) : b ≠ mb := by
  rintro rfl
  obtain ⟨es, clock, hb, _⟩ := ho
  unfold Box at h
  rw [h] at hb
  cases hb

theorem seg_ne_map {w : World} {e : TypeId} {A : Option Addr} {cap mb n : Nat} {xs : List Value} {k : TypeId} {D : DataW Unit} {P : Program} {R : Value → Option (DataW Unit × List MemPlace)} (h : Seg w e A cap xs) (ho : w.ownsMap P k R mb n D) : mb ∉ blk A := by
  intro hm
  obtain ⟨es, clock, hb, _⟩ := ho
  cases A with
  | none => cases hm
  | some a =>
    simp only [blk, List.mem_singleton] at hm
    subst hm
    obtain ⟨_, cur, hc, _⟩ := h.2.2.2 a rfl
    rw [hc] at hb
    cases hb

theorem map_kept {F : List Nat} {w w' : World} {mb n : Nat} {k : TypeId} {D : DataW Unit} {P : Program} {R : Value → Option (DataW Unit × List MemPlace)} (ho : w.ownsMap P k R mb n D) (hf : Fr F w w') (hm : mb ∉ F) : w'.ownsMap P k R mb n D := by
  obtain ⟨es, clock, hb, r⟩ := ho
  exact ⟨es, clock, (hf.block mb (Array.getElem?_eq_some_iff.1 hb).1 hm).trans hb, r⟩

theorem info_int : (Try.prog.info? 3).map (fun i => (i.zero, i.size, i.bytes)) = some (some (.int .i64 0), 1, 8) := by kernel_rfl

theorem has_put (D : DataW Unit) (hD : Maps.IsMap D) (xs : List Int) (x : Int) (hx : WF x) (h : ∀ y, WF y → Maps.has D (.int .i64 y) = decide (y ∈ xs)) : ∀ y, WF y → Maps.has (D.put (.int .i64 x) (.agg [])) (.int .i64 y) = decide (y ∈ xs ++ [x]) := by
  intro y hy
  by_cases e : y = x
  · subst e
    rw [Maps.has_put_same hD (show WideAt.IsKeyLit (.int .i64 y) from trivial)]
    simp
  · rw [Maps.has_put_other (fun h => e (by injection h)), h y hy]
    simp [e]

theorem vals_snoc (xs : List Int) (x : Int) : vals xs ++ [Value.int .i64 x] = vals (xs ++ [x]) := by simp [vals]

def PutPost (w : World) (b : Nat) (A : Option Addr) (m : Option Nat) (N : Nat) (xs : List Int) (x : Int) (e : Ending) (w' : World) : Prop :=
  e = .returned (.bool true) ∧ Fr (foot b A m) w w' ∧ ∃ A' cap' m', Ag w' b A' cap' m' (N + 1) (xs ++ [x]) ∧ ∀ g ∈ foot b A' m', g ∈ foot b A m ∨ w.heap.size ≤ g

/-- the agenda behind Put: the block w4 is w3 with the queue stored -/
theorem put_end {w w2 w3 : World} {b : Nat} {A A' : Option Addr} {cap cap' mb N : Nat} {m : Option Nat} {xs : List Int} {x : Int} {D : DataW Unit} {o : Obj} (hwf : ∀ y ∈ xs, WF y) (hx : WF x) (hin : x ∉ xs) (hnod : xs.Nodup) (hlen : xs.length ≤ N) (hbA : b ∈ foot b A m)
    (f2 : Fr (foot b A m) w w2) (hb2 : Box w2 b 42 #[.slice A xs.length cap, .map (some mb)]) (ho2 : w2.ownsMap (H := Unit) Try.prog 3 unitElem mb (N + 1) (D.put (.int .i64 x) (.agg []))) (hD : Maps.IsMap D) (hh : ∀ y, WF y → Maps.has D (.int .i64 y) = decide (y ∈ xs)) (hmb : mb ∈ foot b A m ∨ w.heap.size ≤ mb)
    (hbl : b ∉ blk A) (hml : mb ∉ blk A) (hs3 : Seg w3 3 A' cap' (vals xs ++ [.int .i64 x])) (f3 : Fr (blk A) (w2.alloc o) w3) (hf3 : blk A' = blk A ∨ blk A' = [(w2.alloc o).heap.size]) :
    PutPost w b A m N xs x (.returned (.bool true)) (w3.setCell ⟨b, 0, none⟩ (.slice A' (xs.length + 1) cap')) := by
  have hb3 : Box w3 b 42 #[.slice A xs.length cap, .map (some mb)] := (hb2.kept ((Fr.refl [] w2).alloc o) (by simp)).kept f3 hbl
  have fall : Fr (blk A) w2 w3 := ((Fr.refl (blk A) w2).alloc o).trans f3 (fun g hg => Or.inl hg) (fun g hg => Or.inl hg)
  obtain ⟨es, clock, hmh, hr⟩ := ho2
  have hmh3 : w3.heap[mb]? = some (.map es clock) := (fall.block mb (Array.getElem?_eq_some_iff.1 hmh).1 hml).trans hmh
  have hmlt : mb < w2.heap.size := (Array.getElem?_eq_some_iff.1 hmh).1
  have hne : mb ≠ b := fun e => by
    subst e
    unfold Box at hb2
    rw [hb2] at hmh
    cases hmh
  have fw : Fr (foot b A m) w w3 := f2.trans fall (fun g hg => Or.inl hg) (fun g hg => Or.inl (by simp only [foot, List.mem_cons, List.mem_append]; exact Or.inr (Or.inl hg)))
  have hfb : ∀ g ∈ blk A', g ∈ blk A ∨ w2.heap.size ≤ g := by
    intro g hg
    rcases hf3 with e | e
    · exact Or.inl (e ▸ hg)
    · right
      rw [e, List.mem_singleton] at hg
      subst hg
      simp
  have hb4 : b ∉ blk A' := by
    intro hm
    rcases hfb b hm with h | h
    · exact hbl h
    · have := hb2.lt; omega
  refine ⟨rfl, fw.setCell (Or.inl hbA) _, A', cap', some mb, ⟨?_, ?_, ?_, ?_, ?_, by simpa using hlen⟩, ?_⟩
  · have := hb3.put 0 (.slice A' (xs.length + 1) cap')
    simpa using this
  · rw [← vals_snoc]
    exact hs3.kept ((Fr.refl [b] w3).setCell (Or.inl (by simp)) _) (fun g hg he => by rw [List.mem_singleton] at he; subst he; exact hb4 hg)
  · refine Or.inr ⟨mb, _, rfl, ⟨es, clock, ?_, hr⟩, has_put D hD xs x hx hh⟩
    exact (Below.heap_setCell w3 _ _ mb hne).trans hmh3
  · rw [List.nodup_append]
    refine ⟨hnod, by simp, ?_⟩
    intro a ha c hc
    rw [List.mem_singleton] at hc
    subst hc
    exact fun e => hin (e ▸ ha)
  · intro y hy
    rcases List.mem_append.1 hy with h | h
    · exact hwf y h
    · rw [List.mem_singleton] at h; subst h; exact hx
  · intro g hg
    simp only [foot, List.mem_cons, List.mem_append, Option.toList_some, List.not_mem_nil, or_false] at hg
    rcases hg with rfl | hg | rfl
    · exact Or.inl hbA
    · rcases hfb g hg with h | h
      · left; simp only [foot, List.mem_cons, List.mem_append]; exact Or.inr (Or.inl h)
      · right; exact Nat.le_trans f2.size h
    · exact hmb
end Go.Proofs.Ytenohenkedofkaa.ag
