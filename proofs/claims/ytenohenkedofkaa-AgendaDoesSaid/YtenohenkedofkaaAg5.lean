/-
  agenda: Picks; the example of the statements.
-/
import Derived.Test.YtenohenkedofkaaAg4
import Derived.Test.YtenohenkedofkaaAgS3
import Derived.Test.YtenohenkedofkaaPar
namespace Go.Proofs.Ytenohenkedofkaa.ag
open Go.RowKit Go.Proofs.Ytenohenkedofkaa.mem

theorem seg_of_own {w : World} {base n : Nat} {e : TypeId} {v : Value} {xs : List Value} (h : w.ownsRow base e 1 v n xs) : ∃ A cap, v = .slice A n cap ∧ n = xs.length ∧ Seg w e A cap xs ∧ ∀ g ∈ blk A, base ≤ g := by
  have hl : xs.length = n := by have := h.1; omega
  rcases h.2 with ⟨rfl, rfl⟩ | ⟨g, cap, cur, rfl, hb, hc, hn, hm, hs, ht⟩
  · obtain rfl := List.eq_nil_of_length_eq_zero hl
    exact ⟨none, 0, rfl, rfl, Seg.nil w e, by simp [blk]⟩
  · refine ⟨_, cap, rfl, hl.symm, ⟨by omega, hm, fun hn => (by cases hn), fun a ha => ?_⟩, by simpa [blk] using hb⟩
    cases ha
    refine ⟨rfl, cur, hc, by show 0 + cap ≤ _; omega, fun j u hu => ?_⟩
    have hj := (List.getElem?_eq_some_iff.1 hu).1
    rw [← ht, List.getElem?_take, if_pos (by omega)] at hu
    show cur[0 + j]? = _
    rw [Nat.zero_add]
    simpa using hu

/-- numbers that pick, in a block -/
structure Pk (w : World) (b : Nat) (A : Option Addr) (cap : Nat) (xs : List Int) : Prop where
  box : Box w b 91 #[.slice A xs.length cap]
  seg : Seg w 3 A cap (vals xs)

theorem Pk.lt {w : World} {b : Nat} {A : Option Addr} {cap : Nat} {xs : List Int} (h : Pk w b A cap xs) : ∀ g ∈ b :: blk A, g < w.heap.size := by
  intro g hg
  rcases List.mem_cons.1 hg with rfl | hg
  · exact h.box.lt
  · exact h.seg.lt g hg

theorem Pk.kept {F : List Nat} {w w' : World} {b : Nat} {A : Option Addr} {cap : Nat} {xs : List Int} (h : Pk w b A cap xs) (hf : Fr F w w') (hd : ∀ g ∈ b :: blk A, g ∉ F) : Pk w' b A cap xs :=
  ⟨h.box.kept hf (hd b (by simp)), h.seg.kept hf (fun g hg => hd g (by simp [hg]))⟩

theorem next_nil (w : World) : Calls Try.prog 33 #[.pointer none] w fun e w' => e = .returned (.int .i64 0) ∧ w = w' := by
  go_enter Try.func33, Try.ntmps33
  go_wp2
  go_ret
  exact ⟨rfl, rfl⟩

def NextPost (w : World) (b : Nat) (A : Option Addr) (xs : List Int) (e : Ending) (w' : World) : Prop :=
  e = .returned (.int .i64 (xs.headD 0)) ∧ Fr [b] w w' ∧ ∃ A' cap', Pk w' b A' cap' xs.tail ∧ blk A' = blk A

set_option maxRecDepth 100000 in
theorem next_any (w : World) (b : Nat) (A : Option Addr) (cap : Nat) (xs : List Int) (h : Pk w b A cap xs) (hm : xs.length ≤ 9223372036854775807) : Calls Try.prog 33 #[.pointer (some ⟨b, 0, none⟩)] w (NextPost w b A xs) := by
  cases xs with
  | nil =>
    have c0 : w.cell? ⟨b, 0, none⟩ = some (.slice A 0 cap) := h.box.cell 0
    have Hh := Lib.hid h
    clear h
    go_enter Try.func33, Try.ntmps33
    go_wp2
    go_ret
    exact ⟨rfl, Fr.refl _ _, A, cap, Hh.out, rfl⟩
  | cons x ys =>
    have hs := h.seg
    obtain ⟨A', cap', hsl, hA', hkeep⟩ := Seg.tail (x := .int .i64 x) (xs := vals ys) hs Try.underlying25 (fun w => by kernel_rfl)
    rw [vals_len] at hsl
    obtain ⟨g, off, hA, hlt, hc⟩ := hs.at_ (by simp [vals])
    have hc0 : w.cell? ⟨g, off, none⟩ = some (.int .i64 x) := hc 0 (by simp [vals])
    have c0 : w.cell? ⟨b, 0, none⟩ = some (.slice (some ⟨g, off, none⟩) (ys.length + 1) cap) := hA ▸ h.box.cell 0
    have f0 : w.frozen? ⟨b, 0, none⟩ = false := h.box.free 0
    have l0 := h.box.lt
    have hz : ((ys.length : Int) + 1 == 0) = false := by rw [beq_eq_false_iff_ne]; omega
    have hm : ys.length + 1 ≤ 9223372036854775807 := hm
    have Hp : Hid (NextPost w b A (x :: ys) (.returned (.int .i64 x)) (w.setCell ⟨b, 0, none⟩ (.slice A' ys.length cap'))) := Lib.hid ⟨rfl, (Fr.refl _ w).setCell (Or.inl (by simp)) _, A', cap', ⟨by have := h.box.put 0 (.slice A' ys.length cap'); simpa using this, hkeep _ (hs.kept ((Fr.refl [b] _).setCell (Or.inl (by simp)) _) (fun g hg he => by rw [List.mem_singleton] at he; subst he; exact hs.ne_box h.box (by decide) hg))⟩, hA'⟩
    subst hA
    clear h hs hc hA' hkeep
    go_enter Try.func33, Try.ntmps33
    go_wp2
    go_ret
    exact Hp.out

def OfPost (w : World) (xs : List Int) (e : Ending) (w' : World) : Prop :=
  ∃ b A cap, e = .returned (.pointer (some ⟨b, 0, none⟩)) ∧ Pk w' b A cap xs ∧ Below w.heap.size w w' ∧ ∀ g ∈ b :: blk A, w.heap.size ≤ g

theorem clone_any (w : World) (A : Option Addr) (cap : Nat) (xs : List Int) (h : Rd w A (vals xs)) (hm : xs.length * 8 ≤ 140737488355328) :
    Calls Try.prog 49 #[.slice A xs.length cap] w fun e w' => ∃ A' cap', e = .returned (.slice A' xs.length cap') ∧ Seg w' 3 A' cap' (vals xs) ∧ Below w.heap.size w w' ∧ ∀ g ∈ blk A', w.heap.size ≤ g := by
  rcases Nat.eq_zero_or_pos xs.length with h0 | h0
  · obtain rfl := List.eq_nil_of_length_eq_zero h0
    cases A with
    | none =>
      refine (Try.slices_Clone_int_nil 0 cap w).mono ?_
      rintro e w' ⟨rfl, rfl⟩
      exact ⟨none, 0, rfl, Seg.nil _ _, Below.refl _ _, by simp [blk]⟩
    | some a =>
      refine (Try.slices_Clone_int_zero a cap w).mono ?_
      rintro e w' ⟨v, rfl, ho, _, hb⟩
      obtain ⟨A', cap', rfl, _, hs, hg⟩ := seg_of_own ho
      exact ⟨A', cap', rfl, hs, hb, hg⟩
  · obtain ⟨g, off, rfl, hlt, hc⟩ := h (by rw [vals_len]; exact h0)
    refine (Try.slices_Clone_int g off xs.length cap xs w (Nat.le_refl _) hm (fun j hj => ?_)).mono ?_
    · rw [hc j (by rw [vals_len]; exact hj)]
      simp [vals, List.getD, List.getElem?_eq_getElem hj]
    · rintro e w' ⟨v, rfl, ho, _, hb⟩
      rw [List.take_length] at ho
      obtain ⟨A', cap', rfl, _, hs, hg⟩ := seg_of_own ho
      exact ⟨A', cap', rfl, hs, hb, hg⟩

theorem of_any (w : World) (A : Option Addr) (cap : Nat) (xs : List Int) (h : Rd w A (vals xs)) (hm : xs.length * 8 ≤ 140737488355328) : Calls Try.prog 32 #[.slice A xs.length cap] w (OfPost w xs) := by
  have H := Lib.hid (fun w h => clone_any w A cap xs h hm)
  have Hh := Lib.hid h
  clear h hm
  go_enter Try.func32, Try.ntmps32
  go_wp2_with fail
  refine (H.out _ Hh.out).mono ?_
  rintro e w1 ⟨A1, cap1, rfl, hs1, b1, hg1⟩
  have Hs1 := Lib.hid hs1
  clear hs1
  go_wp2_with fail
  go_ret
  refine ⟨w1.heap.size, A1, cap1, rfl, ⟨Box.new w1 _ _, Hs1.out.alloc _⟩, b1.alloc b1.size _, fun g hg => ?_⟩
  rcases List.mem_cons.1 hg with rfl | hg
  · exact b1.size
  · exact hg1 g hg

theorem rnext_any (w : World) (A : Option Addr) (cap : Nat) (xs : List Int) (k : Nat) (h : Rd w A (vals xs)) (hk : k ≤ 1000000) (hm : xs.length ≤ 1000000) : Calls Try.prog 34 #[.slice A xs.length cap, .int .i64 k] w fun e w' => e = .returned (.int .i64 ((xs.drop k).headD 0)) ∧ w = w' := by
  by_cases hl : k < xs.length
  · obtain ⟨g, off, rfl, hlt, hc⟩ := h (by rw [vals_len]; omega)
    have hc0 : w.cell? ⟨g, off + k, none⟩ = some (.int .i64 xs[k]) := by rw [hc k (by rw [vals_len]; exact hl)]; simp [vals]
    have Hv : Hid ((xs.drop k).headD 0 = xs[k]) := Lib.hid (by rw [List.drop_eq_getElem_cons hl]; rfl)
    generalize xs[k] = y at *
    clear hc h
    go_enter Try.func34, Try.ntmps34
    go_wp2
    go_ret
    exact ⟨by rw [Hv.out]; rfl, rfl⟩
  · have Hv : Hid ((xs.drop k).headD 0 = 0) := Lib.hid (by rw [List.drop_of_length_le (by omega)]; rfl)
    clear h
    go_enter Try.func34, Try.ntmps34
    go_wp2
    go_ret
    exact ⟨by rw [Hv.out]; rfl, rfl⟩
end Go.Proofs.Ytenohenkedofkaa.ag
