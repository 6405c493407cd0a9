/-
  intern: the law's own works.
-/
import Derived.Test.YtehieiddelngfaaInB
namespace Go.Proofs.Ytehieiddelngfaa.inn
open Go.RowKit Go.Shelf Go.Sort Go.Proofs.Ytehieiddelngfaa.mem

theorem on_fr {B : Nat} {w0 w w' : World} {F : List Nat} (h : Below B w0 w) (f : Fr F w w') (hF : ∀ g ∈ F, B ≤ g) (hB : B ≤ w.heap.size) : Below B w0 w' := h.trans (f.below hF hB)

theorem tb_new (w : World) : Tb (w.alloc (.cells #[.map none, .slice none 0 0] 43)) w.heap.size none 0 none 0 [] :=
  ⟨Box.new w _ _, Seg.nil _ _, Or.inl ⟨rfl, rfl⟩, by simp, by simp, Nat.le_refl _⟩

/-- a table all of whose blocks are new since a world -/
def TA (w0 w : World) (b N : Nat) (xs : List Int) : Prop := ∃ A cap m, Tb w b A cap m N xs ∧ Below w0.heap.size w0 w ∧ (∀ g ∈ foot b A m, w0.heap.size ≤ g) ∧ w0.heap.size ≤ w.heap.size

theorem ta_put {w0 w : World} {b N : Nat} {xs : List Int} (h : TA w0 w b N xs) (x : Int) (hx : WF x) (hin : x ∉ xs) (hN : N < 1000000) :
    Calls Try.prog 20 #[.pointer (some ⟨b, 0, none⟩), .int .i64 x] w fun e w' => e = .returned (.tuple #[.int .i64 (xs.length : Nat), .bool true]) ∧ TA w0 w' b (N + 1) (xs ++ [x]) := by
  obtain ⟨A, cap, m, ha, hb, hf, hB⟩ := h
  refine (put_any w b A cap m N xs x ha hx hin hN).mono ?_
  rintro e w' ⟨rfl, f, A', cap', m', ha', hf'⟩
  exact ⟨rfl, A', cap', m', ha', on_fr hb f hf hB, fun g hg => by rcases hf' g hg with h | h; exact hf g h; omega, Nat.le_trans hB f.size⟩

theorem ta_old {w0 w : World} {b N : Nat} {xs : List Int} (h : TA w0 w b N xs) (x : Int) (hx : WF x) (hin : x ∈ xs) :
    Calls Try.prog 20 #[.pointer (some ⟨b, 0, none⟩), .int .i64 x] w fun e w' => e = .returned (.tuple #[.int .i64 (noOf xs x : Nat), .bool false]) ∧ TA w0 w' b N xs := by
  obtain ⟨A, cap, m, ha, hb, hf, hB⟩ := h
  refine (put_old w b A cap m N xs x ha hx hin).mono ?_
  rintro e w' ⟨rfl, f⟩
  exact ⟨rfl, A, cap, m, ha.kept (Fr.of_below f []) (by simp), hb.trans (f.mono hB), hf, Nat.le_trans hB f.size⟩

theorem ta_len {w0 w : World} {b N : Nat} {xs : List Int} (h : TA w0 w b N xs) :
    Calls Try.prog 23 #[.pointer (some ⟨b, 0, none⟩)] w fun e w' => e = .returned (.int .i64 xs.length) ∧ w = w' := by
  obtain ⟨A, cap, m, ha, _⟩ := h
  exact tlen_any w b A cap xs.length (.map m) ha.box

def WorksPost (w : World) (e : Ending) (w' : World) : Prop := e = .returned (.bool true) ∧ Below w.heap.size w w'

theorem three_rd (w : World) (t : TypeId) : Rd (w.alloc (.cells #[.int .i64 2, .int .i64 1, .int .i64 2] t)) (some ⟨w.heap.size, 0, none⟩) ([2, 1, 2].map eI) := fun _ => ⟨w.heap.size, 0, rfl, by simp, fun j hj => by
  have hj : j < 3 := by simpa using hj
  have hb := Box.new w t #[.int .i64 2, .int .i64 1, .int .i64 2]
  match j, hj with
  | 0, _ => exact hb.cell 0
  | 1, _ => exact hb.cell 1
  | 2, _ => exact hb.cell 2⟩

theorem rs_three : (rsI [2, 1, 2]).length = 2 := by decide

set_option maxRecDepth 100000 in
set_option maxHeartbeats 400000 in
theorem works_any (w : World) : Calls Try.prog 16 #[] w (WorksPost w) := by
  have H0 : Hid (TA w (w.alloc (.cells #[.map none, .slice none 0 0] 43)) w.heap.size 0 []) := Lib.hid ⟨none, 0, none, tb_new w, (Below.refl _ _).alloc (Nat.le_refl _) _, by simp [foot, blk], by simp⟩
  have K1 := Lib.hid (fun w' (h : TA w w' w.heap.size 0 []) => ta_put h 7 rfl (by simp) (by omega))
  have K2 := Lib.hid (fun w' (h : TA w w' w.heap.size 1 [7]) => ta_put h 5 rfl (by decide) (by omega))
  have K3 := Lib.hid (fun w' (h : TA w w' w.heap.size 2 [7, 5]) => ta_old h 7 rfl (by decide))
  have K4 := Lib.hid (fun w' (h : TA w w' w.heap.size 2 [7, 5]) => ta_len h)
  have K5 := Lib.hid (fun w' => sortedi_any (w'.alloc (.cells #[.int .i64 2, .int .i64 1, .int .i64 2] 3)) (some ⟨w'.heap.size, 0, none⟩) 3 [2, 1, 2] (three_rd w' _) (by simp))
  have e0 : noOf [7, 5] 7 = 0 := by decide
  rw [e0] at K3
  have Hrs := Lib.hid rs_three
  go_enter Try.func16, Try.ntmps16
  go_wp2_with fail
  refine (K1.out _ H0.out).mono ?_
  rintro e w1 ⟨rfl, h1⟩
  have H1 := Lib.hid h1
  clear h1
  go_wp2_with fail
  refine (K2.out _ H1.out).mono ?_
  rintro e w2 ⟨rfl, h2⟩
  have H2 := Lib.hid h2
  clear h2
  go_wp2_with fail
  refine (K3.out _ H2.out).mono ?_
  rintro e w3 ⟨rfl, h3⟩
  have H3 := Lib.hid h3
  have hb3 : Below w.heap.size w w3 := by obtain ⟨_, _, _, _, h, _⟩ := h3; exact h
  have hz3 := hb3.size
  clear h3
  go_wp2_with fail
  refine (K4.out _ H3.out).mono ?_
  rintro e w4 ⟨rfl, rfl⟩
  go_wp2_with fail
  refine (K5.out _).mono ?_
  rintro e w5 ⟨A, cap, rfl, hb5, _⟩
  rw [Hrs.out]
  have hb6 : Below w.heap.size w w5 := (hb3.alloc hz3 _).trans (hb5.mono (by simp; omega))
  clear hb5
  go_wp2_with fail
  go_ret
  exact ⟨rfl, hb6⟩
end Go.Proofs.Ytehieiddelngfaa.inn
