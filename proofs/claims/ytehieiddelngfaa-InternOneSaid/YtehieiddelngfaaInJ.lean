/-
  intern: a table of texts that is the law's own; its iterator's making.
-/
import Derived.Test.YtehieiddelngfaaInI
import Derived.Test.YtehieiddelngfaaInC
namespace Go.Proofs.Ytehieiddelngfaa.ins
open Go.RowKit Go.Shelf Go.Proofs.Ytehieiddelngfaa.mem Go.Proofs.Ytehieiddelngfaa.inn

theorem ts_new (w : World) : Tb (w.alloc (.cells #[.map none, .slice none 0 0] 27)) w.heap.size none 0 none 0 [] :=
  ⟨Box.new w _ _, Seg.nil _ _, Or.inl ⟨rfl, rfl⟩, by simp, by simp, Nat.le_refl _⟩

/-- a table all of whose blocks are new since a world -/
def TS (w0 w : World) (b N : Nat) (xs : List (List UInt8)) : Prop := ∃ A cap m, Tb w b A cap m N xs ∧ Below w0.heap.size w0 w ∧ (∀ g ∈ foot b A m, w0.heap.size ≤ g) ∧ w0.heap.size ≤ w.heap.size

theorem ts_put {w0 w : World} {b N : Nat} {xs : List (List UInt8)} (h : TS w0 w b N xs) (x : List UInt8) (hx : WF x) (hin : x ∉ xs) (hN : N < 1000000) :
    Calls Try.prog 11 #[.pointer (some ⟨b, 0, none⟩), encStr x] w fun e w' => e = .returned (.tuple #[.int .i64 (xs.length : Nat), .bool true]) ∧ TS w0 w' b (N + 1) (xs ++ [x]) := by
  obtain ⟨A, cap, m, ha, hb, hf, hB⟩ := h
  refine (put_any w b A cap m N xs x ha hx hin hN).mono ?_
  rintro e w' ⟨rfl, f, A', cap', m', ha', hf'⟩
  exact ⟨rfl, A', cap', m', ha', on_fr hb f hf hB, fun g hg => by rcases hf' g hg with h | h; exact hf g h; omega, Nat.le_trans hB f.size⟩

theorem ts_old {w0 w : World} {b N : Nat} {xs : List (List UInt8)} (h : TS w0 w b N xs) (x : List UInt8) (hx : WF x) (hin : x ∈ xs) :
    Calls Try.prog 11 #[.pointer (some ⟨b, 0, none⟩), encStr x] w fun e w' => e = .returned (.tuple #[.int .i64 (noOf xs x : Nat), .bool false]) ∧ TS w0 w' b N xs := by
  obtain ⟨A, cap, m, ha, hb, hf, hB⟩ := h
  refine (put_old w b A cap m N xs x ha hx hin).mono ?_
  rintro e w' ⟨rfl, f⟩
  exact ⟨rfl, A, cap, m, ha.kept (Fr.of_below f []) (by simp), hb.trans (f.mono hB), hf, Nat.le_trans hB f.size⟩

theorem ts_len {w0 w : World} {b N : Nat} {xs : List (List UInt8)} (h : TS w0 w b N xs) :
    Calls Try.prog 12 #[.pointer (some ⟨b, 0, none⟩)] w fun e w' => e = .returned (.int .i64 xs.length) ∧ w = w' := by
  obtain ⟨A, cap, m, ha, _⟩ := h
  exact tlen_any w b A cap xs.length (.map m) ha.box

theorem ts_find {w0 w : World} {b N : Nat} {xs : List (List UInt8)} (h : TS w0 w b N xs) (x : List UInt8) (hx : WF x) :
    Calls Try.prog 13 #[.pointer (some ⟨b, 0, none⟩), encStr x] w fun e w' => e = .returned (.tuple #[.int .i64 (noOf xs x : Nat), .bool (decide (x ∈ xs))]) ∧ w = w' := by
  obtain ⟨A, cap, m, ha, _⟩ := h
  exact find_any w b m N xs x _ ha.box ha.set hx

theorem ts_at {w0 w : World} {b N : Nat} {xs : List (List UInt8)} (h : TS w0 w b N xs) (n : Int) :
    Calls Try.prog 14 #[.pointer (some ⟨b, 0, none⟩), .int .i64 n] w fun e w' => e = .returned (atV xs n) ∧ w = w' := by
  obtain ⟨A, cap, m, ha, _⟩ := h
  exact at_any w b A cap xs n _ ha.box ha.seg.rd

theorem TS.below {w0 w w' : World} {b N : Nat} {xs : List (List UInt8)} (h : TS w0 w b N xs) (f : Below w.heap.size w w') : TS w0 w' b N xs := by
  obtain ⟨A, cap, m, ha, hb, hf, hB⟩ := h
  exact ⟨A, cap, m, ha.kept (Fr.of_below f []) (by simp), hb.trans (f.mono hB), hf, Nat.le_trans hB f.size⟩
end Go.Proofs.Ytehieiddelngfaa.ins
