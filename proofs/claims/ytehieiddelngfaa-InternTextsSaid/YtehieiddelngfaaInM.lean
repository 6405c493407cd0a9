/-
  intern: the law on texts: a table and a list beside it.
-/
import Derived.Test.YtehieiddelngfaaInL
namespace Go.Proofs.Ytehieiddelngfaa.ins
open Go.RowKit Go.Shelf Go.Proofs.Ytehieiddelngfaa.mem Go.Proofs.Ytehieiddelngfaa.inn

/-- things in the order in which they came first -/
def nub (l : List (List UInt8)) : List (List UInt8) := l.foldl (fun m x => if x ∈ m then m else m ++ [x]) []

theorem nub_snoc (l : List (List UInt8)) (k : Nat) (hk : k < l.length) : nub (l.take (k + 1)) = if l[k] ∈ nub (l.take k) then nub (l.take k) else nub (l.take k) ++ [l[k]] := by
  rw [List.take_succ_eq_append_getElem hk]
  unfold nub
  rw [List.foldl_append]
  rfl

theorem nub_len (l : List (List UInt8)) : (nub l).length ≤ l.length := by
  have : ∀ (l m : List (List UInt8)), (l.foldl (fun m x => if x ∈ m then m else m ++ [x]) m).length ≤ m.length + l.length := by
    intro l
    induction l with
    | nil => intro m; simp
    | cons x l ih =>
      intro m
      have h := ih (if x ∈ m then m else m ++ [x])
      have h2 : (if x ∈ m then m else m ++ [x]).length ≤ m.length + 1 := by split <;> simp
      simp only [List.foldl_cons, List.length_cons]
      omega
  have h := this l []
  simp only [List.length_nil, Nat.zero_add] at h
  exact h

theorem Tb.mono {w : World} {b : Nat} {A : Option Addr} {cap : Nat} {m : Option Nat} {N N' : Nat} {xs : List (List UInt8)} (h : Tb w b A cap m N xs) (hN : N ≤ N') : Tb w b A cap m N' xs :=
  ⟨h.box, h.seg, h.set.mono hN, h.nod, h.wf, Nat.le_trans h.len hN⟩

/-- a table of the call's own, and a list of its own beside it -/
structure TM (w0 w : World) (b N : Nat) (xs ys : List (List UInt8)) (B : Option Addr) (c : Nat) : Prop where
  ex : ∃ A cap m, Tb w b A cap m N xs ∧ (∀ g ∈ foot b A m, w0.heap.size ≤ g) ∧ (∀ g ∈ foot b A m, g ∉ blk B)
  on : Below w0.heap.size w0 w
  seg : Seg w 9 B c (vals ys)
  own : ∀ g ∈ blk B, w0.heap.size ≤ g

theorem TM.new (w : World) : TM w (w.alloc (.cells #[.map none, .slice none 0 0] 27)) w.heap.size 0 [] [] none 0 :=
  ⟨⟨none, 0, none, ts_new w, by simp [foot, blk], by simp [blk]⟩, (Below.refl _ w).alloc (Nat.le_refl _) _, Seg.nil _ _, by simp [blk]⟩

theorem TM.rd {w0 w : World} {b N : Nat} {xs ys : List (List UInt8)} {B : Option Addr} {c : Nat} (h : TM w0 w b N xs ys B c) : Rd w B (ys.map encStr) := h.seg.rd

theorem tm_new {w0 w : World} {b N : Nat} {xs ys : List (List UInt8)} {B : Option Addr} {c : Nat} (h : TM w0 w b N xs ys B c) (x : List UInt8) (hx : WF x) (hin : x ∉ xs) (hN : N < 1000000) :
    Calls Try.prog 11 #[.pointer (some ⟨b, 0, none⟩), encStr x] w fun e w' => e = .returned (.tuple #[.int .i64 (xs.length : Nat), .bool true]) ∧ TM w0 w' b (N + 1) (xs ++ [x]) ys B c := by
  obtain ⟨A, cap, m, ha, hf, hd⟩ := h.ex
  refine (put_any w b A cap m N xs x ha hx hin hN).mono ?_
  rintro e w' ⟨rfl, f, A', cap', m', ha', hf'⟩
  refine ⟨rfl, ⟨A', cap', m', ha', fun g hg => ?_, fun g hg hB => ?_⟩, on_fr h.on f hf h.on.size, h.seg.kept f (fun g hg hm => hd g hm hg), h.own⟩
  · rcases hf' g hg with h1 | h1
    · exact hf g h1
    · have := h.on.size; omega
  · rcases hf' g hg with h1 | h1
    · exact hd g h1 hB
    · have := h.seg.lt g hB; omega

theorem tm_old {w0 w : World} {b N : Nat} {xs ys : List (List UInt8)} {B : Option Addr} {c : Nat} (h : TM w0 w b N xs ys B c) (x : List UInt8) (hx : WF x) (hin : x ∈ xs) :
    Calls Try.prog 11 #[.pointer (some ⟨b, 0, none⟩), encStr x] w fun e w' => e = .returned (.tuple #[.int .i64 (noOf xs x : Nat), .bool false]) ∧ TM w0 w' b (N + 1) xs ys B c := by
  obtain ⟨A, cap, m, ha, hf, hd⟩ := h.ex
  refine (put_old w b A cap m N xs x ha hx hin).mono ?_
  rintro e w' ⟨rfl, f⟩
  exact ⟨rfl, ⟨A, cap, m, (ha.kept (Fr.of_below f []) (by simp)).mono (by omega), hf, hd⟩, h.on.trans (f.mono h.on.size), h.seg.kept (Fr.of_below f []) (by simp), h.own⟩

theorem tm_len {w0 w : World} {b N : Nat} {xs ys : List (List UInt8)} {B : Option Addr} {c : Nat} (h : TM w0 w b N xs ys B c) :
    Calls Try.prog 12 #[.pointer (some ⟨b, 0, none⟩)] w fun e w' => e = .returned (.int .i64 xs.length) ∧ w = w' := by
  obtain ⟨A, cap, m, ha, _⟩ := h.ex
  exact tlen_any w b A cap xs.length (.map m) ha.box

theorem tm_find {w0 w : World} {b N : Nat} {xs ys : List (List UInt8)} {B : Option Addr} {c : Nat} (h : TM w0 w b N xs ys B c) (x : List UInt8) (hx : WF x) :
    Calls Try.prog 13 #[.pointer (some ⟨b, 0, none⟩), encStr x] w fun e w' => e = .returned (.tuple #[.int .i64 (noOf xs x : Nat), .bool (decide (x ∈ xs))]) ∧ w = w' := by
  obtain ⟨A, cap, m, ha, _⟩ := h.ex
  exact find_any w b m N xs x _ ha.box ha.set hx

theorem tm_at {w0 w : World} {b N : Nat} {xs ys : List (List UInt8)} {B : Option Addr} {c : Nat} (h : TM w0 w b N xs ys B c) (n : Int) :
    Calls Try.prog 14 #[.pointer (some ⟨b, 0, none⟩), .int .i64 n] w fun e w' => e = .returned (atV xs n) ∧ w = w' := by
  obtain ⟨A, cap, m, ha, _⟩ := h.ex
  exact at_any w b A cap xs n _ ha.box ha.seg.rd

theorem tm_rising {w0 w : World} {b N : Nat} {xs : List (List UInt8)} {B : Option Addr} {c : Nat} (h : TM w0 w b N xs xs B c) (hlen : xs.length ≤ 250) :
    Calls Try.prog 15 #[.pointer (some ⟨b, 0, none⟩), .slice B xs.length c] w fun e w' => e = .returned (.bool true) ∧ Below w.heap.size w w' := by
  obtain ⟨A, cap, m, ha, _⟩ := h.ex
  exact rising_law w b A B cap c m N xs ha h.rd hlen

theorem tm_push {w0 w w3 : World} {b N : Nat} {xs ys : List (List UInt8)} {B A' : Option Addr} {c cap' : Nat} {o : Obj} (h : TM w0 w b N xs ys B c) (x : List UInt8) (hs3 : Seg w3 9 A' cap' (vals ys ++ [encStr x])) (b3 : Fr (blk B) (w.alloc o) w3) (hf3 : blk A' = blk B ∨ blk A' = [(w.alloc o).heap.size]) : TM w0 w3 b N xs (ys ++ [x]) A' cap' := by
  obtain ⟨A, cap, m, ha, hf, hd⟩ := h.ex
  have f : Fr (blk B) w w3 := ((Fr.refl (blk B) w).alloc o).trans b3 (fun g hg => Or.inl hg) (fun g hg => Or.inl hg)
  have hn : ∀ g ∈ blk A', g ∈ blk B ∨ w.heap.size ≤ g := by
    intro g hg
    rcases hf3 with e | e
    · exact Or.inl (e ▸ hg)
    · right
      rw [e, List.mem_singleton] at hg
      subst hg
      simp
  refine ⟨⟨A, cap, m, ha.kept f hd, hf, fun g hg hB => ?_⟩, on_fr h.on f h.own h.on.size, by rw [← vals_snoc]; exact hs3, fun g hg => ?_⟩
  · rcases hn g hB with h1 | h1
    · exact hd g hg h1
    · have := ha.lt g hg; omega
  · rcases hn g hg with h1 | h1
    · exact h.own g h1
    · have := h.on.size; omega
end Go.Proofs.Ytehieiddelngfaa.ins
