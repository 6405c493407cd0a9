/-
  forest: a forest and the reference's.
-/
import Derived.Test.YtenohenkedofkaaFo12
import Derived.Deep.RegionHeld3
namespace Go.Proofs.Ytenohenkedofkaa.fo
open Go.RowKit Go.Proofs.Ytenohenkedofkaa.mem

structure Mix (w wr : World) (f ga gn : Nat) (F : List Nat) (g : Nat) (G : List Nat) : Prop where
  a : Own w wr f ga gn F
  b : Box wr g 3 (natv G)
  len : G.length ≤ 100000
  bg : w.heap.size ≤ g
  d : f ≠ g ∧ ga ≠ g ∧ gn ≠ g

theorem Mix.on {w wr : World} {f ga gn g : Nat} {F G : List Nat} (h : Mix w wr f ga gn F g G) : Below w.heap.size w wr := h.a.on
theorem Mix.pairs {w wr : World} {f ga gn g : Nat} {F G : List Nat} (h : Mix w wr f ga gn F g G) {b o : Nat} {v : Value} (hb : b < w.heap.size) (hc : w.cell? ⟨b, o, none⟩ = some v) : wr.cell? ⟨b, o, none⟩ = some v := (h.on.cell (p := ⟨b, o, none⟩) hb).trans hc

theorem Mix.below {w wr w2 : World} {f ga gn g : Nat} {F G : List Nat} (h : Mix w wr f ga gn F g G) (hb : Below wr.heap.size wr w2) : Mix w w2 f ga gn F g G :=
  ⟨h.a.below hb, h.b.kept (Fr.of_below hb []) (by simp), h.len, h.bg, h.d⟩
theorem Mix.drew {w wr : World} {f ga gn g : Nat} {F G : List Nat} (h : Mix w wr f ga gn F g G) : Mix w wr.drew f ga gn F g G := h.below (Below.refl _ wr).drew

theorem Mix.stepA {w wr w2 : World} {f ga gn g : Nat} {F G F' : List Nat} (h : Mix w wr f ga gn F g G) (hf : Fr [f, ga, gn] wr w2) (h2 : FF w2 f ga gn F' (roots F')) (hl : F'.length = F.length) : Mix w w2 f ga gn F' g G := by
  have d := h.d
  exact ⟨h.a.step hf h2 hl, h.b.kept hf (by simp; omega), h.len, h.bg, d⟩

theorem mix_of {w w1 w2 : World} {f ga gn g k : Nat} (h : Own w w1 f ga gn (List.range k)) (hb : Box w2 g 3 (natv (List.range k))) (ho : Below w1.heap.size w1 w2) (hg : w1.heap.size ≤ g) : Mix w w2 f ga gn (List.range k) g (List.range k) := by
  obtain ⟨l1, l2, l3⟩ := h.ff.lt
  have hs := h.on.size
  refine ⟨h.below ho, hb, h.len, by omega, by omega, by omega, by omega⟩

theorem mix_join {w wr : World} {f ga gn g : Nat} {F G : List Nat} (h : Mix w wr f ga gn F g G) (a b : Int) :
    Calls Try.prog 14 #[.pointer (some ⟨f, 0, none⟩), .int .i64 a, .int .i64 b] wr fun e w' => e = .returned (.bool (jn F a b)) ∧ Mix w w' f ga gn (jF F a b) g G := by
  refine (join_ff wr f ga gn F a b h.a.ff h.a.len).mono ?_
  rintro e w' ⟨rfl, hf, hh⟩
  exact ⟨rfl, h.stepA hf hh (jF_len F a b)⟩

theorem mix_rjoin {w wr : World} {f ga gn g : Nat} {F G : List Nat} (h : Mix w wr f ga gn F g G) (a b : Int) :
    Calls Try.prog 15 #[.slice (some ⟨g, 0, none⟩) G.length G.length, .int .i64 a, .int .i64 b] wr fun e w' => e = .returned (.bool (jn G a b)) ∧ Mix w w' f ga gn F g (jF G a b) := by
  refine (rjoin_any wr g G a b h.b h.len).mono ?_
  rintro e w' ⟨rfl, hh⟩
  have d := h.d
  exact ⟨rfl, ⟨h.a.ff.kept hh.on (by simp; omega) (by simp; omega) (by simp; omega), h.a.len, h.a.on.trans (hh.on.below (by simpa using h.bg) h.a.on.size), h.a.bf, h.a.ba, h.a.bn⟩, hh.box, by rw [jF_len]; exact h.len, h.bg, d⟩

theorem mix_parts {w wr : World} {f ga gn g : Nat} {F G : List Nat} (h : Mix w wr f ga gn F g G) :
    Calls Try.prog 16 #[.pointer (some ⟨f, 0, none⟩)] wr fun e w' => e = .returned (.int .i64 (roots F)) ∧ Mix w w' f ga gn F g G := by
  obtain ⟨A, N, h1, _, _⟩ := h.a.ff
  refine (parts_any wr f ga gn A N _ h1).mono ?_
  rintro e w' ⟨rfl, rfl⟩
  exact ⟨rfl, h⟩

theorem mix_rparts {w wr : World} {f ga gn g : Nat} {F G : List Nat} (h : Mix w wr f ga gn F g G) :
    Calls Try.prog 17 #[.slice (some ⟨g, 0, none⟩) G.length G.length] wr fun e w' => e = .returned (.int .i64 (roots G)) ∧ Mix w w' f ga gn F g G := by
  refine (rparts_any wr g G h.b h.len).mono ?_
  rintro e w' ⟨rfl, rfl⟩
  exact ⟨rfl, h⟩

theorem mix_find {w wr : World} {f ga gn g : Nat} {F G : List Nat} (h : Mix w wr f ga gn F g G) (a : Int) :
    Calls Try.prog 18 #[.pointer (some ⟨f, 0, none⟩), .int .i64 a] wr fun e w' => e = .returned (.int .i64 (fd F a)) ∧ Mix w w' f ga gn F g G := by
  refine (find_ff wr f ga gn F _ a h.a.ff h.a.len).mono ?_
  rintro e w' ⟨rfl, hf, hh⟩
  exact ⟨rfl, h.stepA (hf.mono (by simp)) hh rfl⟩

theorem mix_rfind {w wr : World} {f ga gn g : Nat} {F G : List Nat} (h : Mix w wr f ga gn F g G) (a : Int) :
    Calls Try.prog 19 #[.slice (some ⟨g, 0, none⟩) G.length G.length, .int .i64 a] wr fun e w' => e = .returned (.int .i64 (fd G a)) ∧ Mix w w' f ga gn F g G := by
  refine (rfind_any wr g G a h.b).mono ?_
  rintro e w' ⟨rfl, rfl⟩
  exact ⟨rfl, h⟩

/-- .. with a list in hand -/
structure Mix1 (w wr : World) (f ga gn : Nat) (F : List Nat) (g : Nat) (G : List Nat) (A : Option Addr) (M : List Nat) : Prop where
  m : Mix w wr f ga gn F g G
  r : Rd wr A (natl M)
structure Mix2 (w wr : World) (f ga gn : Nat) (F : List Nat) (g : Nat) (G : List Nat) (A B : Option Addr) (M : List Nat) : Prop where
  m : Mix w wr f ga gn F g G
  r : Rd wr A (natl M)
  s : Rd wr B (natl M)

theorem mix_members {w wr : World} {f ga gn g : Nat} {F G : List Nat} (h : Mix w wr f ga gn F g G) (a : Int) :
    Calls Try.prog 21 #[.pointer (some ⟨f, 0, none⟩), .int .i64 a] wr fun e w' => ∃ A cap, e = .returned (.slice A (mems F a).length cap) ∧ Mix1 w w' f ga gn F g G A (mems F a) := by
  refine (members_ff wr f ga gn F _ a h.a.ff h.a.len).mono ?_
  rintro e w' ⟨A, cap, rfl, hb, hr⟩
  exact ⟨A, cap, rfl, h.below hb, hr⟩

theorem mix_rmembers {w wr : World} {f ga gn g : Nat} {F G : List Nat} {A : Option Addr} {a : Int} (h : Mix1 w wr f ga gn F g G A (mems G a)) :
    Calls Try.prog 22 #[.slice (some ⟨g, 0, none⟩) G.length G.length, .int .i64 a] wr fun e w' => ∃ B cap, e = .returned (.slice B (mems G a).length cap) ∧ Mix2 w w' f ga gn F g G A B (mems G a) := by
  refine (rmembers_any wr g G a h.m.b h.m.len).mono ?_
  rintro e w' ⟨B, cap, rfl, hb, hr⟩
  exact ⟨B, cap, rfl, h.m.below hb, h.r.below hb, hr⟩

theorem mix_same {w wr : World} {f ga gn g : Nat} {F G M : List Nat} {A B : Option Addr} (h : Mix2 w wr f ga gn F g G A B M) (c d : Nat) (hl : M.length ≤ 100000) :
    Calls Try.prog 20 #[.slice A M.length c, .slice B M.length d] wr fun e w' => e = .returned (.bool true) ∧ Mix w w' f ga gn F g G := by
  refine (same_any wr A B c d M h.r h.s hl).mono ?_
  rintro e w' ⟨rfl, hb⟩
  exact ⟨rfl, h.m.below hb⟩
end Go.Proofs.Ytenohenkedofkaa.fo
