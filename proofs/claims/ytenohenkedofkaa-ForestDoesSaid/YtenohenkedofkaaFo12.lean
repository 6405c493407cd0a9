/-
  forest: two forests at a time; a slice of pairs.
-/
import Derived.Test.YtenohenkedofkaaFo11
namespace Go.Proofs.Ytenohenkedofkaa.fo
open Go.RowKit Go.Proofs.Ytenohenkedofkaa.mem

theorem FF.kept {L : List Nat} {w w' : World} {f ga gn : Nat} {F : List Nat} {p : Int} (h : FF w f ga gn F p) (hf : Fr L w w') (h1 : f ∉ L) (h2 : ga ∉ L) (h3 : gn ∉ L) : FF w' f ga gn F p := by
  obtain ⟨A, N, k1, k2, k3⟩ := h
  exact ⟨A, N, k1.kept hf h1 h2 h3, k2, k3⟩

theorem FF.lt {w : World} {f ga gn : Nat} {F : List Nat} {p : Int} (h : FF w f ga gn F p) : f < w.heap.size ∧ ga < w.heap.size ∧ gn < w.heap.size := by
  obtain ⟨A, N, k1, _, _⟩ := h
  exact ⟨k1.box.lt, k1.ab.lt, k1.nx.lt⟩

theorem FF.le {w : World} {f ga gn : Nat} {F : List Nat} {p : Int} (h : FF w f ga gn F p) (i : Nat) (hi : i < F.length) : F.getD i 0 ≤ i ∧ F.getD (F.getD i 0) 0 = F.getD i 0 := by
  obtain ⟨A, N, _, k2, _⟩ := h
  exact ⟨k2.f_le i hi, k2.f_idem i hi⟩

theorem FF.roots {w : World} {f ga gn : Nat} {F : List Nat} {p : Int} (h : FF w f ga gn F p) (a b : Int) : fo.roots (jF F a b) + (if jn F a b = true then 1 else 0) = fo.roots F := by
  obtain ⟨A, N, _, k2, _⟩ := h
  exact roots_jF k2 a b

structure Duo (w wr : World) (f1 g1 n1 : Nat) (F : List Nat) (f2 g2 n2 : Nat) (G : List Nat) : Prop where
  a : Own w wr f1 g1 n1 F
  b : Own w wr f2 g2 n2 G
  d1 : f1 ≠ f2 ∧ f1 ≠ g2 ∧ f1 ≠ n2
  d2 : g1 ≠ f2 ∧ g1 ≠ g2 ∧ g1 ≠ n2
  d3 : n1 ≠ f2 ∧ n1 ≠ g2 ∧ n1 ≠ n2

theorem Duo.on {w wr : World} {f1 g1 n1 f2 g2 n2 : Nat} {F G : List Nat} (h : Duo w wr f1 g1 n1 F f2 g2 n2 G) : Below w.heap.size w wr := h.a.on

theorem duo_of {w w1 w2 : World} {f1 g1 n1 f2 g2 n2 : Nat} {F G : List Nat} (h : Own w w1 f1 g1 n1 F) (k : Own w1 w2 f2 g2 n2 G) : Duo w w2 f1 g1 n1 F f2 g2 n2 G := by
  obtain ⟨l1, l2, l3⟩ := h.ff.lt
  have := k.bf
  have := k.ba
  have := k.bn
  have hs := h.on.size
  refine ⟨h.below k.on, ⟨k.ff, k.len, (h.below k.on).on, by omega, by omega, by omega⟩, ?_, ?_, ?_⟩ <;> omega

theorem Duo.stepA {w wr w2 : World} {f1 g1 n1 f2 g2 n2 : Nat} {F G F' : List Nat} (h : Duo w wr f1 g1 n1 F f2 g2 n2 G) (hf : Fr [f1, g1, n1] wr w2) (h2 : FF w2 f1 g1 n1 F' (roots F')) (hl : F'.length = F.length) : Duo w w2 f1 g1 n1 F' f2 g2 n2 G := by
  have ha := h.a.step hf h2 hl
  have d1 := h.d1
  have d2 := h.d2
  have d3 := h.d3
  exact ⟨ha, ⟨h.b.ff.kept hf (by simp; omega) (by simp; omega) (by simp; omega), h.b.len, ha.on, h.b.bf, h.b.ba, h.b.bn⟩, d1, d2, d3⟩

theorem Duo.swap {w wr : World} {f1 g1 n1 f2 g2 n2 : Nat} {F G : List Nat} (h : Duo w wr f1 g1 n1 F f2 g2 n2 G) : Duo w wr f2 g2 n2 G f1 g1 n1 F := by
  have d1 := h.d1
  have d2 := h.d2
  have d3 := h.d3
  exact ⟨h.b, h.a, by omega, by omega, by omega⟩

theorem Duo.drew {w wr : World} {f1 g1 n1 f2 g2 n2 : Nat} {F G : List Nat} (h : Duo w wr f1 g1 n1 F f2 g2 n2 G) : Duo w wr.drew f1 g1 n1 F f2 g2 n2 G := h.stepA ((Fr.refl _ wr).drew) (h.a.ff.below (Below.refl _ wr).drew) rfl

theorem duo_join {w wr : World} {f1 g1 n1 f2 g2 n2 : Nat} {F G : List Nat} (h : Duo w wr f1 g1 n1 F f2 g2 n2 G) (a b : Int) :
    Calls Try.prog 14 #[.pointer (some ⟨f1, 0, none⟩), .int .i64 a, .int .i64 b] wr fun e w' => e = .returned (.bool (jn F a b)) ∧ Duo w w' f1 g1 n1 (jF F a b) f2 g2 n2 G := by
  refine (join_ff wr f1 g1 n1 F a b h.a.ff h.a.len).mono ?_
  rintro e w' ⟨rfl, hf, hh⟩
  exact ⟨rfl, h.stepA hf hh (jF_len F a b)⟩

theorem duo_find {w wr : World} {f1 g1 n1 f2 g2 n2 : Nat} {F G : List Nat} (h : Duo w wr f1 g1 n1 F f2 g2 n2 G) (a : Int) :
    Calls Try.prog 18 #[.pointer (some ⟨f1, 0, none⟩), .int .i64 a] wr fun e w' => e = .returned (.int .i64 (fd F a)) ∧ Duo w w' f1 g1 n1 F f2 g2 n2 G := by
  refine (find_ff wr f1 g1 n1 F _ a h.a.ff h.a.len).mono ?_
  rintro e w' ⟨rfl, hf, hh⟩
  exact ⟨rfl, h.stepA (hf.mono (by simp)) hh rfl⟩

theorem duo_parts {w wr : World} {f1 g1 n1 f2 g2 n2 : Nat} {F G : List Nat} (h : Duo w wr f1 g1 n1 F f2 g2 n2 G) :
    Calls Try.prog 16 #[.pointer (some ⟨f1, 0, none⟩)] wr fun e w' => e = .returned (.int .i64 (roots F)) ∧ Duo w w' f1 g1 n1 F f2 g2 n2 G := by
  obtain ⟨A, N, h1, _, _⟩ := h.a.ff
  refine (parts_any wr f1 g1 n1 A N _ h1).mono ?_
  rintro e w' ⟨rfl, rfl⟩
  exact ⟨rfl, h⟩

/-- a slice of pairs that can be read -/
def Prs (w : World) (A : Option Addr) (l : List (Int × Int)) : Prop := 0 < l.length → ∃ b off, A = some ⟨b, off, none⟩ ∧ b < w.heap.size ∧ ∀ j (hj : j < l.length), w.cell? ⟨b, off + j * 2, none⟩ = some (.int .i64 l[j].1) ∧ w.cell? ⟨b, off + j * 2 + 1, none⟩ = some (.int .i64 l[j].2)

def mirror (l : List (Int × Int)) : List (Int × Int) := l.reverse.map fun p => (p.2, p.1)
theorem mirror_len (l : List (Int × Int)) : (mirror l).length = l.length := by simp [mirror]
theorem mirror_get (l : List (Int × Int)) (i : Nat) (hi : i < l.length) : (mirror l)[i]'(by rw [mirror_len]; exact hi) = ((l[l.length - 1 - i]'(by omega)).2, (l[l.length - 1 - i]'(by omega)).1) := by
  simp [mirror]

theorem take_snoc {α : Type} (l : List α) (i : Nat) (hi : i < l.length) : l.take (i + 1) = l.take i ++ [l[i]] := by
  rw [List.take_succ_eq_append_getElem hi]

theorem jall_same_lists (n : Nat) (l m : List (Int × Int)) (hlm : ∀ p ∈ l, p ∈ m ∨ (p.2, p.1) ∈ m) (hml : ∀ p ∈ m, p ∈ l ∨ (p.2, p.1) ∈ l)
    (h1 : ∀ i, i < n → (jall (List.range n) l).getD i 0 ≤ i) (h2 : ∀ i, i < n → (jall (List.range n) m).getD i 0 ≤ i) : jall (List.range n) l = jall (List.range n) m := by
  have hl1 : (jall (List.range n) l).length = n := by rw [jall_len, List.length_range]
  have hl2 : (jall (List.range n) m).length = n := by rw [jall_len, List.length_range]
  refine List.ext_getElem (hl1.trans hl2.symm) fun i a b => ?_
  have := jall_eq n l m hlm hml h1 h2 i (by omega)
  rw [List.getD_eq_getElem?_getD, List.getD_eq_getElem?_getD, List.getElem?_eq_getElem a, List.getElem?_eq_getElem b] at this
  exact this

theorem jall_mirror (n : Nat) (l : List (Int × Int)) (h1 : ∀ i, i < n → (jall (List.range n) l).getD i 0 ≤ i) (h2 : ∀ i, i < n → (jall (List.range n) (mirror l)).getD i 0 ≤ i) : jall (List.range n) (mirror l) = jall (List.range n) l := by
  refine jall_same_lists n (mirror l) l (fun p hp => Or.inr ?_) (fun p hp => Or.inr ?_) h2 h1
  · simp only [mirror, List.mem_map, List.mem_reverse] at hp
    obtain ⟨q, hq, rfl⟩ := hp
    exact hq
  · simp only [mirror, List.mem_map, List.mem_reverse]
    exact ⟨p, hp, rfl⟩

def rem60 (n : Int) : Nat := (IntKind.u64.wrap n % 60).toNat
theorem rem60_lt (n : Int) : rem60 n < 60 := by unfold rem60; omega
end Go.Proofs.Ytenohenkedofkaa.fo
