/-
  forest: two lists that are the same; no forest; the law's own works; the law on no forest.
-/
import Derived.Test.YtenohenkedofkaaFo10
namespace Go.Proofs.Ytenohenkedofkaa.fo
open Go.RowKit Go.Proofs.Ytenohenkedofkaa.mem

set_option maxRecDepth 100000 in
theorem same_nil (w : World) (A B : Option Addr) (c d : Nat) : Calls Try.prog 20 #[.slice A 0 c, .slice B 0 d] w fun e w' => e = .returned (.bool true) ∧ Below w.heap.size w w' := by
  go_enter Try.func20, Try.ntmps20
  go_wp2_with fail
  go_loopw [5] (fun i wr => i = .int .i64 0 ∧ w = wr) (fun _ _ => 0)
  case atStart => exact ⟨rfl, rfl⟩
  case round =>
    obtain ⟨rfl, rfl⟩ := hrel
    go_wp2_with fail
    go_ret
    exact ⟨rfl, Below.refl _ _⟩

set_option maxRecDepth 100000 in
theorem same_any (w : World) (A B : Option Addr) (c d : Nat) (l : List Nat) (hA : Rd w A (natl l)) (hB : Rd w B (natl l)) (hll : l.length ≤ 100000) :
    Calls Try.prog 20 #[.slice A l.length c, .slice B l.length d] w fun e w' => e = .returned (.bool true) ∧ Below w.heap.size w w' := by
  rcases Nat.eq_zero_or_pos l.length with hz | hz
  · rw [hz]; exact same_nil w A B c d
  obtain ⟨g1, o1, rfl, hl1, h1⟩ := hA (by rw [natl_len]; exact hz)
  obtain ⟨g2, o2, rfl, hl2, h2⟩ := hB (by rw [natl_len]; exact hz)
  have H1 : Hid (∀ j (hj : j < l.length), w.cell? ⟨g1, o1 + j, none⟩ = some (.int .i64 ((l[j] : Nat) : Int))) := Lib.hid (fun j hj => by rw [h1 j (by rw [natl_len]; exact hj), natl_get l j hj])
  have H2 : Hid (∀ j (hj : j < l.length), w.cell? ⟨g2, o2 + j, none⟩ = some (.int .i64 ((l[j] : Nat) : Int))) := Lib.hid (fun j hj => by rw [h2 j (by rw [natl_len]; exact hj), natl_get l j hj])
  have L1 := Lib.hid hl1
  have L2 := Lib.hid hl2
  have hm : Hid (l.length = l.length) := Lib.hid rfl
  clear h1 h2 hA hB hl1 hl2
  have d0 : (((l.length : Nat) : Int) != (l.length : Int)) = false := by simp
  go_enter Try.func20, Try.ntmps20
  go_wp2_with fail
  go_loopw [5] (fun i wr => ∃ k : Nat, k ≤ l.length ∧ i = .int .i64 k ∧ Hid (Below w.heap.size w wr)) (fun i _ => l.length - (intOf i).toNat)
  case atStart => exact ⟨0, by omega, rfl, Lib.hid (Below.refl _ _)⟩
  case round =>
    obtain ⟨k, hk, rfl, hb⟩ := hrel
    rename_i wr _
    by_cases hkl : k < l.length
    · have e1 : decide ((k : Int) < (l.length : Int)) = true := decide_eq_true (by omega)
      have ck : wr.cell? ⟨g1, o1 + k, none⟩ = some (.int .i64 ((l[k] : Nat) : Int)) := (hb.out.cell (p := ⟨g1, o1 + k, none⟩) L1.out).trans (H1.out k hkl)
      have cm : wr.cell? ⟨g2, o2 + k, none⟩ = some (.int .i64 ((l[k] : Nat) : Int)) := (hb.out.cell (p := ⟨g2, o2 + k, none⟩) L2.out).trans (H2.out k hkl)
      generalize l[k] = z at *
      have e2 : (((z : Nat) : Int) != (z : Int)) = false := by simp
      have hb2 := Lib.hid hb.out.drew
      clear hb
      go_wp2_with fail
      go_region
      go_wp2_with fail
      go_roundw
      case rel => exact ⟨k + 1, by omega, by go_num, hb2⟩
      case measure => simp [intOf]; omega
    · obtain rfl : k = l.length := by omega
      have e1 : decide ((l.length : Int) < (l.length : Int)) = false := decide_eq_false (by omega)
      go_wp2_with fail
      go_ret
      exact ⟨rfl, hb.out⟩

set_option maxRecDepth 100000 in
theorem join_nil (w : World) (a b : Int) : Calls Try.prog 14 #[.pointer none, .int .i64 a, .int .i64 b] w fun e w' => e = .returned (.bool false) ∧ w = w' := by
  have Hf := Lib.hid (fun w n => find_nil w n)
  go_enter Try.func14, Try.ntmps14
  go_wp2_with fail
  refine (Hf.out _ _).mono ?_
  rintro e w' ⟨rfl, rfl⟩
  go_wp2_with fail
  refine (Hf.out _ _).mono ?_
  rintro e w' ⟨rfl, rfl⟩
  go_wp2_with fail
  go_ret
  exact ⟨rfl, rfl⟩

def WorksPost (w : World) (e : Ending) (w' : World) : Prop := e = .returned (.bool true) ∧ Below w.heap.size w w'

/-- a forest made since w -/
structure Own (w wr : World) (f ga gn : Nat) (F : List Nat) : Prop where
  ff : FF wr f ga gn F (roots F)
  len : F.length ≤ 100000
  on : Below w.heap.size w wr
  bf : w.heap.size ≤ f
  ba : w.heap.size ≤ ga
  bn : w.heap.size ≤ gn

theorem Own.step {w wr w2 : World} {f ga gn : Nat} {F G : List Nat} (h : Own w wr f ga gn F) (hf : Fr [f, ga, gn] wr w2) (h2 : FF w2 f ga gn G (roots G)) (hl : G.length = F.length) : Own w w2 f ga gn G :=
  ⟨h2, by rw [hl]; exact h.len, h.on.trans (hf.below (by have := h.bf; have := h.ba; have := h.bn; simp; omega) h.on.size), h.bf, h.ba, h.bn⟩

theorem own_new (w : World) (n : Int) (k : Nat) (hk : Hid (k = clamp n)) :
    Calls Try.prog 12 #[.int .i64 n] w fun e w' => ∃ f ga gn, e = .returned (.pointer (some ⟨f, 0, none⟩)) ∧ Own w w' f ga gn (List.range k) := by
  refine (new_any w n k hk).mono ?_
  rintro e w' ⟨f, ga, gn, rfl, h1, h2, h3, h4, h5⟩
  refine ⟨f, ga, gn, rfl, by rw [roots_new]; exact h1, ?_, h2, h3, h4, h5⟩
  rw [List.length_range]; have := hk.out; unfold clamp at this; omega

theorem own_join {w wr : World} {f ga gn : Nat} {F : List Nat} (h : Own w wr f ga gn F) (a b : Int) :
    Calls Try.prog 14 #[.pointer (some ⟨f, 0, none⟩), .int .i64 a, .int .i64 b] wr fun e w' => e = .returned (.bool (jn F a b)) ∧ Own w w' f ga gn (jF F a b) := by
  refine (join_ff wr f ga gn F a b h.ff h.len).mono ?_
  rintro e w' ⟨rfl, hf, hh⟩
  exact ⟨rfl, h.step hf hh (jF_len F a b)⟩

theorem own_find {w wr : World} {f ga gn : Nat} {F : List Nat} (h : Own w wr f ga gn F) (a : Int) :
    Calls Try.prog 18 #[.pointer (some ⟨f, 0, none⟩), .int .i64 a] wr fun e w' => e = .returned (.int .i64 (fd F a)) ∧ Own w w' f ga gn F := by
  refine (find_ff wr f ga gn F _ a h.ff h.len).mono ?_
  rintro e w' ⟨rfl, hf, hh⟩
  exact ⟨rfl, h.step (hf.mono (by simp)) hh rfl⟩

theorem own_parts {w wr : World} {f ga gn : Nat} {F : List Nat} (h : Own w wr f ga gn F) :
    Calls Try.prog 16 #[.pointer (some ⟨f, 0, none⟩)] wr fun e w' => e = .returned (.int .i64 (roots F)) ∧ Own w w' f ga gn F := by
  obtain ⟨A, N, h1, _, _⟩ := h.ff
  refine (parts_any wr f ga gn A N _ h1).mono ?_
  rintro e w' ⟨rfl, rfl⟩
  exact ⟨rfl, h⟩

theorem Own.below {w wr w2 : World} {f ga gn : Nat} {F : List Nat} (h : Own w wr f ga gn F) (hb : Below wr.heap.size wr w2) : Own w w2 f ga gn F :=
  h.step (Fr.of_below hb _) (h.ff.below hb) rfl

theorem own_members {w wr : World} {f ga gn : Nat} {F : List Nat} (h : Own w wr f ga gn F) (a : Int) :
    Calls Try.prog 21 #[.pointer (some ⟨f, 0, none⟩), .int .i64 a] wr fun e w' => ∃ A cap, e = .returned (.slice A (mems F a).length cap) ∧ Own w w' f ga gn F := by
  refine (members_ff wr f ga gn F _ a h.ff h.len).mono ?_
  rintro e w' ⟨A, cap, rfl, hb, _⟩
  exact ⟨A, cap, rfl, h.below hb⟩

def F0 : List Nat := List.range 4
def F1 : List Nat := jF F0 3 1
def F2 : List Nat := jF F1 1 2

set_option maxRecDepth 100000 in
theorem works_any (w : World) : Calls Try.prog 23 #[] w (WorksPost w) := by
  have K0 := Lib.hid (own_new w 4 4 (Lib.hid (by decide)))
  have K1 : Hid (∀ wr f ga gn, Own w wr f ga gn F0 → Calls Try.prog 14 #[.pointer (some ⟨f, 0, none⟩), .int .i64 3, .int .i64 1] wr fun e w' => e = .returned (.bool true) ∧ Own w w' f ga gn F1) := Lib.hid (fun wr f ga gn h => by
    have := own_join h 3 1
    rwa [show jn F0 3 1 = true from by decide] at this)
  have K2 : Hid (∀ wr f ga gn, Own w wr f ga gn F1 → Calls Try.prog 14 #[.pointer (some ⟨f, 0, none⟩), .int .i64 1, .int .i64 2] wr fun e w' => e = .returned (.bool true) ∧ Own w w' f ga gn F2) := Lib.hid (fun wr f ga gn h => by
    have := own_join h 1 2
    rwa [show jn F1 1 2 = true from by decide] at this)
  have K3 : Hid (∀ wr f ga gn, Own w wr f ga gn F2 → Calls Try.prog 18 #[.pointer (some ⟨f, 0, none⟩), .int .i64 3] wr fun e w' => e = .returned (.int .i64 1) ∧ Own w w' f ga gn F2) := Lib.hid (fun wr f ga gn h => by
    have := own_find h 3
    rwa [show fd F2 3 = 1 from by decide] at this)
  have K4 : Hid (∀ wr f ga gn, Own w wr f ga gn F2 → Calls Try.prog 16 #[.pointer (some ⟨f, 0, none⟩)] wr fun e w' => e = .returned (.int .i64 2) ∧ Own w w' f ga gn F2) := Lib.hid (fun wr f ga gn h => by
    have := own_parts h
    rwa [show ((roots F2 : Nat) : Int) = 2 from by decide] at this)
  have K5 : Hid (∀ wr f ga gn, Own w wr f ga gn F2 → Calls Try.prog 21 #[.pointer (some ⟨f, 0, none⟩), .int .i64 2] wr fun e w' => ∃ A cap, e = .returned (.slice A 3 cap) ∧ Own w w' f ga gn F2) := Lib.hid (fun wr f ga gn h => by
    have := own_members h 2
    rwa [show (mems F2 2).length = 3 from by decide] at this)
  go_enter Try.func23, Try.ntmps23
  go_wp2_with fail
  refine K0.out.mono ?_
  rintro e w1 ⟨f, ga, gn, rfl, h1⟩
  have H1 : Hid (Own w w1 f ga gn F0) := Lib.hid h1
  clear h1 K0
  go_wp2_with fail
  refine (K1.out _ _ _ _ H1.out).mono ?_
  rintro e w2 ⟨rfl, h2⟩
  have H2 := Lib.hid h2
  clear h2 K1 H1
  go_wp2_with fail
  refine (K2.out _ _ _ _ H2.out).mono ?_
  rintro e w3 ⟨rfl, h3⟩
  have H3 := Lib.hid h3
  clear h3 K2 H2
  go_wp2_with fail
  refine (K3.out _ _ _ _ H3.out).mono ?_
  rintro e w4 ⟨rfl, h4⟩
  have H4 := Lib.hid h4
  clear h4 K3 H3
  go_wp2_with fail
  refine (K4.out _ _ _ _ H4.out).mono ?_
  rintro e w5 ⟨rfl, h5⟩
  have H5 := Lib.hid h5
  clear h5 K4 H4
  go_wp2_with fail
  refine (K5.out _ _ _ _ H5.out).mono ?_
  rintro e w6 ⟨A, cap, rfl, h6⟩
  have H6 := Lib.hid h6
  clear h6 K5 H5
  go_wp2_with fail
  go_ret
  exact ⟨rfl, H6.out.on⟩

set_option maxRecDepth 100000 in
theorem law_nil (a b : Int) (w : World) : Calls Try.prog 4 #[.int .i64 a, .int .i64 b] w (WorksPost w) := by
  have H1 := Lib.hid (find_nil w a)
  have H2 := Lib.hid (join_nil w a b)
  have H3 := Lib.hid (members_nil w a)
  have H4 := Lib.hid (parts_nil w)
  have H5 := Lib.hid (works_any w)
  unfold WorksPost at H5
  go_enter Try.func4, Try.ntmps4
  go_wp2_with fail
  refine H1.out.mono ?_
  rintro e w' ⟨rfl, rfl⟩
  go_wp2_with fail
  refine H2.out.mono ?_
  rintro e w' ⟨rfl, rfl⟩
  go_wp2_with fail
  refine H3.out.mono ?_
  rintro e w' ⟨rfl, rfl⟩
  go_wp2_with fail
  refine H4.out.mono ?_
  rintro e w' ⟨rfl, rfl⟩
  go_wp2_with fail
  refine H5.out.mono ?_
  rintro e w' ⟨rfl, hb⟩
  go_wp2_with fail
  go_ret
  exact ⟨rfl, hb⟩
end Go.Proofs.Ytenohenkedofkaa.fo
