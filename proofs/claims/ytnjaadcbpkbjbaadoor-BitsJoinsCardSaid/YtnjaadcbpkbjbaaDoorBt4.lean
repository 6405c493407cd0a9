/-
  Bits: sets in memory; list, Blocks, Len, may.
-/
import Derived.Test.YtnjaadcbpkbjbaaDoorBt3
import Derived.Test.YtnjaadcbpkbjbaaDoorRow2
import Derived.Test.YtnjaadcbpkbjbaaDoorShelf
import Derived.WalkLawsBesides
namespace Go.Proofs.YtnjaadcbpkbjbaaDoor.bt
open Go.RowKit Go.Sort Go.Proofs.YtnjaadcbpkbjbaaDoor.mem

def blksV (B : List Blk) : List Value := B.flatMap fun b => [.int .i64 (b.1 : Nat), .int .u64 (b.2 : Nat)]

theorem blks_len (B : List Blk) : (blksV B).length = B.length * 2 := by
  induction B with
  | nil => rfl
  | cons x r ih =>
    have e : blksV (x :: r) = .int .i64 (x.1 : Nat) :: .int .u64 (x.2 : Nat) :: blksV r := rfl
    rw [e, List.length_cons, List.length_cons, ih, List.length_cons]
    omega

theorem blks_at : ∀ (B : List Blk) (i : Nat) (hi : i < B.length), (blksV B)[i * 2]? = some (.int .i64 (B[i].1 : Nat)) ∧ (blksV B)[i * 2 + 1]? = some (.int .u64 (B[i].2 : Nat))
  | x :: r, 0, _ => ⟨rfl, rfl⟩
  | x :: r, i + 1, hi => by
    have h := blks_at r i (by simpa using hi)
    have e : blksV (x :: r) = .int .i64 (x.1 : Nat) :: .int .u64 (x.2 : Nat) :: blksV r := rfl
    rw [e, show (i + 1) * 2 = i * 2 + 1 + 1 by omega]
    exact h

/-- blocks in memory -/
structure BA (w : World) (A : Option Addr) (cap : Nat) (B : List Blk) : Prop where
  sg : Sg 2 w 53 A cap B.length (blksV B)
  ok : Ok B
  few : B.length ≤ 4194305
  small : ∀ b ∈ B, b.1 ≤ 4194304

theorem BA.kept {F : List Nat} {w w' : World} {A : Option Addr} {cap : Nat} {B : List Blk} (h : BA w A cap B) (hf : Fr F w w') (hd : ∀ g ∈ blk A, g ∉ F) : BA w' A cap B := ⟨h.sg.kept hf hd, h.ok, h.few, h.small⟩
theorem BA.below {w w' : World} {A : Option Addr} {cap : Nat} {B : List Blk} (h : BA w A cap B) (hb : Below w.heap.size w w') : BA w' A cap B := h.kept (Fr.of_below hb []) (by simp)

theorem BA.at_ {w : World} {A : Option Addr} {cap : Nat} {B : List Blk} (h : BA w A cap B) {i : Nat} (hi : i < B.length) :
    ∃ b off, A = some ⟨b, off, none⟩ ∧ b < w.heap.size ∧ w.cell? ⟨b, off + i * 2, none⟩ = some (.int .i64 (B[i].1 : Nat)) ∧ w.cell? ⟨b, off + i * 2 + 1, none⟩ = some (.int .u64 (B[i].2 : Nat)) := by
  have hl := blks_len B
  obtain ⟨b, off, rfl, hlt, hc⟩ := h.sg.rd (by omega) (by omega)
  obtain ⟨m0, m1⟩ := blks_at B i hi
  refine ⟨b, off, rfl, hlt, ?_, ?_⟩
  · rw [hc (i * 2) (by omega), ← m0, List.getElem?_eq_getElem (by omega)]
  · rw [Nat.add_assoc, hc (i * 2 + 1) (by omega), ← m1, List.getElem?_eq_getElem (by omega)]

/-- a set in memory -/
structure SA (w : World) (s : Nat) (A : Option Addr) (cap : Nat) (B : List Blk) : Prop where
  box : Box w s 26 #[.slice A B.length cap]
  ba : BA w A cap B

theorem SA.kept {F : List Nat} {w w' : World} {s : Nat} {A : Option Addr} {cap : Nat} {B : List Blk} (h : SA w s A cap B) (hf : Fr F w w') (hs : s ∉ F) (hd : ∀ g ∈ blk A, g ∉ F) : SA w' s A cap B := ⟨h.box.kept hf hs, h.ba.kept hf hd⟩
theorem SA.below {w w' : World} {s : Nat} {A : Option Addr} {cap : Nat} {B : List Blk} (h : SA w s A cap B) (hb : Below w.heap.size w w') : SA w' s A cap B := h.kept (Fr.of_below hb []) (by simp) (by simp)
theorem SA.ne {w : World} {s : Nat} {A : Option Addr} {cap : Nat} {B : List Blk} (h : SA w s A cap B) : s ∉ blk A := by
  intro hs
  cases A with
  | none => cases hs
  | some a =>
    simp only [blk, List.mem_singleton] at hs
    subst hs
    obtain ⟨_, cur, hc, _⟩ := h.ba.sg.ex a rfl
    have hb := h.box
    unfold Box at hb
    rw [hc] at hb
    injection hb with hb
    injection hb with h1 h2
    exact absurd h2 (by decide)

set_option maxRecDepth 100000 in
theorem list_any (w : World) (s : Nat) (A : Option Addr) (cap : Nat) (B : List Blk) (h : SA w s A cap B) :
    Calls Tryd.prog 28 #[.pointer (some ⟨s, 0, none⟩)] w fun e w' => e = .returned (.slice A B.length cap) ∧ w = w' := by
  have c0 : w.cell? ⟨s, 0, none⟩ = some (.slice A B.length cap) := h.box.cell 0
  go_enter Tryd.func28, Tryd.ntmps28
  go_wp2_with fail
  go_ret
  exact ⟨rfl, rfl⟩

set_option maxRecDepth 100000 in
theorem blocks_any (w : World) (s : Nat) (A : Option Addr) (cap : Nat) (B : List Blk) (h : SA w s A cap B) :
    Calls Tryd.prog 12 #[.pointer (some ⟨s, 0, none⟩)] w fun e w' => e = .returned (.int .i64 (B.length : Nat)) ∧ w = w' := by
  have K := Lib.hid (list_any w s A cap B h)
  clear h
  go_enter Tryd.func12, Tryd.ntmps12
  go_wp2_with fail
  refine K.out.mono ?_
  rintro e w2 ⟨rfl, rfl⟩
  go_wp2_with fail
  go_ret
  exact ⟨rfl, rfl⟩

def mayB (n : Int) : Bool := decide (0 ≤ n) && decide (n ≤ 268435456)

set_option maxRecDepth 100000 in
theorem may_any (w : World) (n : Int) : Calls Tryd.prog 23 #[.int .i64 n] w fun e w' => e = .returned (.bool (mayB n)) ∧ w = w' := by
  unfold mayB
  by_cases h : 0 ≤ n
  · have d1 : decide (0 ≤ n) = true := decide_eq_true h
    rw [d1, Bool.true_and]
    go_enter Tryd.func23, Tryd.ntmps23
    go_wp2_with fail
    go_ret
    exact ⟨rfl, rfl⟩
  · have d1 : decide (0 ≤ n) = false := decide_eq_false h
    rw [d1, Bool.false_and]
    go_enter Tryd.func23, Tryd.ntmps23
    go_wp2_with fail
    go_ret
    exact ⟨rfl, rfl⟩

/-- how many ones the first blocks have -/
def sumP (B : List Blk) (k : Nat) : Nat := ((B.take k).map fun b => pop b.2).sum
theorem sumP_succ {B : List Blk} {k : Nat} (hk : k < B.length) : sumP B (k + 1) = sumP B k + pop B[k].2 := by
  unfold sumP
  rw [List.take_succ_eq_append_getElem hk, List.map_append, List.sum_append]
  simp
theorem popF_le : ∀ (f h : Nat), popF f h ≤ f
  | 0, _ => Nat.le_refl _
  | f + 1, h => by
    have := popF_le f (h / 2)
    unfold popF
    omega
theorem pop_le (h : Nat) : pop h ≤ 64 := by rw [pop_eq]; exact popF_le 64 h
theorem sumP_le {B : List Blk} : ∀ k, k ≤ B.length → sumP B k ≤ 64 * k
  | 0, _ => by simp [sumP]
  | k + 1, hk => by
    rw [sumP_succ (by omega)]
    have := sumP_le (B := B) k (by omega)
    have := pop_le B[k].2
    omega

set_option maxRecDepth 100000 in
theorem len_any (w : World) (s : Nat) (A : Option Addr) (cap : Nat) (B : List Blk) (h : SA w s A cap B) :
    Calls Tryd.prog 11 #[.pointer (some ⟨s, 0, none⟩)] w fun e w' => e = .returned (.int .i64 ((flat B).length : Nat)) ∧ Below w.heap.size w w' := by
  have K := Lib.hid (list_any w s A cap B h)
  have KO := Lib.hid (fun (w : World) (x : Nat) (hx : x < 18446744073709551616) => ones_any w x hx)
  have HB := Lib.hid h.ba
  have hf := h.ba.few
  have hv : Hid ((flat B).length = sumP B B.length) := Lib.hid (by rw [len_flat]; unfold sumP; rw [List.take_length])
  clear h
  go_enter Tryd.func11, Tryd.ntmps11
  go_wp2_with fail
  refine K.out.mono ?_
  rintro e w2 ⟨rfl, rfl⟩
  clear K
  go_wp2_with fail
  go_loopw [3, 9] (fun n i wr => ∃ k : Nat, k ≤ B.length ∧ i = .int .i64 k ∧ n = .int .i64 (sumP B k : Nat) ∧ Hid (Below w.heap.size w wr)) (fun _ i _ => B.length - (intOf i).toNat)
  case atStart => exact ⟨0, by omega, rfl, rfl, Lib.hid (Below.refl _ _)⟩
  case round =>
    obtain ⟨k, hk, rfl, rfl, hb⟩ := hrel
    by_cases hkl : k < B.length
    · have e1 : decide ((k : Int) < (B.length : Int)) = true := decide_eq_true (by omega)
      have HBk := Lib.hid (HB.out.below hb.out)
      obtain ⟨b, off, rfl, hlt, k0, k1⟩ := HBk.out.at_ hkl
      have hx := (HBk.out.ok.has B[k] (List.getElem_mem hkl)).2
      have hs := sumP_succ hkl
      have hle := sumP_le k hk
      have hpl := pop_le B[k].2
      generalize B[k] = q at *
      obtain ⟨qa, qh⟩ := q
      simp only at k0 k1 hx hs hpl
      have KOk := Lib.hid (fun w => KO.out w qh hx)
      have HS := Lib.hid hs
      have WB := Lib.hid (fun o => hb.out.alloc hb.out.size o)
      clear hs
      generalize sumP B k = N at *
      have w1 : IntKind.i64.wrap ((N : Int) + (pop qh : Nat)) = ((N + pop qh : Nat) : Int) := by rw [IntWalk.i64_left]; exact (IntWalk.wrap64_in _ (by omega)).trans (by omega)
      go_wp2_with fail
      refine (KOk.out _).mono ?_
      rintro e w3 ⟨rfl, rfl⟩
      go_wp2_with fail
      go_roundw
      case rel => exact ⟨k + 1, by omega, by go_num, by rw [HS.out]; go_num, WB.out _⟩
      case measure => simp [intOf]; omega
    · obtain rfl : k = B.length := by omega
      have e1 : decide ((B.length : Int) < (B.length : Int)) = false := decide_eq_false (by omega)
      go_wp2_with fail
      go_ret
      exact ⟨by rw [hv.out]; rfl, hb.out⟩
end Go.Proofs.YtnjaadcbpkbjbaaDoor.bt
