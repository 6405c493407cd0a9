/-
  forest: Members.
-/
import Derived.Test.YtenohenkedofkaaFo8
import Derived.Test.YtenohenkedofkaaShelf
import Derived.Test.YtenohenkedofkaaPar
namespace Go.Proofs.Ytenohenkedofkaa.fo
open Go.RowKit Go.Proofs.Ytenohenkedofkaa.mem

def natl (xs : List Nat) : List Value := xs.map fun (x : Nat) => Value.int .i64 (x : Int)
theorem natl_len (xs : List Nat) : (natl xs).length = xs.length := by simp [natl]
theorem natl_snoc (xs : List Nat) (x : Nat) : natl xs ++ [Value.int .i64 (x : Int)] = natl (xs ++ [x]) := by simp [natl]
theorem natl_get (xs : List Nat) (j : Nat) (h : j < xs.length) : (natl xs)[j]'(by rw [natl_len]; exact h) = .int .i64 ((xs[j] : Nat) : Int) := by simp [natl]
theorem natl_map (xs : List Nat) : natl xs = (xs.map fun (x : Nat) => (x : Int)).map (Value.int .i64) := by simp [natl]

theorem sorted_fr (w : World) (n g off : Nat) (d : Array Int) (os : Array Obj) : Fr [g] w (Go.Sort.grow (Go.Sort.putRow (Value.int .i64) (Go.Sort.ahead w n) g off d) os) := by
  refine ⟨rfl, rfl, rfl, by simp [Go.Sort.grow], fun k hk hne => ?_⟩
  rw [Go.Sort.heap_grow_old _ _ (by simpa using hk)]
  have : g ≠ k := fun e => hne (by rw [e]; simp)
  simp [Go.Sort.putRow, Go.Sort.mapBlock, Go.Sort.ahead, Array.getElem?_modify, this]

theorem merge_nat {xs ys : List Nat} (hp : xs.Perm ys) (hs : ys.Pairwise (· < ·)) : ((xs.map fun (x : Nat) => (x : Int)).mergeSort fun x y => decide (x ≤ y)) = ys.map fun (x : Nat) => (x : Int) := by
  have h1 : ((xs.map fun (x : Nat) => (x : Int)).mergeSort fun x y => decide (x ≤ y)).Pairwise (fun x y => (decide (x ≤ y)) = true) := List.pairwise_mergeSort (by intro a b c; simp; omega) (by intro a b; simp; omega) _
  have h2 : (ys.map fun (x : Nat) => (x : Int)).Pairwise (fun x y => (decide (x ≤ y)) = true) := by
    rw [List.pairwise_map]
    exact hs.imp (fun h => by simp; omega)
  refine List.Perm.eq_of_pairwise ?_ h1 h2 ((List.mergeSort_perm _ _).trans (hp.map _))
  intro a b _ _ h3 h4
  simp only [decide_eq_true_eq] at h3 h4
  omega

theorem sort_seg (w : World) (g off cap : Nat) (xs ys : List Nat) (h : Seg w 3 (some ⟨g, off, none⟩) cap (natl xs)) (hl : xs.length ≤ 100000) (hp : xs.Perm ys) (hs : ys.Pairwise (· < ·)) :
    Calls Try.prog 47 #[.slice (some ⟨g, off, none⟩) xs.length cap] w fun e w' => e = .returned (.tuple #[]) ∧ Fr [g] w w' ∧ Rd w' (some ⟨g, off, none⟩) (natl ys) := by
  have hlt : g < w.heap.size := h.lt g (by simp [blk])
  have hH : Go.Sort.Holds (Value.int .i64) w g off (xs.map fun (x : Nat) => (x : Int)).toArray := by
    intro j hj
    simp only [List.size_toArray, List.length_map] at hj
    refine ⟨?_, h.free _⟩
    obtain ⟨g', off', e, _, hc⟩ := h.at_ (by rw [natl_len]; omega)
    cases e
    rw [hc j (by rw [natl_len]; exact hj), natl_get xs j hj]
    simp [hj]
  have K := Try.slices_Sort_int g off cap (xs.map fun (x : Nat) => (x : Int)) w hH hlt (by simp; omega)
  rw [List.length_map, merge_nat hp hs] at K
  refine K.mono ?_
  rintro e w' ⟨rfl, n, os, rfl⟩
  refine ⟨rfl, sorted_fr _ _ _ _ _ _, fun hz => ⟨g, off, rfl, ?_, fun j hj => ?_⟩⟩
  · simp [Go.Sort.grow]; omega
  · rw [natl_len] at hj
    have hsz : (ys.map fun (x : Nat) => (x : Int)).toArray.size = (xs.map fun (x : Nat) => (x : Int)).toArray.size := by simp [hp.length_eq]
    have hh := Go.Sort.holds_putRow (Value.int .i64) (Go.Sort.ahead w n) g off _ (ys.map fun (x : Nat) => (x : Int)).toArray (fun j hj => hH j hj) hsz j (by simpa using hj)
    rw [Go.Sort.cell?_grow _ _ _ (by simpa using hlt), hh.1, natl_get ys j hj]
    simp [hj]

/-- a slice with the members -/
def MPost (w : World) (F : List Nat) (n : Int) (e : Ending) (w' : World) : Prop := ∃ A cap, e = .returned (.slice A (mems F n).length cap) ∧ Below w.heap.size w w' ∧ Rd w' A (natl (mems F n))

theorem members_nil (w : World) (n : Int) : Calls Try.prog 21 #[.pointer none, .int .i64 n] w fun e w' => e = .returned (.slice none 0 0) ∧ w = w' := by
  have Hh := Lib.hid (fun w => has_nil w n)
  go_enter Try.func21, Try.ntmps21
  go_wp2_with fail
  refine (Hh.out _).mono ?_
  rintro e w' ⟨rfl, rfl⟩
  go_wp2_with fail
  go_ret
  exact ⟨rfl, rfl⟩

theorem members_out (w : World) (f ga gn : Nat) (A N : List Nat) (p n : Int) (h : FS w f ga gn A N p) (hn : inB n A.length = false) : Calls Try.prog 21 #[.pointer (some ⟨f, 0, none⟩), .int .i64 n] w fun e w' => e = .returned (.slice none 0 0) ∧ w = w' := by
  have Hh := Lib.hid (has_any w f ga gn A N p n h)
  rw [hn] at Hh
  clear h hn
  go_enter Try.func21, Try.ntmps21
  go_wp2_with fail
  refine Hh.out.mono ?_
  rintro e w' ⟨rfl, rfl⟩
  go_wp2_with fail
  go_ret
  exact ⟨rfl, rfl⟩

def hdD : List Nat → Nat → Nat
  | [], d => d
  | x :: _, _ => x

def lenOf : Value → Nat
  | .slice _ n _ => n
  | _ => 0

/-- between two rounds of Members -/
structure MAt (w wr : World) (A : Option Addr) (cap : Nat) (l : List Nat) : Prop where
  seg : Seg wr 3 A cap (natl l)
  on : Below w.heap.size w wr
  own : ∀ g ∈ blk A, w.heap.size ≤ g

theorem MAt.start (w : World) (n : Nat) : MAt w (w.alloc (.cells #[.int .i64 (n : Int)] 3)) (some ⟨w.heap.size, 0, none⟩) 1 [n] := by
  refine ⟨⟨by simp [natl], by unfold maxLen; omega, fun h => (by cases h), fun a ha => ?_⟩, (Below.refl _ _).alloc (Nat.le_refl _) _, by simp [blk]⟩
  cases ha
  refine ⟨rfl, _, heap_alloc_new w _, by simp, fun j u hu => ?_⟩
  cases j with
  | zero => simpa [natl] using hu
  | succ j => simp [natl] at hu

theorem MAt.push {w wr w3 : World} {A A3 : Option Addr} {cap cap3 : Nat} {l : List Nat} {y : Nat} {o : Obj} (h : MAt w wr A cap l) (hs : Seg w3 3 A3 cap3 (natl l ++ [Value.int .i64 (y : Int)])) (f3 : Fr (blk A) (wr.alloc o) w3) (hf : blk A3 = blk A ∨ blk A3 = [(wr.alloc o).heap.size]) : MAt w w3 A3 cap3 (l ++ [y]) := by
  refine ⟨by rw [← natl_snoc]; exact hs, ?_, fun g hg => ?_⟩
  · refine (h.on.alloc h.on.size o).trans (f3.below h.own ?_)
    have := h.on.size
    simp; omega
  · rcases hf with e | e
    · exact h.own g (e ▸ hg)
    · rw [e, List.mem_singleton] at hg
      have := h.on.size
      subst hg; simp; omega

set_option maxRecDepth 100000 in
set_option maxHeartbeats 1000000 in
theorem members_in (w : World) (f ga gn : Nat) (A N t : List Nat) (p : Int) (n : Nat) (ys : List Nat) (h : FS w f ga gn A N p) (hn : n < A.length) (hlA : A.length ≤ 100000) (hw : Walk N n t n) (nd : (n :: t).Nodup) (htl : t.length + 1 ≤ A.length) (hin : ∀ j, j ∈ n :: t → j < A.length) (hp : (n :: t).Perm ys) (hs : ys.Pairwise (· < ·)) :
    Calls Try.prog 21 #[.pointer (some ⟨f, 0, none⟩), .int .i64 n] w fun e w' => ∃ B cap, e = .returned (.slice B ys.length cap) ∧ Below w.heap.size w w' ∧ Rd w' B (natl ys) := by
  have Hh := Lib.hid (has_any w f ga gn A N p n h)
  rw [show inB (n : Int) A.length = true from by unfold inB; simp; omega] at Hh
  have H := Lib.hid h
  have Hin := Lib.hid hin
  have Hp := Lib.hid hp
  have Hs := Lib.hid hs
  have Nd := Lib.hid nd
  have Hw := Lib.hid hw
  obtain ⟨i0, hi0, hz0, hz1, hz2⟩ := info_parts info_int
  have Hi := Lib.hid hi0
  have Hz0 := Lib.hid hz0
  have Hz1 := Lib.hid hz1
  have Hz2 := Lib.hid hz2
  have hM := Lib.hid (MAt.start w n)
  have HN := Lib.hid (fun (wr : World) (hb : Below w.heap.size w wr) => h.below hb)
  have hb0 := HN.out _ hM.out.on
  have c1 := hb0.c1
  have n1 := hb0.atN n hn
  have hd0 : Hid (N.getD n 0 = hdD t n) := Lib.hid (by cases t with | nil => exact hw | cons y r => exact hw.1)
  generalize N.getD n 0 = m0 at *
  clear h hin hp hs nd hw hi0 hz0 hz1 hz2 hb0
  go_enter Try.func21, Try.ntmps21
  go_wp2_with fail
  refine Hh.out.mono ?_
  rintro e w' ⟨rfl, rfl⟩
  go_wp2_with fail
  clear c1 n1
  go_loopw [5, 6] (fun l m wr => ∃ (pre rest : List Nat) (B : Option Addr) (cap x : Nat), Hid (t = pre ++ rest) ∧ pre.length + rest.length ≤ t.length ∧ l = .slice B (pre.length + 1) cap ∧ m = .int .i64 ((hdD rest n : Nat) : Int) ∧ Hid (Walk N x rest n) ∧ Hid (MAt w wr B cap (n :: pre))) (fun l _ _ => A.length + 1 - lenOf l)
  case atStart => exact ⟨[], t, _, 1, n, Lib.hid rfl, by simp, rfl, by rw [hd0.out], Hw, hM⟩
  case round =>
    obtain ⟨pre, rest, B, cap, x, ht, hlen, rfl, rfl, hwk, hm⟩ := hrel
    rename_i wr _
    cases rest with
    | nil =>
      have d1 : ((n : Int) != (n : Int)) = false := by simp
      obtain ⟨g, off, rfl, _⟩ := hm.out.seg.at_ (by simp [natl])
      have hk : Hid (pre = t) := Lib.hid (by have := ht.out; simpa using this.symm)
      have hz : Hid ((n :: pre).length = pre.length + 1) := Lib.hid (by simp)
      have K := Lib.hid (sort_seg wr g off cap (n :: pre) ys hm.out.seg (by simp; simp at hlen; omega) (by rw [hk.out]; exact Hp.out) Hs.out)
      rw [hz.out] at K
      have hyl : Hid (ys.length = pre.length + 1) := Lib.hid (by rw [← Hp.out.length_eq, hk.out]; simp)
      simp only [hdD]
      go_wp2_with fail
      refine K.out.mono ?_
      rintro e w2 ⟨rfl, f2, hr2⟩
      have hb2 := Lib.hid (hm.out.on.trans (f2.below (by simpa [blk] using hm.out.own) hm.out.on.size))
      have Hr2 := Lib.hid hr2
      clear f2 hr2
      go_wp2_with fail
      go_ret
      exact ⟨some ⟨g, off, none⟩, cap, by rw [hyl.out]; rfl, hb2.out, Hr2.out⟩
    | cons y r =>
      have hyn : y ≠ n := by
        have := Nd.out
        rw [ht.out] at this
        simp only [List.nodup_cons, List.mem_append, List.mem_cons, not_or] at this
        exact fun e => this.1.2.1 e.symm
      have hyl : y < A.length := Hin.out y (by rw [ht.out]; simp)
      have d1 : ((y : Int) != (n : Int)) = true := by simp; omega
      have hnx : Hid (N.getD y 0 = hdD r n) := Lib.hid (by
        have := hwk.out.2
        cases r with
        | nil => exact this
        | cons z q => exact this.1)
      have hwk2 := Lib.hid hwk.out.2
      simp only [hdD]
      have hpl : pre.length + 2 ≤ 100000 := by simp at hlen; omega
      go_wp2_with (at_builtin
                   refine wpList_push (n := pre.length + 1) rfl (.tmp 30) (.tmp 32) _ rfl (hm.out.seg.alloc _) (by simp [natl]) Try.underlying25 Hi.out Hz0.out Hz1.out Hz2.out rfl rfl rfl (new_cell _ _ _) rfl (by omega) (by omega) ?_
                   intro A3 cap3 w3 hs3 f3 hf3
                   have H3 : Hid (MAt w w3 A3 cap3 (n :: (pre ++ [y]))) := Lib.hid (hm.out.push hs3 f3 hf3)
                   have hfs := HN.out w3 H3.out.on
                   have c1 := hfs.c1
                   have n1 := hfs.atN y hyl
                   rw [hnx.out] at n1
                   clear hs3 f3 hf3 hfs)
      go_roundw
      case rel => exact ⟨pre ++ [y], r, A3, cap3, y, Lib.hid (by rw [ht.out]; simp), by simp at hlen ⊢; omega, by simp, rfl, hwk2, H3⟩
      case measure => simp [lenOf] at hlen ⊢; omega

theorem members_ff (w : World) (f ga gn : Nat) (F : List Nat) (p n : Int) (h : FF w f ga gn F p) (hl : F.length ≤ 100000) :
    Calls Try.prog 21 #[.pointer (some ⟨f, 0, none⟩), .int .i64 n] w (MPost w F n) := by
  obtain ⟨A, N, h1, h2, h3⟩ := h
  have hlen := h2.len
  rcases hb : inB n F.length with _ | _
  · refine (members_out w f ga gn A N p n h1 (by rw [hlen]; exact hb)).mono ?_
    rintro e w' ⟨rfl, rfl⟩
    refine ⟨none, 0, by rw [mems_out F n hb]; rfl, Below.refl _ _, ?_⟩
    rw [mems_out F n hb]
    exact rd_nil _ _
  · have hb' := hb
    unfold inB at hb
    simp only [Bool.and_eq_true, decide_eq_true_eq] at hb
    obtain ⟨k, rfl⟩ := Int.eq_ofNat_of_zero_le hb.1
    obtain ⟨t, w1, nd, hm⟩ := h3.ring k (by omega)
    exact members_in w f ga gn A N t p k (mems F k) h1 (by omega) (by omega) w1 nd (by have := ring_len (by omega) nd hm; omega) (fun j hj => by have := ((hm j).1 hj).1; omega) (mems_ring (by omega) nd hm) (mems_sorted F k)
end Go.Proofs.Ytenohenkedofkaa.fo
