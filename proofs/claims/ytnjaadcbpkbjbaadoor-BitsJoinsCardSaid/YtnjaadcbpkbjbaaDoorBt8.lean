/-
  Bits: Add.
-/
import Derived.Test.YtnjaadcbpkbjbaaDoorBt7
namespace Go.Proofs.YtnjaadcbpkbjbaaDoor.bt
open Go.RowKit Go.Sort Go.Proofs.YtnjaadcbpkbjbaaDoor.mem

theorem insB_found {n : Nat} : ∀ {B : List Blk} (hl : lb (n / 64) B < B.length), (B[lb (n / 64) B]'hl).1 = n / 64 → insB n B = B.set (lb (n / 64) B) (n / 64, (B[lb (n / 64) B]'hl).2 ||| 2 ^ (n % 64))
  | [], hl, _ => by simp at hl
  | b :: r, hl, he => by
    unfold insB
    by_cases h : b.1 < n / 64
    · have e : lb (n / 64) (b :: r) = lb (n / 64) r + 1 := by rw [lb, if_pos h]
      rw [if_pos h]
      simp only [e, List.set_cons_succ, List.getElem_cons_succ] at he ⊢
      rw [insB_found (B := r) (by rw [e] at hl; simpa using hl) he]
    · have e : lb (n / 64) (b :: r) = 0 := by rw [lb, if_neg h]
      simp only [e, List.getElem_cons_zero, List.set_cons_zero] at he ⊢
      rw [if_neg h, if_pos he, he]

theorem insB_new {n : Nat} : ∀ {B : List Blk}, foundB (n / 64) B = false → insB n B = B.take (lb (n / 64) B) ++ [(n / 64, 2 ^ (n % 64))] ++ B.drop (lb (n / 64) B)
  | [], _ => rfl
  | b :: r, hf => by
    unfold foundB at hf
    rw [List.any_cons, Bool.or_eq_false_iff] at hf
    have hne : ¬ b.1 = n / 64 := by simpa using hf.1
    unfold insB
    by_cases h : b.1 < n / 64
    · have e : lb (n / 64) (b :: r) = lb (n / 64) r + 1 := by rw [lb, if_pos h]
      rw [if_pos h, e, insB_new (B := r) hf.2]
      rfl
    · have e : lb (n / 64) (b :: r) = 0 := by rw [lb, if_neg h]
      rw [if_neg h, if_neg hne, e]
      rfl

theorem rise_at {B : List Blk} (h : B.Pairwise (fun x y => x.1 < y.1)) : ∀ i (hi : i < B.length), i ≤ B[i].1
  | 0, _ => Nat.zero_le _
  | i + 1, hi => by
    have := rise_at h i (by omega)
    have := (List.pairwise_iff_getElem.1 h) i (i + 1) (by omega) hi (by omega)
    omega

theorem few_of {B : List Blk} (h : B.Pairwise (fun x y => x.1 < y.1)) (hs : ∀ b ∈ B, b.1 ≤ 4194304) : B.length ≤ 4194305 := by
  rcases Nat.eq_zero_or_pos B.length with h0 | h0
  · omega
  · have h1 := rise_at h (B.length - 1) (by omega)
    have h2 := hs _ (List.getElem_mem (by omega : B.length - 1 < B.length))
    omega

theorem small_ins {n : Nat} (hn : n ≤ 268435456) : ∀ {B : List Blk}, (∀ b ∈ B, b.1 ≤ 4194304) → ∀ b ∈ insB n B, b.1 ≤ 4194304
  | [], _, b, hb => by
    simp only [insB, List.mem_singleton] at hb
    subst hb
    show n / 64 ≤ _; omega
  | c :: r, h, b, hb => by
    unfold insB at hb
    split at hb
    · rcases List.mem_cons.1 hb with rfl | hb
      · exact h b (by simp)
      · exact small_ins hn (fun x hx => h x (List.mem_cons_of_mem _ hx)) b hb
    · split at hb
      · rcases List.mem_cons.1 hb with rfl | hb
        · exact h c (by simp)
        · exact h b (List.mem_cons_of_mem _ hb)
      · rcases List.mem_cons.1 hb with rfl | hb
        · show n / 64 ≤ _; omega
        · exact h b hb

theorem blksV_app (B C : List Blk) : blksV (B ++ C) = blksV B ++ blksV C := by simp [blksV]
theorem blksV_take (B : List Blk) (k : Nat) : (blksV B).take (k * 2) = blksV (B.take k) := by
  induction B generalizing k with
  | nil => simp [blksV]
  | cons x r ih =>
    cases k with
    | zero => simp [blksV]
    | succ k =>
      have e : blksV (x :: r) = .int .i64 (x.1 : Nat) :: .int .u64 (x.2 : Nat) :: blksV r := rfl
      rw [e, show (k + 1) * 2 = k * 2 + 1 + 1 by omega, List.take_succ_cons, List.take_succ_cons, ih]
      rfl
theorem blksV_drop (B : List Blk) (k : Nat) : (blksV B).drop (k * 2) = blksV (B.drop k) := by
  induction B generalizing k with
  | nil => simp [blksV]
  | cons x r ih =>
    cases k with
    | zero => simp [blksV]
    | succ k =>
      have e : blksV (x :: r) = .int .i64 (x.1 : Nat) :: .int .u64 (x.2 : Nat) :: blksV r := rfl
      rw [e, show (k + 1) * 2 = k * 2 + 1 + 1 by omega, List.drop_succ_cons, List.drop_succ_cons, ih]
      rfl
theorem blksV_one (B : List Blk) : ∀ u ∈ blksV B, u.oneCell' = true := by
  intro u hu
  unfold blksV at hu
  obtain ⟨x, _, hx⟩ := List.mem_flatMap.1 hu
  simp only [List.mem_cons, List.not_mem_nil, or_false] at hx
  rcases hx with rfl | rfl <;> rfl

/-- a block's numbers are written -/
theorem sg_put {w : World} {b off cap : Nat} {B : List Blk} (h : Sg 2 w 53 (some ⟨b, off, none⟩) cap B.length (blksV B)) {k : Nat} (hk : k < B.length) (r : Nat) :
    Sg 2 (w.setCell ⟨b, off + k * 2 + 1, none⟩ (.int .u64 (r : Nat))) 53 (some ⟨b, off, none⟩) cap (B.set k (B[k].1, r)).length (blksV (B.set k (B[k].1, r))) := by
  obtain ⟨_, cur, hc, hf, hx⟩ := h.ex _ rfl
  have hc : w.heap[b]? = some (.cells cur _ (0, 0)) := hc
  have hl := blks_len B
  have hl2 := blks_len (B.set k (B[k].1, r))
  rw [List.length_set] at hl2
  have hf : off + cap * 2 ≤ cur.size := hf
  have hle := h.le
  refine ⟨by rw [hl2, List.length_set], by rw [List.length_set]; exact h.le, h.max, fun e => (by cases e), fun a ha => ?_⟩
  cases ha
  refine ⟨rfl, cur.setIfInBounds (off + k * 2 + 1) (.int .u64 (r : Nat)), by simp [World.setCell, Array.getElem?_modify, hc], by simpa using hf, fun j u hj => ?_⟩
  show (cur.setIfInBounds (off + k * 2 + 1) (.int .u64 (r : Nat)))[off + j]? = some u
  have hjl : j < B.length * 2 := by have := (List.getElem?_eq_some_iff.1 hj).1; omega
  rw [Array.getElem?_setIfInBounds]
  have hi : j / 2 < B.length := by omega
  obtain ⟨m0, m1⟩ := blks_at (B.set k (B[k].1, r)) (j / 2) (by rw [List.length_set]; exact hi)
  obtain ⟨n0, n1⟩ := blks_at B (j / 2) hi
  rcases Nat.mod_two_eq_zero_or_one j with hp | hp
  · have e : j = j / 2 * 2 := by omega
    rw [if_neg (by omega)]
    refine hx j u ?_
    rw [e, n0]
    rw [e, m0] at hj
    rw [← hj, List.getElem_set]
    split
    · rename_i h1; subst h1; rfl
    · rfl
  · have e : j = j / 2 * 2 + 1 := by omega
    rw [e, m1, List.getElem_set] at hj
    by_cases hkj : k = j / 2
    · rw [if_pos hkj] at hj
      rw [if_pos (by omega), if_pos (by omega)]
      exact hj
    · rw [if_neg hkj] at hj
      rw [if_neg (by omega)]
      refine hx j u ?_
      rw [e, n1, hj]

def addB (n : Int) (B : List Blk) : List Blk := if (mayB n && !decide (n.toNat ∈ flat B)) = true then insB n.toNat B else B

/-- what Add leaves -/
structure AP (w : World) (s : Nat) (A : Option Addr) (B : List Blk) (w' : World) (A' : Option Addr) (cap' : Nat) : Prop where
  sa : SA w' s A' cap' B
  fr : Fr (s :: blk A) w w'
  bl : ∀ g ∈ blk A', g ∈ blk A ∨ w.heap.size ≤ g

def AdPost (w : World) (s : Nat) (A : Option Addr) (R : Bool) (B : List Blk) (e : Ending) (w' : World) : Prop := e = .returned (.bool R) ∧ ∃ A' cap', AP w s A B w' A' cap'

theorem adpost_same {w w' : World} {s : Nat} {A : Option Addr} {cap : Nat} {B : List Blk} (h : SA w s A cap B) (hb : Below w.heap.size w w') : AdPost w s A false B (.returned (.bool false)) w' := ⟨rfl, A, cap, h.below hb, Fr.of_below hb _, fun g hg => Or.inl hg⟩

theorem shl_run (k : Nat) (hk : k < 64) : IntKind.u64.wrap (2 ^ k) = ((2 ^ k : Nat) : Int) := by
  have hp : 2 ^ k < 2 ^ 64 := Nat.pow_lt_pow_right (by omega) hk
  have e : (2 ^ k : Int) = ((2 ^ k : Nat) : Int) := by simp
  rw [e]
  exact wrap64_lt _ hp

set_option maxRecDepth 100000 in
theorem add_not (w : World) (s : Nat) (A : Option Addr) (cap : Nat) (B : List Blk) (h : SA w s A cap B) (n : Int) (hn : (mayB n && !decide (n.toNat ∈ flat B)) = false) :
    Calls Tryd.prog 5 #[.pointer (some ⟨s, 0, none⟩), .int .i64 n] w (AdPost w s A false B) := by
  have KM := Lib.hid (may_any w n)
  have KH := Lib.hid (has_any w s A cap B h n)
  have fin := Lib.hid (fun w' (hb : Below w.heap.size w w') => adpost_same h hb)
  unfold hasZ at KH
  clear h
  cases hm : mayB n with
  | false =>
    rw [hm] at KM
    clear KH hn hm
    go_enter Tryd.func5, Tryd.ntmps5
    go_wp2_with fail
    refine KM.out.mono ?_
    rintro e w2 ⟨rfl, rfl⟩
    go_wp2_with fail
    go_ret
    exact fin.out _ (Below.refl _ _)
  | true =>
    rw [hm] at KM KH hn
    have hd : decide (n.toNat ∈ flat B) = true := by simpa using hn
    rw [hd] at KH
    have KH : Hid (Calls Tryd.prog 9 #[.pointer (some ⟨s, 0, none⟩), .int .i64 n] w fun e w' => e = .returned (.bool true) ∧ Below w.heap.size w w') := KH
    clear hd hn hm
    go_enter Tryd.func5, Tryd.ntmps5
    go_wp2_with fail
    refine KM.out.mono ?_
    rintro e w2 ⟨rfl, rfl⟩
    go_wp2_with fail
    refine KH.out.mono ?_
    rintro e w3 ⟨rfl, b3⟩
    have HB3 := Lib.hid b3
    clear b3
    go_wp2_with fail
    go_ret
    exact fin.out _ HB3.out

/-- from the last region on: the number's bit is put into its block -/
theorem ap_found {w w3 : World} {s : Nat} {b off cap : Nat} {B : List Blk} (h : SA w s (some ⟨b, off, none⟩) cap B) (hb : Below w.heap.size w w3) {n : Nat} (hn : n ≤ 268435456) (hf : foundB (n / 64) B = true) (hl : lb (n / 64) B < B.length) (he : (B[lb (n / 64) B]'hl).1 = n / 64) :
    AP w s (some ⟨b, off, none⟩) (insB n B) (w3.drew.setCell ⟨b, off + lb (n / 64) B * 2 + 1, none⟩ (.int .u64 (((B[lb (n / 64) B]'hl).2 ||| 2 ^ (n % 64) : Nat) : Int))) (some ⟨b, off, none⟩) cap := by
  have h3 := h.below hb
  have hd : SA w3.drew s (some ⟨b, off, none⟩) cap B := ⟨h3.box, ⟨⟨h3.ba.sg.len, h3.ba.sg.le, h3.ba.sg.max, h3.ba.sg.nil, h3.ba.sg.ex⟩, h3.ba.ok, h3.ba.few, h3.ba.small⟩⟩
  have hfr : Fr [b] w3.drew (w3.drew.setCell ⟨b, off + lb (n / 64) B * 2 + 1, none⟩ (.int .u64 (((B[lb (n / 64) B]'hl).2 ||| 2 ^ (n % 64) : Nat) : Int))) := (Fr.refl [b] _).setCell (p := ⟨b, off + lb (n / 64) B * 2 + 1, none⟩) (Or.inl (by simp)) _
  have hne := h.ne
  have hB := insB_found hl he
  have hsg := sg_put hd.ba.sg hl ((B[lb (n / 64) B]'hl).2 ||| 2 ^ (n % 64))
  rw [he] at hsg
  rw [← hB] at hsg
  have hlen : (insB n B).length = B.length := by rw [hB, List.length_set]
  refine ⟨⟨?_, ⟨hsg, (mem_insB h.ba.ok).1, ?_, small_ins hn h.ba.small⟩⟩, ?_, fun g hg => Or.inl hg⟩
  · rw [hlen]
    exact hd.box.kept hfr (by simpa [blk] using hne)
  · rw [hlen]
    exact h.ba.few
  · exact (Fr.of_below hb []).trans ((Fr.refl [] w3).drew.trans hfr (by simp) (fun q hq => Or.inl hq)) (by simp) (fun q hq => Or.inl (by simp only [List.mem_singleton] at hq; subst hq; simp [blk]))

set_option maxRecDepth 100000 in
set_option maxHeartbeats 2000000 in
theorem add_found (w : World) (s : Nat) (A : Option Addr) (cap : Nat) (B : List Blk) (h : SA w s A cap B) (n : Nat) (hn : n ≤ 268435456) (hm : mayB (n : Int) = true) (hnot : n ∉ flat B) (hf : foundB (n / 64) B = true) :
    Calls Tryd.prog 5 #[.pointer (some ⟨s, 0, none⟩), .int .i64 (n : Nat)] w (AdPost w s A true (insB n B)) := by
  have KM := Lib.hid (may_any w n)
  have KH := Lib.hid (fun w' (hb : Below w.heap.size w w') => has_any w' s A cap B (h.below hb) n)
  have KF := Lib.hid (fun w' (hb : Below w.heap.size w w') => find_any w' s A cap B (h.below hb) n hn)
  have hz : hasZ (n : Int) B = false := by
    unfold hasZ
    rw [hm, Bool.true_and]
    exact decide_eq_false (by simpa using hnot)
  rw [hz] at KH
  rw [hm] at KM
  rw [hf] at KF
  obtain ⟨hl, he, _⟩ := mem_found h.ba.ok hf
  obtain ⟨b, off, rfl, hblt, k0, k1⟩ := h.ba.at_ hl
  have FIN := Lib.hid (fun w3 (hb : Below w.heap.size w w3) => ap_found h hb hn hf hl he)
  have hx := (h.ba.ok.has _ (List.getElem_mem hl)).2
  have hfew := h.ba.few
  have c0 : w.cell? ⟨s, 0, none⟩ = some (.slice (some ⟨b, off, none⟩) B.length cap) := h.box.cell 0
  have hsl := h.box.lt
  have hsb : s ≠ b := by have := h.ne; simpa [blk] using this
  have hfz : Hid (∀ w', Below w.heap.size w w' → w'.frozen? ⟨b, off + lb (n / 64) B * 2 + 1, none⟩ = false) := Lib.hid (fun w' hb => by
    obtain ⟨_, cur, hc, _⟩ := (h.below hb).ba.sg.ex _ rfl
    have hc : w'.heap[b]? = some (.cells cur _ (0, 0)) := hc
    simp [World.frozen?, hc])
  have hrem : (n : Int).tmod 64 = ((n % 64 : Nat) : Int) := by rw [Int.tmod_eq_emod_of_nonneg (by omega)]; omega
  have hk64 : n % 64 < 64 := Nat.mod_lt _ (by omega)
  have hshl := shl_run (n % 64) hk64
  have hp64 : 2 ^ (n % 64) < 18446744073709551616 := Nat.pow_lt_pow_right (by omega) hk64
  have hor := bits_or_u64_nat (B[lb (n / 64) B]'hl).2 (2 ^ (n % 64)) hx hp64
  have K1 := Lib.hid (fun w' (hb : Below w.heap.size w w') => And.intro ((hb.cell (p := ⟨s, 0, none⟩) hsl).trans c0) ((hb.cell (p := ⟨b, off + lb (n / 64) B * 2 + 1, none⟩) hblt).trans k1))
  clear h hz hm hnot hf he k0 k1 c0 hsl hblt
  have hlb : (lb (n / 64) B : Int) < (B.length : Int) := by omega
  generalize B[lb (n / 64) B]'hl = x at *
  obtain ⟨xa, xh⟩ := x
  simp only at hx hor
  generalize hR : xh ||| 2 ^ (n % 64) = R at *
  generalize hP : 2 ^ (n % 64) = P at *
  generalize hkk : n % 64 = k at *
  generalize lb (n / 64) B = L at *
  generalize insB n B = B2 at *
  generalize hN : B.length = N at *
  have FIN : Hid (∀ w3, Below w.heap.size w w3 → AP w s (some ⟨b, off, none⟩) B2 (w3.drew.setCell ⟨b, off + L * 2 + 1, none⟩ (.int .u64 (R : Nat))) (some ⟨b, off, none⟩) cap) := Lib.hid (fun w3 hb => by
    exact FIN.out w3 hb)
  clear hR hP hkk hN
  go_enter Tryd.func5, Tryd.ntmps5
  go_wp2_with fail
  refine KM.out.mono ?_
  rintro e w2 ⟨rfl, rfl⟩
  go_wp2_with fail
  refine (KH.out _ (Below.refl _ _)).mono ?_
  rintro e w3 ⟨rfl, b3⟩
  have HB3 := Lib.hid b3
  clear b3
  go_wp2_with fail
  refine (KF.out _ HB3.out).mono ?_
  rintro e w4 ⟨rfl, b4⟩
  have HB4 := Lib.hid (HB3.out.trans (b4.mono HB3.out.size))
  clear b4 KF KH KM
  obtain ⟨q0', q1'⟩ := K1.out _ HB4.out
  have q0 : w4.drew.cell? ⟨s, 0, none⟩ = some (.slice (some ⟨b, off, none⟩) N cap) := q0'
  have q1 : w4.drew.cell? ⟨b, off + L * 2 + 1, none⟩ = some (.int .u64 (xh : Nat)) := q1'
  have y1 : w4.drew.frozen? ⟨b, off + L * 2 + 1, none⟩ = false := hfz.out w4 HB4.out
  have hSt := Lib.hid (show (w4.drew.setCell ⟨b, off + L * 2 + 1, none⟩ (.int .u64 (R : Nat))).cell? ⟨s, 0, none⟩ = some (.slice (some ⟨b, off, none⟩) N cap) from by
    rw [World.cell?_setCell_other _ _ _ _ (by intro e; injection e with e1; exact hsb e1.symm)]
    exact q0)
  clear q0' q1'
  go_wp2_with fail
  refine wp_region_held_drew (S := fun w' => w'.cell? ⟨s, 0, none⟩ = some (.slice (some ⟨b, off, none⟩) N cap)) (by kernel_rfl) q0 (fun hS => ?_)
  refine wpAnyH_take (i := 0) (v := .pointer (some ⟨s, 0, none⟩)) rfl (by kernel_rfl) (by kernel_rfl) (by kernel_rfl) (fun _ _ _ h => h) (Or.inl ⟨by kernel_rfl, ?_⟩) hS ?_
  · intro W' hSw
    go_simp
  change wpAnyH _ _ _ _ _ _ _ (Act.put _ (some 40) _) _
  try simp only [Act.put, List.setIfInBounds_toArray, List.set_cons_zero, List.set_cons_succ]
  refine wpAnyH_take (i := 1) (v := .pointer (some ⟨s, 0, none⟩)) rfl (by kernel_rfl) (by kernel_rfl) (by kernel_rfl) (fun _ _ _ h => h) (Or.inl ⟨by kernel_rfl, ?_⟩) hS ?_
  · intro W' hSw
    go_simp
  change wpAnyH _ _ _ _ _ _ _ (Act.put _ (some 41) _) _
  try simp only [Act.put, List.setIfInBounds_toArray, List.set_cons_zero, List.set_cons_succ]
  refine wpAnyH_take (i := 2) (v := .pointer (some ⟨s, 0, none⟩)) rfl (by kernel_rfl) (by kernel_rfl) (by kernel_rfl) (fun _ _ _ h => h) (Or.inl ⟨by kernel_rfl, ?_⟩) hS ?_
  · intro W' hSw
    go_simp
  change wpAnyH _ _ _ _ _ _ _ (Act.put _ (some 42) _) _
  try simp only [Act.put, List.setIfInBounds_toArray, List.set_cons_zero, List.set_cons_succ]
  refine wpAnyH_take (i := 3) (v := .slice (some ⟨b, off, none⟩) N cap) rfl (by kernel_rfl) (by kernel_rfl) (by kernel_rfl) (fun _ _ _ h => h) (Or.inl ⟨by kernel_rfl, ?_⟩) hS ?_
  · intro W' hSw
    go_simp
  change wpAnyH _ _ _ _ _ _ _ (Act.put _ (some 43) _) _
  try simp only [Act.put, List.setIfInBounds_toArray, List.set_cons_zero, List.set_cons_succ]
  refine wpAnyH_take (i := 4) (v := .int .i64 (L : Nat)) rfl (by kernel_rfl) (by kernel_rfl) (by kernel_rfl) (fun _ _ _ h => h) (Or.inl ⟨by kernel_rfl, ?_⟩) hS ?_
  · intro W' hSw
    go_simp
  change wpAnyH _ _ _ _ _ _ _ (Act.put _ (some 44) _) _
  try simp only [Act.put, List.setIfInBounds_toArray, List.set_cons_zero, List.set_cons_succ]
  refine wpAnyH_take (i := 5) (v := .pointer (some ⟨b, off + L * 2, none⟩)) rfl (by kernel_rfl) (by kernel_rfl) (by kernel_rfl) (fun _ _ _ h => h) (Or.inl ⟨by kernel_rfl, ?_⟩) hS ?_
  · intro W' hSw
    go_simp
  change wpAnyH _ _ _ _ _ _ _ (Act.put _ (some 45) _) _
  try simp only [Act.put, List.setIfInBounds_toArray, List.set_cons_zero, List.set_cons_succ]
  refine wpAnyH_take (i := 6) (v := .pointer (some ⟨b, off + L * 2 + 1, none⟩)) rfl (by kernel_rfl) (by kernel_rfl) (by kernel_rfl) (fun _ _ _ h => h) (Or.inl ⟨by kernel_rfl, ?_⟩) hS ?_
  · intro W' hSw
    go_simp
  change wpAnyH _ _ _ _ _ _ _ (Act.put _ (some 46) _) _
  try simp only [Act.put, List.setIfInBounds_toArray, List.set_cons_zero, List.set_cons_succ]
  refine wpAnyH_take (i := 8) (v := .int .i64 (n : Nat)) rfl (by kernel_rfl) (by kernel_rfl) (by kernel_rfl) (fun _ _ _ h => h) (Or.inl ⟨by kernel_rfl, ?_⟩) hS ?_
  · intro W' hSw
    go_simp
  change wpAnyH _ _ _ _ _ _ _ (Act.put _ (some 48) _) _
  try simp only [Act.put, List.setIfInBounds_toArray, List.set_cons_zero, List.set_cons_succ]
  refine wpAnyH_take (i := 9) (v := .int .i64 (k : Nat)) rfl (by kernel_rfl) (by kernel_rfl) (by kernel_rfl) (fun _ _ _ h => h) (Or.inl ⟨by kernel_rfl, ?_⟩) hS ?_
  · intro W' hSw
    go_simp
  change wpAnyH _ _ _ _ _ _ _ (Act.put _ (some 49) _) _
  try simp only [Act.put, List.setIfInBounds_toArray, List.set_cons_zero, List.set_cons_succ]
  refine wpAnyH_take (i := 10) (v := .int .u64 (P : Nat)) rfl (by kernel_rfl) (by kernel_rfl) (by kernel_rfl) (fun _ _ _ h => h) (Or.inl ⟨by kernel_rfl, ?_⟩) hS ?_
  · intro W' hSw
    go_simp
  change wpAnyH _ _ _ _ _ _ _ (Act.put _ (some 50) _) _
  try simp only [Act.put, List.setIfInBounds_toArray, List.set_cons_zero, List.set_cons_succ]
  refine wpAnyH_ready (rs := [7]) (by kernel_rfl) (by simp) ?_
  refine AllReadyH.cons rfl (fun K hK => ?_) AllReadyH.nil
  go_simp
  refine hK.out _ _ hS (fun _ => ?_)
  clear hK K
  try change wpAnyH _ _ _ _ _ _ _ (Act.put _ (some 47) _) _
  try simp only [Act.put, List.setIfInBounds_toArray, List.set_cons_zero, List.set_cons_succ]
  refine wpAnyH_take (i := 11) (v := .int .u64 (R : Nat)) rfl (by kernel_rfl) (by kernel_rfl) (by kernel_rfl) (fun _ _ _ h => h) (Or.inl ⟨by kernel_rfl, ?_⟩) hS ?_
  · intro W' hSw
    go_simp
  change wpAnyH _ _ _ _ _ _ _ (Act.put _ (some 51) _) _
  try simp only [Act.put, List.setIfInBounds_toArray, List.set_cons_zero, List.set_cons_succ]
  refine wpAnyH_take (i := 12) (v := .pointer (some ⟨b, off + L * 2, none⟩)) rfl (by kernel_rfl) (by kernel_rfl) (by kernel_rfl) (fun _ _ _ h => h) (Or.inl ⟨by kernel_rfl, ?_⟩) hS ?_
  · intro W' hSw
    go_simp
  change wpAnyH _ _ _ _ _ _ _ (Act.put _ (some 52) _) _
  try simp only [Act.put, List.setIfInBounds_toArray, List.set_cons_zero, List.set_cons_succ]
  refine wpAnyH_take (i := 13) (v := .pointer (some ⟨b, off + L * 2 + 1, none⟩)) rfl (by kernel_rfl) (by kernel_rfl) (by kernel_rfl) (fun _ _ _ h => h) (Or.inl ⟨by kernel_rfl, ?_⟩) hS ?_
  · intro W' hSw
    go_simp
  change wpAnyH _ _ _ _ _ _ _ (Act.put _ (some 53) _) _
  try simp only [Act.put, List.setIfInBounds_toArray, List.set_cons_zero, List.set_cons_succ]
  refine wpAnyH_ready (rs := [14]) (by kernel_rfl) (by simp) ?_
  refine AllReadyH.cons rfl (fun K hK => ?_) AllReadyH.nil
  go_simp
  refine hK.out _ _ (hSt.out) (fun _ => ?_)
  clear hK K hS
  refine wpAnyH_done (by kernel_rfl) ?_ _
  go_wp2_with fail
  go_ret
  exact ⟨rfl, _, _, FIN.out _ HB4.out⟩

theorem ins_take (B : List Blk) (n : Nat) (hf : foundB (n / 64) B = false) (hl : lb (n / 64) B ≤ B.length) :
    (B.take (lb (n / 64) B) ++ [(n / 64, 0)] ++ B.drop (lb (n / 64) B)).set (lb (n / 64) B) (n / 64, 2 ^ (n % 64)) = insB n B := by
  rw [insB_new hf]
  have h1 : (B.take (lb (n / 64) B)).length = lb (n / 64) B := by rw [List.length_take]; omega
  rw [List.append_assoc, List.set_append_right _ _ (by omega), h1, Nat.sub_self]
  simp

/-- the same behind an insertion -/
theorem ap_new {w w3 w5 : World} {s : Nat} {A : Option Addr} {b off cap cap' : Nat} {B : List Blk} (h : SA w s A cap B) (hb : Below w.heap.size w w3) {n : Nat} (hn : n ≤ 268435456) (hf : foundB (n / 64) B = false)
    (hip : IP w3 A B.length ((blksV B).take (lb (n / 64) B * 2) ++ [.int .i64 ((n / 64 : Nat) : Int), .int .u64 ((0 : Nat) : Int)] ++ (blksV B).drop (lb (n / 64) B * 2)) w5 (some ⟨b, off, none⟩) cap') (hsb : s ≠ b) :
    (w5.setCell ⟨s, 0, none⟩ (.slice (some ⟨b, off, none⟩) (B.length + 1) cap')).drew.cell? ⟨b, off + lb (n / 64) B * 2 + 1, none⟩ = some (.int .u64 ((0 : Nat) : Int)) ∧
    (w5.setCell ⟨s, 0, none⟩ (.slice (some ⟨b, off, none⟩) (B.length + 1) cap')).drew.frozen? ⟨b, off + lb (n / 64) B * 2 + 1, none⟩ = false ∧
    AP w s A (insB n B) ((w5.setCell ⟨s, 0, none⟩ (.slice (some ⟨b, off, none⟩) (B.length + 1) cap')).drew.setCell ⟨b, off + lb (n / 64) B * 2 + 1, none⟩ (.int .u64 ((2 ^ (n % 64) : Nat) : Int))) (some ⟨b, off, none⟩) cap' := by
  have hl := lb_le (n / 64) B
  obtain ⟨M, hM⟩ : ∃ M, M = B.take (lb (n / 64) B) ++ [(n / 64, 0)] ++ B.drop (lb (n / 64) B) := ⟨_, rfl⟩
  have hMl : M.length = B.length + 1 := by
    rw [hM]
    simp only [List.length_append, List.length_take, List.length_drop, List.length_singleton]
    omega
  have hMc : (blksV B).take (lb (n / 64) B * 2) ++ [.int .i64 ((n / 64 : Nat) : Int), .int .u64 ((0 : Nat) : Int)] ++ (blksV B).drop (lb (n / 64) B * 2) = blksV M := by
    rw [hM, blksV_take, blksV_drop, blksV_app, blksV_app]
    rfl
  have hsg := hip.sg
  rw [hMc, ← hMl] at hsg
  have h3 := h.below hb
  have hs3 := h3.box.lt
  have hz := hb.size
  have hsA : s ∉ blk A := h.ne
  have hfs : Fr [s] w5 (w5.setCell ⟨s, 0, none⟩ (.slice (some ⟨b, off, none⟩) (B.length + 1) cap')) := (Fr.refl [s] w5).setCell (p := ⟨s, 0, none⟩) (Or.inl (by simp)) _
  obtain ⟨W6, hW6⟩ : ∃ W6, W6 = (w5.setCell ⟨s, 0, none⟩ (.slice (some ⟨b, off, none⟩) (B.length + 1) cap')).drew := ⟨_, rfl⟩
  have hf6 : Fr [s] w5 W6 := by rw [hW6]; exact hfs.drew
  have hsg6 : Sg 2 W6 53 (some ⟨b, off, none⟩) cap' M.length (blksV M) := hsg.kept hf6 (fun g hg => by simp only [blk, List.mem_singleton] at hg ⊢; omega)
  have hbox5 : Box w5 s 26 #[.slice A B.length cap] := h3.box.kept hip.fr hsA
  have hbox6 : Box W6 s 26 #[.slice (some ⟨b, off, none⟩) (B.length + 1) cap'] := by
    rw [hW6]
    have := hbox5.put 0 (.slice (some ⟨b, off, none⟩) (B.length + 1) cap')
    show Box (w5.setCell ⟨s, 0, none⟩ (.slice (some ⟨b, off, none⟩) (B.length + 1) cap')) s _ _
    simpa using this
  have hlM : lb (n / 64) B < M.length := by omega
  have hMe : M[lb (n / 64) B] = (n / 64, 0) := by
    have e : M[lb (n / 64) B]? = some (n / 64, 0) := by
      rw [hM, List.append_assoc, List.getElem?_append_right (by rw [List.length_take]; omega)]
      rw [List.length_take, show lb (n / 64) B - min (lb (n / 64) B) B.length = 0 by omega]
      rfl
    rw [List.getElem?_eq_getElem hlM] at e
    exact Option.some.inj e
  obtain ⟨_, cur, hcur, hfit, hxc⟩ := hsg6.ex _ rfl
  have hcur : W6.heap[b]? = some (.cells cur _ (0, 0)) := hcur
  have hxc : ∀ j u, (blksV M)[j]? = some u → cur[off + j]? = some u := hxc
  obtain ⟨_, m1⟩ := blks_at M (lb (n / 64) B) hlM
  rw [hMe] at m1
  have hput := sg_put hsg6 hlM (2 ^ (n % 64))
  rw [hMe] at hput
  have hset : M.set (lb (n / 64) B) (n / 64, 2 ^ (n % 64)) = insB n B := by rw [hM]; exact ins_take B n hf hl
  have hput : Sg 2 (W6.setCell ⟨b, off + lb (n / 64) B * 2 + 1, none⟩ (.int .u64 ((2 ^ (n % 64) : Nat) : Int))) 53 (some ⟨b, off, none⟩) cap' (insB n B).length (blksV (insB n B)) := by rw [← hset]; exact hput
  have hil : (insB n B).length = B.length + 1 := by rw [← hset, List.length_set, hMl]
  have hok := (mem_insB (n := n) h.ba.ok).1
  have hsm := small_ins hn h.ba.small
  have hf7 : Fr [b] W6 (W6.setCell ⟨b, off + lb (n / 64) B * 2 + 1, none⟩ (.int .u64 ((2 ^ (n % 64) : Nat) : Int))) := (Fr.refl [b] W6).setCell (p := ⟨b, off + lb (n / 64) B * 2 + 1, none⟩) (Or.inl (by simp)) _
  have hbl : b ∈ blk A ∨ w3.heap.size ≤ b := hip.bl b (by simp [blk])
  rw [← hW6]
  refine ⟨?_, ?_, ⟨⟨?_, ⟨hput, hok, few_of hok.rise hsm, hsm⟩⟩, ?_, fun g hg => ?_⟩⟩
  · rw [cell_of_row W6 b _ cur _ (0, 0) hcur, Nat.add_assoc]
    exact hxc _ _ m1
  · simp [World.frozen?, hcur]
  · rw [hil]
    exact hbox6.kept hf7 (by simpa using hsb)
  · have e1 : Fr (s :: blk A) w w3 := Fr.of_below hb _
    have e2 : Fr (s :: blk A) w3 W6 := hip.fr.trans hf6 (fun q hq => Or.inl (by simp [hq])) (fun q hq => Or.inl (by simp only [List.mem_singleton] at hq; subst hq; simp))
    have e3 : Fr (s :: blk A) w3 (W6.setCell ⟨b, off + lb (n / 64) B * 2 + 1, none⟩ (.int .u64 ((2 ^ (n % 64) : Nat) : Int))) := e2.trans hf7 (fun q hq => Or.inl hq) (fun q hq => by
      simp only [List.mem_singleton] at hq
      subst hq
      rcases hbl with h1 | h1
      · exact Or.inl (by simp [h1])
      · exact Or.inr h1)
    exact e1.trans e3 (fun q hq => Or.inl hq) (fun q hq => Or.inl hq)
  · rcases hip.bl g hg with h1 | h1
    · exact Or.inl h1
    · exact Or.inr (by omega)

set_option maxRecDepth 100000 in
set_option maxHeartbeats 2000000 in
theorem add_new (w : World) (s : Nat) (A : Option Addr) (cap : Nat) (B : List Blk) (h : SA w s A cap B) (n : Nat) (hn : n ≤ 268435456) (hm : mayB (n : Int) = true) (hnot : n ∉ flat B) (hf : foundB (n / 64) B = false) :
    Calls Tryd.prog 5 #[.pointer (some ⟨s, 0, none⟩), .int .i64 (n : Nat)] w (AdPost w s A true (insB n B)) := by
  have KM := Lib.hid (may_any w n)
  have KH := Lib.hid (fun w' (hb : Below w.heap.size w w') => has_any w' s A cap B (h.below hb) n)
  have KF := Lib.hid (fun w' (hb : Below w.heap.size w w') => find_any w' s A cap B (h.below hb) n hn)
  have hz : hasZ (n : Int) B = false := by
    unfold hasZ
    rw [hm, Bool.true_and]
    exact decide_eq_false (by simpa using hnot)
  rw [hz] at KH
  rw [hm] at KM
  rw [hf] at KF
  have hl := lb_le (n / 64) B
  have hfew := h.ba.few
  have hsA := h.ne
  have hsl := h.box.lt
  have FIN := Lib.hid (fun w3 w5 b off cap' (hb : Below w.heap.size w w3) hip hsb => ap_new (w5 := w5) (b := b) (off := off) (cap' := cap') h hb hn hf hip hsb)
  have KI := Lib.hid (fun w3 (hb : Below w.heap.size w w3) (w4 : World) (hw : w4 = w3.alloc (.cells #[.int .i64 ((n / 64 : Nat) : Int), .int .u64 0] 53)) => show Calls Tryd.prog 25 #[.slice A B.length cap, .int .i64 (lb (n / 64) B : Nat), .slice (some ⟨w3.heap.size, 0, none⟩) 1 1] w4 (fun e w' => ∃ A' cap', e = .returned (.slice A' (B.length + 1) cap') ∧ IP w3 A B.length ((blksV B).take (lb (n / 64) B * 2) ++ [.int .i64 ((n / 64 : Nat) : Int), .int .u64 ((0 : Nat) : Int)] ++ (blksV B).drop (lb (n / 64) B * 2)) w' A' cap') from by
    subst hw
    have h3 := (h.below hb).ba.sg
    have hlt := h3.lt
    have h4 := h3.alloc (.cells #[.int .i64 ((n / 64 : Nat) : Int), .int .u64 0] 53)
    refine (ins_any _ A cap B.length (lb (n / 64) B) (blksV B) h4 (blksV_one B) hfew hl w3.heap.size _ _ (Box.new w3 _ _) (fun hg => by have := hlt _ hg; omega) (by intro u hu; simp only [List.mem_cons, List.not_mem_nil, or_false] at hu; rcases hu with rfl | rfl <;> rfl)).mono ?_
    rintro e w' ⟨A', cap', he, hi⟩
    refine ⟨A', cap', he, hi.sg, ?_, fun g hg => ?_, hi.no⟩
    · exact ((Fr.refl (blk A) w3).alloc _).trans hi.fr (fun q hq => Or.inl hq) (fun q hq => Or.inl hq)
    · rcases hi.bl g hg with h1 | h1
      · exact Or.inl h1
      · rw [World.size_alloc] at h1
        exact Or.inr (by omega))
  have c0 : w.cell? ⟨s, 0, none⟩ = some (.slice A B.length cap) := h.box.cell 0
  have hq : (n : Int).tdiv 64 = ((n / 64 : Nat) : Int) := by rw [Int.tdiv_eq_ediv_of_nonneg (by omega)]; omega
  have hrem : (n : Int).tmod 64 = ((n % 64 : Nat) : Int) := by rw [Int.tmod_eq_emod_of_nonneg (by omega)]; omega
  have hk64 : n % 64 < 64 := Nat.mod_lt _ (by omega)
  have hshl := shl_run (n % 64) hk64
  have hp64 : 2 ^ (n % 64) < 18446744073709551616 := Nat.pow_lt_pow_right (by omega) hk64
  have hor : bits BinOp.or IntKind.u64 0 ((2 ^ (n % 64) : Nat) : Int) = ((2 ^ (n % 64) : Nat) : Int) := by
    have := bits_or_u64_nat 0 (2 ^ (n % 64)) (by omega) hp64
    rw [Nat.zero_or] at this
    exact this
  have K1 := Lib.hid (fun w' (hb : Below w.heap.size w w') => (hb.cell (p := ⟨s, 0, none⟩) hsl).trans c0)
  have KB := Lib.hid (fun w' (hb : Below w.heap.size w w') => (h.below hb).box)
  clear h hz hm hnot hf c0
  generalize insB n B = B2 at *
  go_enter Tryd.func5, Tryd.ntmps5
  go_wp2_with fail
  refine KM.out.mono ?_
  rintro e w2 ⟨rfl, rfl⟩
  go_wp2_with fail
  refine (KH.out _ (Below.refl _ _)).mono ?_
  rintro e w3 ⟨rfl, b3⟩
  have HB3 := Lib.hid b3
  clear b3
  go_wp2_with fail
  refine (KF.out _ HB3.out).mono ?_
  rintro e w4 ⟨rfl, b4⟩
  have HB4 := Lib.hid (HB3.out.trans (b4.mono HB3.out.size))
  clear b4 KF KH KM
  have q0 := K1.out _ HB4.out
  have KI4 := Lib.hid (KI.out w4 HB4.out _ rfl)
  generalize hq2 : n / 64 = q at *
  go_wp2_with fail
  refine KI4.out.mono ?_
  rintro e w5 ⟨A', cap', rfl, hip⟩
  have hA' : ∃ b off, A' = some ⟨b, off, none⟩ := by
    cases hA : A' with
    | none => exact absurd hA hip.no
    | some a =>
      obtain ⟨b, off, spot⟩ := a
      obtain ⟨hsp, _⟩ := hip.sg.ex _ hA
      have hsp : spot = none := hsp
      subst hsp
      exact ⟨b, off, rfl⟩
  obtain ⟨b, off, rfl⟩ := hA'
  have hsb : s ≠ b := by
    rintro rfl
    have hz := HB4.out.size
    rcases hip.bl s (by simp [blk]) with h1 | h1
    · exact hsA h1
    · omega
  have b5 := (KB.out _ HB4.out).kept hip.fr hsA
  have c5 : w5.cell? ⟨s, 0, none⟩ = some (.slice A B.length cap) := b5.cell 0
  have y5 : w5.frozen? ⟨s, 0, none⟩ = false := b5.free 0
  have b6 := b5.put 0 (.slice (some ⟨b, off, none⟩) (B.length + 1) cap')
  subst hq2
  obtain ⟨q1, y1, AP5⟩ := FIN.out w4 w5 b off cap' HB4.out hip hsb
  have q0' : (w5.setCell ⟨s, 0, none⟩ (.slice (some ⟨b, off, none⟩) (B.length + 1) cap')).cell? ⟨s, 0, none⟩ = some (.slice (some ⟨b, off, none⟩) (B.length + 1) cap') := by rw [b6.cell]; simp
  have FIN5 := Lib.hid AP5
  have hlb : (lb (n / 64) B : Int) < (B.length : Int) + 1 := by omega
  have hlb2 : lb (n / 64) B < B.length + 1 := by omega
  clear AP5 FIN KI4 KI hip b5 b6 q0 K1 KB HB3
  generalize 2 ^ (n % 64) = P at *
  generalize n % 64 = k at *
  generalize lb (n / 64) B = L at *
  generalize n / 64 = q at *
  go_wp2_with fail
  obtain ⟨W6, hW6⟩ : ∃ W6, W6 = w5.setCell ⟨s, 0, none⟩ (.slice (some ⟨b, off, none⟩) (B.length + 1) cap') := ⟨_, rfl⟩
  rw [← hW6] at q1 y1 q0' FIN5 ⊢
  clear hW6
  have hlb3 : (L : Int) < ((B.length + 1 : Nat) : Int) := by omega
  generalize B.length + 1 = N at *
  have q0 : W6.drew.cell? ⟨s, 0, none⟩ = some (.slice (some ⟨b, off, none⟩) N cap') := q0'
  have hSt := Lib.hid (show (W6.drew.setCell ⟨b, off + L * 2 + 1, none⟩ (.int .u64 (P : Nat))).cell? ⟨s, 0, none⟩ = some (.slice (some ⟨b, off, none⟩) N cap') from by
    rw [World.cell?_setCell_other _ _ _ _ (by intro e; injection e with e1; exact hsb e1.symm)]
    exact q0)
  clear q0' c5 y5
  refine wp_region_held_drew (S := fun w' => w'.cell? ⟨s, 0, none⟩ = some (.slice (some ⟨b, off, none⟩) N cap')) (by kernel_rfl) q0 (fun hS => ?_)
  refine wpAnyH_take (i := 0) (v := .pointer (some ⟨s, 0, none⟩)) rfl (by kernel_rfl) (by kernel_rfl) (by kernel_rfl) (fun _ _ _ h => h) (Or.inl ⟨by kernel_rfl, ?_⟩) hS ?_
  · intro W' hSw
    go_simp
  change wpAnyH _ _ _ _ _ _ _ (Act.put _ (some 40) _) _
  try simp only [Act.put, List.setIfInBounds_toArray, List.set_cons_zero, List.set_cons_succ]
  refine wpAnyH_take (i := 1) (v := .pointer (some ⟨s, 0, none⟩)) rfl (by kernel_rfl) (by kernel_rfl) (by kernel_rfl) (fun _ _ _ h => h) (Or.inl ⟨by kernel_rfl, ?_⟩) hS ?_
  · intro W' hSw
    go_simp
  change wpAnyH _ _ _ _ _ _ _ (Act.put _ (some 41) _) _
  try simp only [Act.put, List.setIfInBounds_toArray, List.set_cons_zero, List.set_cons_succ]
  refine wpAnyH_take (i := 2) (v := .pointer (some ⟨s, 0, none⟩)) rfl (by kernel_rfl) (by kernel_rfl) (by kernel_rfl) (fun _ _ _ h => h) (Or.inl ⟨by kernel_rfl, ?_⟩) hS ?_
  · intro W' hSw
    go_simp
  change wpAnyH _ _ _ _ _ _ _ (Act.put _ (some 42) _) _
  try simp only [Act.put, List.setIfInBounds_toArray, List.set_cons_zero, List.set_cons_succ]
  refine wpAnyH_take (i := 3) (v := .slice (some ⟨b, off, none⟩) N cap') rfl (by kernel_rfl) (by kernel_rfl) (by kernel_rfl) (fun _ _ _ h => h) (Or.inl ⟨by kernel_rfl, ?_⟩) hS ?_
  · intro W' hSw
    go_simp
  change wpAnyH _ _ _ _ _ _ _ (Act.put _ (some 43) _) _
  try simp only [Act.put, List.setIfInBounds_toArray, List.set_cons_zero, List.set_cons_succ]
  refine wpAnyH_take (i := 4) (v := .int .i64 (L : Nat)) rfl (by kernel_rfl) (by kernel_rfl) (by kernel_rfl) (fun _ _ _ h => h) (Or.inl ⟨by kernel_rfl, ?_⟩) hS ?_
  · intro W' hSw
    go_simp
  change wpAnyH _ _ _ _ _ _ _ (Act.put _ (some 44) _) _
  try simp only [Act.put, List.setIfInBounds_toArray, List.set_cons_zero, List.set_cons_succ]
  refine wpAnyH_take (i := 5) (v := .pointer (some ⟨b, off + L * 2, none⟩)) rfl (by kernel_rfl) (by kernel_rfl) (by kernel_rfl) (fun _ _ _ h => h) (Or.inl ⟨by kernel_rfl, ?_⟩) hS ?_
  · intro W' hSw
    go_simp
  change wpAnyH _ _ _ _ _ _ _ (Act.put _ (some 45) _) _
  try simp only [Act.put, List.setIfInBounds_toArray, List.set_cons_zero, List.set_cons_succ]
  refine wpAnyH_take (i := 6) (v := .pointer (some ⟨b, off + L * 2 + 1, none⟩)) rfl (by kernel_rfl) (by kernel_rfl) (by kernel_rfl) (fun _ _ _ h => h) (Or.inl ⟨by kernel_rfl, ?_⟩) hS ?_
  · intro W' hSw
    go_simp
  change wpAnyH _ _ _ _ _ _ _ (Act.put _ (some 46) _) _
  try simp only [Act.put, List.setIfInBounds_toArray, List.set_cons_zero, List.set_cons_succ]
  refine wpAnyH_take (i := 8) (v := .int .i64 (n : Nat)) rfl (by kernel_rfl) (by kernel_rfl) (by kernel_rfl) (fun _ _ _ h => h) (Or.inl ⟨by kernel_rfl, ?_⟩) hS ?_
  · intro W' hSw
    go_simp
  change wpAnyH _ _ _ _ _ _ _ (Act.put _ (some 48) _) _
  try simp only [Act.put, List.setIfInBounds_toArray, List.set_cons_zero, List.set_cons_succ]
  refine wpAnyH_take (i := 9) (v := .int .i64 (k : Nat)) rfl (by kernel_rfl) (by kernel_rfl) (by kernel_rfl) (fun _ _ _ h => h) (Or.inl ⟨by kernel_rfl, ?_⟩) hS ?_
  · intro W' hSw
    go_simp
  change wpAnyH _ _ _ _ _ _ _ (Act.put _ (some 49) _) _
  try simp only [Act.put, List.setIfInBounds_toArray, List.set_cons_zero, List.set_cons_succ]
  refine wpAnyH_take (i := 10) (v := .int .u64 (P : Nat)) rfl (by kernel_rfl) (by kernel_rfl) (by kernel_rfl) (fun _ _ _ h => h) (Or.inl ⟨by kernel_rfl, ?_⟩) hS ?_
  · intro W' hSw
    go_simp
  change wpAnyH _ _ _ _ _ _ _ (Act.put _ (some 50) _) _
  try simp only [Act.put, List.setIfInBounds_toArray, List.set_cons_zero, List.set_cons_succ]
  refine wpAnyH_ready (rs := [7]) (by kernel_rfl) (by simp) ?_
  refine AllReadyH.cons rfl (fun K hK => ?_) AllReadyH.nil
  go_simp
  refine hK.out _ _ hS (fun _ => ?_)
  clear hK K
  try change wpAnyH _ _ _ _ _ _ _ (Act.put _ (some 47) _) _
  try simp only [Act.put, List.setIfInBounds_toArray, List.set_cons_zero, List.set_cons_succ]
  refine wpAnyH_take (i := 11) (v := .int .u64 (P : Nat)) rfl (by kernel_rfl) (by kernel_rfl) (by kernel_rfl) (fun _ _ _ h => h) (Or.inl ⟨by kernel_rfl, ?_⟩) hS ?_
  · intro W' hSw
    go_simp
  change wpAnyH _ _ _ _ _ _ _ (Act.put _ (some 51) _) _
  try simp only [Act.put, List.setIfInBounds_toArray, List.set_cons_zero, List.set_cons_succ]
  refine wpAnyH_take (i := 12) (v := .pointer (some ⟨b, off + L * 2, none⟩)) rfl (by kernel_rfl) (by kernel_rfl) (by kernel_rfl) (fun _ _ _ h => h) (Or.inl ⟨by kernel_rfl, ?_⟩) hS ?_
  · intro W' hSw
    go_simp
  change wpAnyH _ _ _ _ _ _ _ (Act.put _ (some 52) _) _
  try simp only [Act.put, List.setIfInBounds_toArray, List.set_cons_zero, List.set_cons_succ]
  refine wpAnyH_take (i := 13) (v := .pointer (some ⟨b, off + L * 2 + 1, none⟩)) rfl (by kernel_rfl) (by kernel_rfl) (by kernel_rfl) (fun _ _ _ h => h) (Or.inl ⟨by kernel_rfl, ?_⟩) hS ?_
  · intro W' hSw
    go_simp
  change wpAnyH _ _ _ _ _ _ _ (Act.put _ (some 53) _) _
  try simp only [Act.put, List.setIfInBounds_toArray, List.set_cons_zero, List.set_cons_succ]
  refine wpAnyH_ready (rs := [14]) (by kernel_rfl) (by simp) ?_
  refine AllReadyH.cons rfl (fun K hK => ?_) AllReadyH.nil
  go_simp
  refine hK.out _ _ (hSt.out) (fun _ => ?_)
  clear hK K hS
  refine wpAnyH_done (by kernel_rfl) ?_ _
  go_wp2_with fail
  go_ret
  exact ⟨rfl, _, _, FIN5.out⟩

theorem add_any (w : World) (s : Nat) (A : Option Addr) (cap : Nat) (B : List Blk) (h : SA w s A cap B) (n : Int) :
    Calls Tryd.prog 5 #[.pointer (some ⟨s, 0, none⟩), .int .i64 n] w (AdPost w s A (mayB n && !decide (n.toNat ∈ flat B)) (addB n B)) := by
  unfold addB
  cases hc : (mayB n && !decide (n.toNat ∈ flat B)) with
  | false =>
    rw [if_neg (by simp)]
    exact add_not w s A cap B h n hc
  | true =>
    rw [if_pos rfl]
    simp only [Bool.and_eq_true, Bool.not_eq_true', decide_eq_false_iff_not] at hc
    obtain ⟨hm, hnot⟩ := hc
    obtain ⟨m, rfl, hml⟩ := may_nat hm
    simp only [Int.toNat_natCast] at hnot ⊢
    cases hf : foundB (m / 64) B with
    | true => exact add_found w s A cap B h m hml hm hnot hf
    | false => exact add_new w s A cap B h m hml hm hnot hf
end Go.Proofs.YtnjaadcbpkbjbaaDoor.bt
