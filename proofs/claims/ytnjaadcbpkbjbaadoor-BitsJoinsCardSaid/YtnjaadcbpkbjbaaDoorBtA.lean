/-
  Bits: the reference's Add.
-/
import Derived.Test.YtnjaadcbpkbjbaaDoorBt9
import Derived.Deep.Cut
namespace Go.Proofs.YtnjaadcbpkbjbaaDoor.bt
open Go.RowKit Go.Sort Go.Proofs.YtnjaadcbpkbjbaaDoor.mem

/-- how many stand ahead of a number -/
def lbn (n : Nat) : List Nat → Nat
  | [] => 0
  | x :: r => if x < n then lbn n r + 1 else 0

theorem lbn_le (n : Nat) : ∀ L : List Nat, lbn n L ≤ L.length
  | [] => Nat.le_refl _
  | x :: r => by
    unfold lbn
    have := lbn_le n r
    split <;> simp <;> omega

theorem ins_at (n : Nat) : ∀ L : List Nat, ins n L = L.take (lbn n L) ++ [n] ++ L.drop (lbn n L)
  | [] => rfl
  | x :: r => by
    unfold ins lbn
    split
    · rw [ins_at n r]; rfl
    · rfl

theorem lbn_eq {n k : Nat} : ∀ {L : List Nat}, k ≤ L.length → (∀ i (hi : i < L.length), i < k → L[i] < n) → (∀ hk : k < L.length, n ≤ L[k]) → k = lbn n L
  | [], hk, _, _ => by simp [lbn] at hk ⊢; omega
  | x :: r, hk, h1, h2 => by
    unfold lbn
    cases k with
    | zero =>
      have := h2 (by simp)
      rw [if_neg (by simp at this; omega)]
    | succ k =>
      have h0 := h1 0 (by simp) (by omega)
      rw [if_pos (by simpa using h0)]
      congr 1
      exact lbn_eq (L := r) (by simpa using hk) (fun i hi hik => h1 (i + 1) (by simpa using hi) (by omega)) (fun hk' => h2 (by simpa using hk'))

/-- a list of the reference's -/
structure RS (w : World) (A : Option Addr) (cap : Nat) (L : List Nat) : Prop where
  seg : Seg w 3 A cap (natI L)
  few : L.length ≤ 300000000
  small : ∀ x ∈ L, x ≤ 268435456

theorem RS.rd {w : World} {A : Option Addr} {cap : Nat} {L : List Nat} (h : RS w A cap L) : Rd w A (natI L) := h.seg.rd
theorem RS.kept {w w' : World} {A : Option Addr} {cap : Nat} {L : List Nat} (h : RS w A cap L) (hb : Fr [] w w') : RS w' A cap L := ⟨h.seg.kept hb (fun g _ => by simp), h.few, h.small⟩

theorem natI_len (L : List Nat) : (natI L).length = L.length := by simp [natI]
theorem natI_app (L M : List Nat) : natI (L ++ M) = natI L ++ natI M := by simp [natI]
theorem natI_one (L : List Nat) : ∀ u ∈ natI L, u.oneCell' = true := by
  intro u hu
  unfold natI at hu
  obtain ⟨x, _, rfl⟩ := List.mem_map.1 hu
  rfl

theorem fresh_nil (w : World) (e : TypeId) : Seg (w.alloc (.cells #[] e)) e (some ⟨w.heap.size, 0, none⟩) 0 [] :=
  ⟨Nat.le_refl _, Nat.zero_le _, fun h => (by cases h), fun a ha => by cases ha; exact ⟨rfl, #[], heap_alloc_new w _, Nat.le_refl _, fun j u hu => by simp at hu⟩⟩

theorem fresh_fr {w w1 : World} {o : Obj} (f1 : Fr (blk (some ⟨w.heap.size, 0, none⟩)) (w.alloc o) w1) : Fr [] w w1 :=
  ((Fr.refl [w.heap.size] w).alloc o).trans f1 (fun g hg => Or.inr (by rw [List.mem_singleton] at hg; omega)) (fun g hg => Or.inr (by rw [blk_some, List.mem_singleton] at hg; omega))

theorem fresh_blk {w : World} {o : Obj} {A1 : Option Addr} (hb1 : blk A1 = blk (some ⟨w.heap.size, 0, none⟩) ∨ blk A1 = [(w.alloc o).heap.size]) : ∀ q ∈ blk A1, w.heap.size ≤ q := by
  intro q hq
  rcases hb1 with e | e <;> rw [e] at hq <;> simp [blk] at hq <;> omega

theorem next_fr0 {w w1 w2 : World} {A1 : Option Addr} (a1 : Fr [] w w1) (q1 : ∀ q ∈ blk A1, w.heap.size ≤ q) (f2 : Fr (blk A1) w1 w2) : Fr [] w w2 :=
  a1.trans f2 (fun g hg => (by cases hg)) (fun g hg => Or.inr (q1 g hg))

theorem next_fr {w w1 w2 : World} {o : Obj} {A1 : Option Addr} (a1 : Fr [] w w1) (q1 : ∀ q ∈ blk A1, w.heap.size ≤ q) (f2 : Fr (blk A1) (w1.alloc o) w2) : Fr [] w w2 :=
  (a1.alloc o).trans f2 (fun g hg => (by cases hg)) (fun g hg => Or.inr (q1 g hg))

theorem next_blk {w w1 : World} {o : Obj} {A1 A2 : Option Addr} (a1 : Fr [] w w1) (q1 : ∀ q ∈ blk A1, w.heap.size ≤ q) (hb : blk A2 = blk A1 ∨ blk A2 = [(w1.alloc o).heap.size]) : ∀ q ∈ blk A2, w.heap.size ≤ q := by
  intro q hq
  rcases hb with e | e
  · exact q1 q (e ▸ hq)
  · rw [e, List.mem_singleton] at hq
    have := a1.size
    subst hq
    simp
    omega

theorem info_i : (Tryd.prog.info? 3).map (fun i => (i.zero, i.size, i.bytes)) = some (some (.int .i64 0), 1, 8) := by kernel_rfl

/-- what the reference's Add answers -/
def addR (n : Int) (L : List Nat) : Bool := mayB n && !decide (n.toNat ∈ L)
def addL (n : Int) (L : List Nat) : List Nat := if addR n L = true then ins n.toNat L else L

def RAd (n : Int) (L : List Nat) (w : World) (e : Ending) (w' : World) : Prop := ∃ A' cap', e = .returned (.tuple #[.slice A' (addL n L).length cap', .bool (addR n L)]) ∧ Fr [] w w' ∧ RS w' A' cap' (addL n L)

set_option maxRecDepth 100000 in
theorem radd_not (w : World) (A : Option Addr) (cap : Nat) (L : List Nat) (h : RS w A cap L) (n : Int) (hn : addR n L = false) :
    Calls Tryd.prog 6 #[.slice A L.length cap, .int .i64 n] w (RAd n L w) := by
  have fin := Lib.hid (show RAd n L w (.returned (.tuple #[.slice A L.length cap, .bool false])) w from by
    unfold RAd
    have e : addL n L = L := by unfold addL; rw [if_neg (by simp [hn])]
    rw [e, hn]
    exact ⟨A, cap, rfl, Fr.refl _ _, h⟩)
  have KH := Lib.hid (fun hn => rhas_any w A cap L h.rd (by have := h.few; omega) n hn)
  have hfew := h.few
  unfold addR mayB at hn
  clear h
  by_cases h0 : n < 0
  · have d1 : decide (n < 0) = true := decide_eq_true h0
    go_enter Tryd.func6, Tryd.ntmps6
    go_wp2_with fail
    go_ret2
    exact fin.out
  · have d1 : decide (n < 0) = false := decide_eq_false h0
    by_cases h1 : 268435456 < n
    · have d2 : decide ((268435456 : Int) < n) = true := decide_eq_true h1
      go_enter Tryd.func6, Tryd.ntmps6
      go_wp2_with fail
      go_ret2
      exact fin.out
    · have d2 : decide ((268435456 : Int) < n) = false := decide_eq_false h1
      rw [decide_eq_true (show 0 ≤ n by omega), decide_eq_true (show n ≤ 268435456 by omega)] at hn
      have hm : decide (n.toNat ∈ L) = true := by simpa using hn
      have KH := Lib.hid (KH.out (by omega))
      rw [hm] at KH
      clear hn hm
      go_enter Tryd.func6, Tryd.ntmps6
      go_wp2_with fail
      refine KH.out.mono ?_
      rintro e w2 ⟨rfl, rfl⟩
      go_wp2_with fail
      go_ret2
      exact fin.out

set_option maxRecDepth 100000 in
set_option maxHeartbeats 1000000 in
theorem radd_yes (w : World) (A : Option Addr) (cap : Nat) (L : List Nat) (h : RS w A cap L) (hL : L.length + 1 ≤ 300000000) (m : Nat) (hm : m ≤ 268435456) (hn : m ∉ L) :
    Calls Tryd.prog 6 #[.slice A L.length cap, .int .i64 (m : Nat)] w (RAd (m : Int) L w) := by
  have KH := Lib.hid (rhas_any w A cap L h.rd (by have := h.few; omega) (m : Int) (by omega))
  have hm2 : decide ((m : Int).toNat ∈ L) = false := decide_eq_false (by simpa using hn)
  rw [hm2] at KH
  have hR : addR (m : Int) L = true := by
    unfold addR mayB
    rw [hm2, decide_eq_true (show (0 : Int) ≤ (m : Int) by omega), decide_eq_true (show (m : Int) ≤ 268435456 by omega)]
    rfl
  have hAL : addL (m : Int) L = L.take (lbn m L) ++ [m] ++ L.drop (lbn m L) := by unfold addL; rw [if_pos hR, Int.toNat_natCast, ins_at]
  have hlb := lbn_le m L
  have fin := Lib.hid (fun w' A' cap' n (hn : n = L.length + 1) (hb : Fr [] w w') (hs : Seg w' 3 A' cap' ((([] : List Value) ++ (natI L).take (lbn m L)) ++ [Value.int .i64 (m : Nat)] ++ (natI L).drop (lbn m L))) => show RAd (m : Int) L w (.returned (.tuple #[.slice A' n cap', .bool true])) w' from by
    have e : (([] : List Value) ++ (natI L).take (lbn m L)) ++ [Value.int .i64 (m : Nat)] ++ (natI L).drop (lbn m L) = natI (addL (m : Int) L) := by
      rw [hAL, natI_app, natI_app]
      simp [natI, List.map_take, List.map_drop]
    have el : (addL (m : Int) L).length = L.length + 1 := by rw [hAL]; simp; omega
    rw [e] at hs
    unfold RAd
    rw [hR, el, hn]
    refine ⟨A', cap', rfl, hb, hs, by omega, fun x hx => ?_⟩
    rw [hAL] at hx
    simp only [List.mem_append, List.mem_singleton] at hx
    rcases hx with (hx | rfl) | hx
    · exact h.small x (List.mem_of_mem_take hx)
    · exact hm
    · exact h.small x (List.mem_of_mem_drop hx))
  have HS := Lib.hid h
  have hlx := Lib.hid (fun k (a : k ≤ L.length) b c => lbn_eq (n := m) (k := k) (L := L) a b c)
  obtain ⟨hu, Hu⟩ := Seg.upto h.seg Tryd.underlying28 (fun w => by kernel_rfl) (lbn m L) (by rw [natI_len]; exact hlb)
  obtain ⟨Af, hf, hAf, Hf⟩ := Seg.from_ h.seg Tryd.underlying28 (fun w => by kernel_rfl) (lbn m L) (by rw [natI_len]; exact hlb)
  rw [natI_len] at hu hf
  have HU := Lib.hid (Hu w h.seg)
  have HF := Lib.hid (Hf w h.seg)
  have Hle : Hid (lbn m L = ((natI L).take (lbn m L)).length) := Lib.hid (by simp [natI_len]; omega)
  have Hlf : Hid (L.length - lbn m L = ((natI L).drop (lbn m L)).length) := Lib.hid (by simp [natI_len])
  have Hn1 : Hid (lbn m L = (([] : List Value) ++ (natI L).take (lbn m L)).length) := Lib.hid (by simp [natI_len]; omega)
  have Hn2 : Hid (lbn m L + 1 = ((([] : List Value) ++ (natI L).take (lbn m L)) ++ [Value.int .i64 (m : Nat)]).length) := Lib.hid (by simp [natI_len]; omega)
  have H1 : Hid (∀ u ∈ (natI L).take (lbn m L), u.oneCell' = true) := Lib.hid (fun u hu => natI_one L u (List.mem_of_mem_take hu))
  have H2 : Hid (∀ u ∈ (natI L).drop (lbn m L), u.oneCell' = true) := Lib.hid (fun u hu => natI_one L u (List.mem_of_mem_drop hu))
  obtain ⟨i0, hi0, hz0, hz1, hz2⟩ := info_parts info_i
  have Hi := Lib.hid hi0
  have Hz0 := Lib.hid hz0
  have Hz1 := Lib.hid hz1
  have Hz2 := Lib.hid hz2
  clear h hi0 hz0 hz1 hz2 hm2 hR hAL Hu Hf hAf
  generalize lbn m L = K at *
  have d1 : decide ((m : Int) < 0) = false := decide_eq_false (by omega)
  have d2 : decide ((268435456 : Int) < (m : Int)) = false := decide_eq_false (by omega)
  go_enter Tryd.func6, Tryd.ntmps6
  go_wp2_with fail
  refine KH.out.mono ?_
  rintro e w2 ⟨rfl, rfl⟩
  clear KH
  go_wp2_with fail
  go_loopw [6] (fun i wr => ∃ j : Nat, j ≤ L.length ∧ i = .int .i64 j ∧ Hid (∀ k (hk : k < L.length), k < j → L[k] < m) ∧ w = wr) (fun i _ => L.length - (intOf i).toNat)
  case atStart => exact ⟨0, by omega, rfl, Lib.hid (fun k _ h => by omega), rfl⟩
  case round =>
    obtain ⟨j, hj, rfl, hI, rfl⟩ := hrel
    by_cases hgo : ∃ hjl : j < L.length, L[j] < m
    · obtain ⟨hjl, hlt⟩ := hgo
      have e1 : decide ((j : Int) < (L.length : Int)) = true := decide_eq_true (by omega)
      obtain ⟨b, off, rfl, _, k0⟩ := rd_nat HS.out.rd hjl
      have hI2 := Lib.hid (fun k (hk : k < L.length) (hkj : k < j + 1) => show L[k] < m from by
        by_cases e : k = j
        · subst e; exact hlt
        · exact hI.out k hk (by omega))
      have e2 : decide (L[j] < m) = true := decide_eq_true hlt
      generalize L[j] = x at *
      clear hlt hI
      go_wp2_with fail
      go_roundw
      case rel => exact ⟨j + 1, by omega, by go_num, hI2, trivial⟩
      case measure => simp [intOf]; omega
    obtain rfl : j = K := hlx.out j hj hI.out (fun hk => by
      have : ¬ L[j] < m := fun h => hgo ⟨hk, h⟩
      omega)
    clear hI
    by_cases hjl : j < L.length
    · have e1 : decide ((j : Int) < (L.length : Int)) = true := decide_eq_true (by omega)
      obtain ⟨b, off, rfl, _, k0⟩ := rd_nat HS.out.rd hjl
      have e2 : decide (L[j] < m) = false := decide_eq_false (fun h => hgo ⟨hjl, h⟩)
      clear hgo
      generalize L[j] = x at *
      go_wp2_with (first
        | (at_builtin
           refine wpList_app (n := 0) (m := j) rfl (.tmp 34) (.tmp 37) _ rfl (fresh_nil w _) (HU.out.kept ((Fr.refl [] w).alloc _) (by simp)).rd rfl Hle.out Tryd.underlying28 Hi.out Hz0.out Hz1.out Hz2.out rfl rfl rfl H1.out (by omega) (by omega) ?_
           intro A1 cap1 w1 hs1 f1 hb1
           have a1 := Lib.hid (fresh_fr f1)
           have q1 := Lib.hid (fresh_blk hb1))
        | (at_builtin
           refine wpList_push rfl (.tmp 39) (.tmp 41) _ rfl (hs1.alloc _) Hn1.out Tryd.underlying28 Hi.out Hz0.out Hz1.out Hz2.out rfl rfl rfl (new_cell _ _ _) rfl (by omega) (by omega) ?_
           intro A2 cap2 w2 hs2 f2 hb2
           have a2 := Lib.hid (next_fr a1.out q1.out f2)
           have q2 := Lib.hid (next_blk a1.out q1.out hb2))
        | (at_builtin
           refine wpList_app (m := L.length - j) rfl (.tmp 43) (.tmp 46) _ rfl hs2 (HF.out.kept a2.out (by simp)).rd Hn2.out Hlf.out Tryd.underlying28 Hi.out Hz0.out Hz1.out Hz2.out rfl rfl rfl H2.out (by omega) (by omega) ?_
           intro A3 cap3 w3 hs3 f3 hb3
           have a3 := Lib.hid (next_fr0 a2.out q2.out f3)))
      go_ret2
      exact fin.out _ _ _ _ (by omega) a3.out hs3
    · obtain rfl : j = L.length := by omega
      have e1 : decide ((L.length : Int) < (L.length : Int)) = false := decide_eq_false (by omega)
      clear hgo
      have Hl0 : Hid (0 = ((natI L).drop L.length).length) := Lib.hid (by simp [natI_len])
      go_wp2_with (first
        | (at_builtin
           refine wpList_app (n := 0) (m := L.length) rfl (.tmp 34) (.tmp 37) _ rfl (fresh_nil w _) (HU.out.kept ((Fr.refl [] w).alloc _) (by simp)).rd rfl Hle.out Tryd.underlying28 Hi.out Hz0.out Hz1.out Hz2.out rfl rfl rfl H1.out (by omega) (by omega) ?_
           intro A1 cap1 w1 hs1 f1 hb1
           have a1 := Lib.hid (fresh_fr f1)
           have q1 := Lib.hid (fresh_blk hb1))
        | (at_builtin
           refine wpList_push rfl (.tmp 39) (.tmp 41) _ rfl (hs1.alloc _) Hn1.out Tryd.underlying28 Hi.out Hz0.out Hz1.out Hz2.out rfl rfl rfl (new_cell _ _ _) rfl (by omega) (by omega) ?_
           intro A2 cap2 w2 hs2 f2 hb2
           have a2 := Lib.hid (next_fr a1.out q1.out f2)
           have q2 := Lib.hid (next_blk a1.out q1.out hb2))
        | (at_builtin
           refine wpList_app (m := 0) rfl (.tmp 43) (.tmp 46) _ rfl hs2 (HF.out.kept a2.out (by simp)).rd Hn2.out Hl0.out Tryd.underlying28 Hi.out Hz0.out Hz1.out Hz2.out rfl rfl rfl H2.out (by omega) (by omega) ?_
           intro A3 cap3 w3 hs3 f3 hb3
           have a3 := Lib.hid (next_fr0 a2.out q2.out f3)))
      go_ret2
      exact fin.out _ _ _ _ (by omega) a3.out hs3

/-- the reference's Add -/
theorem radd_any (w : World) (A : Option Addr) (cap : Nat) (L : List Nat) (h : RS w A cap L) (hL : L.length + 1 ≤ 300000000) (n : Int) :
    Calls Tryd.prog 6 #[.slice A L.length cap, .int .i64 n] w (RAd n L w) := by
  rcases hR : addR n L with _ | _
  · exact radd_not w A cap L h n hR
  · unfold addR mayB at hR
    simp only [Bool.and_eq_true, decide_eq_true_eq, Bool.not_eq_true', decide_eq_false_iff_not] at hR
    obtain ⟨⟨h0, h1⟩, h2⟩ := hR
    have e : n = (n.toNat : Nat) := by omega
    have K := radd_yes w A cap L h hL n.toNat (by omega) h2
    rw [← e] at K
    exact K
end Go.Proofs.YtnjaadcbpkbjbaaDoor.bt
