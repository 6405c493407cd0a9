/-
  texts: the reference's Into, Sorted, Number (as in the texts of intern, without its tables).
-/
import Derived.Test.YtcicojobeggdaaaIn5
import Derived.Sort.Walk0
namespace Go.Proofs.Ytcicojobeggdaaa.inn
open Go.RowKit Go.Shelf Go.Sort Go.Proofs.Ytcicojobeggdaaa.mem

theorem rd_str {w : World} {A : Option Addr} {l : List (List UInt8)} (h : Rd w A (l.map encStr)) (hz : 0 < l.length) : ∃ g o, A = some ⟨g, o, none⟩ ∧ g < w.heap.size ∧ ∀ j (hj : j < l.length), w.cell? ⟨g, o + j, none⟩ = some (encStr l[j]) := by
  obtain ⟨g, o, rfl, hl, hc⟩ := h (by simpa using hz)
  exact ⟨g, o, rfl, hl, fun j hj => by rw [hc j (by simpa using hj)]; simp⟩

abbrev intoS (m : List (List UInt8)) (x : List UInt8) : List (List UInt8) := into (fun a b : List UInt8 => a < b) m x
abbrev upS (m : List (List UInt8)) (x : List UInt8) : Nat := (m.takeWhile fun y => decide (y < x)).length

theorem tw_stop {α : Type} (p : α → Bool) : ∀ (m : List α) (a : α), m[(m.takeWhile p).length]? = some a → p a = false
  | [], a, h => by simp at h
  | b :: m, a, h => by
    rcases hp : p b with _ | _
    · rw [List.takeWhile_cons, hp] at h
      simp at h
      rw [← h]; exact hp
    · rw [List.takeWhile_cons, hp] at h
      simp at h
      exact tw_stop p m a h

theorem tw_in {α : Type} (p : α → Bool) : ∀ (m : List α) (k : Nat) (a : α), k < (m.takeWhile p).length → m[k]? = some a → p a = true
  | [], _, _, h, _ => by simp at h
  | b :: m, k, a, h, ha => by
    rcases hp : p b with _ | _
    · rw [List.takeWhile_cons, hp] at h
      simp at h
    · rw [List.takeWhile_cons, hp] at h
      cases k with
      | zero => simp at ha; rw [← ha]; exact hp
      | succ k => exact tw_in p m k a (by simpa using h) (by simpa using ha)

theorem tw_le {α : Type} (p : α → Bool) (m : List α) : (m.takeWhile p).length ≤ m.length := (List.takeWhile_prefix p).length_le

theorem up_in (m : List (List UInt8)) (x : List UInt8) (k : Nat) (h : k < upS m x) (hk : k < m.length) : Op.bytesLess m[k] x = true := by
  rw [bytesLess_eq]
  exact tw_in _ m k m[k] h (List.getElem?_eq_getElem hk)

theorem up_stop (m : List (List UInt8)) (x : List UInt8) (h : upS m x < m.length) : Op.bytesLess m[upS m x] x = false := by
  rw [bytesLess_eq]
  exact tw_stop (fun y => decide (y < x)) m _ (List.getElem?_eq_getElem h)

def IPost (w : World) (R : List (List UInt8)) (e : Ending) (w' : World) : Prop := ∃ A' cap', e = .returned (.slice A' R.length cap') ∧ Seg w' 9 A' cap' (R.map encStr) ∧ Below w.heap.size w w'

theorem fresh_nil (w : World) (e : TypeId) : Seg (w.alloc (.cells #[] e)) e (some ⟨w.heap.size, 0, none⟩) 0 [] :=
  ⟨Nat.le_refl _, Nat.zero_le _, fun h => (by cases h), fun a ha => by cases ha; exact ⟨rfl, #[], heap_alloc_new w _, Nat.le_refl _, fun j u hu => by simp at hu⟩⟩

theorem fresh_fr {w w1 : World} {o : Obj} (f1 : Fr (blk (some ⟨w.heap.size, 0, none⟩)) (w.alloc o) w1) : Fr [] w w1 :=
  ((Fr.refl [w.heap.size] w).alloc o).trans f1 (fun g hg => Or.inr (by rw [List.mem_singleton] at hg; omega)) (fun g hg => Or.inr (by rw [blk_some, List.mem_singleton] at hg; omega))

theorem fresh_blk {w : World} {o : Obj} {A1 : Option Addr} (hb1 : blk A1 = blk (some ⟨w.heap.size, 0, none⟩) ∨ blk A1 = [(w.alloc o).heap.size]) : ∀ q ∈ blk A1, w.heap.size ≤ q := by
  intro q hq
  rcases hb1 with e | e <;> rw [e] at hq <;> simp [blk] at hq <;> omega

theorem next_fr0 {w w1 w2 : World} {A1 : Option Addr} (a1 : Fr [] w w1) (q1 : ∀ q ∈ blk A1, w.heap.size ≤ q) (f2 : Fr (blk A1) w1 w2) : Fr [] w w2 :=
  a1.trans f2 (fun g hg => (by cases hg)) (fun g hg => Or.inr (q1 g hg))

theorem next_fr {w w1 w2 : World} {o : Obj} {A1 : Option Addr} (a1 : Fr [] w w1) (q1 : ∀ q ∈ blk A1, w.heap.size ≤ q) (f2 : Fr (blk A1) (w1.alloc o) w2) : Fr [] w w2 :=
  (a1.alloc o).trans f2 (fun g hg => (by cases hg)) (fun g hg => Or.inr (q1 g hg))

theorem next_blk {w w1 : World} {o : Obj} {A1 A2 : Option Addr} (a1 : Fr [] w w1) (q1 : ∀ q ∈ blk A1, w.heap.size ≤ q) (hb : blk A2 = blk A1 ∨ blk A2 = [(w1.alloc o).heap.size]) : ∀ q ∈ blk A2, w.heap.size ≤ q := by
  intro q hq
  rcases hb with e | e
  · exact q1 q (e ▸ hq)
  · rw [e, List.mem_singleton] at hq
    have := a1.size
    subst hq
    simp
    omega

theorem into_end {w w3 : World} {A3 : Option Addr} {cap3 n : Nat} {m R : List (List UInt8)} {x : List UInt8} {K : Nat} (hR : R = if m[K]? = some x then m else m.take K ++ [x] ++ m.drop K) (hne : ¬ m[K]? = some x) (hK : K ≤ m.length)
    (hs : Seg w3 9 A3 cap3 (((([] : List Value) ++ (m.map encStr).take K) ++ [encStr x]) ++ (m.map encStr).drop K)) (a3 : Fr [] w w3) (hn : n = K + 1 + (m.length - K)) : IPost w R (.returned (.slice A3 n cap3)) w3 := by
  rw [if_neg hne] at hR
  subst hR
  refine ⟨A3, cap3, ?_, ?_, a3.all⟩
  · rw [hn]
    simp only [List.length_append, List.length_take, List.length_drop, List.length_singleton, Nat.min_eq_left hK]
  · simpa [List.map_take, List.map_drop] using hs

theorem enc_one (m : List (List UInt8)) : ∀ u ∈ m.map encStr, u.oneCell' = true := by
  intro u hu
  obtain ⟨s, _, rfl⟩ := List.mem_map.1 hu
  rfl

set_option maxRecDepth 100000 in
theorem into_any (w : World) (A : Option Addr) (cap : Nat) (m : List (List UInt8)) (x : List UInt8) (h : Seg w 9 A cap (m.map encStr)) (hm : m.length ≤ 1000) :
    Calls Try.prog 33 #[.slice A m.length cap, encStr x] w (IPost w (intoS m x)) := by
  have hR : Hid (intoS m x = if m[upS m x]? = some x then m else m.take (upS m x) ++ [x] ++ m.drop (upS m x)) := Lib.hid rfl
  have b1 := Lib.hid (up_in m x)
  have b2 := Lib.hid (up_stop m x)
  have hKm : upS m x ≤ m.length := tw_le _ m
  generalize intoS m x = R at *
  generalize upS m x = K at *
  obtain ⟨hu, Hu⟩ := Seg.upto h Try.underlying22 (fun w => by kernel_rfl) K (by rw [List.length_map]; exact hKm)
  obtain ⟨A', hf, hA', Hf⟩ := Seg.from_ h Try.underlying22 (fun w => by kernel_rfl) K (by rw [List.length_map]; exact hKm)
  rw [List.length_map] at hu hf
  obtain ⟨i0, hi0, hz0, hz1, hz2⟩ := info_parts info_str
  have Hh := Lib.hid h
  have HU := Lib.hid (Hu w h)
  have HF := Lib.hid (Hf w h)
  have Hi := Lib.hid hi0
  have Hz0 := Lib.hid hz0
  have Hz1 := Lib.hid hz1
  have Hz2 := Lib.hid hz2
  have Hle : Hid (K = ((m.map encStr).take K).length) := Lib.hid (by simp; omega)
  have Hlf : Hid (m.length - K = ((m.map encStr).drop K).length) := Lib.hid (by simp)
  have Hn1 : Hid (K = (([] : List Value) ++ (m.map encStr).take K).length) := Lib.hid (by simp; omega)
  have Hn2 : Hid (K + 1 = ((([] : List Value) ++ (m.map encStr).take K) ++ [encStr x]).length) := Lib.hid (by simp; omega)
  have H1 : Hid (∀ u ∈ (m.map encStr).take K, u.oneCell' = true) := Lib.hid (fun u hu => enc_one m u (List.mem_of_mem_take hu))
  have H2 : Hid (∀ u ∈ (m.map encStr).drop K, u.oneCell' = true) := Lib.hid (fun u hu => enc_one m u (List.mem_of_mem_drop hu))
  clear h Hu Hf hi0 hz0 hz1 hz2 hA'
  go_enter Try.func33, Try.ntmps33
  go_wp2_with fail
  go_loopw [5] (fun i wr => ∃ (k : Nat), k ≤ K ∧ i = .int .i64 k ∧ w = wr) (fun i _ => m.length - (intOf i).toNat)
  case atStart => exact ⟨0, by omega, rfl, rfl⟩
  case round =>
    obtain ⟨k, hk, rfl, rfl⟩ := hrel
    by_cases hkK : k < K
    · have hkl : k < m.length := by omega
      have e1 : decide ((k : Int) < (m.length : Int)) = true := decide_eq_true (by omega)
      obtain ⟨b, off, rfl, hlt, hcell⟩ := rd_str Hh.out.rd (by omega)
      have c2 := hcell k hkl
      have bl := b1.out k hkK hkl
      clear hcell
      unfold encStr at c2 ⊢
      go_wp2_with fail
      go_roundw
      case rel => exact ⟨k + 1, by omega, by go_num, trivial⟩
      case measure => simp [intOf]; omega
    obtain rfl : k = K := by omega
    by_cases hkl : k < m.length
    · have e1 : decide ((k : Int) < (m.length : Int)) = true := decide_eq_true (by omega)
      obtain ⟨b, off, rfl, hlt, hcell⟩ := rd_str Hh.out.rd (by omega)
      have c2 := hcell k hkl
      have bl := b2.out hkl
      clear hcell
      rcases heq : (m[k] == x) with _ | _
      · unfold encStr at c2 ⊢
        go_wp2_with (first
          | (at_builtin
             refine wpList_app (n := 0) (m := k) rfl (.tmp 34) (.tmp 37) _ rfl (fresh_nil w _) (HU.out.kept ((Fr.refl [] w).alloc _) (by simp)).rd rfl Hle.out Try.underlying22 Hi.out Hz0.out Hz1.out Hz2.out rfl rfl rfl H1.out (by omega) (by omega) ?_
             intro A1 cap1 w1 hs1 f1 hb1
             have a1 := Lib.hid (fresh_fr f1)
             have q1 := Lib.hid (fresh_blk hb1))
          | (at_builtin
             refine wpList_push rfl (.tmp 39) (.tmp 41) _ rfl (hs1.alloc _) Hn1.out Try.underlying22 Hi.out Hz0.out Hz1.out Hz2.out rfl rfl rfl (new_cell _ _ _) rfl (by omega) (by omega) ?_
             intro A2 cap2 w2 hs2 f2 hb2
             have a2 := Lib.hid (next_fr a1.out q1.out f2)
             have q2 := Lib.hid (next_blk a1.out q1.out hb2))
          | (at_builtin
             refine wpList_app (m := m.length - k) rfl (.tmp 43) (.tmp 46) _ rfl hs2 (HF.out.kept a2.out (by simp)).rd Hn2.out Hlf.out Try.underlying22 Hi.out Hz0.out Hz1.out Hz2.out rfl rfl rfl H2.out (by omega) (by omega) ?_
             intro A3 cap3 w3 hs3 f3 hb3
             have a3 := Lib.hid (next_fr0 a2.out q2.out f3)))
        go_ret
        exact into_end hR.out (by rw [List.getElem?_eq_getElem hkl]; intro e; injection e with e; rw [e] at heq; simp at heq) hKm hs3 a3.out (by omega)
      · unfold encStr at c2 ⊢
        go_wp2_with fail
        go_ret
        have e2 : m[k]? = some x := by rw [List.getElem?_eq_getElem hkl, eq_of_beq heq]
        have e3 := hR.out
        rw [if_pos e2] at e3
        subst e3
        exact ⟨_, _, rfl, Hh.out, Below.refl _ _⟩
    · obtain rfl : k = m.length := by omega
      have e1 : decide ((m.length : Int) < (m.length : Int)) = false := decide_eq_false (by omega)
      have Hl0 : Hid (0 = ((m.map encStr).drop m.length).length) := Lib.hid (by simp)
      unfold encStr
      go_wp2_with (first
        | (at_builtin
           refine wpList_app (n := 0) (m := m.length) rfl (.tmp 34) (.tmp 37) _ rfl (fresh_nil w _) (HU.out.kept ((Fr.refl [] w).alloc _) (by simp)).rd rfl Hle.out Try.underlying22 Hi.out Hz0.out Hz1.out Hz2.out rfl rfl rfl H1.out (by omega) (by omega) ?_
           intro A1 cap1 w1 hs1 f1 hb1
           have a1 := Lib.hid (fresh_fr f1)
           have q1 := Lib.hid (fresh_blk hb1))
        | (at_builtin
           refine wpList_push rfl (.tmp 39) (.tmp 41) _ rfl (hs1.alloc _) Hn1.out Try.underlying22 Hi.out Hz0.out Hz1.out Hz2.out rfl rfl rfl (new_cell _ _ _) rfl (by omega) (by omega) ?_
           intro A2 cap2 w2 hs2 f2 hb2
           have a2 := Lib.hid (next_fr a1.out q1.out f2)
           have q2 := Lib.hid (next_blk a1.out q1.out hb2))
        | (at_builtin
           refine wpList_app (m := 0) rfl (.tmp 43) (.tmp 46) _ rfl hs2 (HF.out.kept a2.out (by simp)).rd Hn2.out Hl0.out Try.underlying22 Hi.out Hz0.out Hz1.out Hz2.out rfl rfl rfl H2.out (by omega) (by omega) ?_
           intro A3 cap3 w3 hs3 f3 hb3
           have a3 := Lib.hid (next_fr0 a2.out q2.out f3)))
      go_ret
      exact into_end hR.out (by simp) hKm hs3 a3.out (by omega)

theorem rsS_snoc (l : List (List UInt8)) (k : Nat) (hk : k < l.length) : rsS (l.take (k + 1)) = intoS (rsS (l.take k)) l[k] := by
  rw [List.take_succ_eq_append_getElem hk]
  exact intoAll_snoc _ _ _

set_option maxRecDepth 100000 in
theorem rsorted_any (w : World) (A : Option Addr) (cap : Nat) (l : List (List UInt8)) (h : Rd w A (l.map encStr)) (hm : l.length ≤ 1000) :
    Calls Try.prog 20 #[.slice A l.length cap] w (IPost w (rsS l)) := by
  have Hh := Lib.hid h
  clear h
  go_enter Try.func20, Try.ntmps20
  go_wp2_with fail
  go_loopw [3, 4] (fun o i wr => ∃ (k : Nat) (B : Option Addr) (c : Nat), k ≤ l.length ∧ i = .int .i64 k ∧ o = .slice B (rsS (l.take k)).length c ∧ Hid (Seg wr 9 B c ((rsS (l.take k)).map encStr)) ∧ Hid (Below w.heap.size w wr)) (fun _ i _ => l.length - (intOf i).toNat)
  case atStart => exact ⟨0, none, 0, by omega, rfl, rfl, Lib.hid (Seg.nil _ _), Lib.hid (Below.refl _ _)⟩
  case round =>
    obtain ⟨k, B, c, hk, rfl, rfl, hs, hb⟩ := hrel
    rename_i wr _
    by_cases hkl : k < l.length
    · have e1 : decide ((k : Int) < (l.length : Int)) = true := decide_eq_true (by omega)
      obtain ⟨b, off, rfl, hlt, hcell⟩ := rd_str Hh.out (by omega)
      have c2 : wr.cell? ⟨b, off + k, none⟩ = some (encStr l[k]) := (hb.out.cell (p := ⟨b, off + k, none⟩) hlt).trans (hcell k hkl)
      have H := Lib.hid (into_any wr B c (rsS (l.take k)) l[k] hs.out (by have := rs_len (l.take k); rw [List.length_take] at this; omega))
      rw [← rsS_snoc l k hkl] at H
      clear hcell
      generalize rsS (l.take k) = M at *
      unfold encStr at c2 H
      generalize (ByteArray.mk l[k].toArray) = z at *
      go_wp2_with fail
      refine H.out.mono ?_
      rintro e w2 ⟨B2, c2', rfl, hs2, hb2⟩
      have hb3 := Lib.hid (hb.out.trans (hb2.mono hb.out.size))
      have hs3 := Lib.hid hs2
      clear hb hb2 hs hs2
      go_wp2_with fail
      go_roundw
      case rel => exact ⟨k + 1, B2, c2', by omega, by go_num, rfl, hs3, hb3⟩
      case measure => simp [intOf]; omega
    · obtain rfl : k = l.length := by omega
      have e1 : decide ((l.length : Int) < (l.length : Int)) = false := decide_eq_false (by omega)
      rw [List.take_length] at hs ⊢
      go_wp2_with fail
      go_ret
      exact ⟨B, c, rfl, hs.out, hb.out⟩

def numV (xs : List (List UInt8)) (x : List UInt8) : Int := if x ∈ xs then (xs.idxOf x : Nat) else -1

theorem numV_here {xs : List (List UInt8)} {x : List UInt8} {k : Nat} (hk : k < xs.length) (hx : xs[k] = x) (hn : x ∉ xs.take k) : numV xs x = (k : Nat) := by
  have hm : x ∈ xs := hx ▸ List.getElem_mem hk
  unfold numV
  rw [if_pos hm]
  have e : xs = xs.take k ++ x :: xs.drop (k + 1) := by
    rw [← hx, ← List.drop_eq_getElem_cons hk, List.take_append_drop]
  have : xs.idxOf x = k := by
    rw [e, List.idxOf_append, if_neg hn]
    simp; omega
  rw [this]

theorem numV_none {xs : List (List UInt8)} {x : List UInt8} (hn : x ∉ xs) : numV xs x = -1 := by unfold numV; rw [if_neg hn]

set_option maxRecDepth 100000 in
theorem number_any (w : World) (A : Option Addr) (cap : Nat) (xs : List (List UInt8)) (x : List UInt8) (h : Rd w A (xs.map encStr)) (hm : xs.length ≤ 1000) :
    Calls Try.prog 9 #[.slice A xs.length cap, encStr x] w fun e w' => e = .returned (.int .i64 (numV xs x)) ∧ w = w' := by
  have Hh := Lib.hid h
  have Hv : Hid (∀ (k : Nat) (hk : k < xs.length), xs[k] = x → x ∉ xs.take k → numV xs x = (k : Nat)) := Lib.hid (fun k hk h1 h2 => numV_here hk h1 h2)
  have Hn : Hid (x ∉ xs → numV xs x = -1) := Lib.hid numV_none
  clear h
  generalize numV xs x = r at *
  go_enter Try.func9, Try.ntmps9
  go_wp2_with fail
  go_loopw [5] (fun i wr => ∃ k : Nat, k ≤ xs.length ∧ i = .int .i64 k ∧ Hid (x ∉ xs.take k) ∧ w = wr) (fun i _ => xs.length - (intOf i).toNat)
  case atStart => exact ⟨0, by omega, rfl, Lib.hid (by simp), rfl⟩
  case round =>
    obtain ⟨k, hk, rfl, hnot, rfl⟩ := hrel
    by_cases hkl : k < xs.length
    · have e1 : decide ((k : Int) < (xs.length : Int)) = true := decide_eq_true (by omega)
      obtain ⟨g, off, rfl, hlt, hc⟩ := rd_str Hh.out (by omega)
      have c2 := hc k hkl
      clear hc
      rcases heq : (xs[k] == x) with _ | _
      · unfold encStr at c2 ⊢
        go_wp2_with fail
        go_roundw
        case rel =>
          refine ⟨k + 1, by omega, by go_num, Lib.hid ?_, trivial⟩
          rw [List.take_succ_eq_append_getElem hkl, List.mem_append, List.mem_singleton]
          rintro (h | h)
          · exact hnot.out h
          · rw [← h] at heq; simp at heq
        case measure => simp [intOf]; omega
      · have hr := Hv.out k hkl (eq_of_beq heq) hnot.out
        unfold encStr at c2 ⊢
        go_wp2_with fail
        go_ret
        exact ⟨by rw [hr]; rfl, rfl⟩
    · obtain rfl : k = xs.length := by omega
      have e1 : decide ((xs.length : Int) < (xs.length : Int)) = false := decide_eq_false (by omega)
      have hr := Hn.out (by have := hnot.out; rwa [List.take_length] at this)
      unfold encStr
      go_wp2_with fail
      go_ret
      exact ⟨by rw [hr]; rfl, rfl⟩
end Go.Proofs.Ytcicojobeggdaaa.inn
