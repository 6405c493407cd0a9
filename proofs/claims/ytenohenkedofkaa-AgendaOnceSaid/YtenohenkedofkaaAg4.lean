/-
  agenda: the reference's Has, Put, Take.
-/
import Derived.Test.YtenohenkedofkaaAg3
import Derived.StillTactics
import Derived.Deep.RegionHeld3
import Derived.Deep.AppendLies
import Derived.IntWalk
namespace Go.Proofs.Ytenohenkedofkaa.ag
open Go.RowKit Go.Proofs.Ytenohenkedofkaa.mem

theorem vals_one (xs : List Int) : ∀ u ∈ vals xs, u.oneCell' = true := by
  intro u hu
  simp only [vals, List.mem_map] at hu
  obtain ⟨x, _, rfl⟩ := hu
  rfl

theorem take_mem (xs : List Int) (x : Int) (k : Nat) (hk : k < xs.length) : x ∈ xs.take (k + 1) ↔ x ∈ xs.take k ∨ xs[k] = x := by
  rw [List.take_succ_eq_append_getElem hk, List.mem_append, List.mem_singleton]
  exact or_congr Iff.rfl eq_comm

theorem rhas_any (w : World) (A : Option Addr) (cap : Nat) (xs : List Int) (x : Int) (h : Seg w 3 A cap (vals xs)) (hm : xs.length ≤ 1000000) :
    Calls Try.prog 29 #[.slice A xs.length cap, .int .i64 x] w fun e w' => e = .returned (.bool (decide (x ∈ xs))) ∧ w = w' := by
  rcases Nat.eq_zero_or_pos xs.length with h0 | h0
  · obtain rfl := List.eq_nil_of_length_eq_zero h0
    clear h hm h0
    go_enter Try.func29, Try.ntmps29
    go_wp2
    go_loop [5] (fun i => i = .int .i64 0) (fun _ => 0)
    case atStart => exact rfl
    case round =>
      subst hrel
      go_wp2
      go_ret
      exact ⟨by simp, rfl⟩
  · obtain ⟨g, off, rfl, hlt, hc⟩ := h.at_ (by rw [vals_len]; exact h0)
    have Hc : Hid (∀ j (hj : j < xs.length), w.cell? ⟨g, off + j, none⟩ = some (.int .i64 xs[j])) := Lib.hid (fun j hj => by rw [hc j (by rw [vals_len]; exact hj)]; simp [vals])
    clear h hc
    go_enter Try.func29, Try.ntmps29
    go_wp2
    go_loop [5] (fun i => ∃ k : Nat, k ≤ xs.length ∧ i = .int .i64 k ∧ Hid (x ∉ xs.take k)) (fun i => xs.length - (intOf i).toNat)
    case atStart => exact ⟨0, by omega, rfl, Lib.hid (by simp)⟩
    case round =>
      obtain ⟨k, hk, rfl, hn⟩ := hrel
      by_cases hkl : k < xs.length
      · have hcell := Hc.out k hkl
        have Hmem := Lib.hid (take_mem xs x k hkl)
        have Hin : Hid (xs[k] ∈ xs) := Lib.hid (List.getElem_mem hkl)
        generalize hy : xs[k] = y at *
        clear hy
        by_cases e : y = x
        · subst e
          go_wp2
          go_ret
          exact ⟨by rw [decide_eq_true Hin.out]; rfl, rfl⟩
        · have hb : (y == x) = false := beq_eq_false_iff_ne.2 e
          have He := Lib.hid e
          clear e
          go_wp2
          go_round
          case rel => exact ⟨k + 1, by omega, by go_num, Lib.hid (fun hm => by rcases Hmem.out.1 hm with h | h; exact hn.out h; exact He.out h)⟩
          case measure => simp [intOf]; omega
      · obtain rfl : k = xs.length := by omega
        have Hn : Hid (x ∉ xs) := Lib.hid (by have := hn.out; rwa [List.take_length] at this)
        clear hn hkl
        go_wp2
        go_ret
        exact ⟨by rw [decide_eq_false Hn.out]; rfl, rfl⟩

def NewPost (w : World) (A : Option Addr) (xs : List Int) (rs : Value → Array Value) (e : Ending) (w' : World) : Prop :=
  ∃ A' cap', e = .returned (.tuple (rs (.slice A' xs.length cap'))) ∧ Seg w' 3 A' cap' (vals xs) ∧ Below w.heap.size w w' ∧ ∀ g ∈ blk A', g ∈ blk A ∨ w.heap.size ≤ g

theorem rput_no (w : World) (A : Option Addr) (cap : Nat) (xs : List Int) (x : Int) (h : Seg w 3 A cap (vals xs)) (hm : xs.length ≤ 1000000) (hin : x ∈ xs) :
    Calls Try.prog 25 #[.slice A xs.length cap, .int .i64 x] w (NewPost w A xs (fun v => #[v, .bool false])) := by
  have H := Lib.hid (fun w h => rhas_any w A cap xs x h hm)
  rw [decide_eq_true hin] at H
  have Hh := Lib.hid h
  clear h hin
  go_enter Try.func25, Try.ntmps25
  go_wp2_with fail
  refine (H.out _ Hh.out).mono ?_
  rintro e w' ⟨rfl, rfl⟩
  go_wp2_with fail
  go_ret2
  exact ⟨A, cap, rfl, Hh.out, Below.refl _ _, fun g hg => Or.inl hg⟩

theorem fresh_nil (w : World) (e : TypeId) : Seg (w.alloc (.cells #[] e)) e (some ⟨w.heap.size, 0, none⟩) 0 [] :=
  ⟨Nat.le_refl _, Nat.zero_le _, fun h => (by cases h), fun a ha => by cases ha; exact ⟨rfl, #[], heap_alloc_new w _, Nat.le_refl _, fun j u hu => by simp at hu⟩⟩

set_option maxRecDepth 100000 in
theorem rput_yes (w : World) (A : Option Addr) (cap : Nat) (xs : List Int) (x : Int) (h : Seg w 3 A cap (vals xs)) (hm : xs.length ≤ 1000000) (hin : x ∉ xs) :
    Calls Try.prog 25 #[.slice A xs.length cap, .int .i64 x] w (NewPost w A (xs ++ [x]) (fun v => #[v, .bool true])) := by
  have H := Lib.hid (fun w h => rhas_any w A cap xs x h hm)
  rw [decide_eq_false hin] at H
  have Hh := Lib.hid h
  obtain ⟨i0, hi0, hz0, hz1, hz2⟩ := info_parts info_int
  have Hi := Lib.hid hi0
  have Hz0 := Lib.hid hz0
  have Hz1 := Lib.hid hz1
  have Hz2 := Lib.hid hz2
  clear h hin hi0 hz0 hz1 hz2
  go_enter Try.func25, Try.ntmps25
  go_wp2_with fail
  refine (H.out _ Hh.out).mono ?_
  rintro e w' ⟨rfl, rfl⟩
  go_wp2_with (first
    | (at_builtin
       refine wpList_app (n := 0) (m := xs.length) rfl (.tmp 10) (.tmp 11) _ rfl (fresh_nil w _) (Hh.out.alloc _).rd rfl (vals_len xs).symm Try.underlying25 Hi.out Hz0.out Hz1.out Hz2.out rfl rfl rfl (vals_one xs) (by omega) (by omega) ?_
       intro A1 cap1 w1 hs1 f1 hb1
       have hn1 := Lib.hid hb1)
    | (at_builtin
       refine wpList_push rfl (.tmp 12) (.tmp 14) _ rfl (hs1.alloc _) (by simp [vals]) Try.underlying25 Hi.out Hz0.out Hz1.out Hz2.out rfl rfl rfl (new_cell _ _ _) rfl (by omega) (by omega) ?_
       intro A2 cap2 w2 hs2 f2 hb2))
  go_ret2
  refine ⟨A2, cap2, by simp, ?_, ?_, ?_⟩
  · rw [← vals_snoc]; exact hs2
  · have a1 : Fr [] w w1 := ((Fr.refl [w.heap.size] w).alloc (.cells #[] 3)).trans f1 (fun g hg => Or.inr (by rw [List.mem_singleton] at hg; omega)) (fun g hg => Or.inr (by rw [blk_some, List.mem_singleton] at hg; omega))
    exact (a1.trans (((Fr.refl (blk A1) w1).alloc _).trans f2 (G := blk A1) (fun g hg => Or.inl hg) (fun g hg => Or.inl hg)) (fun g hg => (by cases hg)) (fun g hg => Or.inr (by rcases hb1 with e | e <;> rw [e] at hg <;> simp [blk] at hg <;> omega))).all
  · intro g hg
    right
    rcases hb2 with e | e
    · rw [e] at hg
      rcases hb1 with e1 | e1 <;> rw [e1] at hg <;> simp [blk] at hg <;> omega
    · rw [e] at hg
      have := f1.size
      simp at hg this
      omega

theorem rtake_none (w : World) (A : Option Addr) (cap : Nat) (n : Int) :
    Calls Try.prog 27 #[.slice A 0 cap, .int .i64 n] w fun e w' => e = .returned (.tuple #[.slice A 0 cap, .int .i64 0, .bool false]) ∧ w = w' := by
  go_enter Try.func27, Try.ntmps27
  go_wp2_with fail
  go_ret3
  exact ⟨rfl, rfl⟩

set_option maxRecDepth 100000 in
set_option maxHeartbeats 800000 in
theorem rtake_any (w : World) (A : Option Addr) (cap : Nat) (xs : List Int) (n : Int) (h : Seg w 3 A cap (vals xs)) (hm : xs.length ≤ 1000000) (hz : 0 < xs.length) :
    Calls Try.prog 27 #[.slice A xs.length cap, .int .i64 n] w (NewPost w A (xs.eraseIdx (pickN n xs.length)) (fun v => #[v, .int .i64 (xs.getD (pickN n xs.length) 0), .bool true])) := by
  have hp := pick_eq n xs.length hz (by omega)
  have hkl := pick_lt n xs.length hz
  generalize pickN n xs.length = k at *
  obtain ⟨g, off, rfl, hlt, hc⟩ := h.at_ (by rw [vals_len]; exact hz)
  have hc0 : w.cell? ⟨g, off + k, none⟩ = some (.int .i64 (xs.getD k 0)) := by
    rw [hc k (by rw [vals_len]; exact hkl)]
    simp [vals, List.getD, List.getElem?_eq_getElem hkl]
  obtain ⟨hu, Hu⟩ := Seg.upto h Try.underlying25 (fun w => by kernel_rfl) k (by rw [vals_len]; omega)
  obtain ⟨A', hf, hA', Hf⟩ := Seg.from_ h Try.underlying25 (fun w => by kernel_rfl) (k + 1) (by rw [vals_len]; omega)
  rw [vals_len] at hu hf
  have hf : ∀ (W : World), (Instr.slice 25 (.slice (some ⟨g, off, none⟩) xs.length cap) (some (.int .i64 ((k : Int) + 1))) none none).run Try.prog W = .ok (.slice A' (xs.length - (k + 1)) (cap - (k + 1))) W := hf
  obtain ⟨i0, hi0, hz0, hz1, hz2⟩ := info_parts info_int
  have Hh := Lib.hid h
  have HU := Lib.hid (Hu w h)
  have HF := Lib.hid (Hf w h)
  have Hi := Lib.hid hi0
  have Hz0 := Lib.hid hz0
  have Hz1 := Lib.hid hz1
  have Hz2 := Lib.hid hz2
  have Hkl := Lib.hid hkl
  have hle : ((vals xs).take k).length = k := by simp [vals]; omega
  have hlf : ((vals xs).drop (k + 1)).length = xs.length - (k + 1) := by simp [vals]
  have Hle := Lib.hid hle.symm
  have Hlf := Lib.hid hlf.symm
  have HA' := Lib.hid hA'
  have H1 : Hid (∀ u ∈ (vals xs).take k, u.oneCell' = true) := Lib.hid (fun u hu => vals_one xs u (List.mem_of_mem_take hu))
  have H2 : Hid (∀ u ∈ (vals xs).drop (k + 1), u.oneCell' = true) := Lib.hid (fun u hu => vals_one xs u (List.mem_of_mem_drop hu))
  have hz0' : ((xs.length : Int) == 0) = false := by rw [beq_eq_false_iff_ne]; omega
  clear h hc Hu Hf hi0 hz0 hz1 hz2 hle hlf hA'
  generalize hX : xs.getD k 0 = X at *
  have HX := Lib.hid hX
  clear hX
  go_enter Try.func27, Try.ntmps27
  go_wp2_with (at_builtin; (refine wpList_app (n := 0) (m := k) rfl (.tmp 20) (.tmp 23) _ rfl (fresh_nil w _) (HU.out.kept ((Fr.refl [] w).alloc _) (by simp)).rd rfl Hle.out Try.underlying25 Hi.out Hz0.out Hz1.out Hz2.out rfl rfl rfl H1.out (by omega) (by omega) ?_); intro A1 cap1 w1 hs1 f1 hb1)
  have a1 : Fr [] w w1 := ((Fr.refl [w.heap.size] w).alloc (.cells #[] 3)).trans f1 (fun g hg => Or.inr (by rw [List.mem_singleton] at hg; omega)) (fun g hg => Or.inr (by rw [blk_some, List.mem_singleton] at hg; omega))
  have Hb1 : Hid (∀ q ∈ blk A1, w.heap.size ≤ q ∧ q < w1.heap.size) := Lib.hid (fun q hq => ⟨by rcases hb1 with e | e <;> rw [e] at hq <;> simp [blk] at hq <;> omega, hs1.lt q hq⟩)
  have F1 := Lib.hid a1
  have HF1 : Hid (Seg w1 3 A' (cap - (k + 1)) ((vals xs).drop (k + 1))) := Lib.hid (HF.out.kept a1 (by simp))
  have hg1 : g ∉ blk A1 := fun hm => by have := (Hb1.out g hm).1; omega
  have c1 : w1.cell? ⟨g, off + k, none⟩ = some (.int .i64 X) := by rw [World.cell?_of_block (w := w) (a1.block g hlt (by simp))]; exact hc0
  have l1 : g < w1.heap.size := Nat.lt_of_lt_of_le hlt a1.size
  have hs1' : Seg w1 3 A1 cap1 ((vals xs).take k) := hs1
  have Hle1 := Lib.hid Hle.out
  have o1 : k + (xs.length - (k + 1)) ≤ 9223372036854775807 := by omega
  have o2 : (k + (xs.length - (k + 1))) * 8 ≤ 140737488355328 := by omega
  have hk0 : (0 : Int) ≤ (k : Int) := by omega
  have hk1 : (k : Int) < (xs.length : Int) := by omega
  have hsum : IntKind.i64.wrap ((k : Int) + 1) = (k : Int) + 1 := IntWalk.i64_in _ (by omega)
  clear hb1 f1 a1 hs1
  go_region_held3 (fun w' => w'.cell? ⟨g, off + k, none⟩ = some (.int .i64 X))
    (first
      | exact (World.cell?_of_block (f2.block g l1 hg1)).trans c1
      | go_keep)
    ((refine step_app (n := k) (m := xs.length - (k + 1)) (by rfl) (.tmp 25) (.tmp 29) _ (by rfl) (by first | exact hs1'.drew | exact hs1') (by first | exact HF1.out.rd.drew | exact HF1.out.rd) Hle.out Hlf.out Try.underlying25 Hi.out Hz0.out Hz1.out Hz2.out rfl (by rfl) (by rfl) H2.out o1 o2 ?_; intro A2 cap2 w2 hs2 f2 hb2))
  go_wp2
  clear hsum
  go_ret3
  have e1 : (vals xs).take k ++ (vals xs).drop (k + 1) = vals (xs.eraseIdx k) := by
    rw [List.eraseIdx_eq_take_drop_succ]; simp [vals]
  have e2 : (xs.eraseIdx k).length = k + (xs.length - (k + 1)) := by
    rw [List.length_eraseIdx, if_pos hkl]; omega
  refine ⟨A2, cap2, by rw [e2]; rfl, e1 ▸ hs2, ?_, fun q hq => Or.inr ?_⟩
  · have a2 : Fr (blk A1) w1 w2 := ⟨f2.os, f2.tape, f2.output, f2.size, f2.block⟩
    exact (F1.out.trans a2 (G := []) (fun q hq => (by cases hq)) (fun q hq => Or.inr (Hb1.out q hq).1)).all
  · rcases hb2 with e | e
    · rw [e] at hq; exact (Hb1.out q hq).1
    · rw [e, List.mem_singleton] at hq
      have := F1.out.size
      subst hq
      exact this
end Go.Proofs.Ytenohenkedofkaa.ag
