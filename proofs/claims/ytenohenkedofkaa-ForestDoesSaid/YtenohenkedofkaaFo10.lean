/-
  forest: the reference's Join and Members; are two lists the same.
-/
import Derived.Test.YtenohenkedofkaaFo9
import Derived.Test.YtenohenkedofkaaFo6
import Derived.Lib.QuietBelow
namespace Go.Proofs.Ytenohenkedofkaa.fo
open Go.RowKit Go.Proofs.Ytenohenkedofkaa.mem

def jv (x y z : Nat) : Nat := if z = x ∨ z = y then min x y else z
def jP (F : List Nat) (x y i : Nat) : List Nat := (F.take i).map (jv x y) ++ F.drop i
theorem jP_len (F : List Nat) (x y i : Nat) : (jP F x y i).length = F.length := by unfold jP; simp; omega
theorem jP_zero (F : List Nat) (x y : Nat) : jP F x y 0 = F := by unfold jP; simp
theorem jP_all (F : List Nat) (x y : Nat) : jP F x y F.length = joinF F x y := by unfold jP joinF; simp; intro a _; rfl
theorem jP_get (F : List Nat) (x y i : Nat) (h : i < F.length) : (jP F x y i).getD i 0 = F.getD i 0 := by
  unfold jP
  rw [List.getD_eq_getElem?_getD, List.getElem?_append_right (by simp; omega)]
  simp [Nat.min_eq_left (Nat.le_of_lt h)]
theorem jP_succ (F : List Nat) (x y i : Nat) (h : i < F.length) : (jP F x y i).set i (jv x y (F.getD i 0)) = jP F x y (i + 1) := by
  unfold jP
  rw [List.set_append_right _ _ (by simp; omega), List.length_map, List.length_take, Nat.min_eq_left (Nat.le_of_lt h), Nat.sub_self, List.drop_eq_getElem_cons h, List.set_cons_zero, List.take_succ_eq_append_getElem h, List.map_append, List.append_assoc]
  simp [List.getElem?_eq_getElem h]
theorem jP_same (F : List Nat) (x y i : Nat) (h : i < F.length) (hs : ¬ (F.getD i 0 = x ∨ F.getD i 0 = y)) : jP F x y i = jP F x y (i + 1) := by
  rw [← jP_succ F x y i h]
  have e : jv x y (F.getD i 0) = (jP F x y i).getD i 0 := by rw [jP_get F x y i h]; unfold jv; rw [if_neg hs]
  rw [e]
  have hl : i < (jP F x y i).length := by rw [jP_len]; exact h
  rw [List.getD_eq_getElem?_getD, List.getElem?_eq_getElem hl, Option.getD_some, List.set_getElem_self]

structure RAt (w wr : World) (g : Nat) (F : List Nat) : Prop where
  box : Box wr g 3 (natv F)
  on : Fr [g] w wr

theorem RAt.put {w wr : World} {g : Nat} {F : List Nat} (h : RAt w wr g F) (i v : Nat) : RAt w (wr.setCell ⟨g, i, none⟩ (.int .i64 (v : Int))) g (F.set i v) := by
  refine ⟨?_, h.on.setCell (p := ⟨g, i, none⟩) (Or.inl (by simp)) _⟩
  rw [← natv_set]; exact h.box.put i _

set_option maxRecDepth 100000 in
theorem rjoin_no (w : World) (g : Nat) (F : List Nat) (a b : Int) (h : Box w g 3 (natv F)) (hno : fd F a < 0 ∨ fd F b < 0 ∨ fd F a = fd F b) :
    Calls Try.prog 15 #[.slice (some ⟨g, 0, none⟩) F.length F.length, .int .i64 a, .int .i64 b] w fun e w' => e = .returned (.bool false) ∧ w = w' := by
  have Ka := Lib.hid (rfind_any w g F a h)
  have Kb := Lib.hid (rfind_any w g F b h)
  clear h
  generalize fd F a = x at *
  generalize fd F b = y at *
  by_cases hx0 : x < 0
  · have d1 : decide (x < 0) = true := decide_eq_true hx0
    clear hno
    go_enter Try.func15, Try.ntmps15
    go_wp2_with fail
    refine Ka.out.mono ?_
    rintro e w1 ⟨rfl, rfl⟩
    go_wp2_with fail
    refine Kb.out.mono ?_
    rintro e w2 ⟨rfl, rfl⟩
    go_wp2_with fail
    go_ret
    exact ⟨rfl, rfl⟩
  · have d1 : decide (x < 0) = false := decide_eq_false hx0
    by_cases hy0 : y < 0
    · have d2 : decide (y < 0) = true := decide_eq_true hy0
      clear hno
      go_enter Try.func15, Try.ntmps15
      go_wp2_with fail
      refine Ka.out.mono ?_
      rintro e w1 ⟨rfl, rfl⟩
      go_wp2_with fail
      refine Kb.out.mono ?_
      rintro e w2 ⟨rfl, rfl⟩
      go_wp2_with fail
      go_ret
      exact ⟨rfl, rfl⟩
    · have d2 : decide (y < 0) = false := decide_eq_false hy0
      obtain rfl : x = y := by omega
      have d3 : (x == x) = true := by simp
      clear hno
      go_enter Try.func15, Try.ntmps15
      go_wp2_with fail
      refine Ka.out.mono ?_
      rintro e w1 ⟨rfl, rfl⟩
      go_wp2_with fail
      refine Kb.out.mono ?_
      rintro e w2 ⟨rfl, rfl⟩
      go_wp2_with fail
      go_ret
      exact ⟨rfl, rfl⟩

set_option maxRecDepth 100000 in
set_option maxHeartbeats 1000000 in
theorem rjoin_yes_l (w : World) (g : Nat) (F : List Nat) (a b : Int) (x y : Nat) (h : Box w g 3 (natv F)) (hl : F.length ≤ 100000) (hx : fd F a = x) (hy : fd F b = y) (hxy : x < y) :
    Calls Try.prog 15 #[.slice (some ⟨g, 0, none⟩) F.length F.length, .int .i64 a, .int .i64 b] w fun e w' => e = .returned (.bool true) ∧ RAt w w' g (joinF F x y) := by
  have Ka := Lib.hid (rfind_any w g F a h)
  have Kb := Lib.hid (rfind_any w g F b h)
  rw [hx] at Ka
  rw [hy] at Kb
  clear hx hy
  have H : Hid (RAt w w g (jP F x y 0)) := Lib.hid ⟨by rw [jP_zero]; exact h, Fr.refl _ _⟩
  have d3 : (((x : Nat) : Int) == (y : Int)) = false := by simp; omega
  have d1 : decide (((x : Nat) : Int) < 0) = false := decide_eq_false (by omega)
  have d2 : decide (((y : Nat) : Int) < 0) = false := decide_eq_false (by omega)
  have hi1 : ((x : Nat) : Int) < (y : Int) := by omega
  have hi2 : ((x : Nat) : Int) ≤ (y : Int) := by omega
  have hi3 : ¬ ((y : Nat) : Int) < (x : Int) := by omega
  have hi4 : ¬ ((y : Nat) : Int) ≤ (x : Int) := by omega
  have hmi : Hid (min (x : Int) (y : Int) = (x : Int)) := Lib.hid (by omega)
  have hmin : Hid (min x y = x) := Lib.hid (by omega)
  clear h
  go_enter Try.func15, Try.ntmps15
  go_wp2_with fail
  refine Ka.out.mono ?_
  rintro e w1 ⟨rfl, rfl⟩
  go_wp2_with fail
  refine Kb.out.mono ?_
  rintro e w2 ⟨rfl, rfl⟩
  go_wp2_with fail
  clear Ka Kb
  go_loopw [9] (fun i wr => ∃ k : Nat, k ≤ F.length ∧ i = .int .i64 k ∧ Hid (RAt w wr g (jP F x y k))) (fun i _ => F.length - (intOf i).toNat)
  case atStart => exact ⟨0, by omega, rfl, H⟩
  case round =>
    obtain ⟨k, hk, rfl, hr⟩ := hrel
    rename_i wr _
    by_cases hkl : k < F.length
    · have e1 : decide ((k : Int) < (F.length : Int)) = true := decide_eq_true (by omega)
      have ck : wr.cell? ⟨g, k, none⟩ = some (.int .i64 (F.getD k 0 : Nat)) := by rw [hr.out.box.cell, natv_at _ _ (by rw [jP_len]; exact hkl), jP_get F x y k hkl]
      have fk := hr.out.box.free k
      have hs := Lib.hid (jP_succ F x y k hkl)
      have hq := Lib.hid (jP_same F x y k hkl)
      generalize F.getD k 0 = z at *
      by_cases hzx : z = x
      · have e2 : (((z : Nat) : Int) == (x : Int)) = true := by simp; omega
        have hjv : Hid (jv x y z = x) := Lib.hid (by unfold jv; rw [if_pos (Or.inl hzx)]; exact hmin.out)
        have hn : Hid (RAt w (wr.setCell ⟨g, k, none⟩ (.int .i64 (min (x : Int) (y : Int)))) g (jP F x y (k + 1))) := Lib.hid (by rw [← hs.out, hjv.out, hmi.out]; exact hr.out.put k x)
        subst hzx
        clear hs hq hjv hmin hmi
        go_wp2_with fail
        go_roundw
        case rel => exact ⟨k + 1, by omega, by go_num, hn⟩
        case measure => simp [intOf]; omega
      · have e2 : (((z : Nat) : Int) == (x : Int)) = false := by simp; omega
        by_cases hzy : z = y
        · have e3 : (((z : Nat) : Int) == (y : Int)) = true := by simp; omega
          have hjv : Hid (jv x y z = x) := Lib.hid (by unfold jv; rw [if_pos (Or.inr hzy)]; exact hmin.out)
          have hn : Hid (RAt w (wr.setCell ⟨g, k, none⟩ (.int .i64 (min (x : Int) (y : Int)))) g (jP F x y (k + 1))) := Lib.hid (by rw [← hs.out, hjv.out, hmi.out]; exact hr.out.put k x)
          subst hzy
          clear hs hq hjv hmin hmi
          go_wp2_with fail
          go_roundw
          case rel => exact ⟨k + 1, by omega, by go_num, hn⟩
          case measure => simp [intOf]; omega
        · have e3 : (((z : Nat) : Int) == (y : Int)) = false := by simp; omega
          have hn : Hid (RAt w wr g (jP F x y (k + 1))) := Lib.hid (by rw [← hq.out (by omega)]; exact hr.out)
          clear hs hq hmin hmi
          go_wp2_with fail
          go_roundw
          case rel => exact ⟨k + 1, by omega, by go_num, hn⟩
          case measure => simp [intOf]; omega
    · obtain rfl : k = F.length := by omega
      have e1 : decide ((F.length : Int) < (F.length : Int)) = false := decide_eq_false (by omega)
      go_wp2_with fail
      go_ret
      have := hr.out
      rw [jP_all] at this
      exact ⟨rfl, this⟩

set_option maxRecDepth 100000 in
set_option maxHeartbeats 1000000 in
theorem rjoin_yes_g (w : World) (g : Nat) (F : List Nat) (a b : Int) (x y : Nat) (h : Box w g 3 (natv F)) (hl : F.length ≤ 100000) (hx : fd F a = x) (hy : fd F b = y) (hxy : y < x) :
    Calls Try.prog 15 #[.slice (some ⟨g, 0, none⟩) F.length F.length, .int .i64 a, .int .i64 b] w fun e w' => e = .returned (.bool true) ∧ RAt w w' g (joinF F x y) := by
  have Ka := Lib.hid (rfind_any w g F a h)
  have Kb := Lib.hid (rfind_any w g F b h)
  rw [hx] at Ka
  rw [hy] at Kb
  clear hx hy
  have H : Hid (RAt w w g (jP F x y 0)) := Lib.hid ⟨by rw [jP_zero]; exact h, Fr.refl _ _⟩
  have d3 : (((x : Nat) : Int) == (y : Int)) = false := by simp; omega
  have d1 : decide (((x : Nat) : Int) < 0) = false := decide_eq_false (by omega)
  have d2 : decide (((y : Nat) : Int) < 0) = false := decide_eq_false (by omega)
  have hi1 : ((y : Nat) : Int) < (x : Int) := by omega
  have hi2 : ((y : Nat) : Int) ≤ (x : Int) := by omega
  have hi3 : ¬ ((x : Nat) : Int) < (y : Int) := by omega
  have hi4 : ¬ ((x : Nat) : Int) ≤ (y : Int) := by omega
  have hmi : Hid (min (x : Int) (y : Int) = (y : Int)) := Lib.hid (by omega)
  have hmin : Hid (min x y = y) := Lib.hid (by omega)
  clear h
  go_enter Try.func15, Try.ntmps15
  go_wp2_with fail
  refine Ka.out.mono ?_
  rintro e w1 ⟨rfl, rfl⟩
  go_wp2_with fail
  refine Kb.out.mono ?_
  rintro e w2 ⟨rfl, rfl⟩
  go_wp2_with fail
  clear Ka Kb
  go_loopw [9] (fun i wr => ∃ k : Nat, k ≤ F.length ∧ i = .int .i64 k ∧ Hid (RAt w wr g (jP F x y k))) (fun i _ => F.length - (intOf i).toNat)
  case atStart => exact ⟨0, by omega, rfl, H⟩
  case round =>
    obtain ⟨k, hk, rfl, hr⟩ := hrel
    rename_i wr _
    by_cases hkl : k < F.length
    · have e1 : decide ((k : Int) < (F.length : Int)) = true := decide_eq_true (by omega)
      have ck : wr.cell? ⟨g, k, none⟩ = some (.int .i64 (F.getD k 0 : Nat)) := by rw [hr.out.box.cell, natv_at _ _ (by rw [jP_len]; exact hkl), jP_get F x y k hkl]
      have fk := hr.out.box.free k
      have hs := Lib.hid (jP_succ F x y k hkl)
      have hq := Lib.hid (jP_same F x y k hkl)
      generalize F.getD k 0 = z at *
      by_cases hzx : z = x
      · have e2 : (((z : Nat) : Int) == (x : Int)) = true := by simp; omega
        have hjv : Hid (jv x y z = y) := Lib.hid (by unfold jv; rw [if_pos (Or.inl hzx)]; exact hmin.out)
        have hn : Hid (RAt w (wr.setCell ⟨g, k, none⟩ (.int .i64 (min (x : Int) (y : Int)))) g (jP F x y (k + 1))) := Lib.hid (by rw [← hs.out, hjv.out, hmi.out]; exact hr.out.put k y)
        subst hzx
        clear hs hq hjv hmin hmi
        go_wp2_with fail
        go_roundw
        case rel => exact ⟨k + 1, by omega, by go_num, hn⟩
        case measure => simp [intOf]; omega
      · have e2 : (((z : Nat) : Int) == (x : Int)) = false := by simp; omega
        by_cases hzy : z = y
        · have e3 : (((z : Nat) : Int) == (y : Int)) = true := by simp; omega
          have hjv : Hid (jv x y z = y) := Lib.hid (by unfold jv; rw [if_pos (Or.inr hzy)]; exact hmin.out)
          have hn : Hid (RAt w (wr.setCell ⟨g, k, none⟩ (.int .i64 (min (x : Int) (y : Int)))) g (jP F x y (k + 1))) := Lib.hid (by rw [← hs.out, hjv.out, hmi.out]; exact hr.out.put k y)
          subst hzy
          clear hs hq hjv hmin hmi
          go_wp2_with fail
          go_roundw
          case rel => exact ⟨k + 1, by omega, by go_num, hn⟩
          case measure => simp [intOf]; omega
        · have e3 : (((z : Nat) : Int) == (y : Int)) = false := by simp; omega
          have hn : Hid (RAt w wr g (jP F x y (k + 1))) := Lib.hid (by rw [← hq.out (by omega)]; exact hr.out)
          clear hs hq hmin hmi
          go_wp2_with fail
          go_roundw
          case rel => exact ⟨k + 1, by omega, by go_num, hn⟩
          case measure => simp [intOf]; omega
    · obtain rfl : k = F.length := by omega
      have e1 : decide ((F.length : Int) < (F.length : Int)) = false := decide_eq_false (by omega)
      go_wp2_with fail
      go_ret
      have := hr.out
      rw [jP_all] at this
      exact ⟨rfl, this⟩

theorem rjoin_any (w : World) (g : Nat) (F : List Nat) (a b : Int) (h : Box w g 3 (natv F)) (hl : F.length ≤ 100000) :
    Calls Try.prog 15 #[.slice (some ⟨g, 0, none⟩) F.length F.length, .int .i64 a, .int .i64 b] w fun e w' => e = .returned (.bool (jn F a b)) ∧ RAt w w' g (jF F a b) := by
  rcases hj : jn F a b with _ | _
  · have e1 : jF F a b = F := by unfold jF; rw [hj]; rfl
    rw [e1]
    unfold jn at hj
    refine (rjoin_no w g F a b h ?_).mono ?_
    · simp only [Bool.and_eq_false_iff, decide_eq_false_iff_not] at hj
      omega
    · rintro e w' ⟨rfl, rfl⟩
      exact ⟨rfl, h, Fr.refl _ _⟩
  · have e1 : jF F a b = joinF F (fd F a).toNat (fd F b).toNat := by unfold jF; rw [if_pos hj]
    rw [e1]
    unfold jn at hj
    simp only [Bool.and_eq_true, decide_eq_true_eq] at hj
    obtain ⟨x, ex⟩ := Int.eq_ofNat_of_zero_le hj.1
    obtain ⟨y, ey⟩ := Int.eq_ofNat_of_zero_le hj.2.1
    have hne : x ≠ y := fun g => hj.2.2 (by rw [ex, ey, g])
    rw [ex, ey]
    simp only [Int.toNat_natCast]
    rcases Nat.lt_or_gt_of_ne hne with hlt | hgt
    · exact rjoin_yes_l w g F a b x y h hl ex ey hlt
    · exact rjoin_yes_g w g F a b x y h hl ex ey hgt

/-- the members among the first k -/
def memsTo (F : List Nat) (n : Int) (k : Nat) : List Nat := (List.range k).filter fun i => decide (((F.getD i 0 : Nat) : Int) = fd F n)
theorem memsTo_succ (F : List Nat) (n : Int) (k : Nat) : memsTo F n (k + 1) = if ((F.getD k 0 : Nat) : Int) = fd F n then memsTo F n k ++ [k] else memsTo F n k := by
  unfold memsTo
  rw [List.range_succ, List.filter_append]
  by_cases h : ((F.getD k 0 : Nat) : Int) = fd F n
  · rw [if_pos h, List.filter_cons_of_pos (by simpa using h)]; rfl
  · rw [if_neg h, List.filter_cons_of_neg (by simpa using h)]; simp
theorem memsTo_le (F : List Nat) (n : Int) (k : Nat) : (memsTo F n k).length ≤ k := by
  unfold memsTo
  exact Nat.le_trans (List.length_filter_le _ _) (by simp)

structure SAt (w wr : World) (A : Option Addr) (cap : Nat) (l : List Nat) : Prop where
  seg : Seg wr 3 A cap (natl l)
  on : Below w.heap.size w wr
  own : ∀ g ∈ blk A, w.heap.size ≤ g

theorem SAt.start (w : World) : SAt w w none 0 [] := ⟨Seg.nil _ _, Below.refl _ _, by simp [blk]⟩
theorem SAt.drew {w wr : World} {A : Option Addr} {cap : Nat} {l : List Nat} (h : SAt w wr A cap l) : SAt w wr.drew A cap l := ⟨h.seg.drew, h.on.drew, h.own⟩
theorem SAt.below {w wr w2 : World} {A : Option Addr} {cap : Nat} {l : List Nat} (h : SAt w wr A cap l) (hb : Below wr.heap.size wr w2) : SAt w w2 A cap l := ⟨h.seg.kept (Fr.of_below hb []) (by simp), h.on.trans ⟨hb.os, hb.tape, hb.output, hb.size, fun k hk => hb.block k (Nat.lt_of_lt_of_le hk h.on.size)⟩, h.own⟩
theorem SAt.push {w wr w3 : World} {A A3 : Option Addr} {cap cap3 : Nat} {l : List Nat} {y : Nat} {o : Obj} (h : SAt w wr A cap l) (hs : Seg w3 3 A3 cap3 (natl l ++ [Value.int .i64 (y : Int)])) (f3 : Fr (blk A) (wr.alloc o) w3) (hf : blk A3 = blk A ∨ blk A3 = [(wr.alloc o).heap.size]) : SAt w w3 A3 cap3 (l ++ [y]) := by
  refine ⟨by rw [← natl_snoc]; exact hs, ?_, fun g hg => ?_⟩
  · refine (h.on.alloc h.on.size o).trans (f3.below h.own ?_)
    have := h.on.size
    simp; omega
  · rcases hf with e | e
    · exact h.own g (e ▸ hg)
    · rw [e, List.mem_singleton] at hg
      have := h.on.size
      subst hg; simp; omega

set_option maxRecDepth 100000 in
set_option maxHeartbeats 1000000 in
theorem rmembers_any (w : World) (g : Nat) (F : List Nat) (n : Int) (h : Box w g 3 (natv F)) (hl : F.length ≤ 100000) :
    Calls Try.prog 22 #[.slice (some ⟨g, 0, none⟩) F.length F.length, .int .i64 n] w (MPost w F n) := by
  have H := Lib.hid (fun (wr : World) (hb : Below w.heap.size w wr) => h.kept (Fr.of_below hb []) (by simp))
  have hM : Hid (SAt w w none 0 (memsTo F n 0)) := Lib.hid (SAt.start w)
  obtain ⟨i0, hi0, hz0, hz1, hz2⟩ := info_parts info_int
  have Hi := Lib.hid hi0
  have Hz0 := Lib.hid hz0
  have Hz1 := Lib.hid hz1
  have Hz2 := Lib.hid hz2
  clear h hi0 hz0 hz1 hz2
  go_enter Try.func22, Try.ntmps22
  go_wp2_with fail
  go_loopw [5, 6] (fun l i wr => ∃ (k : Nat) (B : Option Addr) (cap : Nat), k ≤ F.length ∧ i = .int .i64 k ∧ l = .slice B (memsTo F n k).length cap ∧ Hid (SAt w wr B cap (memsTo F n k))) (fun _ i _ => F.length - (intOf i).toNat)
  case atStart => exact ⟨0, none, 0, by omega, rfl, rfl, hM⟩
  case round =>
    obtain ⟨k, B, cap, hk, rfl, rfl, hm⟩ := hrel
    rename_i wr _
    by_cases hkl : k < F.length
    · have e1 : decide ((k : Int) < (F.length : Int)) = true := decide_eq_true (by omega)
      have hbx := H.out wr hm.out.on
      have ck : wr.cell? ⟨g, k, none⟩ = some (.int .i64 (F.getD k 0 : Nat)) := by rw [hbx.cell, natv_at _ _ hkl]
      have HF : Hid (∀ (d : Nat) (os : Array Obj), Calls Try.prog 19 #[.slice (some ⟨g, 0, none⟩) F.length F.length, .int .i64 n] (Go.Sort.grow (redrawn wr d) os) fun e w'' => e = .returned (.int .i64 (fd F n)) ∧ ∃ p : Regrown, w'' = Go.Sort.grow (redrawn wr p.d) p.os) := Lib.hid (fun d os => Calls.regrown_of ((rfind_any _ g F n (hbx.kept (Fr.of_below (below_regrown wr d os) []) (by simp))).mono (by rintro e w' ⟨rfl, rfl⟩; exact ⟨rfl, Below.refl _ _⟩)))
      have hs := Lib.hid (memsTo_succ F n k)
      have hml := memsTo_le F n k
      generalize F.getD k 0 = z at *
      generalize fd F n = q at *
      clear hbx
      have ck := cell_regrown ck
      by_cases hzq : ((z : Nat) : Int) = q
      · have e2 : (((z : Nat) : Int) == q) = true := by simp; omega
        have hs2 : Hid (memsTo F n (k + 1) = memsTo F n k ++ [k]) := Lib.hid (by rw [hs.out, if_pos hzq])
        have hl2 : Hid ((memsTo F n k ++ [k]).length = (memsTo F n k).length + 1) := Lib.hid (by simp)
        clear hs hzq
        go_wp2_with fail
        refine wp_region_quiet_below (by kernel_rfl) (by kernel_rfl) ?_
        repeat (quiet_step (exact HF.out _ _))
        refine wpQuiet_nil ?_
        intro _ hw'
        obtain ⟨⟨dq, osq⟩, hw''⟩ := hw'
        subst hw''
        have hm2 : Hid (SAt w (Go.Sort.grow (redrawn wr dq) osq) B cap (memsTo F n k)) := Lib.hid (hm.out.below (below_regrown wr dq osq))
        generalize Go.Sort.grow (redrawn wr dq) osq = w2 at *
        clear ck HF hm
        generalize memsTo F n k = l at *
        go_wp2_with (at_builtin
                     refine wpList_push (n := l.length) rfl (.tmp 21) (.tmp 23) _ rfl (hm2.out.seg.alloc _) (by simp [natl]) Try.underlying25 Hi.out Hz0.out Hz1.out Hz2.out rfl rfl rfl (new_cell _ _ _) rfl (by omega) (by omega) ?_
                     intro A3 cap3 w3 hs3 f3 hf3
                     have H3 : Hid (SAt w w3 A3 cap3 (l ++ [k])) := Lib.hid (hm2.out.push hs3 f3 hf3)
                     clear hs3 f3 hf3)
        go_roundw
        case rel => exact ⟨k + 1, A3, cap3, by omega, by go_num, by rw [hs2.out, hl2.out], by rw [hs2.out]; exact H3⟩
        case measure => simp [intOf]; omega
      · have e2 : (((z : Nat) : Int) == q) = false := by simp; omega
        have hs2 : Hid (memsTo F n (k + 1) = memsTo F n k) := Lib.hid (by rw [hs.out, if_neg hzq])
        clear hs hzq
        go_wp2_with fail
        refine wp_region_quiet_below (by kernel_rfl) (by kernel_rfl) ?_
        repeat (quiet_step (exact HF.out _ _))
        refine wpQuiet_nil ?_
        intro _ hw'
        obtain ⟨⟨dq, osq⟩, hw''⟩ := hw'
        subst hw''
        have hm2 : Hid (SAt w (Go.Sort.grow (redrawn wr dq) osq) B cap (memsTo F n k)) := Lib.hid (hm.out.below (below_regrown wr dq osq))
        generalize Go.Sort.grow (redrawn wr dq) osq = w2 at *
        clear ck HF hm
        generalize memsTo F n k = l at *
        go_wp2_with fail
        go_roundw
        case rel => exact ⟨k + 1, B, cap, by omega, by go_num, by rw [hs2.out], by rw [hs2.out]; exact hm2⟩
        case measure => simp [intOf]; omega
    · obtain rfl : k = F.length := by omega
      have e1 : decide ((F.length : Int) < (F.length : Int)) = false := decide_eq_false (by omega)
      go_wp2_with fail
      go_ret
      exact ⟨B, cap, rfl, hm.out.on, hm.out.seg.rd⟩
end Go.Proofs.Ytenohenkedofkaa.fo
