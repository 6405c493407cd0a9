import Derived.Test.YtdmmkjijgoiecaaGreatDoorUNmQ
import Derived.Test.YtdmmkjijgoiecaaGreatDoorUNm10
import Derived.Outline
/-
  weftref14.Read: of the few nodes that a text could say the one that is it in writing.
-/
set_option linter.all false
namespace Go.Proofs.YtdmmkjijgoiecaaGreatDoor.nm
open Go.RowKit Go.Sort

def Box (w : World) (g : Nat) (t : TypeId) (cs : Array Value) : Prop := w.heap[g]? = some (.cells cs t (0, 0))
theorem Box.lt {w : World} {g : Nat} {t : TypeId} {cs : Array Value} (h : Box w g t cs) : g < w.heap.size := by
  rcases Nat.lt_or_ge g w.heap.size with h1 | h1
  · exact h1
  · unfold Box at h; rw [Array.getElem?_eq_none h1] at h; cases h
theorem Box.cell {w : World} {g : Nat} {t : TypeId} {cs : Array Value} (h : Box w g t cs) (i : Nat) : w.cell? ⟨g, i, none⟩ = cs[i]? := cell_of_row w g i cs t (0, 0) h
theorem Box.free {w : World} {g : Nat} {t : TypeId} {cs : Array Value} (h : Box w g t cs) (i : Nat) : w.frozen? ⟨g, i, none⟩ = false := by
  unfold Box at h
  simp [World.frozen?, h]
theorem Box.new (w : World) (t : TypeId) (cs : Array Value) : Box (w.alloc (.cells cs t)) w.heap.size t cs := heap_alloc_new w _
theorem Box.new' (w : World) (t : TypeId) (cs : Array Value) (n : Nat) (h : w.heap.size = n) : Box (w.alloc (.cells cs t)) n t cs := h ▸ Box.new w t cs
theorem Box.on {w w' : World} {g : Nat} {t : TypeId} {cs : Array Value} (h : Box w g t cs) (hb : Below w.heap.size w w') : Box w' g t cs := (hb.block g h.lt).trans h

/-- the seven nodes, as they lie -/
def seven (f t : ByteArray) (c n l : Int) : Array Value :=
  #[.int .i64 1, .string f, .int .i64 c, .string t, .int .i64 0, .int .i64 (-1),
    .int .i64 2, .string f, .int .i64 c, .string ⟨#[]⟩, .int .i64 n, .int .i64 (-1),
    .int .i64 3, .string f, .int .i64 c, .string ⟨#[]⟩, .int .i64 n, .int .i64 (-1),
    .int .i64 4, .string f, .int .i64 c, .string ⟨#[]⟩, .int .i64 0, .int .i64 (-1),
    .int .i64 5, .string ⟨#[]⟩, .int .i64 0, .string f, .int .i64 0, .int .i64 l,
    .int .i64 6, .string f, .int .i64 c, .string t, .int .i64 0, .int .i64 l,
    .int .i64 7, .string f, .int .i64 c, .string ⟨#[]⟩, .int .i64 n, .int .i64 l]

/-- the memory of Read: its result and the seven nodes -/
def RS (w wr : World) (f t : ByteArray) (c n l : Int) : Prop :=
  (∃ t1, Box wr w.heap.size t1 #[.int .i64 0, .string ⟨#[]⟩, .int .i64 0, .string ⟨#[]⟩, .int .i64 0, .int .i64 0]) ∧ (∃ t2, Box wr (w.heap.size + 1) t2 (seven f t c n l)) ∧ Below w.heap.size w wr

theorem RS.on {w wr w' : World} {f t : ByteArray} {c n l : Int} (h : RS w wr f t c n l) (hb : Below wr.heap.size wr w') : RS w w' f t c n l := by
  obtain ⟨⟨t1, h1⟩, ⟨t2, h2⟩, h3⟩ := h
  exact ⟨⟨t1, h1.on hb⟩, ⟨t2, h2.on hb⟩, below_on h3 hb⟩

/-- the kth node as it lies -/
theorem RS.node {w wr : World} {f t : ByteArray} {c n l : Int} (h : RS w wr f t c n l) (j : Nat) : wr.cell? ⟨w.heap.size + 1, j, none⟩ = (seven f t c n l)[j]? := by
  obtain ⟨_, ⟨t2, h2⟩, _⟩ := h
  exact h2.cell j
theorem RS.zero {w wr : World} {f t : ByteArray} {c n l : Int} (h : RS w wr f t c n l) (j : Nat) : wr.cell? ⟨w.heap.size, j, none⟩ = (#[.int .i64 0, .string ⟨#[]⟩, .int .i64 0, .string ⟨#[]⟩, .int .i64 0, .int .i64 0] : Array Value)[j]? := by
  obtain ⟨⟨t1, h1⟩, _, _⟩ := h
  exact h1.cell j
theorem RS.lt {w wr : World} {f t : ByteArray} {c n l : Int} (h : RS w wr f t c n l) : w.heap.size + 1 < wr.heap.size := by
  obtain ⟨_, ⟨t2, h2⟩, _⟩ := h
  exact h2.lt
theorem RS.free {w wr : World} {f t : ByteArray} {c n l : Int} (h : RS w wr f t c n l) (j : Nat) : wr.frozen? ⟨w.heap.size, j, none⟩ = false := by
  obtain ⟨⟨t1, h1⟩, _, _⟩ := h
  exact h1.free j

/-- how the text of a node stands to a text, and whether the node is the one -/
theorem four_ways (s : ByteArray) (d : Nd) :
    (isB s d = false ∧ terr d = 11) ∨ (isB s d = false ∧ terr d = 0 ∧ ((txt d).toList == s.toList) = false) ∨
    (isB s d = false ∧ terr d = 0 ∧ ((txt d).toList == s.toList) = true ∧ rMark s = ⟨#[]⟩ ∧ d.kind ≠ 5) ∨
    (isB s d = true ∧ terr d = 0 ∧ ((txt d).toList == s.toList) = true ∧ (d.kind = 5 ∨ (rMark s).size ≠ 0)) := by
  unfold isB
  rcases three_ways d s with ⟨h1, h2⟩ | ⟨h1, h2, h3⟩ | ⟨h1, h2, h3⟩
  · exact Or.inl ⟨by rw [h1]; rfl, h2⟩
  · exact Or.inr (Or.inl ⟨by rw [h3]; simp, h2, h3⟩)
  · by_cases hk : d.kind = 5
    · exact Or.inr (Or.inr (Or.inr ⟨by rw [h1, h3, hk]; simp, h2, h3, Or.inl hk⟩))
    · by_cases hz : (rMark s).size = 0
      · have e : rMark s = ⟨#[]⟩ := by
          have hl := dg.size_list (rMark s)
          have : (rMark s).data.toList = [] := List.eq_nil_of_length_eq_zero (by omega)
          exact same_bytes this
        exact Or.inr (Or.inr (Or.inl ⟨by rw [h1, h3, e, ByteArray.toList_eq]; simp [hk], h2, h3, e, hk⟩))
      · refine Or.inr (Or.inr (Or.inr ⟨?_, h2, h3, Or.inr hz⟩))
        rw [h1, h3, dg.not_empty (rMark s) hz]
        rfl

theorem hit_post {s : ByteArray} {d : Nd} {w w' : World} (h : isB s d = true) (hb : Below w.heap.size w w') : ReadPost s w (.returned (.tuple #[d.val, .int .i64 0])) w' := by
  obtain ⟨h1, h2⟩ := isB_cand s d h
  refine ⟨?_, hb⟩
  unfold readN readE
  rw [h1, h2]; rfl
theorem miss_post {s : ByteArray} {w w' : World} (h : ∀ k, k < 7 → isB s (candR s k) = false) (hb : Below w.heap.size w w') : ReadPost s w (.returned (.tuple #[zeroN.val, .int .i64 11])) w' := by
  have h1 := none_of s h
  refine ⟨?_, hb⟩
  unfold readN readE
  rw [h1]; rfl
theorem before_next {s : ByteArray} {k : Nat} (h : ∀ j, j < k → isB s (candR s j) = false) (h2 : isB s (candR s k) = false) : ∀ j, j < k + 1 → isB s (candR s j) = false := fun j hj => by
  rcases Nat.lt_or_ge j k with g | g
  · exact h j g
  · obtain rfl : j = k := by omega
    exact h2

set_option maxRecDepth 100000 in
set_option maxHeartbeats 4000000 in
theorem rread_node (s : ByteArray) (w : World) (hs : s.size ≤ maxLen) : Calls Tryz.prog 117 #[.string s] w (ReadPost s w) := by
  have K1 := Lib.hid (fun w => parts_any s w hs)
  unfold PartsPost at K1
  have lt : (rTail s).size ≤ maxLen := by
    unfold rTail pM
    split
    · exact Nat.zero_le _
    · refine Nat.le_trans (fn0_le _) (Nat.le_trans (tailS_le _) (Nat.le_trans ?_ hs))
      unfold pC
      split
      · exact rest1_le s
      · exact Nat.le_trans (rest1_le _) (Nat.le_trans (tailS_le _) (rest1_le s))
  have lf : (fn0 s).size ≤ maxLen := Nat.le_trans (fn0_le s) hs
  have K2 := Lib.hid (fun w => rread_of (rTail s) w lt)
  have e1 : (dg.rd (rTail s)).1 = rNum s := rfl
  rw [e1] at K2
  clear e1
  generalize (dg.rd (rTail s)).2 = ne at *
  have Hw := Lib.hid (fun d => four_ways s d)
  have Hhit := Lib.hid (fun d w' (h : isB s d = true) (hb : Below w.heap.size w w') => hit_post h hb)
  have Hmiss := Lib.hid (fun w' (h : ∀ k, k < 7 → isB s (candR s k) = false) (hb : Below w.heap.size w w') => miss_post h hb)
  have Hnext := Lib.hid (fun k (h : ∀ j, j < k → isB s (candR s j) = false) (h2 : isB s (candR s k) = false) => before_next h h2)
  have C0 : Hid (candR s 0 = ⟨1, fn0 s, rCopy s, rTail s, 0, -1⟩) := Lib.hid (by unfold candR; rfl)
  have C1 : Hid (candR s 1 = ⟨2, fn0 s, rCopy s, ⟨#[]⟩, rNum s, -1⟩) := Lib.hid (by unfold candR; rfl)
  have C2 : Hid (candR s 2 = ⟨3, fn0 s, rCopy s, ⟨#[]⟩, rNum s, -1⟩) := Lib.hid (by unfold candR; rfl)
  have C3 : Hid (candR s 3 = ⟨4, fn0 s, rCopy s, ⟨#[]⟩, 0, -1⟩) := Lib.hid (by unfold candR; rfl)
  have C4 : Hid (candR s 4 = ⟨5, ⟨#[]⟩, 0, fn0 s, 0, rCell s⟩) := Lib.hid (by unfold candR; rfl)
  have C5 : Hid (candR s 5 = ⟨6, fn0 s, rCopy s, rTail s, 0, rCell s⟩) := Lib.hid (by unfold candR; rfl)
  have C6 : Hid (candR s 6 = ⟨7, fn0 s, rCopy s, ⟨#[]⟩, rNum s, rCell s⟩) := Lib.hid (by unfold candR; rfl)
  have Htx := Lib.hid (fun (d : Nd) w (h1 : d.name.size ≤ maxLen) (h2 : d.fn.size ≤ maxLen) => rtext_any d w h1 h2)
  unfold TextPost at Htx
  generalize hcr : candR s = cr at *
  generalize his : isB s = is_ at *
  generalize fn0 s = fn at *
  generalize rCopy s = cp at *
  generalize rTail s = tl at *
  generalize rNum s = nm at *
  generalize rCell s = ce at *
  generalize rMark s = mk at *
  clear hcr his
  unfold zeroN at Hmiss
  unfold Nd.val Nd.cells at Hmiss
  go_enter Tryz.func117, Tryz.ntmps117
  go_wp2_with fail
  refine (K1.out _).mono ?_
  rintro e w' ⟨rfl, q1, rfl⟩
  go_wp2_with fail
  refine (K2.out _).mono ?_
  rintro e w' ⟨rfl, rfl⟩
  clear K1 K2
  go_wp2_with fail
  go_loopw [12] (fun i wr => ∃ k : Nat, k ≤ 7 ∧ i = .int .i64 k ∧ Hid (∀ j, j < k → is_ (cr j) = false) ∧ Hid (RS w wr fn tl cp nm ce)) (fun i _ => 7 - (intOf i).toNat)
  case atStart =>
    refine ⟨0, by omega, rfl, Lib.hid (fun j hj => absurd hj (Nat.not_lt_zero j)), Lib.hid ⟨?_, ?_, ?_⟩⟩
    · exact ⟨_, Box.on (Box.new w _ _) (Below.alloc (dt.below_drewN (Below.refl _ _) _) (by simp) _)⟩
    · exact ⟨_, Box.new' _ _ _ _ (by simp)⟩
    · exact Below.alloc (dt.below_drewN (Below.alloc (Below.refl _ _) (by simp) _) _) (by simp) _
  case round =>
    obtain ⟨k, hk, rfl, hj, hr⟩ := hrel
    rename_i wr _
    by_cases hkl : k < 7
    · rcases k with _ | _ | _ | _ | _ | _ | _ | k
      · have HC := C0.out
        clear C0 C1 C2 C3 C4 C5 C6
        have c0 : wr.cell? ⟨w.heap.size + 1, 0, none⟩ = some (.int .i64 (1)) := hr.out.node 0
        have c1 : wr.cell? ⟨w.heap.size + 1, 1, none⟩ = some (.string fn) := hr.out.node 1
        have c2 : wr.cell? ⟨w.heap.size + 1, 2, none⟩ = some (.int .i64 (cp)) := hr.out.node 2
        have c3 : wr.cell? ⟨w.heap.size + 1, 3, none⟩ = some (.string tl) := hr.out.node 3
        have c4 : wr.cell? ⟨w.heap.size + 1, 4, none⟩ = some (.int .i64 (0)) := hr.out.node 4
        have c5 : wr.cell? ⟨w.heap.size + 1, 5, none⟩ = some (.int .i64 (-1)) := hr.out.node 5
        have Tk := Lib.hid (fun w => Htx.out ⟨1, fn, cp, tl, 0, -1⟩ w (by show ByteArray.size _ ≤ _; first | assumption | exact Nat.zero_le _) (by show ByteArray.size _ ≤ _; first | assumption | exact Nat.zero_le _))
        have Wk := Hw.out ⟨1, fn, cp, tl, 0, -1⟩
        have Hk := Lib.hid (fun w' => Hhit.out ⟨1, fn, cp, tl, 0, -1⟩ w')
        unfold Nd.val Nd.cells at Tk Hk
        have Nk := Lib.hid (Hnext.out 0)
        rw [HC] at Nk
        go_wp2_with fail
        refine (Tk.out wr).mono ?_
        rintro e w5 ⟨rfl, b5⟩
        have hr5 := Lib.hid (hr.out.on b5)
        clear b5 hr c0 c1 c2 c3 c4 c5 Tk
        have g0 : w5.cell? ⟨w.heap.size + 1, 0, none⟩ = some (.int .i64 (1)) := hr5.out.node 0
        have g1 : w5.cell? ⟨w.heap.size + 1, 1, none⟩ = some (.string fn) := hr5.out.node 1
        have g2 : w5.cell? ⟨w.heap.size + 1, 2, none⟩ = some (.int .i64 (cp)) := hr5.out.node 2
        have g3 : w5.cell? ⟨w.heap.size + 1, 3, none⟩ = some (.string tl) := hr5.out.node 3
        have g4 : w5.cell? ⟨w.heap.size + 1, 4, none⟩ = some (.int .i64 (0)) := hr5.out.node 4
        have g5 : w5.cell? ⟨w.heap.size + 1, 5, none⟩ = some (.int .i64 (-1)) := hr5.out.node 5
        generalize terr ⟨1, fn, cp, tl, 0, -1⟩ = te at *
        generalize txt ⟨1, fn, cp, tl, 0, -1⟩ = tt at *
        rcases Wk with ⟨hi, rfl⟩ | ⟨hi, rfl, htt⟩ | ⟨hi, rfl, htt, hmk, hk5⟩ | ⟨hi, rfl, htt, hk5⟩
        · go_wp2_with fail
          go_roundw
          case rel => exact ⟨1, by omega, rfl, Lib.hid (Nk.out hj.out hi), hr5⟩
          case measure => simp [intOf]
        · go_wp2_with fail
          go_roundw
          case rel => exact ⟨1, by omega, rfl, Lib.hid (Nk.out hj.out hi), hr5⟩
          case measure => simp [intOf]
        · subst hmk
          have hem : ((⟨#[]⟩ : ByteArray).toList.isEmpty) = true := by rw [ByteArray.toList_eq]; rfl
          go_wp2_with fail
          go_roundw
          case rel => exact ⟨1, by omega, rfl, Lib.hid (Nk.out hj.out hi), hr5⟩
          case measure => simp [intOf]
        · have hkk := Lib.hid (fun w' => Hk.out w' hi)
          have hb5 := hr5.out.2.2
          have z0 : w5.cell? ⟨w.heap.size, 0, none⟩ = some (.int .i64 0) := hr5.out.zero 0
          have z1 : w5.cell? ⟨w.heap.size, 1, none⟩ = some (.string ⟨#[]⟩) := hr5.out.zero 1
          have z2 : w5.cell? ⟨w.heap.size, 2, none⟩ = some (.int .i64 0) := hr5.out.zero 2
          have z3 : w5.cell? ⟨w.heap.size, 3, none⟩ = some (.string ⟨#[]⟩) := hr5.out.zero 3
          have z4 : w5.cell? ⟨w.heap.size, 4, none⟩ = some (.int .i64 0) := hr5.out.zero 4
          have z5 : w5.cell? ⟨w.heap.size, 5, none⟩ = some (.int .i64 0) := hr5.out.zero 5
          have f0 := hr5.out.free 0
          have f1 := hr5.out.free 1
          have f2 := hr5.out.free 2
          have f3 := hr5.out.free 3
          have f4 := hr5.out.free 4
          have f5 := hr5.out.free 5
          have hlt5 : w.heap.size + 1 < w5.heap.size := hr5.out.lt
          have hem := dg.not_empty mk (hk5.resolve_left (by show ¬ ((1 : Int) = 5); decide))
          go_wp2_with fail
          refine bodyPost_ret ?_ rfl (hkk.out _ ?_)
          · simp only [results, Tryz.results117]
            clear hkk
            go_simp
          · repeat (first | (with_reducible exact hb5) | (with_reducible refine Below.setCell ?_ (by simp) _))
      · have HC := C1.out
        clear C0 C1 C2 C3 C4 C5 C6
        have c0 : wr.cell? ⟨w.heap.size + 1, 6, none⟩ = some (.int .i64 (2)) := hr.out.node 6
        have c1 : wr.cell? ⟨w.heap.size + 1, 7, none⟩ = some (.string fn) := hr.out.node 7
        have c2 : wr.cell? ⟨w.heap.size + 1, 8, none⟩ = some (.int .i64 (cp)) := hr.out.node 8
        have c3 : wr.cell? ⟨w.heap.size + 1, 9, none⟩ = some (.string ⟨#[]⟩) := hr.out.node 9
        have c4 : wr.cell? ⟨w.heap.size + 1, 10, none⟩ = some (.int .i64 (nm)) := hr.out.node 10
        have c5 : wr.cell? ⟨w.heap.size + 1, 11, none⟩ = some (.int .i64 (-1)) := hr.out.node 11
        have Tk := Lib.hid (fun w => Htx.out ⟨2, fn, cp, ⟨#[]⟩, nm, -1⟩ w (by show ByteArray.size _ ≤ _; first | assumption | exact Nat.zero_le _) (by show ByteArray.size _ ≤ _; first | assumption | exact Nat.zero_le _))
        have Wk := Hw.out ⟨2, fn, cp, ⟨#[]⟩, nm, -1⟩
        have Hk := Lib.hid (fun w' => Hhit.out ⟨2, fn, cp, ⟨#[]⟩, nm, -1⟩ w')
        unfold Nd.val Nd.cells at Tk Hk
        have Nk := Lib.hid (Hnext.out 1)
        rw [HC] at Nk
        go_wp2_with fail
        refine (Tk.out wr).mono ?_
        rintro e w5 ⟨rfl, b5⟩
        have hr5 := Lib.hid (hr.out.on b5)
        clear b5 hr c0 c1 c2 c3 c4 c5 Tk
        have g0 : w5.cell? ⟨w.heap.size + 1, 6, none⟩ = some (.int .i64 (2)) := hr5.out.node 6
        have g1 : w5.cell? ⟨w.heap.size + 1, 7, none⟩ = some (.string fn) := hr5.out.node 7
        have g2 : w5.cell? ⟨w.heap.size + 1, 8, none⟩ = some (.int .i64 (cp)) := hr5.out.node 8
        have g3 : w5.cell? ⟨w.heap.size + 1, 9, none⟩ = some (.string ⟨#[]⟩) := hr5.out.node 9
        have g4 : w5.cell? ⟨w.heap.size + 1, 10, none⟩ = some (.int .i64 (nm)) := hr5.out.node 10
        have g5 : w5.cell? ⟨w.heap.size + 1, 11, none⟩ = some (.int .i64 (-1)) := hr5.out.node 11
        generalize terr ⟨2, fn, cp, ⟨#[]⟩, nm, -1⟩ = te at *
        generalize txt ⟨2, fn, cp, ⟨#[]⟩, nm, -1⟩ = tt at *
        rcases Wk with ⟨hi, rfl⟩ | ⟨hi, rfl, htt⟩ | ⟨hi, rfl, htt, hmk, hk5⟩ | ⟨hi, rfl, htt, hk5⟩
        · go_wp2_with fail
          go_roundw
          case rel => exact ⟨2, by omega, rfl, Lib.hid (Nk.out hj.out hi), hr5⟩
          case measure => simp [intOf]
        · go_wp2_with fail
          go_roundw
          case rel => exact ⟨2, by omega, rfl, Lib.hid (Nk.out hj.out hi), hr5⟩
          case measure => simp [intOf]
        · subst hmk
          have hem : ((⟨#[]⟩ : ByteArray).toList.isEmpty) = true := by rw [ByteArray.toList_eq]; rfl
          go_wp2_with fail
          go_roundw
          case rel => exact ⟨2, by omega, rfl, Lib.hid (Nk.out hj.out hi), hr5⟩
          case measure => simp [intOf]
        · have hkk := Lib.hid (fun w' => Hk.out w' hi)
          have hb5 := hr5.out.2.2
          have z0 : w5.cell? ⟨w.heap.size, 0, none⟩ = some (.int .i64 0) := hr5.out.zero 0
          have z1 : w5.cell? ⟨w.heap.size, 1, none⟩ = some (.string ⟨#[]⟩) := hr5.out.zero 1
          have z2 : w5.cell? ⟨w.heap.size, 2, none⟩ = some (.int .i64 0) := hr5.out.zero 2
          have z3 : w5.cell? ⟨w.heap.size, 3, none⟩ = some (.string ⟨#[]⟩) := hr5.out.zero 3
          have z4 : w5.cell? ⟨w.heap.size, 4, none⟩ = some (.int .i64 0) := hr5.out.zero 4
          have z5 : w5.cell? ⟨w.heap.size, 5, none⟩ = some (.int .i64 0) := hr5.out.zero 5
          have f0 := hr5.out.free 0
          have f1 := hr5.out.free 1
          have f2 := hr5.out.free 2
          have f3 := hr5.out.free 3
          have f4 := hr5.out.free 4
          have f5 := hr5.out.free 5
          have hlt5 : w.heap.size + 1 < w5.heap.size := hr5.out.lt
          have hem := dg.not_empty mk (hk5.resolve_left (by show ¬ ((2 : Int) = 5); decide))
          go_wp2_with fail
          refine bodyPost_ret ?_ rfl (hkk.out _ ?_)
          · simp only [results, Tryz.results117]
            clear hkk
            go_simp
          · repeat (first | (with_reducible exact hb5) | (with_reducible refine Below.setCell ?_ (by simp) _))
      · have HC := C2.out
        clear C0 C1 C2 C3 C4 C5 C6
        have c0 : wr.cell? ⟨w.heap.size + 1, 12, none⟩ = some (.int .i64 (3)) := hr.out.node 12
        have c1 : wr.cell? ⟨w.heap.size + 1, 13, none⟩ = some (.string fn) := hr.out.node 13
        have c2 : wr.cell? ⟨w.heap.size + 1, 14, none⟩ = some (.int .i64 (cp)) := hr.out.node 14
        have c3 : wr.cell? ⟨w.heap.size + 1, 15, none⟩ = some (.string ⟨#[]⟩) := hr.out.node 15
        have c4 : wr.cell? ⟨w.heap.size + 1, 16, none⟩ = some (.int .i64 (nm)) := hr.out.node 16
        have c5 : wr.cell? ⟨w.heap.size + 1, 17, none⟩ = some (.int .i64 (-1)) := hr.out.node 17
        have Tk := Lib.hid (fun w => Htx.out ⟨3, fn, cp, ⟨#[]⟩, nm, -1⟩ w (by show ByteArray.size _ ≤ _; first | assumption | exact Nat.zero_le _) (by show ByteArray.size _ ≤ _; first | assumption | exact Nat.zero_le _))
        have Wk := Hw.out ⟨3, fn, cp, ⟨#[]⟩, nm, -1⟩
        have Hk := Lib.hid (fun w' => Hhit.out ⟨3, fn, cp, ⟨#[]⟩, nm, -1⟩ w')
        unfold Nd.val Nd.cells at Tk Hk
        have Nk := Lib.hid (Hnext.out 2)
        rw [HC] at Nk
        go_wp2_with fail
        refine (Tk.out wr).mono ?_
        rintro e w5 ⟨rfl, b5⟩
        have hr5 := Lib.hid (hr.out.on b5)
        clear b5 hr c0 c1 c2 c3 c4 c5 Tk
        have g0 : w5.cell? ⟨w.heap.size + 1, 12, none⟩ = some (.int .i64 (3)) := hr5.out.node 12
        have g1 : w5.cell? ⟨w.heap.size + 1, 13, none⟩ = some (.string fn) := hr5.out.node 13
        have g2 : w5.cell? ⟨w.heap.size + 1, 14, none⟩ = some (.int .i64 (cp)) := hr5.out.node 14
        have g3 : w5.cell? ⟨w.heap.size + 1, 15, none⟩ = some (.string ⟨#[]⟩) := hr5.out.node 15
        have g4 : w5.cell? ⟨w.heap.size + 1, 16, none⟩ = some (.int .i64 (nm)) := hr5.out.node 16
        have g5 : w5.cell? ⟨w.heap.size + 1, 17, none⟩ = some (.int .i64 (-1)) := hr5.out.node 17
        generalize terr ⟨3, fn, cp, ⟨#[]⟩, nm, -1⟩ = te at *
        generalize txt ⟨3, fn, cp, ⟨#[]⟩, nm, -1⟩ = tt at *
        rcases Wk with ⟨hi, rfl⟩ | ⟨hi, rfl, htt⟩ | ⟨hi, rfl, htt, hmk, hk5⟩ | ⟨hi, rfl, htt, hk5⟩
        · go_wp2_with fail
          go_roundw
          case rel => exact ⟨3, by omega, rfl, Lib.hid (Nk.out hj.out hi), hr5⟩
          case measure => simp [intOf]
        · go_wp2_with fail
          go_roundw
          case rel => exact ⟨3, by omega, rfl, Lib.hid (Nk.out hj.out hi), hr5⟩
          case measure => simp [intOf]
        · subst hmk
          have hem : ((⟨#[]⟩ : ByteArray).toList.isEmpty) = true := by rw [ByteArray.toList_eq]; rfl
          go_wp2_with fail
          go_roundw
          case rel => exact ⟨3, by omega, rfl, Lib.hid (Nk.out hj.out hi), hr5⟩
          case measure => simp [intOf]
        · have hkk := Lib.hid (fun w' => Hk.out w' hi)
          have hb5 := hr5.out.2.2
          have z0 : w5.cell? ⟨w.heap.size, 0, none⟩ = some (.int .i64 0) := hr5.out.zero 0
          have z1 : w5.cell? ⟨w.heap.size, 1, none⟩ = some (.string ⟨#[]⟩) := hr5.out.zero 1
          have z2 : w5.cell? ⟨w.heap.size, 2, none⟩ = some (.int .i64 0) := hr5.out.zero 2
          have z3 : w5.cell? ⟨w.heap.size, 3, none⟩ = some (.string ⟨#[]⟩) := hr5.out.zero 3
          have z4 : w5.cell? ⟨w.heap.size, 4, none⟩ = some (.int .i64 0) := hr5.out.zero 4
          have z5 : w5.cell? ⟨w.heap.size, 5, none⟩ = some (.int .i64 0) := hr5.out.zero 5
          have f0 := hr5.out.free 0
          have f1 := hr5.out.free 1
          have f2 := hr5.out.free 2
          have f3 := hr5.out.free 3
          have f4 := hr5.out.free 4
          have f5 := hr5.out.free 5
          have hlt5 : w.heap.size + 1 < w5.heap.size := hr5.out.lt
          have hem := dg.not_empty mk (hk5.resolve_left (by show ¬ ((3 : Int) = 5); decide))
          go_wp2_with fail
          refine bodyPost_ret ?_ rfl (hkk.out _ ?_)
          · simp only [results, Tryz.results117]
            clear hkk
            go_simp
          · repeat (first | (with_reducible exact hb5) | (with_reducible refine Below.setCell ?_ (by simp) _))
      · have HC := C3.out
        clear C0 C1 C2 C3 C4 C5 C6
        have c0 : wr.cell? ⟨w.heap.size + 1, 18, none⟩ = some (.int .i64 (4)) := hr.out.node 18
        have c1 : wr.cell? ⟨w.heap.size + 1, 19, none⟩ = some (.string fn) := hr.out.node 19
        have c2 : wr.cell? ⟨w.heap.size + 1, 20, none⟩ = some (.int .i64 (cp)) := hr.out.node 20
        have c3 : wr.cell? ⟨w.heap.size + 1, 21, none⟩ = some (.string ⟨#[]⟩) := hr.out.node 21
        have c4 : wr.cell? ⟨w.heap.size + 1, 22, none⟩ = some (.int .i64 (0)) := hr.out.node 22
        have c5 : wr.cell? ⟨w.heap.size + 1, 23, none⟩ = some (.int .i64 (-1)) := hr.out.node 23
        have Tk := Lib.hid (fun w => Htx.out ⟨4, fn, cp, ⟨#[]⟩, 0, -1⟩ w (by show ByteArray.size _ ≤ _; first | assumption | exact Nat.zero_le _) (by show ByteArray.size _ ≤ _; first | assumption | exact Nat.zero_le _))
        have Wk := Hw.out ⟨4, fn, cp, ⟨#[]⟩, 0, -1⟩
        have Hk := Lib.hid (fun w' => Hhit.out ⟨4, fn, cp, ⟨#[]⟩, 0, -1⟩ w')
        unfold Nd.val Nd.cells at Tk Hk
        have Nk := Lib.hid (Hnext.out 3)
        rw [HC] at Nk
        go_wp2_with fail
        refine (Tk.out wr).mono ?_
        rintro e w5 ⟨rfl, b5⟩
        have hr5 := Lib.hid (hr.out.on b5)
        clear b5 hr c0 c1 c2 c3 c4 c5 Tk
        have g0 : w5.cell? ⟨w.heap.size + 1, 18, none⟩ = some (.int .i64 (4)) := hr5.out.node 18
        have g1 : w5.cell? ⟨w.heap.size + 1, 19, none⟩ = some (.string fn) := hr5.out.node 19
        have g2 : w5.cell? ⟨w.heap.size + 1, 20, none⟩ = some (.int .i64 (cp)) := hr5.out.node 20
        have g3 : w5.cell? ⟨w.heap.size + 1, 21, none⟩ = some (.string ⟨#[]⟩) := hr5.out.node 21
        have g4 : w5.cell? ⟨w.heap.size + 1, 22, none⟩ = some (.int .i64 (0)) := hr5.out.node 22
        have g5 : w5.cell? ⟨w.heap.size + 1, 23, none⟩ = some (.int .i64 (-1)) := hr5.out.node 23
        generalize terr ⟨4, fn, cp, ⟨#[]⟩, 0, -1⟩ = te at *
        generalize txt ⟨4, fn, cp, ⟨#[]⟩, 0, -1⟩ = tt at *
        rcases Wk with ⟨hi, rfl⟩ | ⟨hi, rfl, htt⟩ | ⟨hi, rfl, htt, hmk, hk5⟩ | ⟨hi, rfl, htt, hk5⟩
        · go_wp2_with fail
          go_roundw
          case rel => exact ⟨4, by omega, rfl, Lib.hid (Nk.out hj.out hi), hr5⟩
          case measure => simp [intOf]
        · go_wp2_with fail
          go_roundw
          case rel => exact ⟨4, by omega, rfl, Lib.hid (Nk.out hj.out hi), hr5⟩
          case measure => simp [intOf]
        · subst hmk
          have hem : ((⟨#[]⟩ : ByteArray).toList.isEmpty) = true := by rw [ByteArray.toList_eq]; rfl
          go_wp2_with fail
          go_roundw
          case rel => exact ⟨4, by omega, rfl, Lib.hid (Nk.out hj.out hi), hr5⟩
          case measure => simp [intOf]
        · have hkk := Lib.hid (fun w' => Hk.out w' hi)
          have hb5 := hr5.out.2.2
          have z0 : w5.cell? ⟨w.heap.size, 0, none⟩ = some (.int .i64 0) := hr5.out.zero 0
          have z1 : w5.cell? ⟨w.heap.size, 1, none⟩ = some (.string ⟨#[]⟩) := hr5.out.zero 1
          have z2 : w5.cell? ⟨w.heap.size, 2, none⟩ = some (.int .i64 0) := hr5.out.zero 2
          have z3 : w5.cell? ⟨w.heap.size, 3, none⟩ = some (.string ⟨#[]⟩) := hr5.out.zero 3
          have z4 : w5.cell? ⟨w.heap.size, 4, none⟩ = some (.int .i64 0) := hr5.out.zero 4
          have z5 : w5.cell? ⟨w.heap.size, 5, none⟩ = some (.int .i64 0) := hr5.out.zero 5
          have f0 := hr5.out.free 0
          have f1 := hr5.out.free 1
          have f2 := hr5.out.free 2
          have f3 := hr5.out.free 3
          have f4 := hr5.out.free 4
          have f5 := hr5.out.free 5
          have hlt5 : w.heap.size + 1 < w5.heap.size := hr5.out.lt
          have hem := dg.not_empty mk (hk5.resolve_left (by show ¬ ((4 : Int) = 5); decide))
          go_wp2_with fail
          refine bodyPost_ret ?_ rfl (hkk.out _ ?_)
          · simp only [results, Tryz.results117]
            clear hkk
            go_simp
          · repeat (first | (with_reducible exact hb5) | (with_reducible refine Below.setCell ?_ (by simp) _))
      · have HC := C4.out
        clear C0 C1 C2 C3 C4 C5 C6
        have c0 : wr.cell? ⟨w.heap.size + 1, 24, none⟩ = some (.int .i64 (5)) := hr.out.node 24
        have c1 : wr.cell? ⟨w.heap.size + 1, 25, none⟩ = some (.string ⟨#[]⟩) := hr.out.node 25
        have c2 : wr.cell? ⟨w.heap.size + 1, 26, none⟩ = some (.int .i64 (0)) := hr.out.node 26
        have c3 : wr.cell? ⟨w.heap.size + 1, 27, none⟩ = some (.string fn) := hr.out.node 27
        have c4 : wr.cell? ⟨w.heap.size + 1, 28, none⟩ = some (.int .i64 (0)) := hr.out.node 28
        have c5 : wr.cell? ⟨w.heap.size + 1, 29, none⟩ = some (.int .i64 (ce)) := hr.out.node 29
        have Tk := Lib.hid (fun w => Htx.out ⟨5, ⟨#[]⟩, 0, fn, 0, ce⟩ w (by show ByteArray.size _ ≤ _; first | assumption | exact Nat.zero_le _) (by show ByteArray.size _ ≤ _; first | assumption | exact Nat.zero_le _))
        have Wk := Hw.out ⟨5, ⟨#[]⟩, 0, fn, 0, ce⟩
        have Hk := Lib.hid (fun w' => Hhit.out ⟨5, ⟨#[]⟩, 0, fn, 0, ce⟩ w')
        unfold Nd.val Nd.cells at Tk Hk
        have Nk := Lib.hid (Hnext.out 4)
        rw [HC] at Nk
        go_wp2_with fail
        refine (Tk.out wr).mono ?_
        rintro e w5 ⟨rfl, b5⟩
        have hr5 := Lib.hid (hr.out.on b5)
        clear b5 hr c0 c1 c2 c3 c4 c5 Tk
        have g0 : w5.cell? ⟨w.heap.size + 1, 24, none⟩ = some (.int .i64 (5)) := hr5.out.node 24
        have g1 : w5.cell? ⟨w.heap.size + 1, 25, none⟩ = some (.string ⟨#[]⟩) := hr5.out.node 25
        have g2 : w5.cell? ⟨w.heap.size + 1, 26, none⟩ = some (.int .i64 (0)) := hr5.out.node 26
        have g3 : w5.cell? ⟨w.heap.size + 1, 27, none⟩ = some (.string fn) := hr5.out.node 27
        have g4 : w5.cell? ⟨w.heap.size + 1, 28, none⟩ = some (.int .i64 (0)) := hr5.out.node 28
        have g5 : w5.cell? ⟨w.heap.size + 1, 29, none⟩ = some (.int .i64 (ce)) := hr5.out.node 29
        generalize terr ⟨5, ⟨#[]⟩, 0, fn, 0, ce⟩ = te at *
        generalize txt ⟨5, ⟨#[]⟩, 0, fn, 0, ce⟩ = tt at *
        rcases Wk with ⟨hi, rfl⟩ | ⟨hi, rfl, htt⟩ | ⟨hi, rfl, htt, hmk, hk5⟩ | ⟨hi, rfl, htt, hk5⟩
        · go_wp2_with fail
          go_roundw
          case rel => exact ⟨5, by omega, rfl, Lib.hid (Nk.out hj.out hi), hr5⟩
          case measure => simp [intOf]
        · go_wp2_with fail
          go_roundw
          case rel => exact ⟨5, by omega, rfl, Lib.hid (Nk.out hj.out hi), hr5⟩
          case measure => simp [intOf]
        · exact absurd rfl hk5
        · have hkk := Lib.hid (fun w' => Hk.out w' hi)
          have hb5 := hr5.out.2.2
          have z0 : w5.cell? ⟨w.heap.size, 0, none⟩ = some (.int .i64 0) := hr5.out.zero 0
          have z1 : w5.cell? ⟨w.heap.size, 1, none⟩ = some (.string ⟨#[]⟩) := hr5.out.zero 1
          have z2 : w5.cell? ⟨w.heap.size, 2, none⟩ = some (.int .i64 0) := hr5.out.zero 2
          have z3 : w5.cell? ⟨w.heap.size, 3, none⟩ = some (.string ⟨#[]⟩) := hr5.out.zero 3
          have z4 : w5.cell? ⟨w.heap.size, 4, none⟩ = some (.int .i64 0) := hr5.out.zero 4
          have z5 : w5.cell? ⟨w.heap.size, 5, none⟩ = some (.int .i64 0) := hr5.out.zero 5
          have f0 := hr5.out.free 0
          have f1 := hr5.out.free 1
          have f2 := hr5.out.free 2
          have f3 := hr5.out.free 3
          have f4 := hr5.out.free 4
          have f5 := hr5.out.free 5
          have hlt5 : w.heap.size + 1 < w5.heap.size := hr5.out.lt
          rcases hmk : mk.toList.isEmpty with _ | _
          · go_wp2_with fail
            refine bodyPost_ret ?_ rfl (hkk.out _ ?_)
            · simp only [results, Tryz.results117]
              clear hkk
              go_simp
            · repeat (first | (with_reducible exact hb5) | (with_reducible refine Below.setCell ?_ (by simp) _))
          · go_wp2_with fail
            refine bodyPost_ret ?_ rfl (hkk.out _ ?_)
            · simp only [results, Tryz.results117]
              clear hkk
              go_simp
            · repeat (first | (with_reducible exact hb5) | (with_reducible refine Below.setCell ?_ (by simp) _))
      · have HC := C5.out
        clear C0 C1 C2 C3 C4 C5 C6
        have c0 : wr.cell? ⟨w.heap.size + 1, 30, none⟩ = some (.int .i64 (6)) := hr.out.node 30
        have c1 : wr.cell? ⟨w.heap.size + 1, 31, none⟩ = some (.string fn) := hr.out.node 31
        have c2 : wr.cell? ⟨w.heap.size + 1, 32, none⟩ = some (.int .i64 (cp)) := hr.out.node 32
        have c3 : wr.cell? ⟨w.heap.size + 1, 33, none⟩ = some (.string tl) := hr.out.node 33
        have c4 : wr.cell? ⟨w.heap.size + 1, 34, none⟩ = some (.int .i64 (0)) := hr.out.node 34
        have c5 : wr.cell? ⟨w.heap.size + 1, 35, none⟩ = some (.int .i64 (ce)) := hr.out.node 35
        have Tk := Lib.hid (fun w => Htx.out ⟨6, fn, cp, tl, 0, ce⟩ w (by show ByteArray.size _ ≤ _; first | assumption | exact Nat.zero_le _) (by show ByteArray.size _ ≤ _; first | assumption | exact Nat.zero_le _))
        have Wk := Hw.out ⟨6, fn, cp, tl, 0, ce⟩
        have Hk := Lib.hid (fun w' => Hhit.out ⟨6, fn, cp, tl, 0, ce⟩ w')
        unfold Nd.val Nd.cells at Tk Hk
        have Nk := Lib.hid (Hnext.out 5)
        rw [HC] at Nk
        go_wp2_with fail
        refine (Tk.out wr).mono ?_
        rintro e w5 ⟨rfl, b5⟩
        have hr5 := Lib.hid (hr.out.on b5)
        clear b5 hr c0 c1 c2 c3 c4 c5 Tk
        have g0 : w5.cell? ⟨w.heap.size + 1, 30, none⟩ = some (.int .i64 (6)) := hr5.out.node 30
        have g1 : w5.cell? ⟨w.heap.size + 1, 31, none⟩ = some (.string fn) := hr5.out.node 31
        have g2 : w5.cell? ⟨w.heap.size + 1, 32, none⟩ = some (.int .i64 (cp)) := hr5.out.node 32
        have g3 : w5.cell? ⟨w.heap.size + 1, 33, none⟩ = some (.string tl) := hr5.out.node 33
        have g4 : w5.cell? ⟨w.heap.size + 1, 34, none⟩ = some (.int .i64 (0)) := hr5.out.node 34
        have g5 : w5.cell? ⟨w.heap.size + 1, 35, none⟩ = some (.int .i64 (ce)) := hr5.out.node 35
        generalize terr ⟨6, fn, cp, tl, 0, ce⟩ = te at *
        generalize txt ⟨6, fn, cp, tl, 0, ce⟩ = tt at *
        rcases Wk with ⟨hi, rfl⟩ | ⟨hi, rfl, htt⟩ | ⟨hi, rfl, htt, hmk, hk5⟩ | ⟨hi, rfl, htt, hk5⟩
        · go_wp2_with fail
          go_roundw
          case rel => exact ⟨6, by omega, rfl, Lib.hid (Nk.out hj.out hi), hr5⟩
          case measure => simp [intOf]
        · go_wp2_with fail
          go_roundw
          case rel => exact ⟨6, by omega, rfl, Lib.hid (Nk.out hj.out hi), hr5⟩
          case measure => simp [intOf]
        · subst hmk
          have hem : ((⟨#[]⟩ : ByteArray).toList.isEmpty) = true := by rw [ByteArray.toList_eq]; rfl
          go_wp2_with fail
          go_roundw
          case rel => exact ⟨6, by omega, rfl, Lib.hid (Nk.out hj.out hi), hr5⟩
          case measure => simp [intOf]
        · have hkk := Lib.hid (fun w' => Hk.out w' hi)
          have hb5 := hr5.out.2.2
          have z0 : w5.cell? ⟨w.heap.size, 0, none⟩ = some (.int .i64 0) := hr5.out.zero 0
          have z1 : w5.cell? ⟨w.heap.size, 1, none⟩ = some (.string ⟨#[]⟩) := hr5.out.zero 1
          have z2 : w5.cell? ⟨w.heap.size, 2, none⟩ = some (.int .i64 0) := hr5.out.zero 2
          have z3 : w5.cell? ⟨w.heap.size, 3, none⟩ = some (.string ⟨#[]⟩) := hr5.out.zero 3
          have z4 : w5.cell? ⟨w.heap.size, 4, none⟩ = some (.int .i64 0) := hr5.out.zero 4
          have z5 : w5.cell? ⟨w.heap.size, 5, none⟩ = some (.int .i64 0) := hr5.out.zero 5
          have f0 := hr5.out.free 0
          have f1 := hr5.out.free 1
          have f2 := hr5.out.free 2
          have f3 := hr5.out.free 3
          have f4 := hr5.out.free 4
          have f5 := hr5.out.free 5
          have hlt5 : w.heap.size + 1 < w5.heap.size := hr5.out.lt
          have hem := dg.not_empty mk (hk5.resolve_left (by show ¬ ((6 : Int) = 5); decide))
          go_wp2_with fail
          refine bodyPost_ret ?_ rfl (hkk.out _ ?_)
          · simp only [results, Tryz.results117]
            clear hkk
            go_simp
          · repeat (first | (with_reducible exact hb5) | (with_reducible refine Below.setCell ?_ (by simp) _))
      · have HC := C6.out
        clear C0 C1 C2 C3 C4 C5 C6
        have c0 : wr.cell? ⟨w.heap.size + 1, 36, none⟩ = some (.int .i64 (7)) := hr.out.node 36
        have c1 : wr.cell? ⟨w.heap.size + 1, 37, none⟩ = some (.string fn) := hr.out.node 37
        have c2 : wr.cell? ⟨w.heap.size + 1, 38, none⟩ = some (.int .i64 (cp)) := hr.out.node 38
        have c3 : wr.cell? ⟨w.heap.size + 1, 39, none⟩ = some (.string ⟨#[]⟩) := hr.out.node 39
        have c4 : wr.cell? ⟨w.heap.size + 1, 40, none⟩ = some (.int .i64 (nm)) := hr.out.node 40
        have c5 : wr.cell? ⟨w.heap.size + 1, 41, none⟩ = some (.int .i64 (ce)) := hr.out.node 41
        have Tk := Lib.hid (fun w => Htx.out ⟨7, fn, cp, ⟨#[]⟩, nm, ce⟩ w (by show ByteArray.size _ ≤ _; first | assumption | exact Nat.zero_le _) (by show ByteArray.size _ ≤ _; first | assumption | exact Nat.zero_le _))
        have Wk := Hw.out ⟨7, fn, cp, ⟨#[]⟩, nm, ce⟩
        have Hk := Lib.hid (fun w' => Hhit.out ⟨7, fn, cp, ⟨#[]⟩, nm, ce⟩ w')
        unfold Nd.val Nd.cells at Tk Hk
        have Nk := Lib.hid (Hnext.out 6)
        rw [HC] at Nk
        go_wp2_with fail
        refine (Tk.out wr).mono ?_
        rintro e w5 ⟨rfl, b5⟩
        have hr5 := Lib.hid (hr.out.on b5)
        clear b5 hr c0 c1 c2 c3 c4 c5 Tk
        have g0 : w5.cell? ⟨w.heap.size + 1, 36, none⟩ = some (.int .i64 (7)) := hr5.out.node 36
        have g1 : w5.cell? ⟨w.heap.size + 1, 37, none⟩ = some (.string fn) := hr5.out.node 37
        have g2 : w5.cell? ⟨w.heap.size + 1, 38, none⟩ = some (.int .i64 (cp)) := hr5.out.node 38
        have g3 : w5.cell? ⟨w.heap.size + 1, 39, none⟩ = some (.string ⟨#[]⟩) := hr5.out.node 39
        have g4 : w5.cell? ⟨w.heap.size + 1, 40, none⟩ = some (.int .i64 (nm)) := hr5.out.node 40
        have g5 : w5.cell? ⟨w.heap.size + 1, 41, none⟩ = some (.int .i64 (ce)) := hr5.out.node 41
        generalize terr ⟨7, fn, cp, ⟨#[]⟩, nm, ce⟩ = te at *
        generalize txt ⟨7, fn, cp, ⟨#[]⟩, nm, ce⟩ = tt at *
        rcases Wk with ⟨hi, rfl⟩ | ⟨hi, rfl, htt⟩ | ⟨hi, rfl, htt, hmk, hk5⟩ | ⟨hi, rfl, htt, hk5⟩
        · go_wp2_with fail
          go_roundw
          case rel => exact ⟨7, by omega, rfl, Lib.hid (Nk.out hj.out hi), hr5⟩
          case measure => simp [intOf]
        · go_wp2_with fail
          go_roundw
          case rel => exact ⟨7, by omega, rfl, Lib.hid (Nk.out hj.out hi), hr5⟩
          case measure => simp [intOf]
        · subst hmk
          have hem : ((⟨#[]⟩ : ByteArray).toList.isEmpty) = true := by rw [ByteArray.toList_eq]; rfl
          go_wp2_with fail
          go_roundw
          case rel => exact ⟨7, by omega, rfl, Lib.hid (Nk.out hj.out hi), hr5⟩
          case measure => simp [intOf]
        · have hkk := Lib.hid (fun w' => Hk.out w' hi)
          have hb5 := hr5.out.2.2
          have z0 : w5.cell? ⟨w.heap.size, 0, none⟩ = some (.int .i64 0) := hr5.out.zero 0
          have z1 : w5.cell? ⟨w.heap.size, 1, none⟩ = some (.string ⟨#[]⟩) := hr5.out.zero 1
          have z2 : w5.cell? ⟨w.heap.size, 2, none⟩ = some (.int .i64 0) := hr5.out.zero 2
          have z3 : w5.cell? ⟨w.heap.size, 3, none⟩ = some (.string ⟨#[]⟩) := hr5.out.zero 3
          have z4 : w5.cell? ⟨w.heap.size, 4, none⟩ = some (.int .i64 0) := hr5.out.zero 4
          have z5 : w5.cell? ⟨w.heap.size, 5, none⟩ = some (.int .i64 0) := hr5.out.zero 5
          have f0 := hr5.out.free 0
          have f1 := hr5.out.free 1
          have f2 := hr5.out.free 2
          have f3 := hr5.out.free 3
          have f4 := hr5.out.free 4
          have f5 := hr5.out.free 5
          have hlt5 : w.heap.size + 1 < w5.heap.size := hr5.out.lt
          have hem := dg.not_empty mk (hk5.resolve_left (by show ¬ ((7 : Int) = 5); decide))
          go_wp2_with fail
          refine bodyPost_ret ?_ rfl (hkk.out _ ?_)
          · simp only [results, Tryz.results117]
            clear hkk
            go_simp
          · repeat (first | (with_reducible exact hb5) | (with_reducible refine Below.setCell ?_ (by simp) _))
      · omega
    · obtain rfl : k = 7 := by omega
      have hb5 := hr.out.2.2
      have z0 : wr.cell? ⟨w.heap.size, 0, none⟩ = some (.int .i64 0) := hr.out.zero 0
      have z1 : wr.cell? ⟨w.heap.size, 1, none⟩ = some (.string ⟨#[]⟩) := hr.out.zero 1
      have z2 : wr.cell? ⟨w.heap.size, 2, none⟩ = some (.int .i64 0) := hr.out.zero 2
      have z3 : wr.cell? ⟨w.heap.size, 3, none⟩ = some (.string ⟨#[]⟩) := hr.out.zero 3
      have z4 : wr.cell? ⟨w.heap.size, 4, none⟩ = some (.int .i64 0) := hr.out.zero 4
      have z5 : wr.cell? ⟨w.heap.size, 5, none⟩ = some (.int .i64 0) := hr.out.zero 5
      have f0 := hr.out.free 0
      have f1 := hr.out.free 1
      have f2 := hr.out.free 2
      have f3 := hr.out.free 3
      have f4 := hr.out.free 4
      have f5 := hr.out.free 5
      have hkk := Lib.hid (fun w' => Hmiss.out w' hj.out)
      clear Hmiss Hhit Hnext Hw Htx
      go_wp2_with fail
      refine bodyPost_ret (v := .tuple #[.agg #[.int .i64 0, .string ⟨#[]⟩, .int .i64 0, .string ⟨#[]⟩, .int .i64 0, .int .i64 0], .int .i64 11]) ?_ rfl (hkk.out _ ?_)
      · simp only [results, Tryz.results117]
        clear hkk
        go_simp
      · repeat (first | (with_reducible exact hb5) | (with_reducible refine Below.setCell ?_ (by simp) _))
end Go.Proofs.YtdmmkjijgoiecaaGreatDoor.nm

/-
  weftref14's Base, Cell, Object and Of.
-/
set_option linter.all false
namespace Go.Proofs.YtdmmkjijgoiecaaGreatDoor.nm
open Go.RowKit Go.Sort

theorem rread_yes (s : ByteArray) (w : World) (hs : s.size ≤ maxLen) (h : readB s = true) : Calls Tryz.prog 117 #[.string s] w (ReadYes s w) := by
  refine (rread_node s w hs).mono ?_
  rintro e w' ⟨rfl, hb⟩
  refine ⟨?_, hb⟩
  unfold readN readE
  rw [if_pos h, if_pos h]
theorem rread_no (s : ByteArray) (w : World) (hs : s.size ≤ maxLen) (h : readB s = false) : Calls Tryz.prog 117 #[.string s] w (ReadNo w) := by
  refine (rread_node s w hs).mono ?_
  rintro e w' ⟨rfl, hb⟩
  refine ⟨?_, hb⟩
  unfold readN readE
  rw [if_neg (by rw [h]; decide), if_neg (by rw [h]; decide)]
  rfl


set_option maxHeartbeats 1000000 in
theorem rcell_any (s : ByteArray) (k : Int) (w : World) (hs : s.size ≤ maxLen) : Calls Tryz.prog 187 #[.string s, .int .i64 k] w (StrPost (cellTS s k) w) := by
  rcases hr : readB s with _ | _
  · have Hr := Lib.hid (fun w => rread_no s w hs hr)
    have Hv : Hid (cellTS s k = ⟨#[]⟩) := Lib.hid (by unfold cellTS; rw [if_neg (by rintro ⟨h, _⟩; rw [hr] at h; exact absurd h (by decide))])
    unfold ReadNo at Hr
    clear hr
    unfold maxLen at hs
    go_enter Tryz.func187, Tryz.ntmps187
    go_wp2_with fail
    refine (Hr.out w).mono ?_
    rintro e w2 ⟨rfl, hb2⟩
    clear Hr
    go_wp2_with fail
    go_ret
    exact ⟨by rw [Hv.out]; rfl, by repeat (first | (with_reducible exact hb2) | (with_reducible refine Below.setCell ?_ (by simp [hb2.size]; done) _) | (with_reducible refine Below.alloc ?_ hb2.size _))⟩
  · have Hr := Lib.hid (fun w => rread_yes s w hs hr)
    have hm := readB_may hr
    have Hvv : cellTS s k = if (cand s).cell = -1 ∧ 0 ≤ k then txt ⟨(cand s).kind, (cand s).fn, (cand s).copy, (cand s).name, (cand s).n, k⟩ else ⟨#[]⟩ := by unfold cellTS; simp only [hr, true_and]
    obtain ⟨m1, m2⟩ := may_sizes _ hm
    have hmo := may_obj _ hm
    unfold ReadYes at Hr
    generalize cand s = d at *
    obtain ⟨kind, fn, copy, name, n, cell⟩ := d
    have Ht := Lib.hid (fun w => rtext_any ⟨kind, fn, copy, name, n, k⟩ w (small_le m2) (small_le m1))
    unfold Nd.val Nd.cells at Hr
    unfold TextPost Nd.val Nd.cells at Ht
    have Hv2 : Hid (cellTS s k = if cell = -1 ∧ 0 ≤ k then txt ⟨kind, fn, copy, name, n, k⟩ else ⟨#[]⟩) := Lib.hid Hvv
    have hmo : cell ≠ -1 → 5 ≤ kind := fun g => by have := (hmo g).1; simp only at this; omega
    have htt : kind < 5 → 0 ≤ k → txt ⟨kind, fn, copy, name, n, k⟩ = ⟨#[]⟩ := fun g h0 => by
      unfold txt
      rcases hq : mayB ⟨kind, fn, copy, name, n, k⟩ with _ | _
      · rfl
      · have := (may_obj _ hq (by show k ≠ -1; omega)).1
        simp only at this; omega
    generalize txt ⟨kind, fn, copy, name, n, k⟩ = tt at *
    generalize terr ⟨kind, fn, copy, name, n, k⟩ = te at *
    clear hr hm m1 m2 Hvv
    unfold maxLen at hs
    rcases Int.lt_or_le kind 5 with hk5 | hk5
    · have Hv3 : Hid (cellTS s k = ⟨#[]⟩) := Lib.hid (by
        rw [Hv2.out]
        by_cases g : cell = -1 ∧ 0 ≤ k
        · rw [if_pos g]; exact htt hk5 g.2
        · rw [if_neg g])
      have hkd : decide (kind < 5) = true := decide_eq_true hk5
      clear Hv2 Ht htt hmo hk5
      go_enter Tryz.func187, Tryz.ntmps187
      go_wp2_with fail
      refine (Hr.out w).mono ?_
      rintro e w2 ⟨rfl, hb2⟩
      clear Hr
      go_wp2_with fail
      go_ret
      exact ⟨by rw [Hv3.out]; rfl, by repeat (first | (with_reducible exact hb2) | (with_reducible refine Below.setCell ?_ (by simp [hb2.size]; done) _) | (with_reducible refine Below.alloc ?_ hb2.size _))⟩
    · have hkd : decide (kind < 5) = false := decide_eq_false (by omega)
      clear htt hmo hk5
      by_cases hc : cell = -1
      · by_cases hk : 0 ≤ k
        · have Hv3 : Hid (cellTS s k = tt) := Lib.hid (by rw [Hv2.out, if_pos ⟨hc, hk⟩])
          have hk2 : decide (k < 0) = false := by simp; omega
          subst hc
          clear Hv2 hk
          go_enter Tryz.func187, Tryz.ntmps187
          go_wp2_with fail
          refine (Hr.out w).mono ?_
          rintro e w2 ⟨rfl, hb2⟩
          have hz := hb2.size
          clear Hr
          go_wp2_with fail
          refine call_abs (fun W' => Below w.heap.size w W') ?_ ?_
          · repeat (first | (with_reducible exact hb2) | (with_reducible refine Below.setCell ?_ (by simp; done) _) | (with_reducible refine Below.alloc ?_ (by simp; done) _) | (with_reducible refine Below.setCell ?_ hz _) | (with_reducible refine Below.alloc ?_ hz _))
          intro W4 hb4
          refine (Ht.out W4).mono ?_
          rintro e w5 ⟨rfl, b5⟩
          have hb5 := below_on hb4 b5
          clear hb4 b5 Ht
          go_wp2_with fail
          go_ret
          exact ⟨by rw [Hv3.out]; rfl, hb5⟩
        · have Hv3 : Hid (cellTS s k = ⟨#[]⟩) := Lib.hid (by rw [Hv2.out, if_neg (by rintro ⟨_, h⟩; exact hk h)])
          have hk2 : decide (k < 0) = true := by simp; omega
          subst hc
          clear Hv2 hk Ht
          go_enter Tryz.func187, Tryz.ntmps187
          go_wp2_with fail
          refine (Hr.out w).mono ?_
          rintro e w2 ⟨rfl, hb2⟩
          clear Hr
          go_wp2_with fail
          go_ret
          exact ⟨by rw [Hv3.out]; rfl, by repeat (first | (with_reducible exact hb2) | (with_reducible refine Below.setCell ?_ (by simp [hb2.size]; done) _) | (with_reducible refine Below.alloc ?_ hb2.size _))⟩
      · have Hv3 : Hid (cellTS s k = ⟨#[]⟩) := Lib.hid (by rw [Hv2.out, if_neg (by rintro ⟨h, _⟩; exact hc h)])
        have hc2 : (cell != -1) = true := by rw [bne_iff_ne]; exact hc
        clear Hv2 Ht hc
        go_enter Tryz.func187, Tryz.ntmps187
        go_wp2_with fail
        refine (Hr.out w).mono ?_
        rintro e w2 ⟨rfl, hb2⟩
        clear Hr
        go_wp2_with fail
        go_ret
        exact ⟨by rw [Hv3.out]; rfl, by repeat (first | (with_reducible exact hb2) | (with_reducible refine Below.setCell ?_ (by simp [hb2.size]; done) _) | (with_reducible refine Below.alloc ?_ hb2.size _))⟩

end Go.Proofs.YtdmmkjijgoiecaaGreatDoor.nm

/-
  system: systems of constraints, plain: which texts may be, what is wrong first.
-/
set_option linter.all false
namespace Go.Proofs.YtdmmkjijgoiecaaGreatDoor.sy
open Go.Proofs.YtdmmkjijgoiecaaGreatDoor.nm

/-- what a text that is a node's, a place's .. is read as -/
def nodeB (s : ByteArray) : Bool := readB s && (decide ((cand s).kind ≤ 3) || decide (0 ≤ (cand s).cell))
def placeB (s : ByteArray) : Bool := readB s && (decide ((cand s).kind = 4) || decide (0 ≤ (cand s).cell))
def objB (s : ByteArray) : Bool := readB s && (decide (5 ≤ (cand s).kind) && decide ((cand s).cell < 0))
def funcB (s : ByteArray) : Bool := readB s && decide ((cand s).kind = 4)
def siteB (s : ByteArray) : Bool := readB s && decide ((cand s).kind = 3)

theorem site_node {s : ByteArray} (h : siteB s = true) : nodeB s = true := by
  unfold siteB at h
  unfold nodeB
  simp only [Bool.and_eq_true, decide_eq_true_eq] at h
  rw [h.1, h.2]
  rfl

/-- i and p alone -/
def ipB (s : ByteArray) : Bool := s.toList.all fun b => b == 105 || b == 112
def kindsB (s : ByteArray) (least most : Nat) : Bool := ipB s && (decide (least ≤ s.size) && decide (s.size ≤ most))
def tagB (s : ByteArray) : Bool := decide (1 ≤ s.size) && decide (s.size ≤ 60)

structure Mk where
  at_ : Int
  tag : ByteArray
structure SO where
  name : ByteArray
  kinds : ByteArray
  marks : List Mk
structure SF where
  name : ByteArray
  kinds : ByteArray
  ret : ByteArray
structure SC where
  op : Int
  a : ByteArray
  b : ByteArray
  k : Int
  tag : ByteArray
  args : List ByteArray
structure SS where
  objs : List SO
  fns : List SF
  cons : List SC

/-- may an object's i-th mark be? -/
def mkGood (ms : List Mk) (n i : Nat) (m : Mk) : Prop := 0 ≤ m.at_ ∧ m.at_ < n ∧ tagB m.tag = true ∧ (∀ q, i = q + 1 → ∀ p, ms[q]? = some p → p.at_ ≤ m.at_) ∧ ∀ q, q < i → ∀ p, ms[q]? = some p → ¬ (p.at_ = m.at_ ∧ p.tag = m.tag)
def mksOk (ms : List Mk) (n k : Nat) : Prop := ∀ i m, i < k → ms[i]? = some m → mkGood ms n i m

open Classical in
noncomputable def objE (o : SO) : Int := if objB o.name = false then 11 else if kindsB o.kinds 1 64 = false then 5 else if mksOk o.marks o.kinds.size o.marks.length then 0 else 3

def retB (s : ByteArray) : Bool := s.toList == [105] || (s.toList == [112] || s.toList == [118])
def fnE (f : SF) : Int := if funcB f.name = false then 11 else if kindsB f.kinds 0 6 = false ∨ retB f.ret = false then 5 else 0

/-- a Tag's kinds, and what is behind the first > -/
def cutAt (l : List UInt8) : Option (List UInt8 × List UInt8) :=
  match l with
  | [] => none
  | b :: r => if b = 62 then some ([], r) else (cutAt r).map fun x => (b :: x.1, x.2)

/-- may an argument be? (p: of a pointer) -/
def argB (p : Bool) (s : ByteArray) : Bool := s.size == 0 || (p && nodeB s)
def argsB : List UInt8 → List ByteArray → Bool
  | _, [] => true
  | [], _ :: _ => true
  | k :: ks, a :: r => argB (k == 112) a && argsB ks r

def callB (tag : ByteArray) (args : List ByteArray) : Bool :=
  match cutAt tag.toList with
  | none => false
  | some (l, r) => kindsB ⟨l.toArray⟩ 0 6 && ((r == [] || (r == [105] || r == [112])) && (decide (args.length = l.length + 1) && argsB ((if r = [112] then 112 else 0) :: l) args))

def rightB (c : SC) : Bool :=
  if c.op = 6 then decide (c.k = 0) && callB c.tag c.args
  else if c.op = 5 then decide (0 ≤ c.k) && (decide (c.k ≤ 64) && (tagB c.tag && decide (c.args.length = 0)))
  else decide (c.k = 0) && (decide (c.tag.size = 0) && decide (c.args.length = 0))

def namesB (c : SC) : Bool := (if c.op = 6 then siteB c.a else nodeB c.a) && (if c.op = 1 then placeB c.b else nodeB c.b)
def conE (c : SC) : Int := if c.op < 1 ∨ 6 < c.op then 5 else if namesB c = false then 11 else if rightB c then 0 else 3
end Go.Proofs.YtdmmkjijgoiecaaGreatDoor.sy
