/-
  intern: the law's rising: a table tells all its texts in order.
-/
import Derived.Test.YtehieiddelngfaaInK
import Derived.Test.YtehieiddelngfaaInI2
namespace Go.Proofs.Ytehieiddelngfaa.ins
open Go.RowKit Go.Shelf Go.Proofs.Ytehieiddelngfaa.mem Go.Proofs.Ytehieiddelngfaa.inn

theorem rd_grown {W W' : World} {A : Option Addr} {l : List Value} {row : Option Nat} (h : Rd W A l) (hg : W.grownBy W' row) (hr : ∀ r, row = some r → ∃ o : Obj, W.heap[r]? = some o ∧ o.isCells = false) : Rd W' A l := fun hz => by
  obtain ⟨g, off, rfl, hl, hc⟩ := h hz
  exact ⟨g, off, rfl, Nat.lt_of_lt_of_le hl hg.size, fun j hj => cell_kept (hc j hj) hg hr⟩

theorem rd_kept_str {F : List Nat} {W W' : World} {A : Option Addr} {l : List (List UInt8)} (h : Rd W A (l.map encStr)) (hf : Fr F W W') (hF : ∀ g ∈ F, ∃ t v, Box W g t #[v] ∧ ∀ s, v ≠ .string s) : Rd W' A (l.map encStr) := by
  rcases Nat.eq_zero_or_pos l.length with hz | hz
  · obtain rfl := List.eq_nil_of_length_eq_zero hz
    exact fun h => by simp at h
  · refine h.kept hf (fun g hg hm => ?_)
    obtain ⟨g', off, rfl, hl, hc⟩ := rd_str h hz
    rw [blk_some, List.mem_singleton] at hg
    subst hg
    obtain ⟨t, v, hb, hv⟩ := hF g hm
    have h0 := hc 0 hz
    rw [hb.cell] at h0
    obtain ⟨hlt, h0⟩ := Array.getElem?_eq_some_iff.1 h0
    have : off + 0 = 0 := by simp at hlt; omega
    simp only [this] at h0
    exact hv _ h0

/-- between two things that are told -/
structure JL (w W : World) (bm bw c2 c : Nat) (A2 B : Option Addr) (ws xs pre : List (List UInt8)) : Prop where
  on : Below w.heap.size w W
  bg : ∃ g, Box W (bw + 1 + 1) 4 #[.bool g] ∧ (pre <+: ws → g = true)
  bi : Box W (bw + 1) 3 #[.int .i64 pre.length]
  bw : Box W bw 22 #[.slice A2 ws.length c2]
  bm : Box W bm 22 #[.slice B xs.length c]
  rw_ : Rd W A2 (ws.map encStr)
  rx : Rd W B (xs.map encStr)

theorem JL.grown {w W W' : World} {bm bw c2 c : Nat} {A2 B : Option Addr} {ws xs pre : List (List UInt8)} {row : Option Nat} (h : JL w W bm bw c2 c A2 B ws xs pre) (hg : W.grownBy W' row) (hr : ∀ r, row = some r → w.heap.size ≤ r ∧ ∃ o : Obj, W.heap[r]? = some o ∧ o.isCells = false) : JL w W' bm bw c2 c A2 B ws xs pre := by
  have hr2 : ∀ r, row = some r → ∃ o : Obj, W.heap[r]? = some o ∧ o.isCells = false := fun r e => (hr r e).2
  obtain ⟨g, hb, hp⟩ := h.bg
  exact ⟨h.on.grown hg h.on.size (fun k e => (hr k e).1), ⟨g, box_grown hb hg hr2, hp⟩, box_grown h.bi hg hr2, box_grown h.bw hg hr2, box_grown h.bm hg hr2, rd_grown h.rw_ hg hr2, rd_grown h.rx hg hr2⟩

theorem noOf_numV {xs : List (List UInt8)} {x : List UInt8} (h : x ∈ xs) : ((noOf xs x : Nat) : Int) = numV xs x := by unfold numV; rw [if_pos h]

theorem JL.step {w W : World} {bm bw c2 c : Nat} {A2 B : Option Addr} {ws xs pre : List (List UInt8)} {x : List UInt8} {g : Bool} (h : JL w W bm bw c2 c A2 B ws xs pre) (hg : Box W (bw + 1 + 1) 4 #[.bool g]) (hp : pre <+: ws → g = true) (hk : pre.length < ws.length) (hsub : ∀ y ∈ ws, y ∈ xs) (hwb : w.heap.size ≤ bw) (hbm : bm < bw) :
    Fr [bw + 1 + 1, bw + 1] W ((W.setCell ⟨bw + 1 + 1, 0, none⟩ (.bool (toldB g x ws[pre.length] (noOf xs x : Nat) (numV xs x)))).setCell ⟨bw + 1, 0, none⟩ (.int .i64 ((pre.length : Int) + 1))) ∧
    JL w ((W.setCell ⟨bw + 1 + 1, 0, none⟩ (.bool (toldB g x ws[pre.length] (noOf xs x : Nat) (numV xs x)))).setCell ⟨bw + 1, 0, none⟩ (.int .i64 ((pre.length : Int) + 1))) bm bw c2 c A2 B ws xs (pre ++ [x]) := by
  obtain ⟨R, hR⟩ : ∃ R, R = toldB g x ws[pre.length] (noOf xs x : Nat) (numV xs x) := ⟨_, rfl⟩
  rw [← hR]
  have f1 : Fr [bw + 1 + 1] W (W.setCell ⟨bw + 1 + 1, 0, none⟩ (.bool R)) := (Fr.refl [bw + 1 + 1] W).setCell (p := ⟨bw + 1 + 1, 0, none⟩) (Or.inl (by simp)) _
  have f2 : Fr [bw + 1] (W.setCell ⟨bw + 1 + 1, 0, none⟩ (.bool R)) ((W.setCell ⟨bw + 1 + 1, 0, none⟩ (.bool R)).setCell ⟨bw + 1, 0, none⟩ (.int .i64 ((pre.length : Int) + 1))) := (Fr.refl [bw + 1] _).setCell (p := ⟨bw + 1, 0, none⟩) (Or.inl (by simp)) _
  have f : Fr [bw + 1 + 1, bw + 1] W ((W.setCell ⟨bw + 1 + 1, 0, none⟩ (.bool R)).setCell ⟨bw + 1, 0, none⟩ (.int .i64 ((pre.length : Int) + 1))) := f1.trans f2 (by simp) (by simp)
  have g1 : Box (W.setCell ⟨bw + 1 + 1, 0, none⟩ (.bool R)) (bw + 1 + 1) 4 #[.bool R] := hg.put 0 _
  have g2 := g1.kept f2 (by simp)
  have i1 := h.bi.kept f1 (by simp)
  have i2 : Box ((W.setCell ⟨bw + 1 + 1, 0, none⟩ (.bool R)).setCell ⟨bw + 1, 0, none⟩ (.int .i64 ((pre.length : Int) + 1))) (bw + 1) 3 #[.int .i64 ((pre.length : Int) + 1)] := i1.put 0 _
  have hF : ∀ q ∈ [bw + 1 + 1, bw + 1], ∃ t v, Box W q t #[v] ∧ ∀ s, v ≠ .string s := by
    intro q hq
    simp only [List.mem_cons, List.not_mem_nil, or_false] at hq
    rcases hq with rfl | rfl
    · exact ⟨_, _, hg, fun s hs => by cases hs⟩
    · exact ⟨_, _, h.bi, fun s hs => by cases hs⟩
  refine ⟨f, ⟨h.on.trans (f.below (by simp <;> omega) h.on.size), ⟨R, g2, ?_⟩, ?_, h.bw.kept f (by simp <;> omega), h.bm.kept f (by simp <;> omega), rd_kept_str h.rw_ f hF, rd_kept_str h.rx f hF⟩⟩
  · intro hpx
    have hpre : pre <+: ws := (List.prefix_append pre [x]).trans hpx
    obtain ⟨t, ht⟩ := hpx
    have hx? : ws[pre.length]? = some x := by rw [← ht]; simp
    have hx : ws[pre.length] = x := Option.some.inj ((List.getElem?_eq_getElem hk).symm.trans hx?)
    have hm : x ∈ ws := by rw [← hx]; exact List.getElem_mem hk
    rw [hR, hp hpre, hx, noOf_numV (hsub x hm)]
    simp [toldB]
  · rw [List.length_append, List.length_singleton, Int.natCast_add]
    exact i2

set_option maxRecDepth 100000 in
set_option maxHeartbeats 1000000 in
theorem rising_law (w : World) (b : Nat) (A B : Option Addr) (cap c : Nat) (m : Option Nat) (N : Nat) (xs : List (List UInt8)) (hT : Tb w b A cap m N xs) (hB : Rd w B (xs.map encStr)) (hlen : xs.length ≤ 250) :
    Calls Try.prog 15 #[.pointer (some ⟨b, 0, none⟩), .slice B xs.length c] w fun e w' => e = .returned (.bool true) ∧ Below w.heap.size w w' := by
  have K1 := Lib.hid (rsorted_any (w.alloc (.cells #[.slice B xs.length c] 22)) B c xs (hB.alloc _) (by omega))
  have cb := new_cell w (.slice B xs.length c) 22
  have HT := Lib.hid hT
  have HB := Lib.hid hB
  clear hT hB
  go_enter Try.func15, Try.ntmps15
  go_wp2_with fail
  refine K1.out.mono ?_
  rintro e w2 ⟨A2, c2, rfl, s2, b2⟩
  have S2 := Lib.hid s2
  have B2 := Lib.hid b2
  clear s2 b2 cb
  go_wp2_with fail
  obtain ⟨w3, hw3⟩ : ∃ w3, Hid (w3 = ((w2.alloc (.cells #[.slice A2 (rsS xs).length c2] 22)).alloc (.cells #[.int .i64 0] 3)).alloc (.cells #[.bool true] 4)) := ⟨_, Lib.hid rfl⟩
  rw [← hw3.out]
  refine (rising_new w3 b).mono ?_
  rintro e w4' ⟨rfl, rfl⟩
  have hs1 : w.heap.size + 1 ≤ w2.heap.size := by have := B2.out.size; simpa using this
  have hbw : Below w.heap.size w w2 := ((Below.refl _ w).alloc (Nat.le_refl _) _).trans (B2.out.mono (by simp))
  have hs3 : w3.heap.size = w2.heap.size + 3 := by rw [hw3.out]; simp
  have f23 : Fr [] w2 w3 := by rw [hw3.out]; exact (((Fr.refl [] w2).alloc _).alloc _).alloc _
  obtain ⟨w4, hw4⟩ : ∃ w4, Hid (w4 = w3.alloc (.cells #[.pointer (some ⟨b, 0, none⟩)] 24)) := ⟨_, Lib.hid rfl⟩
  have f34 : Fr [] w3 w4 := by rw [hw4.out]; exact (Fr.refl [] w3).alloc _
  have f24 : Fr [] w2 w4 := f23.trans f34 (by simp) (by simp)
  have hs4 : w4.heap.size = w2.heap.size + 4 := by rw [hw4.out]; simp [hs3]
  have hT2 : Tb w2 b A cap m N xs := HT.out.kept (Fr.of_below hbw []) (by simp)
  have hJ0 : JL w w4 w.heap.size w2.heap.size c2 c A2 B (rsS xs) xs [] := by
    refine ⟨hbw.trans (f24.below (by simp) hbw.size), ⟨true, ?_, fun _ => rfl⟩, ?_, ?_, ?_, S2.out.rd.kept f24 (by simp), ((HB.out.below hbw).kept f24 (by simp))⟩
    · refine Box.kept ?_ f34 (by simp)
      rw [hw3.out]
      have := Box.new ((w2.alloc (.cells #[.slice A2 (rsS xs).length c2] 22)).alloc (.cells #[.int .i64 0] 3)) 4 #[.bool true]
      rwa [World.size_alloc, World.size_alloc] at this
    · refine Box.kept ?_ f34 (by simp)
      rw [hw3.out]
      have := Box.new (w2.alloc (.cells #[.slice A2 (rsS xs).length c2] 22)) 3 #[.int .i64 0]
      rw [World.size_alloc] at this
      exact this.kept ((Fr.refl [] _).alloc _) (by simp)
    · refine Box.kept ?_ f34 (by simp)
      rw [hw3.out]
      exact (Box.new w2 _ _).kept (((Fr.refl [] _).alloc _).alloc _) (by simp)
    · exact ((Box.new w _ _).kept (Fr.of_below B2.out []) (by simp)).kept f24 (by simp)
  have hrs := rs_len xs
  have hsub : ∀ y ∈ rsS xs, y ∈ xs := fun y hy => (mem_rsS xs y).1 hy
  have hbl : b < w.heap.size := HT.out.box.lt
  have hml : ∀ g ∈ m.toList, g < w.heap.size := HT.out.set.lt
  have K2 := Lib.hid (rise_s w4 (w2.heap.size + 3) b A cap m N xs (hT2.kept f24 (by simp)) (by rw [hw4.out, ← hs3]; exact Box.new w3 _ _) (by omega) 33 #[.pointer (some ⟨w2.heap.size + 1 + 1, 0, none⟩), .pointer (some ⟨w2.heap.size + 1, 0, none⟩), .pointer (some ⟨w2.heap.size, 0, none⟩), .pointer (some ⟨w.heap.size, 0, none⟩)] (enters_of Try.func33 (by kernel_rfl) rfl)
    [w2.heap.size + 1 + 1, w2.heap.size + 1] (by simp <;> omega) (by simp <;> omega) (by simp <;> omega) (fun g hg => by have := hml g hg; simp <;> omega)
    (fun pre W => JL w W w.heap.size w2.heap.size c2 c A2 B (rsS xs) xs pre) (fun _ _ => False)
    (fun s W W' row hs hg hr => hs.grown hg (fun r e => ⟨by have := (hr r e).1; omega, (hr r e).2⟩)) (fun s W W' row hs _ _ => hs) hJ0
    (fun pre W hj g hg => by
      simp only [List.mem_cons, List.not_mem_nil, or_false] at hg
      rcases hg with rfl | rfl
      · obtain ⟨q, hq, _⟩ := hj.bg
        exact ⟨_, hq, rfl⟩
      · exact ⟨_, hj.bi, rfl⟩)
    (fun pre x W _ hj hk => by
      obtain ⟨q, hq, hp⟩ := hj.bg
      refine (told_any W (w2.heap.size + 1 + 1) (w2.heap.size + 1) w2.heap.size w.heap.size pre.length c2 c q A2 B (rsS xs) xs x _ hk (by omega) (by omega) hq hj.bi hj.bw hj.bm hj.rw_ hj.rx).mono ?_
      rintro e W' ⟨rfl, rfl⟩
      obtain ⟨h1, h2⟩ := hj.step (x := x) hq hp hk hsub (by omega) (by omega)
      exact ⟨h1, Or.inl ⟨rfl, h2⟩⟩))
  rw [← hw4.out]
  clear hJ0 hT2 f24 f34 f23 hbw HT HB S2 B2 hml hsub
  go_wp2_with fail
  refine K2.out.mono ?_
  rintro e w5 ⟨rfl, hj | ⟨_, _, h⟩⟩
  · obtain ⟨q, hq, hp⟩ := hj.bg
    obtain rfl : q = true := hp (List.prefix_refl _)
    have cg : w5.cell? ⟨w2.heap.size + 1 + 1, 0, none⟩ = some (.bool true) := hq.cell 0
    have ci : w5.cell? ⟨w2.heap.size + 1, 0, none⟩ = some (.int .i64 (rsS xs).length) := hj.bi.cell 0
    have cw : w5.cell? ⟨w2.heap.size, 0, none⟩ = some (.slice A2 (rsS xs).length c2) := hj.bw.cell 0
    have HO := Lib.hid hj.on
    have e1 : (((rsS xs).length : Int) == ((rsS xs).length : Int)) = true := by simp
    clear hq hp hj
    go_wp2_with fail
    go_ret
    exact ⟨rfl, HO.out⟩
  · exact h.elim
end Go.Proofs.Ytehieiddelngfaa.ins
