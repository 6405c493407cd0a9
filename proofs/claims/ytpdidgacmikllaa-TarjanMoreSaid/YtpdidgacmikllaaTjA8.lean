/-
  tarjan: what the laws begin with: edges taken over, what is great, whether it works.
-/
import Derived.Test.YtpdidgacmikllaaTjA7
import Derived.Test.YtpdidgacmikllaaRow
namespace Go.Proofs.Ytpdidgacmikllaa.tj
open Go.RowKit Go.Proofs.Ytpdidgacmikllaa.mem

theorem step_row {P : Program} {sz : Nat} {w : World} {ops : Array Oper} {o : Oper} {a : Act} {K : Act → World → Prop} {Q : Exit → Act → World → Prop} {E : Prop} (hgd : o.guard = none) (s x : Operand) (t : TypeId)
    (ho : o.op = .call { callee := .builtin .append, args := #[s, x], argTypes := #[t, t] }) {e : TypeId} {A : Option Addr} {cap n bytes : Nat} {cs us : List Value} {i : TypeInfo} {z : Value} (h : Sg sz w e A cap n cs) (ht : P.underlying t = some (.slice e)) (hi : P.info? e = some i) (hz : i.zero = some z) (hs : i.size = sz) (hb : i.bytes = bytes) (hzs : z.cells.size = sz)
    {ad : Addr} (hes : a.eval s = .slice A n cap) (hex : a.eval x = .slice (some ad) 1 1) (hl : us.length = sz) (hu : ∀ j v, us[j]? = some v → w.cell? (ad.add j) = some v) (h1 : ∀ u ∈ us, u.oneCell' = true) (h63 : n + 1 ≤ 9223372036854775807) (hby : (n + 1) * bytes ≤ 140737488355328)
    (hK : ∀ A' cap' w', Sg sz w' e A' cap' (n + 1) (cs ++ us) → Fr (blk A) w w' → (blk A' = blk A ∨ blk A' = [w.heap.size]) → K (a.put o.dst (.slice A' (n + 1) cap')) w') :
    if Region.wanted o (yielded ops a.tmps) = true then Oper.wp P o a w K Q else E := by
  have hw : Region.wanted o (yielded ops a.tmps) = true := by simp [Region.wanted, hgd]
  rw [if_pos hw]
  obtain ⟨A', cap', w', hr, h2, h3, h4⟩ := h.push (ty := o.type) ht hi hz hs hb hzs hl hu h1 h63 hby
  unfold Oper.wp execOp
  simp only [ho, resolve, invoke, builtin, Sem.run_bind, Sem.run_pure, Result.andThen_ok, List.map_toArray, List.map_cons, List.map_nil, hes, hex, hr]
  exact hK A' cap' w' h2 h3 h4

theorem sg_drew {sz : Nat} {w : World} {e : TypeId} {A : Option Addr} {cap n : Nat} {cs : List Value} (h : Sg sz w e A cap n cs) : Sg sz w.drew e A cap n cs := ⟨h.len, h.le, h.max, h.nil, h.ex⟩

theorem two_cells (w : World) (t : TypeId) (x y : Value) : ∀ (j : Nat) (v : Value), [x, y][j]? = some v → (w.alloc (.cells #[x, y] t)).cell? ((⟨w.heap.size, 0, none⟩ : Addr).add j) = some v := by
  intro j v h
  have e1 : (⟨w.heap.size, 0, none⟩ : Addr).add j = ⟨w.heap.size, j, none⟩ := by unfold Addr.add; split <;> simp_all
  rw [e1, (Box.new w t #[x, y]).cell j]
  simpa using h

def fe (l : List (Int × Int)) : List Value := l.flatMap fun e => [.int .i64 e.1, .int .i64 e.2]
theorem fe_len (l : List (Int × Int)) : (fe l).length = l.length * 2 := by
  unfold fe
  induction l with
  | nil => rfl
  | cons x r ih => rw [List.flatMap_cons, List.length_append, ih]; simp; omega
theorem fe_snoc (l : List (Int × Int)) (e : Int × Int) : fe (l ++ [e]) = fe l ++ [.int .i64 e.1, .int .i64 e.2] := by simp [fe]
theorem fe_at : ∀ (l : List (Int × Int)) (j : Nat) (hj : j < l.length), (fe l)[j * 2]? = some (.int .i64 l[j].1) ∧ (fe l)[j * 2 + 1]? = some (.int .i64 l[j].2)
  | [], j, hj => by simp at hj
  | e :: r, 0, _ => by simp [fe]
  | e :: r, j + 1, hj => by
    have h := fe_at r j (by simpa using hj)
    have e1 : fe (e :: r) = .int .i64 e.1 :: .int .i64 e.2 :: fe r := by simp [fe]
    rw [e1, show (j + 1) * 2 = j * 2 + 1 + 1 by omega]
    simpa using h

theorem info_edge : (Try.prog.info? 45).map (fun i => (i.zero, i.size, i.bytes)) = some (some (.agg #[.int .i64 0, .int .i64 0]), 2, 16) := by kernel_rfl

structure EA (w W : World) (l : List (Int × Int)) (k : Nat) (B : Option Addr) (c : Nat) : Prop where
  sg : Sg 2 W 45 B c k (fe (l.take k))
  ge : ∀ x ∈ blk B, w.heap.size ≤ x
  on : Below w.heap.size w W

theorem EA.eds {w W : World} {l : List (Int × Int)} {B : Option Addr} {c : Nat} (h : EA w W l l.length B c) : Eds W B l := fun hz => by
  have hs := h.sg
  rw [List.take_length] at hs
  obtain ⟨g, off, e, hl, hc⟩ := hs.rd (by omega) (by rw [fe_len]; omega)
  refine ⟨g, off, e, hl, fun j hj => ?_⟩
  obtain ⟨h1, h2⟩ := fe_at l j hj
  have l1 : j * 2 < (fe l).length := by rw [fe_len]; omega
  have l2 : j * 2 + 1 < (fe l).length := by rw [fe_len]; omega
  rw [List.getElem?_eq_getElem l1] at h1
  rw [List.getElem?_eq_getElem l2] at h2
  have c1 := hc (j * 2) l1
  have c2 := hc (j * 2 + 1) l2
  rw [Option.some.inj h1] at c1
  rw [Option.some.inj h2] at c2
  exact ⟨c1, by rw [Nat.add_assoc]; exact c2⟩

def EdPost (w : World) (l : List (Int × Int)) (n : Nat) (e : Ending) (W : World) : Prop := ∃ B c, e = .returned (.slice B n c) ∧ Eds W B l ∧ (∀ x ∈ blk B, w.heap.size ≤ x) ∧ Below w.heap.size w W

set_option maxRecDepth 100000 in
set_option maxHeartbeats 2000000 in
theorem edges_any (A : Option Addr) (cap : Nat) (l : List (Int × Int)) (hl : l.length ≤ 1000) (w : World) (h : Eds w A l) :
    Calls Try.prog 11 #[.slice A l.length cap] w (EdPost w l l.length) := by
  obtain ⟨n, hn⟩ : ∃ n, Hid (l.length = n) := ⟨_, Lib.hid rfl⟩
  have hnb : n ≤ 1000 := by rw [← hn.out]; exact hl
  have H := Lib.hid h
  rw [hn.out]
  have hE0 : Hid (EA w w l 0 none 0) := Lib.hid ⟨Sg.new _ _ _, fun x hx => (by cases hx), Below.refl _ _⟩
  obtain ⟨i0, hi0, hz0, hz1, hz2⟩ := info_parts info_edge
  have Hi := Lib.hid hi0
  have Hz0 := Lib.hid hz0
  have Hz1 := Lib.hid hz1
  have Hz2 := Lib.hid hz2
  clear h hl hi0 hz0 hz1 hz2
  go_enter Try.func11, Try.ntmps11
  go_wp2_with fail
  go_loopw [3, 4] (fun s i wr => ∃ (k : Nat) (B : Option Addr) (c : Nat), k ≤ n ∧ i = .int .i64 k ∧ s = .slice B k c ∧ Hid (EA w wr l k B c)) (fun _ i _ => n - (intOf i).toNat)
  case atStart => exact ⟨0, none, 0, by omega, rfl, rfl, hE0⟩
  case round =>
    obtain ⟨k, B, c, hk, rfl, rfl, hE⟩ := hrel
    clear hE0
    rename World => wr
    by_cases hkn : k < n
    · have d1 : decide ((k : Int) < (n : Int)) = true := decide_eq_true (by omega)
      have hkI : (k : Int) < (n : Int) := by omega
      have hkl : k < l.length := by rw [hn.out]; exact hkn
      obtain ⟨b, off, rfl, hlt, hcell⟩ := H.out (by omega)
      obtain ⟨ca0, cb0⟩ := hcell k hkl
      have ca := (hE.out.on.cell (p := ⟨b, off + k * 2, none⟩) hlt).trans ca0
      have cb := (hE.out.on.cell (p := ⟨b, off + k * 2 + 1, none⟩) hlt).trans cb0
      have hts := Lib.hid (List.take_succ_eq_append_getElem hkl)
      clear hcell ca0 cb0 hlt
      generalize l[k] = pk at *
      clear hkl
      obtain ⟨x, y⟩ := pk
      simp only at ca cb
      have h63 : k + 1 ≤ 9223372036854775807 := by omega
      have hby : (k + 1) * 16 ≤ 140737488355328 := by omega
      go_wp2_with fail
      go_region_law
        ((refine step_row (us := [.int .i64 x, .int .i64 y]) (by rfl) (.tmp 11) (.tmp 23) _ (by rfl) ((sg_drew hE.out.sg).alloc _) Try.underlying27 Hi.out Hz0.out Hz1.out Hz2.out rfl (by rfl) (by rfl) rfl (two_cells _ _ _ _) (by simp [Value.oneCell']) h63 hby ?_; intro A2 cap2 w2 hs2 f2 hb2))
      all_goals
        have f6 : Fr (blk B) wr w2 := (((Fr.refl [] wr).drew).alloc _).trans f2 (by simp) (fun g hg => Or.inl hg)
        have hE2 : Hid (EA w w2 l (k + 1) A2 cap2) := Lib.hid ⟨by rw [hts.out, fe_snoc]; exact hs2, fun z hz => by
          rcases hb2 with e | e
          · exact hE.out.ge z (e ▸ hz)
          · rw [e, List.mem_singleton] at hz
            subst hz
            have := hE.out.on.size
            simp [World.drew]; omega, hE.out.on.trans (f6.below hE.out.ge hE.out.on.size)⟩
        clear hs2 f2 hb2 f6 hE ca cb
        go_wp2_with fail
        go_roundw
        case rel => exact ⟨k + 1, A2, cap2, by omega, by go_num, rfl, hE2⟩
        case measure => simp [intOf]; omega
    · obtain rfl : k = n := by omega
      have d1 : decide ((k : Int) < (k : Int)) = false := decide_eq_false (by omega)
      have fin : Hid (EdPost w l k (.returned (.slice B k c)) wr) := Lib.hid ⟨B, c, rfl, by have := hE.out; rw [← hn.out] at this; exact this.eds, hE.out.ge, hE.out.on⟩
      clear hE
      go_wp2_with fail
      go_ret
      exact fin.out

/-- let go -/
def grB (n : Int) (l : List (Int × Int)) : Bool := (decide (60 < n) && decide (n ≤ 20000)) || decide (200 < l.length)

def GrPost (n : Int) (l : List (Int × Int)) (w : World) (e : Ending) (W : World) : Prop := e = .returned (.bool (grB n l)) ∧ w = W

set_option maxRecDepth 100000 in
theorem great_any (n : Int) (A : Option Addr) (cap : Nat) (l : List (Int × Int)) (w : World) :
    Calls Try.prog 8 #[.int .i64 n, .slice A l.length cap] w (GrPost n l w) := by
  have fin : Hid (∀ b, grB n l = b → GrPost n l w (.returned (.bool b)) w) := Lib.hid (fun b h => ⟨by rw [h], rfl⟩)
  obtain ⟨m, hm⟩ : ∃ m, Hid (l.length = m) := ⟨_, Lib.hid rfl⟩
  have hg : Hid (grB n l = ((decide (60 < n) && decide (n ≤ 20000)) || decide (200 < m))) := Lib.hid (by unfold grB; rw [hm.out])
  rw [hm.out]
  by_cases h1 : 60 < n
  · by_cases h2 : n ≤ 20000
    · have f := Lib.hid (fin.out true (by rw [hg.out]; simp [h1, h2]))
      clear fin hg
      go_enter Try.func8, Try.ntmps8
      go_wp2_with fail
      go_ret
      exact f.out
    · by_cases h3 : 200 < m
      · have f := Lib.hid (fin.out true (by rw [hg.out]; simp [h3]))
        have d3 : decide ((200 : Int) < (m : Int)) = true := decide_eq_true (by omega)
        clear fin hg
        go_enter Try.func8, Try.ntmps8
        go_wp2_with fail
        go_ret
        exact f.out
      · have f := Lib.hid (fin.out false (by rw [hg.out]; simp [h2, h3]))
        have d3 : decide ((200 : Int) < (m : Int)) = false := decide_eq_false (by omega)
        clear fin hg
        go_enter Try.func8, Try.ntmps8
        go_wp2_with fail
        go_ret
        exact f.out
  · by_cases h3 : 200 < m
    · have f := Lib.hid (fin.out true (by rw [hg.out]; simp [h3]))
      have d3 : decide ((200 : Int) < (m : Int)) = true := decide_eq_true (by omega)
      clear fin hg
      go_enter Try.func8, Try.ntmps8
      go_wp2_with fail
      go_ret
      exact f.out
    · have f := Lib.hid (fin.out false (by rw [hg.out]; simp [h1, h3]))
      have d3 : decide ((200 : Int) < (m : Int)) = false := decide_eq_false (by omega)
      clear fin hg
      go_enter Try.func8, Try.ntmps8
      go_wp2_with fail
      go_ret
      exact f.out

def wk : List (Int × Int) := [(0, 1), (1, 2), (2, 1), (3, 0)]
theorem wk_parts : (gof 4 wk).parts = [[1, 2], [0], [3]] := by decide

theorem wk_eds (w : World) : Eds (w.alloc (.cells #[.int .i64 0, .int .i64 1, .int .i64 1, .int .i64 2, .int .i64 2, .int .i64 1, .int .i64 3, .int .i64 0] 45)) (some ⟨w.heap.size, 0, none⟩) wk := fun _ => by
  refine ⟨w.heap.size, 0, rfl, by simp, fun j hj => ?_⟩
  have hb := Box.new w 45 #[.int .i64 0, .int .i64 1, .int .i64 1, .int .i64 2, .int .i64 2, .int .i64 1, .int .i64 3, .int .i64 0]
  have hj : j < 4 := hj
  rw [hb.cell, hb.cell]
  rcases j with _ | _ | _ | _ | j
  · exact ⟨rfl, rfl⟩
  · exact ⟨rfl, rfl⟩
  · exact ⟨rfl, rfl⟩
  · exact ⟨rfl, rfl⟩
  · omega

set_option maxRecDepth 100000 in
theorem works_any (w : World) : Calls Try.prog 15 #[] w (SaPost true w) := by
  have K := parts_any 4 (by omega) (some ⟨w.heap.size, 0, none⟩) 4 wk (by simp [wk]) _ (wk_eds w)
  rw [wk_parts] at K
  have K := Lib.hid (show Calls Try.prog 10 #[.int .i64 4, .slice (some ⟨w.heap.size, 0, none⟩) 4 4] _ _ from K)
  have hB : Hid (Below w.heap.size w (w.alloc (.cells #[.int .i64 0, .int .i64 1, .int .i64 1, .int .i64 2, .int .i64 2, .int .i64 1, .int .i64 3, .int .i64 0] 45))) := Lib.hid ((Below.refl _ _).alloc (Nat.le_refl _) _)
  go_enter Try.func15, Try.ntmps15
  go_wp2_with fail
  refine K.out.mono ?_
  rintro e w2 ⟨A, c, rows, rfl, hx, hs, hr, hb⟩
  obtain ⟨r0, r1, r2, rfl⟩ : ∃ r0 r1 r2, rows = [r0, r1, r2] := by
    have hl := congrArg List.length hx
    rw [List.length_map] at hl
    rcases rows with _ | ⟨r0, _ | ⟨r1, _ | ⟨r2, _ | ⟨r3, t⟩⟩⟩⟩
    · simp at hl
    · simp at hl
    · simp at hl
    · exact ⟨r0, r1, r2, rfl⟩
    · simp at hl
  have e0 : r0.xs = [1, 2] := by simp at hx; exact hx.1
  have e2 : r2.xs = [3] := by simp at hx; exact hx.2.2
  obtain ⟨g, off, rfl, _, hc⟩ := hs.at_ (by simp)
  have c0 : w2.cell? ⟨g, off, none⟩ = some (.slice r0.A 2 r0.cap) := by have := hc 0 (by simp); simpa [hdr, e0] using this
  have c2 : w2.cell? ⟨g, off + 2, none⟩ = some (.slice r2.A 1 r2.cap) := by have := hc 2 (by simp); simpa [hdr, e2] using this
  obtain ⟨g0, o0, ea, _, h0⟩ := rd_cells (hr r0 (by simp)) (by rw [e0]; simp)
  obtain ⟨g2, o2, eb, _, h2⟩ := rd_cells (hr r2 (by simp)) (by rw [e2]; simp)
  rw [ea] at c0
  rw [eb] at c2
  have d0 : w2.cell? ⟨g0, o0, none⟩ = some (.int .i64 1) := by have := h0 0 (by rw [e0]; simp); simpa [e0] using this
  have d2 : w2.cell? ⟨g2, o2, none⟩ = some (.int .i64 3) := by have := h2 0 (by rw [e2]; simp); simpa [e2] using this
  have fin : Hid (SaPost true w (.returned (.bool true)) w2) := Lib.hid ⟨rfl, hB.out.trans (hb.mono hB.out.size)⟩
  clear hx hs hr hb hc h0 h2 ea eb e0 e2 K hB
  go_wp2_with fail
  go_ret
  exact fin.out
end Go.Proofs.Ytpdidgacmikllaa.tj
