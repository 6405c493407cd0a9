/-
  Bits: slices.Values, Collect, Sorted of numbers.
-/
import Derived.Test.YtnjaadcbpkbjbaaDoorBtG
import Derived.Maps.AppendAt
namespace Go.Proofs.YtnjaadcbpkbjbaaDoor.bt
open Go.RowKit Go.Shelf Go.Sort Go.Proofs.YtnjaadcbpkbjbaaDoor.mem

attribute [local go_sem] Oper.semAt_some

abbrev eI : Int → Value := Value.int .i64

theorem values_any (w : World) (A : Option Addr) (n cap : Nat) :
    Calls Tryd.prog 34 #[.slice A n cap] w fun e w' => e = .returned (.func (.func 48) #[] #[.pointer (some ⟨w.heap.size, 0, none⟩)]) ∧ w' = w.alloc (.cells #[.slice A n cap] 27) := by
  go_enter Tryd.func34, Tryd.ntmps34
  go_wp2_with fail
  go_ret
  exact ⟨rfl, rfl⟩

set_option maxRecDepth 100000 in
set_option maxHeartbeats 1000000 in
theorem values1_in (n : Nat) (hn : 1 ≤ n) (l p n₀ : Nat) (A : Option Addr) (c : Nat) (xs : List Int) (hbig : xs.length ≤ 1000) (hdA : 0 < xs.length → ∀ g ∈ blk A, g < n₀) (J Jx : List Int → World → Prop)
    (hY : ∀ pre x W, J pre W → pre.length < xs.length → YieldAt Fence.wide (n - 1) Tryd.prog l #[eI x] W fun e W' =>
      (e = .returned (.bool true) ∧ J (pre ++ [x]) W' ∧ Below n₀ W W') ∨ (e = .returned (.bool false) ∧ Jx (pre ++ [x]) W'))
    (W : World) (hp : W.cell? ⟨p, 0, none⟩ = some (.slice A xs.length c)) (hA : Rd W A (xs.map eI)) (h0 : J [] W) :
    CallsIn Fence.wide n Tryd.prog 48 #[.func (.yield l) #[] #[], .pointer (some ⟨p, 0, none⟩)] W fun e W' => (∃ v, e = .returned v) ∧
      ((∃ ys, ys = xs ∧ J ys W') ∨ (∃ pre, pre <+: xs ∧ Jx pre W')) := by
  have HA := Lib.hid hA
  have HJ := Lib.hid h0
  have HB := Lib.hid (Below.refl n₀ W)
  clear hA h0
  refine callsIn_of_wp Tryd.func48 rfl trivial ?_ rfl
  simp only [Tryd.ntmps48, List.size_toArray, List.length_cons, List.length_nil, Nat.reduceAdd, Nat.reduceSub, Array.replicate_succ, Array.replicate_zero, List.push_toArray, List.append_toArray, List.nil_append, List.cons_append]
  gi_wp2
  gi_loopw [7] (fun i wr => ∃ k : Nat, k ≤ xs.length ∧ i = .int .i64 k ∧ Hid (J (xs.take k) wr) ∧ Hid (Below n₀ W wr)) (fun i _ => xs.length - (intOf i).toNat)
  case atStart => exact ⟨0, by omega, rfl, HJ, HB⟩
  case round =>
    obtain ⟨k, hk, rfl, hj, hb⟩ := hrel
    rename_i wr
    by_cases hkl : k < xs.length
    · have e1 : decide ((k : Int) < (xs.length : Int)) = true := decide_eq_true (by omega)
      obtain ⟨g, off, rfl, hg, hc⟩ := HA.out (by simpa using (by omega : 0 < xs.length))
      have k0 : wr.cell? ⟨g, off + k, none⟩ = some (eI xs[k]) := by
        rw [hb.out.cell (p := ⟨g, off + k, none⟩) (hdA (by omega) g (by simp [blk])), hc k (by simpa using hkl)]
        simp
      obtain ⟨fn, tmps, assign, body, hy, hR⟩ := hY (xs.take k) xs[k] wr hj.out (by rw [List.length_take]; omega)
      rw [← List.take_succ_eq_append_getElem hkl] at hR
      have hpre : Hid (xs.take (k + 1) <+: xs) := Lib.hid (List.take_prefix (k + 1) xs)
      have hkI : (k : Int) < (xs.length : Int) := by omega
      generalize xs[k] = y at *
      clear hc hj
      gi_wp2
      refine hR.mono ?_
      rintro e W3 (⟨rfl, hJ3, hk3⟩ | ⟨rfl, hJx3⟩)
      · have HJ3 := Lib.hid hJ3
        have HB3 := Lib.hid (hb.out.trans hk3)
        clear hJ3 hk3
        gi_wp2
        go_roundw
        case rel => exact ⟨k + 1, by omega, by go_num, HJ3, HB3⟩
        case measure => simp [intOf]; omega
      · have HJx3 := Lib.hid hJx3
        clear hJx3
        gi_wp2
        refine bodyPost_ret (results_none rfl _ _ _) rfl ?_
        exact ⟨⟨_, rfl⟩, .inr ⟨_, hpre.out, HJx3.out⟩⟩
    · obtain rfl : k = xs.length := by omega
      have e1 : decide ((xs.length : Int) < (xs.length : Int)) = false := decide_eq_false (by omega)
      have hj2 : Hid (J xs wr) := Lib.hid (by have := hj.out; rwa [List.take_length] at this)
      clear hj
      gi_wp2
      go_end0
      exact ⟨⟨_, rfl⟩, .inl ⟨_, rfl, hj2.out⟩⟩

theorem values_stops (n : Nat) (hn : 1 ≤ n) (n₀ p : Nat) (A : Option Addr) (c : Nat) (xs : List Int) (hbig : xs.length ≤ 1000) (w : World) (hn0 : n₀ ≤ w.heap.size) (hp : p < n₀) (hc : w.cell? ⟨p, 0, none⟩ = some (.slice A xs.length c)) (hA : Rd w A (xs.map eI)) (hdA : 0 < xs.length → ∀ g ∈ blk A, g < n₀) :
    SeqStopsK Fence.wide n Tryd.prog 48 #[.pointer (some ⟨p, 0, none⟩)] (fun x : Int => #[eI x]) (Below n₀) (fun ys => ys = xs) (fun pre => pre <+: xs) xs.length w := fun l J Jx W hW _ _ hY h0 =>
  values1_in n hn l p n₀ A c xs hbig hdA J Jx hY W ((hW.cell (p := ⟨p, 0, none⟩) (Nat.lt_of_lt_of_le hp hn0)).trans hc) (fun hz => by
    obtain ⟨g, off, rfl, hg, hx⟩ := hA hz
    have hz : 0 < xs.length := by simpa using hz
    exact ⟨g, off, rfl, Nat.lt_of_lt_of_le hg hW.size, fun j hj => (hW.cell (p := ⟨g, off + j, none⟩) (Nat.lt_of_lt_of_le (hdA (by omega) g (by simp [blk])) hn0)).trans (hx j hj)⟩) h0

/-- 'append' of one element of one cell, in a round -/
theorem wpListIn_push {F : Fence} {nF : Nat} {P : Program} {w : World} {ops : Array Oper} {rest : List Oper} {o : Oper} {a : Act} {Q : Exit → Act → World → Prop} (hgd : o.guard = none) (s x : Operand) (t : TypeId)
    (ho : o.op = .call { callee := .builtin .append, args := #[s, x], argTypes := #[t, t] }) {e : TypeId} {A : Option Addr} {cap n bytes : Nat} {xs : List Value} {i : TypeInfo} {z : Value} (h : Seg w e A cap xs) (hn : n = xs.length) (ht : P.underlying t = some (.slice e)) (hi : P.info? e = some i) (hz : i.zero = some z) (hs : i.size = 1) (hb : i.bytes = bytes) (hzs : z.cells.size = 1)
    {ad : Addr} {u : Value} (hes : a.eval s = .slice A n cap) (hex : a.eval x = .slice (some ad) 1 1) (hu : w.cell? ad = some u) (h1 : u.oneCell' = true) (h63 : n + 1 ≤ 9223372036854775807) (hby : (n + 1) * bytes ≤ 140737488355328)
    (hK : ∀ A' cap' w', Seg w' e A' cap' (xs ++ [u]) → Fr (blk A) w w' → (blk A' = blk A ∨ blk A' = [w.heap.size]) → wpListIn F nF P ops Q rest (a.put o.dst (.slice A' (n + 1) cap')) w') : wpListIn F nF P ops Q (o :: rest) a w := by
  subst hn
  refine wpListIn_plain hgd fun K hK' => ?_
  obtain ⟨A', cap', w', hr, h2, h3, h4⟩ := h.push (ty := o.type) ht hi hz hs hb hzs hu h1 h63 hby
  unfold Oper.wpIn
  refine ⟨by simp [Oper.about, ho, resolve, Target.leads, Sem.run_pure], ?_⟩
  rw [Oper.semAt_plain F _ _ (by rw [ho]; intro c hc'; cases hc')]
  simp [execOp, ho, resolve, invoke, builtin, hes, hex, hr, Result.andThen]
  exact hK' _ _ (hK A' cap' w' h2 h3 h4)

theorem seg_grown {W W' : World} {row : Option Nat} {e : TypeId} {A : Option Addr} {cap : Nat} {xs : List Value} (h : Seg W e A cap xs) (hg : W.grownBy W' row) (hr : ∀ r, row = some r → ∃ o : Obj, W.heap[r]? = some o ∧ o.isCells = false) : Seg W' e A cap xs := by
  refine ⟨h.1, h.2.1, h.2.2.1, fun a ha => ?_⟩
  obtain ⟨hs, cur, hc, r⟩ := h.2.2.2 a ha
  refine ⟨hs, cur, (hg.block _ (Array.getElem?_eq_some_iff.1 hc).1 (fun e => ?_)).trans hc, r⟩
  obtain ⟨o, ho, hn⟩ := hr _ e.symm
  rw [hc] at ho
  cases ho
  cases hn

theorem seg_cells {w : World} {e : TypeId} {A : Option Addr} {cap : Nat} {xs : List Value} (h : Seg w e A cap xs) : ∀ g ∈ blk A, ∃ o : Obj, w.heap[g]? = some o ∧ o.isCells = true := by
  intro g hg
  cases A with
  | none => cases hg
  | some a =>
    obtain ⟨_, cur, hc, _⟩ := h.2.2.2 a rfl
    simp only [blk, List.mem_singleton] at hg
    subst hg
    exact ⟨_, hc, rfl⟩

/-- between two rounds of AppendSeq -/
structure CI (w W : World) (A1 : Option Addr) (cap1 : Nat) (S : List Int) : Prop where
  bx : Box W w.heap.size 27 #[.slice A1 S.length cap1]
  sg : Seg W 3 A1 cap1 (S.map eI)
  own : ∀ g ∈ blk A1, w.heap.size ≤ g
  on : Below w.heap.size w W
theorem CI.grown {w W W' : World} {A1 : Option Addr} {cap1 : Nat} {S : List Int} {row : Option Nat} (h : CI w W A1 cap1 S) (hg : W.grownBy W' row) (hr : ∀ r, row = some r → w.heap.size ≤ r ∧ ∃ o : Obj, W.heap[r]? = some o ∧ o.isCells = false) : CI w W' A1 cap1 S :=
  ⟨box_grown h.bx hg (fun r e => (hr r e).2), seg_grown h.sg hg (fun r e => (hr r e).2), h.own, h.on.grown hg h.on.size (fun k e => (hr k e).1)⟩

theorem ci_add {w W w3 : World} {A1 A3 : Option Addr} {cap1 cap3 : Nat} {S : List Int} {x : Int} (hi : CI w W A1 cap1 S) {o : Obj} (hs3 : Seg w3 3 A3 cap3 (S.map eI ++ [eI x])) (f3 : Fr (blk A1) (W.alloc o) w3) (b3 : blk A3 = blk A1 ∨ blk A3 = [(W.alloc o).heap.size]) :
    (w3.cell? ⟨w.heap.size, 0, none⟩ = some (.slice A1 S.length cap1) ∧ w3.frozen? ⟨w.heap.size, 0, none⟩ = false) ∧ KeepsOthers W (w3.setCell ⟨w.heap.size, 0, none⟩ (.slice A3 (S.length + 1) cap3)) ∧ Below w.heap.size W (w3.setCell ⟨w.heap.size, 0, none⟩ (.slice A3 (S.length + 1) cap3)) ∧ CI w (w3.setCell ⟨w.heap.size, 0, none⟩ (.slice A3 (S.length + 1) cap3)) A3 cap3 (S ++ [x]) := by
  have hF : Fr (blk A1) W w3 := ((Fr.refl [] W).alloc o).trans f3 (by simp) (fun g hg => Or.inl hg)
  have n0 : w.heap.size ∉ blk A1 := hi.sg.ne_box hi.bx (by decide)
  have hb3 := hi.bx.kept hF n0
  have n3 : w.heap.size ∉ blk A3 := hs3.ne_box hb3 (by decide)
  have hset : Fr [w.heap.size] w3 (w3.setCell ⟨w.heap.size, 0, none⟩ (.slice A3 (S.length + 1) cap3)) := (Fr.refl _ w3).setCell (Or.inl (by simp)) _
  have hsw := hi.on.size
  have hB : Below w.heap.size W (w3.setCell ⟨w.heap.size, 0, none⟩ (.slice A3 (S.length + 1) cap3)) := (hF.below hi.own hsw).trans (hset.below (by simp) (Nat.le_trans hsw hF.size))
  refine ⟨⟨hb3.cell 0, hb3.free 0⟩, (keeps_fr hF (seg_cells hi.sg)).trans (KeepsOthers.setCell _ _ _), hB, ⟨?_, ?_, ?_, hi.on.trans hB⟩⟩
  · have := hb3.put 0 (.slice A3 (S.length + 1) cap3)
    rw [List.length_append, List.length_singleton]
    exact this
  · have := hs3.kept hset (fun g hg e => by rw [List.mem_singleton] at e; subst e; exact n3 hg)
    rw [List.map_append]
    exact this
  · intro g hg
    rcases b3 with e | e
    · exact hi.own g (e ▸ hg)
    · rw [e, List.mem_singleton] at hg
      subst hg
      simp
      omega

theorem info_i2 : (Tryd.prog.info? 3).map (fun i => (i.zero, i.size, i.bytes)) = some (some (.int .i64 0), 1, 8) := by kernel_rfl

/-- a new list of numbers -/
def NewL (w : World) (xs : List Int) (e : Ending) (w' : World) : Prop := ∃ A' cap', e = .returned (.slice A' xs.length cap') ∧ Below w.heap.size w w' ∧ Seg w' 3 A' cap' (xs.map eI) ∧ ∀ g ∈ blk A', w.heap.size ≤ g

set_option maxRecDepth 100000 in
set_option maxHeartbeats 2000000 in
theorem appendSeq_any (w : World) (p : Nat) (A : Option Addr) (c : Nat) (xs : List Int) (hbig : xs.length ≤ 1000) (hp : w.cell? ⟨p, 0, none⟩ = some (.slice A xs.length c)) (hpl : p < w.heap.size) (hA : Rd w A (xs.map eI)) (hdA : 0 < xs.length → ∀ g ∈ blk A, g < w.heap.size) :
    Calls Tryd.prog 52 #[.slice none 0 0, .func (.func 48) #[] #[.pointer (some ⟨p, 0, none⟩)]] w (NewL w xs) := by
  have hb1 : Below w.heap.size w (w.alloc (.cells #[.slice none 0 0] 27)) := (Below.refl _ w).alloc (Nat.le_refl _) _
  have h0 : CI w (w.alloc (.cells #[.slice none 0 0] 27)) none 0 [] := ⟨Box.new w _ _, Seg.nil _ _, by simp [blk], hb1⟩
  refine (callsIn_wide (n := 6)).1 ?_
  refine callsIn_of_wp_marks Tryd.func52 rfl trivial ?_ rfl
  simp only [Tryd.ntmps52, List.size_toArray, List.length_cons, List.length_nil, Nat.reduceAdd, Nat.reduceSub, Array.replicate_succ, Array.replicate_zero, List.push_toArray, List.append_toArray, List.nil_append, List.cons_append]
  gi_wp2
  refine wpIn_rangeFunc_ownF (F := Fence.wide) rfl (by omega) (gf := 48) (lb := #[.pointer (some ⟨p, 0, none⟩)]) rfl trivial (enters_of Tryd.func48 (by kernel_rfl) rfl)
    (values_stops _ (by omega) w.heap.size p A c xs hbig _ (by simp) hpl ((hb1.cell (p := ⟨p, 0, none⟩) hpl).trans hp) (hA.below hb1) hdA) (fun h k => belowK_t h k) (fun W l o o' a b c d => belowK_b (by simp) W l o o' a b c d) (Below.refl _ _) (fun _ => rfl)
    (fun pre W => ∃ A1 cap1, CI w W A1 cap1 pre)
    (fun _ _ _ => False)
    (fun s W W' row hs hg hr => by
      obtain ⟨A1, cap1, h1⟩ := hs
      exact ⟨A1, cap1, h1.grown hg (fun r e => ⟨by have := (hr r e).1; simp at this; omega, (hr r e).2⟩)⟩)
    (fun _ _ _ _ _ hs _ _ => hs)
    ⟨none, 0, h0⟩
    (fun x => { tmps := #[.slice none 0 0, .func (.func 48) #[] #[.pointer (some ⟨p, 0, none⟩)], .pointer (some ⟨w.heap.size, 0, none⟩), undef, .slice none 0 0, eI x, .func (.func 48) #[] #[.pointer (some ⟨p, 0, none⟩)], eI x, undef, undef, undef, undef, undef], defers := [] }) ?assign ?body ?done ?stop
  case assign =>
    intro l x W K hK
    gi_wp2
    exact hK
  case body =>
    rintro l pre x W ⟨A1, cap1, hi⟩ hlt
    have HI := Lib.hid hi
    have c0 : W.cell? ⟨w.heap.size, 0, none⟩ = some (.slice A1 pre.length cap1) := hi.bx.cell 0
    obtain ⟨i0, hi0, hz0, hz1, hz2⟩ := info_parts info_i2
    have Hi := Lib.hid hi0
    have Hz0 := Lib.hid hz0
    have Hz1 := Lib.hid hz1
    have Hz2 := Lib.hid hz2
    have hlen : Hid (pre.length = (pre.map eI).length) := Lib.hid (by simp)
    clear hi hi0 hz0 hz1 hz2 h0 hb1 hp hA hdA
    refine wpIn_block ?_
    gi_wp2_with (gi_at_builtin
                 refine wpListIn_push rfl (.tmp 8) (.tmp 10) _ rfl (HI.out.sg.alloc _) hlen.out Tryd.underlying27 Hi.out Hz0.out Hz1.out Hz2.out rfl rfl rfl (new_cell _ _ _) rfl (by omega) (by omega) ?_
                 intro A3 cap3 w3 hs3 f3 b3
                 have hga := Lib.hid (ci_add HI.out hs3 f3 b3)
                 have c4 := hga.out.1.1
                 have f4 := hga.out.1.2)
    exact ⟨hga.out.2.1, hga.out.2.2.1, A3, cap3, hga.out.2.2.2⟩
  case done =>
    rintro D ys W hD rfl ⟨A1, cap1, hi⟩ hK
    have cb : W.cell? ⟨w.heap.size, 0, none⟩ = some (.slice A1 ys.length cap1) := hi.bx.cell 0
    gi_wp2
    refine ⟨by simp, .inl ⟨_, _, rfl, run_takeDeferred hK, ?_⟩⟩
    have hw := hi.grown (grownBy_putObj' W D (.deferred none)) (fun r e => by cases e; exact ⟨by simp at hD; omega, _, hK, rfl⟩)
    exact ⟨_, results_tmp rfl _ _ _, A1, cap1, rfl, hw.on, hw.sg, hw.own⟩
  case stop =>
    rintro D c pre W hD _ h _
    exact h.elim

set_option maxRecDepth 100000 in
theorem collect_any (w : World) (p : Nat) (A : Option Addr) (c : Nat) (xs : List Int) (hbig : xs.length ≤ 1000) (hp : w.cell? ⟨p, 0, none⟩ = some (.slice A xs.length c)) (hpl : p < w.heap.size) (hA : Rd w A (xs.map eI)) (hdA : 0 < xs.length → ∀ g ∈ blk A, g < w.heap.size) :
    Calls Tryd.prog 46 #[.func (.func 48) #[] #[.pointer (some ⟨p, 0, none⟩)]] w (NewL w xs) := by
  have K := Lib.hid (appendSeq_any w p A c xs hbig hp hpl hA hdA)
  clear hp hA hdA hpl
  go_enter Tryd.func46, Tryd.ntmps46
  go_wp2_with fail
  refine K.out.mono ?_
  rintro e w2 ⟨A2, c2, rfl, h2⟩
  have H2 := Lib.hid h2
  clear h2
  go_wp2_with fail
  go_ret
  exact ⟨A2, c2, rfl, H2.out⟩
end Go.Proofs.YtnjaadcbpkbjbaaDoor.bt
