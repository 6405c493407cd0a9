import Derived.Test.YtohdcmmkbblhkaaGreatDoorUTjP
import Derived.Test.YtohdcmmkbblhkaaGreatDoorV13
import Derived.Test.YtohdcmmkbblhkaaGreatDoorV18
import Derived.Deep.RegionLaw
import Derived.StillTailTactics
import Derived.Deep.QuietTactic
import Derived.BigQuiet
/-
  tarjan: a heap in memory: what its own methods do.
-/
set_option linter.all false
namespace Go.Proofs.YtohdcmmkbblhkaaGreatDoor.tj
open Go.RowKit Go.Proofs.YtohdcmmkbblhkaaGreatDoor.mem

theorem seg_put {w : World} {e : TypeId} {g off cap : Nat} {xs : List Value} (h : Seg w e (some ⟨g, off, none⟩) cap xs) {i : Nat} (hi : i < xs.length) (u : Value) : Seg (w.setCell ⟨g, off + i, none⟩ u) e (some ⟨g, off, none⟩) cap (xs.set i u) := by
  obtain ⟨_, cur, hc, hsz, hx⟩ := h.2.2.2 _ rfl
  have hsz : off + cap ≤ cur.size := hsz
  have hl := h.1
  refine ⟨by simpa using hl, h.2.1, fun hn => (by cases hn), fun a ha => ?_⟩
  cases ha
  refine ⟨rfl, cur.setIfInBounds (off + i) u, ?_, by simpa using hsz, fun j v hv => ?_⟩
  · show ((w.setCell ⟨g, off + i, none⟩ u).heap[g]?) = _
    simp [World.setCell, Array.getElem?_modify, show w.heap[g]? = _ from hc]
  · show (cur.setIfInBounds (off + i) u)[off + j]? = some v
    rw [Array.getElem?_setIfInBounds]
    rw [List.getElem?_set] at hv
    by_cases e1 : i = j
    · subst e1
      rw [if_pos rfl, if_pos hi] at hv
      rw [if_pos rfl, if_pos (by omega)]
      exact hv
    · rw [if_neg e1] at hv
      rw [if_neg (by omega)]
      exact hx j v hv

theorem natI_set (xs : List Nat) (i v : Nat) : (natI xs).set i (.int .i64 (v : Nat)) = natI (xs.set i v) := by simp [natI, List.map_set]
theorem natI_gd {xs : List Nat} {i : Nat} (h : i < xs.length) : (natI xs)[i]'(by rw [natI_len]; exact h) = .int .i64 ((gd xs i : Nat) : Int) := by simp [natI, gd, h]

theorem seg_has {w : World} {e : TypeId} {g off cap : Nat} {xs : List Value} (h : Seg w e (some ⟨g, off, none⟩) cap xs) {i : Nat} (hi : i < xs.length) : ∃ v, w.cell? ⟨g, off + i, none⟩ = some v := by
  obtain ⟨g', off', e', _, hc⟩ := h.at_ (by omega)
  cases e'
  exact ⟨_, hc i hi⟩

/-- a heap's numbers in memory -/
structure LH (W : World) (h : Nat) (A : Option Addr) (c : Nat) (xs : List Nat) : Prop where
  bx : Box W h 127 #[.slice A xs.length c]
  sq : Seg W 3 A c (natI xs)

theorem LH.ne {W : World} {h : Nat} {A : Option Addr} {c : Nat} {xs : List Nat} (k : LH W h A c xs) : h ∉ blk A := k.sq.ne_box k.bx (by decide)
theorem LH.kept {W W' : World} {h : Nat} {A : Option Addr} {c : Nat} {xs : List Nat} (k : LH W h A c xs) {F : List Nat} (hf : Fr F W W') (h1 : h ∉ F) (h2 : ∀ g ∈ blk A, g ∉ F) : LH W' h A c xs := ⟨k.bx.kept hf h1, k.sq.kept hf h2⟩
theorem LH.below {W W' : World} {h : Nat} {A : Option Addr} {c : Nat} {xs : List Nat} (k : LH W h A c xs) (hb : Below W.heap.size W W') : LH W' h A c xs := k.kept (Fr.of_below hb []) (by simp) (by simp)

/-- what a change of a heap leaves -/
def HP (W W' : World) (h : Nat) (A : Option Addr) (ys : List Nat) : Prop := ∃ A' c', LH W' h A' c' ys ∧ Fr (h :: blk A) W W' ∧ ∀ g ∈ blk A', g ∈ blk A ∨ W.heap.size ≤ g

theorem seg_sw {W : World} {g off c : Nat} {xs : List Nat} (hs : Seg W 3 (some ⟨g, off, none⟩) c (natI xs)) {i j : Nat} (hi : i < xs.length) (hj : j < xs.length) : Seg ((W.setCell ⟨g, off + i, none⟩ (.int .i64 ((gd xs j : Nat) : Int))).setCell ⟨g, off + j, none⟩ (.int .i64 ((gd xs i : Nat) : Int))) 3 (some ⟨g, off, none⟩) c (natI (sw xs i j)) := by
  have h1 := seg_put hs (i := i) (by rw [natI_len]; exact hi) (.int .i64 ((gd xs j : Nat) : Int))
  rw [natI_set] at h1
  have h2 := seg_put h1 (i := j) (by rw [natI_len]; simpa using hj) (.int .i64 ((gd xs i : Nat) : Int))
  rw [natI_set] at h2
  exact h2

set_option maxRecDepth 100000 in
theorem less_any (W : World) (A : Option Addr) (c : Nat) (xs : List Nat) (hs : Seg W 3 A c (natI xs)) (i j : Nat) (hi : i < xs.length) (hj : j < xs.length) :
    Calls Tryz.prog 160 #[.slice A xs.length c, .int .i64 (i : Nat), .int .i64 (j : Nat)] W fun e W' => e = .returned (.bool (decide (gd xs i < gd xs j))) ∧ Below W.heap.size W W' := by
  obtain ⟨g, off, rfl, hlt, hc⟩ := hs.at_ (by rw [natI_len]; omega)
  have ci : W.cell? ⟨g, off + i, none⟩ = some (.int .i64 ((gd xs i : Nat) : Int)) := by rw [hc i (by rw [natI_len]; exact hi), natI_gd hi]
  have cj : W.cell? ⟨g, off + j, none⟩ = some (.int .i64 ((gd xs j : Nat) : Int)) := by rw [hc j (by rw [natI_len]; exact hj), natI_gd hj]
  have hr := Lib.hid (show decide (((gd xs i : Nat) : Int) < ((gd xs j : Nat) : Int)) = decide (gd xs i < gd xs j) by by_cases h : gd xs i < gd xs j <;> simp [h])
  obtain ⟨n, hn⟩ : ∃ n, n = xs.length := ⟨_, rfl⟩
  rw [← hn] at hi hj ⊢
  have hiI : (i : Int) < (n : Int) := by omega
  have hjI : (j : Int) < (n : Int) := by omega
  clear hc hs hn
  generalize gd xs i = a at *
  generalize gd xs j = b at *
  go_enter Tryz.func160, Tryz.ntmps160
  go_wp2_with fail
  go_region
  go_wp2_with fail
  go_ret
  exact ⟨rfl, ((Fr.refl [] W).drew).all⟩

set_option maxRecDepth 100000 in
theorem swap_any (W : World) (h : Nat) (A : Option Addr) (c : Nat) (xs : List Nat) (hs : LH W h A c xs) (i j : Nat) (hi : i < xs.length) (hj : j < xs.length) :
    Calls Tryz.prog 164 #[.slice A xs.length c, .int .i64 (i : Nat), .int .i64 (j : Nat)] W fun e W' => e = .returned (.tuple #[]) ∧ LH W' h A c (sw xs i j) ∧ Fr (blk A) W W' := by
  obtain ⟨g, off, rfl, hlt, hc⟩ := hs.sq.at_ (by rw [natI_len]; omega)
  have ci : W.cell? ⟨g, off + i, none⟩ = some (.int .i64 ((gd xs i : Nat) : Int)) := by rw [hc i (by rw [natI_len]; exact hi), natI_gd hi]
  have cj : W.cell? ⟨g, off + j, none⟩ = some (.int .i64 ((gd xs j : Nat) : Int)) := by rw [hc j (by rw [natI_len]; exact hj), natI_gd hj]
  have fi := hs.sq.free (off + i)
  have fj := hs.sq.free (off + j)
  obtain ⟨vj, sj⟩ := seg_has (seg_put hs.sq (i := i) (by rw [natI_len]; exact hi) (.int .i64 ((gd xs j : Nat) : Int))) (i := j) (by rw [List.length_set, natI_len]; exact hj)
  have H := Lib.hid hs
  have HIJ := Lib.hid (And.intro hi hj)
  obtain ⟨n, hn⟩ : ∃ n, n = xs.length := ⟨_, rfl⟩
  rw [← hn] at hi hj ⊢
  have hiI : (i : Int) < (n : Int) := by omega
  have hjI : (j : Int) < (n : Int) := by omega
  have HN := Lib.hid hn
  have hh : h ∉ [g] := hs.ne
  have HH := Lib.hid hh
  have fin : Hid (LH ((W.setCell ⟨g, off + i, none⟩ (.int .i64 ((gd xs j : Nat) : Int))).setCell ⟨g, off + j, none⟩ (.int .i64 ((gd xs i : Nat) : Int))).drew h (some ⟨g, off, none⟩) c (sw xs i j) ∧ Fr [g] W ((W.setCell ⟨g, off + i, none⟩ (.int .i64 ((gd xs j : Nat) : Int))).setCell ⟨g, off + j, none⟩ (.int .i64 ((gd xs i : Nat) : Int))).drew) := Lib.hid (by
    have hf : Fr [g] W ((W.setCell ⟨g, off + i, none⟩ (.int .i64 ((gd xs j : Nat) : Int))).setCell ⟨g, off + j, none⟩ (.int .i64 ((gd xs i : Nat) : Int))).drew := ((((Fr.refl [g] W).setCell (p := ⟨g, off + i, none⟩) (Or.inl (by simp)) _).setCell (p := ⟨g, off + j, none⟩) (Or.inl (by simp)) _).drew)
    refine ⟨⟨?_, (seg_sw H.out.sq HIJ.out.1 HIJ.out.2).drew⟩, hf⟩
    rw [sw_len]
    exact H.out.bx.kept hf HH.out)
  clear hc hs hn hh
  generalize gd xs i = a at *
  generalize gd xs j = b at *
  go_enter Tryz.func164, Tryz.ntmps164
  go_region
  go_end0
  exact ⟨rfl, fin.out⟩

theorem len_any (W : World) (A : Option Addr) (c n : Nat) :
    Calls Tryz.prog 80 #[.slice A n c] W fun e W' => e = .returned (.int .i64 (n : Nat)) ∧ W' = W := by
  go_enter Tryz.func80, Tryz.ntmps80
  go_wp2_with fail
  go_ret
  exact ⟨rfl, rfl⟩

theorem hp_store {W W1 : World} {h : Nat} {A A' : Option Addr} {c' : Nat} {ys : List Nat} (hb : h < W.heap.size) {cs : Array Value} (hx : Box W1 h 127 cs) (hz : cs.size = 1) (hs : Seg W1 3 A' c' (natI ys)) (hf : Fr (blk A) W W1) (hg : ∀ g ∈ blk A', g ∈ blk A ∨ W.heap.size ≤ g) (n : Nat) (hn : n = ys.length) : HP W (W1.setCell ⟨h, 0, none⟩ (.slice A' n c')) h A ys := by
  subst hn
  have hne : h ∉ blk A' := hs.ne_box hx (by decide)
  have hf2 : Fr [h] W1 (W1.setCell ⟨h, 0, none⟩ (.slice A' ys.length c')) := (Fr.refl _ _).setCell (Or.inl (by simp)) _
  refine ⟨A', c', ⟨?_, hs.kept hf2 (fun g hg' e => by rw [List.mem_singleton] at e; subst e; exact hne hg')⟩, hf.trans hf2 (fun g hg => Or.inl (List.mem_cons_of_mem _ hg)) (fun g hg => Or.inl (by rw [List.mem_singleton] at hg; subst hg; simp)), hg⟩
  have := hx.put 0 (.slice A' ys.length c')
  have e : cs.setIfInBounds 0 (.slice A' ys.length c') = #[.slice A' ys.length c'] := by
    obtain ⟨l⟩ := cs
    match l, hz with
    | [x], _ => rfl
  rwa [e] at this

set_option maxRecDepth 100000 in
theorem pop_any (W : World) (h : Nat) (A : Option Addr) (c : Nat) (xs : List Nat) (hs : LH W h A c xs) (h0 : 0 < xs.length) (hl : xs.length ≤ 1000) :
    Calls Tryz.prog 161 #[.pointer (some ⟨h, 0, none⟩)] W fun e W' => e = .returned (.iface 3 (.int .i64 ((gd xs (xs.length - 1) : Nat) : Int))) ∧ HP W W' h A xs.dropLast := by
  obtain ⟨g, off, rfl, hlt, hc⟩ := hs.sq.at_ (by rw [natI_len]; omega)
  obtain ⟨k, hk⟩ : ∃ k, xs.length = k + 1 := ⟨xs.length - 1, by omega⟩
  have cj : W.cell? ⟨g, off + k, none⟩ = some (.int .i64 ((gd xs k : Nat) : Int)) := by rw [hc k (by rw [natI_len]; omega), natI_gd (by omega)]
  have cb := hs.bx.cell 0
  have fb := hs.bx.free 0
  rw [hk] at cb
  have cb : W.cell? ⟨h, 0, none⟩ = some (.slice (some ⟨g, off, none⟩) (k + 1) c) := cb
  obtain ⟨u1, u2⟩ := hs.sq.upto (t := 125) Tryz.underlying125 (fun w => by kernel_rfl) k (by rw [natI_len]; omega)
  rw [natI_len, hk] at u1
  have e1 : (natI xs).take k = natI xs.dropLast := by simp [natI, List.dropLast_eq_take, hk]
  have hp := hp_store (W := W) (W1 := W) (A := some ⟨g, off, none⟩) hs.bx.lt hs.bx rfl (by rw [← e1]; exact u2 W hs.sq) (Fr.refl _ _) (fun g hg => Or.inl hg) k (by simp [hk])
  have HP_ := Lib.hid hp
  rw [show xs.length - 1 = k by omega]
  clear hc hs u2 e1 hp
  generalize gd xs k = b at *
  go_enter Tryz.func161, Tryz.ntmps161
  go_wp2_with fail
  go_ret
  exact ⟨rfl, HP_.out⟩

theorem ta_int (x : Int) (W : World) : (Instr.typeAssert (.iface 3 (.int .i64 x)) 20 3 false).run Tryz.prog W = .ok (.int .i64 x) W := by
  kernel_rfl

set_option maxRecDepth 100000 in
theorem push_any (W : World) (h : Nat) (A : Option Addr) (c : Nat) (xs : List Nat) (hs : LH W h A c xs) (hl : xs.length ≤ 1000) (x : Nat) :
    Calls Tryz.prog 162 #[.pointer (some ⟨h, 0, none⟩), .iface 3 (.int .i64 (x : Nat))] W fun e W' => e = .returned (.tuple #[]) ∧ HP W W' h A (xs ++ [x]) := by
  have cb := hs.bx.cell 0
  have cb : W.cell? ⟨h, 0, none⟩ = some (.slice A xs.length c) := cb
  obtain ⟨i0, hi0, hz0, hz1, hz2⟩ := info_parts info_int
  have Hi := Lib.hid hi0
  have Hz0 := Lib.hid hz0
  have Hz1 := Lib.hid hz1
  have Hz2 := Lib.hid hz2
  have H := Lib.hid hs
  have hle : Hid (xs.length = (natI xs).length) := Lib.hid (by rw [natI_len])
  have h63 : xs.length + 1 ≤ 9223372036854775807 := by omega
  have hby : (xs.length + 1) * 8 ≤ 140737488355328 := by omega
  have hlt := hs.bx.lt
  have hta := ta_int (x : Int)
  clear hi0 hz0 hz1 hz2 hs
  go_enter Tryz.func162, Tryz.ntmps162
  go_region_law
    ((refine step_push (u := .int .i64 (x : Nat)) (by rfl) (.tmp 8) (.tmp 11) _ (by rfl) (H.out.sq.drew.alloc _) hle.out Tryz.underlying125 Hi.out Hz0.out Hz1.out Hz2.out rfl (by rfl) (by rfl) (new_cell _ _ _) rfl h63 hby ?_; intro A2 cap2 w2 hs2 f2 hb2; have q2 := H.out.bx.kept (((Fr.refl (blk A) W).drew.alloc _).trans f2 (fun g hg => Or.inl hg) (fun g hg => Or.inl hg)) H.out.ne; have k2 := q2.cell 0; have k2 : w2.cell? ⟨h, 0, none⟩ = some (.slice A xs.length c) := k2; have p2 := q2.free 0))
  all_goals go_end0
  all_goals exact ⟨rfl, hp_store hlt q2 rfl (by rw [← natI_snoc]; exact hs2) (((Fr.refl (blk A) W).drew.alloc _).trans f2 (fun g hg => Or.inl hg) (fun g hg => Or.inl hg)) (fun g hg => by
    rcases hb2 with e | e
    · exact Or.inl (e ▸ hg)
    · rw [e, List.mem_singleton] at hg
      subst hg
      exact Or.inr (by simp [World.drew])) _ (by simp)⟩
end Go.Proofs.YtohdcmmkbblhkaaGreatDoor.tj
