import Derived.Test.YtohdcmmkbblhkaaGreatDoorV01
import Derived.WalkKit
import Derived.Deep.Cut
import Derived.Deep.RegionHeld3
/-
  tarjan: a member is come to: the walk.
-/
set_option linter.all false
namespace Go.Proofs.YtohdcmmkbblhkaaGreatDoor.tj
open Go.RowKit Go.Proofs.YtohdcmmkbblhkaaGreatDoor.mem

theorem info_int : (Tryz.prog.info? 3).map (fun i => (i.zero, i.size, i.bytes)) = some (some (.int .i64 0), 1, 8) := by kernel_rfl

theorem info_parts {P : Program} {e : TypeId} {z : Value} {n m : Nat} (h : (P.info? e).map (fun i => (i.zero, i.size, i.bytes)) = some (some z, n, m)) : ∃ i, P.info? e = some i ∧ i.zero = some z ∧ i.size = n ∧ i.bytes = m := by
  rcases hi : P.info? e with _ | i
  · rw [hi] at h; cases h
  · rw [hi] at h
    simp only [Option.map_some, Option.some.injEq, Prod.mk.injEq] at h
    exact ⟨i, rfl, h.1, h.2.1, h.2.2⟩

def MS.enterK (T : MS) (m k : Nat) : MS := { T with num := upd T.num m k, low := upd T.low m k, path := T.path ++ [m], stack := T.stack ++ [m], count := k }
def MS.enter (T : MS) (m : Nat) : MS := T.enterK m (T.count + 1)

def EnP (f : Fx) (W : World) (T : MS) (e : Ending) (W' : World) : Prop := e = .returned (.tuple #[]) ∧ ∃ v, SM f W' v T ∧ v.pend = [] ∧ Below f.n0 W W'

set_option maxRecDepth 100000 in
set_option maxHeartbeats 2000000 in
theorem enter_any (f : Fx) (W : World) (v : Vd) (T : MS) (h : SM f W v T) (hpe : v.pend = []) (m : Nat) (hm : m < f.n) (hn : f.n ≤ 100) (hc : T.count ≤ 100) (hp : T.path.length ≤ 100) (hs : T.stack.length ≤ 100) :
    Calls Tryz.prog 94 #[.pointer (some ⟨f.s, 0, none⟩), .int .i64 (m : Nat)] W (EnP f W (T.enter m)) := by
  have H := Lib.hid h
  obtain ⟨c0, c1, c2, c3, c4, c5, c6, c7, c8⟩ := h.cells
  have f8 := h.free 8
  have hw : IntKind.i64.wrap ((T.count : Int) + 1) = ((T.count + 1 : Nat) : Int) := by
    rw [show ((T.count + 1 : Nat) : Int) = (T.count : Int) + 1 by omega]
    exact IntWalk.i64_in _ (by omega)
  clear h
  go_enter Tryz.func94, Tryz.ntmps94
  go_upto_region 1 with fail
  rw [show ((T.count : Int) + 1) = ((T.count + 1 : Nat) : Int) from rfl]
  obtain ⟨hS1, hB1⟩ := H.out.setCount (T.count + 1)
  have fin := Lib.hid (fun k (hk : k = T.count + 1) W' v' (h1 : SM f W' v' (T.enterK m k)) (h2 : v'.pend = []) (h3 : Below f.n0 W W') => show EnP f W (T.enter m) (.returned (.tuple #[])) W' from ⟨rfl, v', by unfold MS.enter; rw [← hk]; exact h1, h2, h3⟩)
  have S1 := Lib.hid hS1
  have B1 := Lib.hid hB1
  clear hS1 hB1 c0 c1 c2 c3 c4 c5 c6 c7 c8 f8 hw
  obtain ⟨k, hk⟩ : ∃ k, k = T.count + 1 := ⟨_, rfl⟩
  have Hk := Lib.hid hk
  rw [← hk] at S1 B1 ⊢
  clear hk
  generalize W.setCell ⟨f.s, 8, none⟩ (.int .i64 (k : Int)) = W1 at *
  obtain ⟨c0, c1, c2, c3, c4, c5, c6, c7, c8⟩ := S1.out.cells
  obtain ⟨n0, n1⟩ := S1.out.num hm
  obtain ⟨hS2, hB2⟩ := S1.out.setNum m k
  obtain ⟨l0, l1⟩ := hS2.low hm
  obtain ⟨hS3, hB3⟩ := hS2.setLow m k
  have S3 := Lib.hid hS3.drew
  have B3 := Lib.hid ((B1.out.trans (hB2.trans hB3)).drew)
  have hmI : (m : Int) < (f.n : Int) := by omega
  clear c0 c1 c4 c5 c6 c7 hS2 hB2 hS3 hB3
  go_region
  clear c2 c3 c8 n0 n1 l0 l1
  generalize ((W1.setCell ⟨f.tn, m, none⟩ (.int .i64 (k : Int))).setCell ⟨f.tl, m, none⟩ (.int .i64 (k : Int))).drew = W3 at *
  obtain ⟨c0, c1, c2, c3, c4, c5, c6, c7, c8⟩ := S3.out.cells
  clear c0 c1 c2 c3 c4 c6 c7 c8
  obtain ⟨i0, hi0, hz0, hz1, hz2⟩ := info_parts info_int
  have Hi := Lib.hid hi0
  have Hz0 := Lib.hid hz0
  have Hz1 := Lib.hid hz1
  have Hz2 := Lib.hid hz2
  clear hi0 hz0 hz1 hz2
  have hsg := Lib.hid ((show Seg W3 3 v.Ap v.cp (natI T.path) from S3.out.c 5).alloc (.cells #[.int .i64 (m : Nat)] 3))
  have hlen : Hid (T.path.length = (natI T.path).length) := Lib.hid (by rw [natI_len])
  have hlen2 : Hid (T.stack.length = (natI T.stack).length) := Lib.hid (by rw [natI_len])
  go_wp2_with (first
    | (at_builtin
       refine wpList_push (u := .int .i64 (m : Nat)) rfl (.tmp 35) (.tmp 37) _ rfl hsg.out hlen.out Tryz.underlying71 Hi.out Hz0.out Hz1.out Hz2.out rfl rfl rfl (new_cell _ _ _) rfl (by omega) (by omega) ?_
       intro A5 cap5 w5 hs5 f5 b5
       have Q := S3.out.putPath (W1 := w5) (A' := A5) (c' := cap5) (p' := T.path ++ [m]) (n := T.path.length + 1) (by simp) (by rw [← natI_snoc]; exact hs5) (((Fr.refl [] W3).alloc _).trans f5 (by simp) (fun g hg => Or.inl hg)) (fun g hg => by
         rcases b5 with e | e
         · exact Or.inl (e ▸ hg)
         · rw [e, List.mem_singleton] at hg
           subst hg
           exact Or.inr (by simp))
       have hQ := Lib.hid Q
       have q5 := Q.1.cell 5
       have p5 := Q.1.free 5
       have q6 := Q.2.1.cells.2.2.2.2.2.2.1
       have hsg2 := Lib.hid ((show Seg _ 3 v.As v.cs (natI T.stack) from Q.2.1.c 6).alloc (.cells #[.int .i64 (m : Nat)] 3))
       have nc := new_cell (w5.setCell ⟨f.s, 5, none⟩ (.slice A5 (T.path.length + 1) cap5)) (.int .i64 (m : Nat)) 3
       rw [World.size_setCell] at nc
       clear Q hs5 f5 b5)
    | (at_builtin
       refine wpList_push (u := .int .i64 (m : Nat)) rfl (.tmp 45) (.tmp 47) _ rfl hsg2.out hlen2.out Tryz.underlying71 Hi.out Hz0.out Hz1.out Hz2.out rfl rfl rfl nc rfl (by omega) (by omega) ?_
       intro A6 cap6 w6 hs6 f6 b6
       have Q := hQ.out.2.1.putStack (W1 := w6) (A' := A6) (c' := cap6) (p' := T.stack ++ [m]) (n := T.stack.length + 1) (by simp) (by rw [← natI_snoc]; exact hs6) (((Fr.refl [] _).alloc _).trans f6 (by simp) (fun g hg => Or.inl hg)) (fun g hg => by
         rcases b6 with e | e
         · exact Or.inl (e ▸ hg)
         · rw [e, List.mem_singleton] at hg
           subst hg
           exact Or.inr (by simp))
       have hQ2 := Lib.hid Q
       have q6 := Q.1.cell 6
       have p6 := Q.1.free 6
       clear Q hs6 f6 b6))
  go_end0
  exact fin.out k Hk.out _ _ hQ2.out.2.1 hpe (B3.out.trans (hQ.out.2.2.trans hQ2.out.2.2))
end Go.Proofs.YtohdcmmkbblhkaaGreatDoor.tj
