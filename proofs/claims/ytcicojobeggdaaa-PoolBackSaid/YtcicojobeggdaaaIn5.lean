/-
  intern: Sorted: the walk.
-/
import Derived.Test.YtcicojobeggdaaaIn4
namespace Go.Proofs.Ytcicojobeggdaaa.inn
open Go.RowKit Go.Shelf Go.Proofs.Ytcicojobeggdaaa.mem

attribute [local go_sem] Oper.semAt_some

theorem rs_len (ss : List (List UInt8)) : (rsS ss).length ≤ ss.length := by
  have := Lib.compact_length_le (ss.mergeSort fun x y => decide (x ≤ y))
  rw [sorted_s, List.length_mergeSort] at this
  exact this

def SPost (w : World) (ss : List (List UInt8)) (e : Ending) (w' : World) : Prop := ∃ A cap, e = .returned (.slice A (rsS ss).length cap) ∧ Below w.heap.size w w' ∧ Rd w' A ((rsS ss).map encStr)

theorem CB.rd {α : Type} [Inhabited α] {enc : α → Value} {e : TypeId} {w : World} {g cap : Nat} {xs : List α} (h : CB enc e w g cap xs) : Rd w (some ⟨g, 0, none⟩) (xs.map enc) := fun _ => by
  refine ⟨g, 0, rfl, h.lt, fun j hj => ?_⟩
  rw [Nat.zero_add, h.cell enc j (by simpa using hj)]
  simp

theorem body_end {w W w4 : World} {n n₀ : Nat} {pre : List (List UInt8)} {x : List UInt8} (hi : SI w W n pre.length pre) (hF : Fr [w.heap.size] W w4) (hcb : CB encStr 9 w4 w.heap.size n (pre ++ [x])) (hbx : Box w4 (w.heap.size + 1) 22 #[.slice (some ⟨w.heap.size, 0, none⟩) pre.length n]) (h0 : w.heap.size + 2 ≤ n₀) :
    KeepsOthers W (w4.setCell ⟨w.heap.size + 1, 0, none⟩ (.slice (some ⟨w.heap.size, 0, none⟩) (pre.length + 1) n)) ∧ Kq n₀ W (w4.setCell ⟨w.heap.size + 1, 0, none⟩ (.slice (some ⟨w.heap.size, 0, none⟩) (pre.length + 1) n)) ∧ SI w (w4.setCell ⟨w.heap.size + 1, 0, none⟩ (.slice (some ⟨w.heap.size, 0, none⟩) (pre.length + 1) n)) n (pre ++ [x]).length (pre ++ [x]) := by
  have hset : Fr [w.heap.size + 1] w4 (w4.setCell ⟨w.heap.size + 1, 0, none⟩ (.slice (some ⟨w.heap.size, 0, none⟩) (pre.length + 1) n)) := (Fr.refl _ w4).setCell (Or.inl (by simp)) _
  have hall : Fr [w.heap.size, w.heap.size + 1] W (w4.setCell ⟨w.heap.size + 1, 0, none⟩ (.slice (some ⟨w.heap.size, 0, none⟩) (pre.length + 1) n)) := hF.trans hset (by simp) (by simp)
  refine ⟨(keeps_fr hF (fun g hg => ?_)).trans (KeepsOthers.setCell _ _ _), kq_fr hall (by simp; omega), ?_, ?_, rfl, ?_⟩
  · rw [List.mem_singleton] at hg
    subst hg
    obtain ⟨cur, h1, _⟩ := hi.cb.ex
    exact ⟨_, h1, rfl⟩
  · exact hcb.kept _ (hset.block _ hcb.lt (by simp))
  · have := hbx.put 0 (.slice (some ⟨w.heap.size, 0, none⟩) (pre.length + 1) n)
    rw [List.length_append, List.length_singleton]
    exact this
  · exact hi.on.trans (hall.below (by simp) hi.on.size)

set_option maxRecDepth 100000 in
set_option maxHeartbeats 2000000 in
theorem sorted_any (w : World) (A : Option Addr) (c : Nat) (ss : List (List UInt8)) (hA : Rd w A (ss.map encStr)) (hbig : ss.length ≤ 1000) :
    Calls Try.prog 19 #[.slice A ss.length c] w (SPost w ss) := by
  have hmk := fun W => make_s W ss.length hbig
  have hrs := rs_len ss
  refine (callsIn_wide (n := 8)).1 ?_
  refine callsIn_of_wp_marks Try.func19 rfl trivial ?_ rfl
  simp only [Try.ntmps19, List.size_toArray, List.length_cons, List.length_nil, Nat.reduceAdd, Nat.reduceSub, Array.replicate_succ, Array.replicate_zero, List.push_toArray, List.append_toArray, List.nil_append, List.cons_append]
  gi_wp2_with (refine ⟨trivial, ?_⟩; gi_at_call 32; refine (rising_in_s _ A ss.length c _).mono ?_; rintro e w' ⟨rfl, rfl⟩)
  obtain ⟨W0, hW0⟩ : ∃ W0, Hid (W0 = ((w.alloc (.cells (madeCells #[.string ByteArray.empty] ss.length) 9)).alloc (.cells #[.slice (some ⟨w.heap.size, 0, none⟩) 0 ss.length] 22)).alloc (.cells #[.slice A ss.length c] 22)) := ⟨_, Lib.hid rfl⟩
  have hsz : W0.heap.size = w.heap.size + 3 := by rw [hW0.out]; simp
  have hSI : SI w W0 ss.length 0 [] := by
    rw [hW0.out]
    refine ⟨⟨⟨madeCells #[.string ByteArray.empty] ss.length, ?_, size_madeCells _ _, by simp⟩, by simp, by unfold maxLen; omega⟩, ?_, rfl, (((Below.refl _ _).alloc (Nat.le_refl _) _).alloc (by simp) _).alloc (by simp; omega) _⟩
    · rw [Below.heap_alloc _ _ _ (by simp; omega), Below.heap_alloc _ _ _ (by simp)]
      exact heap_alloc_new w _
    · have := Box.new (w.alloc (.cells (madeCells #[.string ByteArray.empty] ss.length) 9)) 22 #[.slice (some ⟨w.heap.size, 0, none⟩) 0 ss.length]
      rw [World.size_alloc] at this
      exact this.kept ((Fr.refl [] _).alloc _) (by simp)
  have hbx : W0.cell? ⟨w.heap.size + 1 + 1, 0, none⟩ = some (.slice A ss.length c) := by
    rw [hW0.out]
    have := new_cell ((w.alloc (.cells (madeCells #[.string ByteArray.empty] ss.length) 9)).alloc (.cells #[.slice (some ⟨w.heap.size, 0, none⟩) 0 ss.length] 22)) (.slice A ss.length c) 22
    rwa [World.size_alloc, World.size_alloc] at this
  have hA0 : Rd W0 A (ss.map encStr) := hA.below hSI.on
  rw [← hW0.out]
  clear hmk hA hW0
  refine wpIn_rangeFunc_ownF (F := Fence.wide) rfl (by omega) (gf := 40) (lb := #[.pointer (some ⟨w.heap.size + 1 + 1, 0, none⟩)]) rfl trivial (enters_of Try.func40 (by kernel_rfl) rfl)
    (rising_stops_s _ (by omega) (w.heap.size + 1 + 1) A c ss hbig W0 (by omega) hbx hA0) (fun h k => kq_t h k) (fun W l o o' _ h1 h2 _ => kq_b W l o o' h1 h2) (Below.refl _ _) (fun _ => rfl)
    (fun pre W => SI w W ss.length pre.length pre)
    (fun _ _ _ => False)
    (fun s W W' row hs hg hr => hs.grown hg (fun r e => ⟨by have := (hr r e).1; omega, (hr r e).2⟩))
    (fun _ _ _ _ _ hs _ _ => hs)
    hSI
    (fun x => { tmps := #[.slice A ss.length c, undef, .slice none 0 0, .pointer (some ⟨w.heap.size + 1, 0, none⟩), encStr x, .slice A ss.length c, .int .i64 ss.length, .slice (some ⟨w.heap.size, 0, none⟩) 0 ss.length, .slice A ss.length c, .func (.func 40) #[] #[.pointer (some ⟨w.heap.size + 1 + 1, 0, none⟩)], encStr x, undef, undef, undef, undef, undef], defers := [] }) ?assign ?body ?done ?stop
  case assign =>
    intro l x W K hK
    gi_wp2
    exact hK
  case body =>
    rintro l pre x W hi hlt
    have hsw := hi.on.size
    have hrl := hi.cb.lt
    have hbl := hi.bx.lt
    have hcb : CB encStr 9 (W.alloc (.cells #[encStr x] 9)) w.heap.size ss.length pre := hi.cb.kept _ (Below.heap_alloc _ _ _ hrl)
    have cb : W.cell? ⟨w.heap.size + 1, 0, none⟩ = some (.slice (some ⟨w.heap.size, 0, none⟩) pre.length ss.length) := hi.bx.cell 0
    obtain ⟨i0, hi0, hz0, hs0, hb0⟩ := info_parts info_str
    have HI := Lib.hid hi
    clear hi hSI hbx hA0
    gi_wp2_with (gi_at_builtin
                 refine wpListIn_room rfl (.tmp 11) (.tmp 13) _ rfl hcb rfl (by omega) Try.underlying22 hi0 hs0 rfl rfl (new_cell _ _ _) rfl ?_
                 intro w4 hcb4 hf4
                 have hF : Fr [w.heap.size] W w4 := ((Fr.refl _ W).alloc _).trans hf4 (fun g hg => Or.inl hg) (fun g hg => Or.inl hg)
                 have hbx4 := HI.out.bx.kept hF (by simp)
                 have cb4 : w4.cell? ⟨w.heap.size + 1, 0, none⟩ = some (.slice (some ⟨w.heap.size, 0, none⟩) pre.length ss.length) := hbx4.cell 0
                 have fb4 := hbx4.free 0)
    exact body_end HI.out hF hcb4 hbx4 (by omega)
  case done =>
    rintro D ys W hD rfl hi hK
    have cb : W.cell? ⟨w.heap.size + 1, 0, none⟩ = some (.slice (some ⟨w.heap.size, 0, none⟩) (rsS ss).length ss.length) := hi.bx.cell 0
    gi_wp2
    refine ⟨by simp, .inl ⟨_, _, rfl, run_takeDeferred hK, ?_⟩⟩
    have hw := hi.grown (grownBy_putObj' W D (.deferred none)) (fun r e => by cases e; exact ⟨by omega, _, hK, rfl⟩)
    exact ⟨_, results_tmp rfl _ _ _, some ⟨w.heap.size, 0, none⟩, ss.length, rfl, hw.on, hw.cb.rd⟩
  case stop =>
    rintro D c pre W hD _ h _
    exact h.elim
end Go.Proofs.Ytcicojobeggdaaa.inn
