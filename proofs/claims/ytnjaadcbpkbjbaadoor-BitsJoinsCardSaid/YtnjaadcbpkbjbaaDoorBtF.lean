/-
  Bits: pairs, and what a set lacks of another one.
-/
import Derived.Test.YtnjaadcbpkbjbaaDoorBtD
import Derived.Test.YtnjaadcbpkbjbaaDoorRnd
import Derived.RangeFuncBox
namespace Go.Proofs.YtnjaadcbpkbjbaaDoor.bt
open Go.RowKit Go.Shelf Go.Sort Go.Proofs.YtnjaadcbpkbjbaaDoor.mem

attribute [local go_sem] Oper.semAt_some

theorem pairs_in (n : Nat) (w : World) (A A2 : Option Addr) (l l2 cap cap2 : Nat) :
    CallsIn Fence.wide n Tryd.prog 45 #[.slice A l cap, .slice A2 l2 cap2] w fun e w' => e = .returned (.func (.func 51) #[] #[.pointer (some ⟨w.heap.size, 0, none⟩), .pointer (some ⟨w.heap.size + 1, 0, none⟩)]) ∧ w' = (w.alloc (.cells #[.slice A l cap] 24)).alloc (.cells #[.slice A2 l2 cap2] 24) := by
  refine callsIn_of_wp Tryd.func45 rfl trivial ?_ rfl
  simp only [Tryd.ntmps45, List.size_toArray, List.length_cons, List.length_nil, Nat.reduceAdd, Nat.reduceSub, Array.replicate_succ, Array.replicate_zero, List.push_toArray, List.append_toArray, List.nil_append, List.cons_append]
  gi_wp2
  go_ret
  exact ⟨rfl, rfl⟩

theorem pairs_stops (n : Nat) (hn : 1 ≤ n) (n₀ ga gb : Nat) (A A2 : Option Addr) (cap cap2 : Nat) (B C : List Blk) (w : World) (hn₀ : n₀ ≤ w.heap.size) (hla : ga < w.heap.size) (hlb : gb < w.heap.size)
    (hga : w.cell? ⟨ga, 0, none⟩ = some (.slice A B.length cap)) (hgb : w.cell? ⟨gb, 0, none⟩ = some (.slice A2 C.length cap2)) (hA : BA w A cap B) (hC : BA w A2 cap2 C) (hdA : ∀ g ∈ blk A, g < n₀) (hdC : ∀ g ∈ blk A2, g < n₀) :
    SeqStopsK Fence.wide n Tryd.prog 51 #[.pointer (some ⟨ga, 0, none⟩), .pointer (some ⟨gb, 0, none⟩)] enc2 (Below n₀) (fun ys => ys = prs B C) (fun pre => pre <+: prs B C) (prs B C).length w := fun l J Jx W hW hJ _ hY h0 =>
  pairs1_in n hn l n₀ ga gb A A2 cap cap2 B C J Jx W (Nat.le_trans hn₀ hW.size) hJ hY ((hW.cell (p := ⟨ga, 0, none⟩) hla).trans hga) ((hW.cell (p := ⟨gb, 0, none⟩) hlb).trans hgb) (hA.below hW) (hC.below hW) hdA hdC h0

/-- what missing adds at a pair -/
def zz (p : Blk × Blk) : Nat := (bits .andNot .u64 (p.2.2 : Int) (p.1.2 : Int)).toNat
theorem zz_eq (p : Blk × Blk) : bits .andNot .u64 (p.2.2 : Int) (p.1.2 : Int) = (zz p : Int) ∧ zz p < 18446744073709551616 := by
  have h : 0 ≤ bits .andNot .u64 (p.2.2 : Int) (p.1.2 : Int) ∧ bits .andNot .u64 (p.2.2 : Int) (p.1.2 : Int) < 18446744073709551616 := by
    show 0 ≤ IntKind.u64.wrap _ ∧ IntKind.u64.wrap _ < _
    rw [IntKind.wrap_u64]
    omega
  unfold zz
  omega
def misZ (P : List (Blk × Blk)) : Nat := (P.map fun p => pop (zz p)).sum
theorem misZ_snoc (P : List (Blk × Blk)) (x : Blk × Blk) : misZ (P ++ [x]) = misZ P + pop (zz x) := by
  unfold misZ
  rw [List.map_append, List.sum_append]
  simp
theorem misZ_le : ∀ P : List (Blk × Blk), misZ P ≤ 64 * P.length
  | [] => Nat.le_refl _
  | x :: r => by
    have h1 := misZ_le r
    have h2 := pop_le (zz x)
    show pop (zz x) + misZ r ≤ _
    simp only [List.length_cons]
    omega
theorem misZ_eq {B C : List Blk} (hB : Ok B) (hC : Ok C) : misZ (prs B C) = misN (prs B C) := by
  unfold misZ misN
  congr 1
  refine List.map_congr_left fun p hp => ?_
  obtain ⟨_, h1, h2⟩ := (prs_mem B C hB hC).2.1 p hp
  unfold zz
  rw [bits_andNot_u64_nat _ _ h2 h1, Int.toNat_natCast]

theorem prs_len : ∀ (B C : List Blk), (prs B C).length ≤ B.length + C.length := by
  suffices H : ∀ (n : Nat) (B C : List Blk), B.length + C.length ≤ n → (prs B C).length ≤ B.length + C.length from fun B C => H _ B C (Nat.le_refl _)
  intro n
  induction n with
  | zero =>
    intro B C h
    obtain ⟨rfl, rfl⟩ : B = [] ∧ C = [] := ⟨List.length_eq_zero_iff.1 (by omega), List.length_eq_zero_iff.1 (by omega)⟩
    simp [prs]
  | succ n ih =>
    intro B C h
    match B, C, h with
    | x :: r, [], h =>
      have := ih r [] (by simp at h ⊢; omega)
      simp only [prs, List.length_cons, List.length_nil] at *
      omega
    | [], y :: s, h =>
      have := ih [] s (by simp at h ⊢; omega)
      simp only [prs, List.length_cons, List.length_nil] at *
      omega
    | x :: r, y :: s, h =>
      rw [prs]
      split
      · have := ih r (y :: s) (by simp at h ⊢; omega)
        simp only [List.length_cons] at *
        omega
      · split
        · have := ih r s (by simp at h ⊢; omega)
          simp only [List.length_cons] at *
          omega
        · have := ih (x :: r) s (by simp at h ⊢; omega)
          simp only [List.length_cons] at *
          omega
    | [], [], h => simp [prs]

theorem box_grown {W W' : World} {row : Option Nat} {g : Nat} {t : TypeId} {cs : Array Value} (h : Box W g t cs) (hg : W.grownBy W' row) (hr : ∀ r, row = some r → ∃ o : Obj, W.heap[r]? = some o ∧ o.isCells = false) : Box W' g t cs := by
  refine (hg.block g h.lt (fun e => ?_)).trans h
  obtain ⟨o, ho, hc⟩ := hr g e.symm
  unfold Box at h
  rw [h] at ho
  cases ho
  cases hc

theorem keeps_fr {W W' : World} {L : List Nat} (h : Fr L W W') (hc : ∀ g ∈ L, ∃ o : Obj, W.heap[g]? = some o ∧ o.isCells = true) : KeepsOthers W W' :=
  ⟨h.size, fun k o hk ho => by
    have hlt : k < W.heap.size := (Array.getElem?_eq_some_iff.1 hk).1
    refine (h.block k hlt (fun hm => ?_)).trans hk
    obtain ⟨o', h1, h2⟩ := hc k hm
    rw [hk] at h1
    cases h1
    rw [ho] at h2
    cases h2⟩

/-- the two blocks of a round, as the caller holds them -/
structure TwoB (W : World) (p : Nat) (x : Blk × Blk) : Prop where
  bx : Box W p 53 #[.int .i64 (x.1.1 : Nat), .int .u64 (x.1.2 : Nat)]
  by_ : Box W (p + 1) 53 #[.int .i64 (x.2.1 : Nat), .int .u64 (x.2.2 : Nat)]
theorem TwoB.grown {W W' : World} {p : Nat} {x : Blk × Blk} {row : Option Nat} (h : TwoB W p x) (hg : W.grownBy W' row) (hr : ∀ r, row = some r → ∃ o : Obj, W.heap[r]? = some o ∧ o.isCells = false) : TwoB W' p x := ⟨box_grown h.bx hg hr, box_grown h.by_ hg hr⟩

/-- between two rounds of missing -/
structure MI (w W : World) (pre : List (Blk × Blk)) : Prop where
  bx : Box W w.heap.size 3 #[.int .i64 (misZ pre : Nat)]
  on : Below w.heap.size w W
theorem MI.grown {w W W' : World} {pre : List (Blk × Blk)} {row : Option Nat} (h : MI w W pre) (hg : W.grownBy W' row) (hr : ∀ r, row = some r → w.heap.size ≤ r ∧ ∃ o : Obj, W.heap[r]? = some o ∧ o.isCells = false) : MI w W' pre :=
  ⟨box_grown h.bx hg (fun r e => (hr r e).2), h.on.grown hg h.on.size (fun k e => (hr k e).1)⟩

set_option maxRecDepth 100000 in
set_option maxHeartbeats 2000000 in
theorem missing_any (w : World) (s s2 : Nat) (A A2 : Option Addr) (cap cap2 : Nat) (B C : List Blk) (h : SA w s A cap B) (k : SA w s2 A2 cap2 C) :
    Calls Tryd.prog 26 #[.pointer (some ⟨s, 0, none⟩), .pointer (some ⟨s2, 0, none⟩)] w fun e w' => e = .returned (.int .i64 (misZ (prs B C) : Nat)) ∧ Below w.heap.size w w' := by
  have hb1 : Below w.heap.size w (w.alloc (.cells #[.int .i64 0] 3)) := (Below.refl _ w).alloc (Nat.le_refl _) _
  have K1 := Lib.hid (list_any (w.alloc (.cells #[.int .i64 0] 3)) s A cap B (h.below hb1))
  have K2 := Lib.hid (list_any (w.alloc (.cells #[.int .i64 0] 3)) s2 A2 cap2 C (k.below hb1))
  refine (callsIn_wide (n := 6)).1 ?_
  refine callsIn_of_wp_marks Tryd.func26 rfl trivial ?_ rfl
  simp only [Tryd.ntmps26, List.size_toArray, List.length_cons, List.length_nil, Nat.reduceAdd, Nat.reduceSub, Array.replicate_succ, Array.replicate_zero, List.push_toArray, List.append_toArray, List.nil_append, List.cons_append]
  gi_wp2
  refine ⟨trivial, (callsIn_wide.2 K1.out).mono ?_⟩
  rintro e w' ⟨rfl, rfl⟩
  gi_wp2
  refine ⟨trivial, (callsIn_wide.2 K2.out).mono ?_⟩
  rintro e w' ⟨rfl, rfl⟩
  gi_wp2
  refine ⟨trivial, (pairs_in _ _ A A2 B.length C.length cap cap2).mono ?_⟩
  rintro e w' ⟨rfl, rfl⟩
  gi_wp2
  obtain ⟨W0, hW0⟩ : ∃ W0, Hid (W0 = ((w.alloc (.cells #[.int .i64 0] 3)).alloc (.cells #[.slice A B.length cap] 24)).alloc (.cells #[.slice A2 C.length cap2] 24)) := ⟨_, Lib.hid rfl⟩
  have hsz : W0.heap.size = w.heap.size + 3 := by rw [hW0.out]; simp
  have hon : Below w.heap.size w W0 := by rw [hW0.out]; exact (hb1.alloc (by simp) _).alloc (by simp; omega) _
  have hMI : MI w W0 [] := by
    rw [hW0.out]
    exact ⟨((Box.new w 3 #[.int .i64 0]).kept ((Fr.refl [] _).alloc _) (by simp)).kept ((Fr.refl [] _).alloc _) (by simp), (hb1.alloc (by simp) _).alloc (by simp; omega) _⟩
  have hga : W0.cell? ⟨w.heap.size + 1, 0, none⟩ = some (.slice A B.length cap) := by
    rw [hW0.out]
    have := (Box.new (w.alloc (.cells #[.int .i64 0] 3)) 24 #[.slice A B.length cap]).kept ((Fr.refl [] _).alloc (.cells #[.slice A2 C.length cap2] 24)) (by simp)
    rw [World.size_alloc] at this
    exact this.cell 0
  have hgb : W0.cell? ⟨w.heap.size + 1 + 1, 0, none⟩ = some (.slice A2 C.length cap2) := by
    rw [hW0.out]
    have := new_cell ((w.alloc (.cells #[.int .i64 0] 3)).alloc (.cells #[.slice A B.length cap] 24)) (.slice A2 C.length cap2) 24
    rwa [World.size_alloc, World.size_alloc] at this
  have hfew := prs_len B C
  have hf1 := h.ba.few
  have hf2 := k.ba.few
  rw [← hW0.out]
  refine wpIn_rangeFunc_ownH (F := Fence.wide) rfl (by omega) (gf := 51) (lb := #[.pointer (some ⟨w.heap.size + 1, 0, none⟩), .pointer (some ⟨w.heap.size + 1 + 1, 0, none⟩)]) rfl trivial (enters_of Tryd.func51 (by kernel_rfl) rfl)
    (pairs_stops _ (by omega) w.heap.size (w.heap.size + 1) (w.heap.size + 1 + 1) A A2 cap cap2 B C W0 (by omega) (by omega) (by omega) hga hgb (h.ba.below hon) (k.ba.below hon) h.ba.sg.lt k.ba.sg.lt) (fun h k => belowK_t h k) (fun W l o o' a b c d => belowK_b (by omega) W l o o' a b c d) (Below.refl _ _) (fun _ => rfl)
    (fun pre W => MI w W pre)
    (fun _ _ _ => False)
    (fun s W W' row hs hg hr => hs.grown hg (fun r e => ⟨by have := (hr r e).1; omega, (hr r e).2⟩))
    (fun _ _ _ _ _ hs _ _ => hs)
    hMI
    (fun x a' W => ∃ p, w.heap.size < p ∧ TwoB W p x ∧ a' = { tmps := #[.pointer (some ⟨s, 0, none⟩), .pointer (some ⟨s2, 0, none⟩), undef, undef, .int .i64 0, .pointer (some ⟨w.heap.size, 0, none⟩), .pointer (some ⟨p, 0, none⟩), .pointer (some ⟨p + 1, 0, none⟩), .pointer (some ⟨s, 0, none⟩), .slice A B.length cap, .pointer (some ⟨s2, 0, none⟩), .slice A2 C.length cap2, .func (.func 51) #[] #[.pointer (some ⟨w.heap.size + 1, 0, none⟩), .pointer (some ⟨w.heap.size + 1 + 1, 0, none⟩)], .agg #[.int .i64 (x.1.1 : Nat), .int .u64 (x.1.2 : Nat)], .agg #[.int .i64 (x.2.1 : Nat), .int .u64 (x.2.2 : Nat)], undef, undef, undef, undef, undef, undef, undef, undef, undef], defers := [] })
    (fun x a' u W W' row hs hg hr => by
      obtain ⟨p, h1, h2, h3⟩ := hs
      exact ⟨p, h1, h2.grown hg (fun r e => (hr r e).2), h3⟩) ?assign ?body ?done ?stop
  case assign =>
    intro l pre x W K hi hK
    have HI := Lib.hid hi
    have HK := Lib.hid hK
    clear hK hi hga hgb hMI hon K1 K2 hb1
    have hws := HI.out.on.size
    gi_wp2
    have hf := ((Fr.refl [] W).alloc (.cells #[.int .i64 (x.1.1 : Nat), .int .u64 (x.1.2 : Nat)] 53)).alloc (.cells #[.int .i64 (x.2.1 : Nat), .int .u64 (x.2.2 : Nat)] 53)
    refine HK.out _ _ ((keeps_fr hf (by simp)).from _) (((Below.refl _ W).alloc hws _).alloc (by simp; omega) _) ⟨HI.out.bx.kept hf (by simp), (HI.out.on.alloc hws _).alloc (by simp; omega) _⟩ ⟨W.heap.size, HI.out.bx.lt, ⟨(Box.new W 53 _).kept ((Fr.refl [] _).alloc _) (by simp), ?_⟩, rfl⟩
    have := Box.new (W.alloc (.cells #[.int .i64 (x.1.1 : Nat), .int .u64 (x.1.2 : Nat)] 53)) 53 #[.int .i64 (x.2.1 : Nat), .int .u64 (x.2.2 : Nat)]
    rwa [World.size_alloc] at this
  case body =>
    rintro l pre x a' W hl hrec hi ⟨p, hp, h2, rfl⟩ hlt
    have hle := misZ_le pre
    have hsn := Lib.hid (misZ_snoc pre x)
    obtain ⟨hz1, hz2⟩ := zz_eq x
    have hpl := pop_le (zz x)
    have KO := Lib.hid (fun W' => ones_any W' (zz x) hz2)
    have c0 : W.drew.cell? ⟨w.heap.size, 0, none⟩ = some (.int .i64 (misZ pre : Nat)) := hi.bx.cell 0
    have f0 : W.drew.frozen? ⟨w.heap.size, 0, none⟩ = false := hi.bx.free 0
    have cx : W.drew.cell? ⟨p, 1, none⟩ = some (.int .u64 (x.1.2 : Nat)) := h2.bx.cell 1
    have cy : W.drew.cell? ⟨p + 1, 1, none⟩ = some (.int .u64 (x.2.2 : Nat)) := h2.by_.cell 1
    have hset : Fr [w.heap.size] W (W.drew.setCell ⟨w.heap.size, 0, none⟩ (.int .i64 ((misZ pre + pop (zz x) : Nat) : Int))) := (Fr.refl _ W).drew.setCell (Or.inl (by simp)) _
    have hfin := Lib.hid (show KeepsFrom W0.heap.size W _ ∧ Below w.heap.size W _ ∧ MI w (W.drew.setCell ⟨w.heap.size, 0, none⟩ (.int .i64 ((misZ pre + pop (zz x) : Nat) : Int))) (pre ++ [x]) from
      ⟨(keeps_fr hset (fun g hg => by rw [List.mem_singleton] at hg; subst hg; exact ⟨_, hi.bx, rfl⟩)).from _, hset.below (by simp) hi.on.size, ⟨by have := hi.bx.put 0 (.int .i64 ((misZ pre + pop (zz x) : Nat) : Int)); rw [hsn.out]; exact this, hi.on.trans (hset.below (by simp) hi.on.size)⟩⟩)
    have hS2 := Lib.hid (show ((W.drew.setCell ⟨w.heap.size, 0, none⟩ (.int .i64 ((misZ pre + pop (zz x) : Nat) : Int))).cell? ⟨p, 1, none⟩ = some (.int .u64 (x.1.2 : Nat)) ∧ (W.drew.setCell ⟨w.heap.size, 0, none⟩ (.int .i64 ((misZ pre + pop (zz x) : Nat) : Int))).cell? ⟨p + 1, 1, none⟩ = some (.int .u64 (x.2.2 : Nat))) from
      ⟨(h2.bx.kept hset (by simp; omega)).cell 1, (h2.by_.kept hset (by simp; omega)).cell 1⟩)
    have hsum : IntKind.i64.wrap ((misZ pre : Int) + (pop (zz x) : Int)) = ((misZ pre + pop (zz x) : Nat) : Int) := by
      rw [show ((misZ pre + pop (zz x) : Nat) : Int) = (misZ pre : Int) + (pop (zz x) : Int) by omega]
      exact IntWalk.i64_in _ (by omega)
    have HS := Lib.hid (show W.drew.cell? ⟨p, 1, none⟩ = some (.int .u64 (x.1.2 : Nat)) ∧ W.drew.cell? ⟨p + 1, 1, none⟩ = some (.int .u64 (x.2.2 : Nat)) from ⟨cx, cy⟩)
    clear hi h2 hset hga hgb hMI hon K1 K2 hb1 h k
    refine wpIn_block ?_
    refine region_round (S := fun W' => W'.cell? ⟨p, 1, none⟩ = some (.int .u64 (x.1.2 : Nat)) ∧ W'.cell? ⟨p + 1, 1, none⟩ = some (.int .u64 (x.2.2 : Nat))) (by kernel_rfl) (by intro i o ho c hc; rcases i with _ | _ | _ | _ | _ | _ | _ | _ | _ | i <;> simp at ho <;> subst ho <;> cases hc) ?_
    refine wpAnyH_take (i := 1) (v := (.pointer (some ⟨p + 1, 1, none⟩))) rfl (by kernel_rfl) (by kernel_rfl) (by kernel_rfl) (fun _ _ _ h => absurd h.1 (by simp)) (Or.inl ⟨by rfl, ?_⟩) HS.out ?_
    · rintro W' ⟨hx, hy⟩
      go_simp
    try simp only [Act.put, List.setIfInBounds_toArray, List.set_cons_zero, List.set_cons_succ]
    refine wpAnyH_take (i := 2) (v := (.int .u64 (x.2.2 : Nat))) rfl (by kernel_rfl) (by kernel_rfl) (by kernel_rfl) (fun _ _ _ h => absurd h.1 (by simp)) (Or.inl ⟨by rfl, ?_⟩) HS.out ?_
    · rintro W' ⟨hx, hy⟩
      go_simp
    try simp only [Act.put, List.setIfInBounds_toArray, List.set_cons_zero, List.set_cons_succ]
    refine wpAnyH_take (i := 3) (v := (.pointer (some ⟨p, 1, none⟩))) rfl (by kernel_rfl) (by kernel_rfl) (by kernel_rfl) (fun _ _ _ h => absurd h.1 (by simp)) (Or.inl ⟨by rfl, ?_⟩) HS.out ?_
    · rintro W' ⟨hx, hy⟩
      go_simp
    try simp only [Act.put, List.setIfInBounds_toArray, List.set_cons_zero, List.set_cons_succ]
    refine wpAnyH_take (i := 4) (v := (.int .u64 (x.1.2 : Nat))) rfl (by kernel_rfl) (by kernel_rfl) (by kernel_rfl) (fun _ _ _ h => absurd h.1 (by simp)) (Or.inl ⟨by rfl, ?_⟩) HS.out ?_
    · rintro W' ⟨hx, hy⟩
      go_simp
    try simp only [Act.put, List.setIfInBounds_toArray, List.set_cons_zero, List.set_cons_succ]
    refine wpAnyH_take (i := 5) (v := (.int .u64 (zz x : Nat))) rfl (by kernel_rfl) (by kernel_rfl) (by kernel_rfl) (fun _ _ _ h => absurd h.1 (by simp)) (Or.inl ⟨by rfl, ?_⟩) HS.out ?_
    · rintro W' ⟨hx, hy⟩
      go_simp
    try simp only [Act.put, List.setIfInBounds_toArray, List.set_cons_zero, List.set_cons_succ]
    refine wpAnyH_ready (rs := [0, 6]) (by kernel_rfl) (by simp) ?_
    refine AllReadyH.cons rfl (fun K hK => ?_) (AllReadyH.cons rfl (fun K hK => ?_) AllReadyH.nil)
    · go_simp
      refine hK.out _ _ HS.out (fun _ => ?_)
      clear hK
      try simp only [Act.put, List.setIfInBounds_toArray, List.set_cons_zero, List.set_cons_succ]
      refine wpAnyH_ready (rs := [6]) (by kernel_rfl) (by simp) ?_
      refine AllReadyH.cons rfl (fun K hK => ?_) AllReadyH.nil
      go_simp
      refine (KO.out _).mono ?_
      rintro e w2 ⟨rfl, rfl⟩
      refine hK.out _ _ HS.out (fun _ => ?_)
      clear hK
      try simp only [Act.put, List.setIfInBounds_toArray, List.set_cons_zero, List.set_cons_succ]
      refine wpAnyH_take (i := 7) (v := (.int .i64 ((misZ pre + pop (zz x) : Nat) : Int))) rfl (by kernel_rfl) (by kernel_rfl) (by kernel_rfl) (fun _ _ _ h => absurd h.1 (by simp)) (Or.inl ⟨by rfl, ?_⟩) HS.out ?_
      · rintro W' ⟨hx, hy⟩
        go_simp
      try simp only [Act.put, List.setIfInBounds_toArray, List.set_cons_zero, List.set_cons_succ]
      refine wpAnyH_ready (rs := [8]) (by kernel_rfl) (by simp) ?_
      refine AllReadyH.cons rfl (fun K hK => ?_) AllReadyH.nil
      go_simp
      refine hK.out _ _ hS2.out (fun _ => ?_)
      refine wpAnyH_done (by kernel_rfl) ?_ _
      exact ⟨rfl, hfin.out⟩
    · go_simp
      refine (KO.out _).mono ?_
      rintro e w2 ⟨rfl, rfl⟩
      refine hK.out _ _ HS.out (fun _ => ?_)
      clear hK
      try simp only [Act.put, List.setIfInBounds_toArray, List.set_cons_zero, List.set_cons_succ]
      refine wpAnyH_ready (rs := [0]) (by kernel_rfl) (by simp) ?_
      refine AllReadyH.cons rfl (fun K hK => ?_) AllReadyH.nil
      go_simp
      refine hK.out _ _ HS.out (fun _ => ?_)
      clear hK
      try simp only [Act.put, List.setIfInBounds_toArray, List.set_cons_zero, List.set_cons_succ]
      refine wpAnyH_take (i := 7) (v := (.int .i64 ((misZ pre + pop (zz x) : Nat) : Int))) rfl (by kernel_rfl) (by kernel_rfl) (by kernel_rfl) (fun _ _ _ h => absurd h.1 (by simp)) (Or.inl ⟨by rfl, ?_⟩) HS.out ?_
      · rintro W' ⟨hx, hy⟩
        go_simp
      try simp only [Act.put, List.setIfInBounds_toArray, List.set_cons_zero, List.set_cons_succ]
      refine wpAnyH_ready (rs := [8]) (by kernel_rfl) (by simp) ?_
      refine AllReadyH.cons rfl (fun K hK => ?_) AllReadyH.nil
      go_simp
      refine hK.out _ _ hS2.out (fun _ => ?_)
      refine wpAnyH_done (by kernel_rfl) ?_ _
      exact ⟨rfl, hfin.out⟩
  case done =>
    rintro D ys W hD rfl hi hK
    have cb : W.cell? ⟨w.heap.size, 0, none⟩ = some (.int .i64 (misZ (prs B C) : Nat)) := hi.bx.cell 0
    gi_wp2
    refine ⟨by simp, .inl ⟨_, _, rfl, run_takeDeferred hK, ?_⟩⟩
    have hw := hi.grown (grownBy_putObj' W D (.deferred none)) (fun r e => by cases e; exact ⟨by omega, _, hK, rfl⟩)
    exact ⟨_, results_tmp rfl _ _ _, rfl, hw.on⟩
  case stop =>
    rintro D c pre W hD _ h _
    exact h.elim
end Go.Proofs.YtnjaadcbpkbjbaaDoor.bt
