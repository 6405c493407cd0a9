/-
  Bits: merged: what both have.
-/
import Derived.Test.YtnjaadcbpkbjbaaDoorBtP2
import Derived.Laws.EntriesVeiled
namespace Go.Proofs.YtnjaadcbpkbjbaaDoor.bt
open Go.RowKit Go.Shelf Go.Sort Go.Proofs.YtnjaadcbpkbjbaaDoor.mem

attribute [local go_sem] Oper.semAt_some

def zoB (p : Blk × Blk) : Nat := (bits .and .u64 (p.1.2 : Int) (p.2.2 : Int)).toNat
theorem zo_eqB (p : Blk × Blk) : bits .and .u64 (p.1.2 : Int) (p.2.2 : Int) = (zoB p : Int) := by
  have h : 0 ≤ bits .and .u64 (p.1.2 : Int) (p.2.2 : Int) := by
    show 0 ≤ IntKind.u64.wrap _
    rw [IntKind.wrap_u64]
    omega
  unfold zoB
  omega

def mrgZB (P : List (Blk × Blk)) : List Blk := P.filterMap fun p => if zoB p = 0 then none else some (p.1.1, zoB p)
theorem mrgZ_snocB (P : List (Blk × Blk)) (x : Blk × Blk) : mrgZB (P ++ [x]) = mrgZB P ++ (if zoB x = 0 then [] else [(x.1.1, zoB x)]) := by
  unfold mrgZB
  rw [List.filterMap_append]
  congr 1
  by_cases h : zoB x = 0 <;> simp [h]
theorem mrgZ_lenB (P : List (Blk × Blk)) : (mrgZB P).length ≤ P.length := List.length_filterMap_le _ _
theorem mrgZ_eqB {B C : List Blk} (hB : Ok B) (hC : Ok C) : mrgZB (prs B C) = bothB B C := by
  unfold mrgZB bothB mrg
  refine fm_congr fun p hp => ?_
  obtain ⟨_, h1, h2⟩ := (prs_mem B C hB hC).2.1 p hp
  unfold zoB
  rw [bits_and_u64_nat _ _ h1 h2, Int.toNat_natCast]

set_option maxRecDepth 100000 in
theorem join1_anyB (w : World) (p : Blk × Blk) :
    Calls Tryd.prog 36 #[.int .u64 (p.1.2 : Nat), .int .u64 (p.2.2 : Nat)] w fun e w' => e = .returned (.int .u64 (zoB p : Nat)) ∧ w = w' := by
  have e := zo_eqB p
  go_enter Tryd.func36, Tryd.ntmps36
  go_wp2_with fail
  go_ret
  exact ⟨rfl, rfl⟩

/-- between two rounds of merged -/
structure GIB (w W : World) (A1 : Option Addr) (cap1 : Nat) (S : List Blk) : Prop where
  mt : Box W w.heap.size 56 #[.func (.func 36) #[] #[]]
  bx : Box W (w.heap.size + 1) 24 #[.slice A1 S.length cap1]
  sg : Sg 2 W 53 A1 cap1 S.length (blksV S)
  own : ∀ g ∈ blk A1, w.heap.size ≤ g
  on : Below w.heap.size w W
theorem GIB.grown {w W W' : World} {A1 : Option Addr} {cap1 : Nat} {S : List Blk} {row : Option Nat} (h : GIB w W A1 cap1 S) (hg : W.grownBy W' row) (hr : ∀ r, row = some r → w.heap.size ≤ r ∧ ∃ o : Obj, W.heap[r]? = some o ∧ o.isCells = false) : GIB w W' A1 cap1 S :=
  ⟨box_grown h.mt hg (fun r e => (hr r e).2), box_grown h.bx hg (fun r e => (hr r e).2), sg_grown h.sg hg (fun r e => (hr r e).2), h.own, h.on.grown hg h.on.size (fun k e => (hr k e).1)⟩

/-- a round that adds a block -/
theorem gi_addB {w W w3 : World} {A1 A3 : Option Addr} {cap1 cap3 : Nat} {S : List Blk} {x : Blk} (hi : GIB w W A1 cap1 S) {o : Obj} (hs3 : Sg 2 w3 53 A3 cap3 (S.length + 1) (blksV S ++ [.int .i64 (x.1 : Nat), .int .u64 (x.2 : Nat)])) (f3 : Fr (blk A1) (W.alloc o) w3) (b3 : blk A3 = blk A1 ∨ blk A3 = [(W.alloc o).heap.size]) :
    (w3.cell? ⟨w.heap.size + 1, 0, none⟩ = some (.slice A1 S.length cap1) ∧ w3.frozen? ⟨w.heap.size + 1, 0, none⟩ = false) ∧ KeepsOthers W (w3.setCell ⟨w.heap.size + 1, 0, none⟩ (.slice A3 (S.length + 1) cap3)) ∧ Below w.heap.size W (w3.setCell ⟨w.heap.size + 1, 0, none⟩ (.slice A3 (S.length + 1) cap3)) ∧ GIB w (w3.setCell ⟨w.heap.size + 1, 0, none⟩ (.slice A3 (S.length + 1) cap3)) A3 cap3 (S ++ [x]) := by
  have hF : Fr (blk A1) W w3 := ((Fr.refl [] W).alloc o).trans f3 (by simp) (fun g hg => Or.inl hg)
  have n0 : w.heap.size ∉ blk A1 := sg_ne hi.sg hi.mt (by decide)
  have n1 : w.heap.size + 1 ∉ blk A1 := sg_ne hi.sg hi.bx (by decide)
  have hb3 := hi.bx.kept hF n1
  have n3 : w.heap.size + 1 ∉ blk A3 := sg_ne hs3 hb3 (by decide)
  have hset : Fr [w.heap.size + 1] w3 (w3.setCell ⟨w.heap.size + 1, 0, none⟩ (.slice A3 (S.length + 1) cap3)) := (Fr.refl _ w3).setCell (Or.inl (by simp)) _
  have hsw := hi.on.size
  have hB : Below w.heap.size W (w3.setCell ⟨w.heap.size + 1, 0, none⟩ (.slice A3 (S.length + 1) cap3)) := (hF.below hi.own hsw).trans (hset.below (by simp) (Nat.le_trans hsw hF.size))
  refine ⟨⟨hb3.cell 0, hb3.free 0⟩, (keeps_fr hF (fun g hg => ?_)).trans (KeepsOthers.setCell _ _ _), hB, ⟨(hi.mt.kept hF n0).kept hset (by simp), ?_, ?_, ?_, hi.on.trans hB⟩⟩
  · cases A1 with
    | none => cases hg
    | some a =>
      obtain ⟨_, cur, hc, _⟩ := hi.sg.ex a rfl
      simp only [blk, List.mem_singleton] at hg
      subst hg
      exact ⟨_, hc, rfl⟩
  · have := hb3.put 0 (.slice A3 (S.length + 1) cap3)
    rw [List.length_append, List.length_singleton]
    exact this
  · have := hs3.kept hset (fun g hg e => by rw [List.mem_singleton] at e; subst e; exact n3 hg)
    rw [List.length_append, List.length_singleton, blksV_app]
    exact this
  · intro g hg
    rcases b3 with e | e
    · exact hi.own g (e ▸ hg)
    · rw [e, List.mem_singleton] at hg
      subst hg
      simp
      omega

theorem prs_smallB : ∀ {B C : List Blk}, Ok B → Ok C → (∀ b ∈ B, b.1 ≤ 4194304) → (∀ c ∈ C, c.1 ≤ 4194304) → ∀ b ∈ bothB B C, b.1 ≤ 4194304 := by
  intro B C hB hC h1 h2 b hb
  obtain ⟨hO, hm⟩ := bothB_ok hB hC
  obtain ⟨p0, p1⟩ := hO.has b hb
  obtain ⟨i, hi, ht⟩ := bit_of p0 p1
  have hf : b.1 * 64 + i ∈ flat (bothB B C) := mem_flat.2 ⟨b, hb, by omega, by rw [show (b.1 * 64 + i) % 64 = i by omega]; exact ht⟩
  obtain ⟨c, hc, e, _⟩ := mem_flat.1 ((hm _).1 hf).1
  have := h1 c hc
  omega

set_option maxRecDepth 100000 in
set_option maxHeartbeats 2000000 in
theorem merged_anyB (w : World) (A A2 : Option Addr) (cap cap2 : Nat) (B C : List Blk) (h : BA w A cap B) (k : BA w A2 cap2 C) :
    Calls Tryd.prog 27 #[.slice A B.length cap, .slice A2 C.length cap2, .func (.func 36) #[] #[]] w fun e w' => ∃ A' cap', e = .returned (.slice A' (bothB B C).length cap') ∧ Below w.heap.size w w' ∧ BA w' A' cap' (bothB B C) ∧ ∀ g ∈ blk A', w.heap.size ≤ g := by
  have hOr := bothB_ok h.ok k.ok
  have hsm := prs_smallB h.ok k.ok h.small k.small
  have hfw := few_of hOr.1.rise hsm
  have hme := mrgZ_eqB h.ok k.ok
  refine (callsIn_wide (n := 6)).1 ?_
  refine callsIn_of_wp_marks Tryd.func27 rfl trivial ?_ rfl
  simp only [Tryd.ntmps27, List.size_toArray, List.length_cons, List.length_nil, Nat.reduceAdd, Nat.reduceSub, Array.replicate_succ, Array.replicate_zero, List.push_toArray, List.append_toArray, List.nil_append, List.cons_append]
  gi_wp2
  refine ⟨trivial, (pairs_in _ _ A A2 B.length C.length cap cap2).mono ?_⟩
  rintro e w' ⟨rfl, rfl⟩
  gi_wp2
  obtain ⟨W0, hW0⟩ : ∃ W0, Hid (W0 = (((w.alloc (.cells #[.func (.func 36) #[] #[]] 56)).alloc (.cells #[.slice none 0 0] 24)).alloc (.cells #[.slice A B.length cap] 24)).alloc (.cells #[.slice A2 C.length cap2] 24)) := ⟨_, Lib.hid rfl⟩
  have hsz : W0.heap.size = w.heap.size + 4 := by rw [hW0.out]; simp
  have hon : Below w.heap.size w W0 := by rw [hW0.out]; exact ((((Below.refl _ w).alloc (Nat.le_refl _) _).alloc (by simp) _).alloc (by simp; omega) _).alloc (by simp; omega) _
  have hGI : GIB w W0 none 0 [] := by
    refine ⟨?_, ?_, Sg.new _ _ _, by simp [blk], hon⟩
    · rw [hW0.out]
      exact (((Box.new w 56 _).kept ((Fr.refl [] _).alloc _) (by simp)).kept ((Fr.refl [] _).alloc _) (by simp)).kept ((Fr.refl [] _).alloc _) (by simp)
    · rw [hW0.out]
      have := ((Box.new (w.alloc (.cells #[.func (.func 36) #[] #[]] 56)) 24 #[.slice none 0 0]).kept ((Fr.refl [] _).alloc (.cells #[.slice A B.length cap] 24)) (by simp)).kept ((Fr.refl [] _).alloc (.cells #[.slice A2 C.length cap2] 24)) (by simp)
      rw [World.size_alloc] at this
      exact this
  have hga : W0.cell? ⟨w.heap.size + 1 + 1, 0, none⟩ = some (.slice A B.length cap) := by
    rw [hW0.out]
    have := (Box.new ((w.alloc (.cells #[.func (.func 36) #[] #[]] 56)).alloc (.cells #[.slice none 0 0] 24)) 24 #[.slice A B.length cap]).kept ((Fr.refl [] _).alloc (.cells #[.slice A2 C.length cap2] 24)) (by simp)
    rw [World.size_alloc, World.size_alloc] at this
    exact this.cell 0
  have hgb : W0.cell? ⟨w.heap.size + 1 + 1 + 1, 0, none⟩ = some (.slice A2 C.length cap2) := by
    rw [hW0.out]
    have := new_cell (((w.alloc (.cells #[.func (.func 36) #[] #[]] 56)).alloc (.cells #[.slice none 0 0] 24)).alloc (.cells #[.slice A B.length cap] 24)) (.slice A2 C.length cap2) 24
    rwa [World.size_alloc, World.size_alloc, World.size_alloc] at this
  have hfew := prs_len B C
  have hf1 := h.few
  have hf2 := k.few
  rw [← hW0.out]
  refine wpIn_rangeFunc_ownH (F := Fence.wide) rfl (by omega) (gf := 51) (lb := #[.pointer (some ⟨w.heap.size + 1 + 1, 0, none⟩), .pointer (some ⟨w.heap.size + 1 + 1 + 1, 0, none⟩)]) rfl trivial (enters_of Tryd.func51 (by kernel_rfl) rfl)
    (pairs_stops _ (by omega) w.heap.size (w.heap.size + 1 + 1) (w.heap.size + 1 + 1 + 1) A A2 cap cap2 B C W0 (by omega) (by omega) (by omega) hga hgb (h.below hon) (k.below hon) h.sg.lt k.sg.lt) (fun h k => belowK_t h k) (fun W l o o' a b c d => belowK_b (by omega) W l o o' a b c d) (Below.refl _ _) (fun _ => rfl)
    (fun pre W => ∃ A1 cap1, GIB w W A1 cap1 (mrgZB pre))
    (fun _ _ _ => False)
    (fun s W W' row hs hg hr => by
      obtain ⟨A1, cap1, hs⟩ := hs
      exact ⟨A1, cap1, hs.grown hg (fun r e => ⟨by have := (hr r e).1; omega, (hr r e).2⟩)⟩)
    (fun _ _ _ _ _ hs _ _ => hs)
    ⟨none, 0, hGI⟩
    (fun x a' W => ∃ p, w.heap.size + 1 < p ∧ TwoB W p x ∧ a' = { tmps := #[.slice A B.length cap, .slice A2 C.length cap2, .func (.func 36) #[] #[], undef, undef, .pointer (some ⟨w.heap.size, 0, none⟩), .slice none 0 0, .pointer (some ⟨w.heap.size + 1, 0, none⟩), .pointer (some ⟨p, 0, none⟩), .pointer (some ⟨p + 1, 0, none⟩), undef, .slice A B.length cap, .slice A2 C.length cap2, .func (.func 51) #[] #[.pointer (some ⟨w.heap.size + 1 + 1, 0, none⟩), .pointer (some ⟨w.heap.size + 1 + 1 + 1, 0, none⟩)], .agg #[.int .i64 (x.1.1 : Nat), .int .u64 (x.1.2 : Nat)], .agg #[.int .i64 (x.2.1 : Nat), .int .u64 (x.2.2 : Nat)], undef, undef, undef, undef, undef, undef, undef, undef, undef, undef, undef, undef, undef, undef, undef, undef], defers := [] })
    (fun x a' u W W' row hs hg hr => by
      obtain ⟨p, h1, h2, h3⟩ := hs
      exact ⟨p, h1, h2.grown hg (fun r e => (hr r e).2), h3⟩) ?assign ?body ?done ?stop
  case assign =>
    intro l pre x W K hi hK
    obtain ⟨A1, cap1, hi⟩ := hi
    have HI := Lib.hid hi
    have HK := Lib.hid hK
    clear hK hi hga hgb hGI hon
    have hws := HI.out.on.size
    gi_wp2
    have hf := ((Fr.refl [] W).alloc (.cells #[.int .i64 (x.1.1 : Nat), .int .u64 (x.1.2 : Nat)] 53)).alloc (.cells #[.int .i64 (x.2.1 : Nat), .int .u64 (x.2.2 : Nat)] 53)
    have hbb := ((Below.refl _ W).alloc hws (.cells #[.int .i64 (x.1.1 : Nat), .int .u64 (x.1.2 : Nat)] 53)).alloc (by simp; omega) (.cells #[.int .i64 (x.2.1 : Nat), .int .u64 (x.2.2 : Nat)] 53)
    refine HK.out _ _ ((keeps_fr hf (by simp)).from _) hbb ⟨A1, cap1, HI.out.mt.kept hf (by simp), HI.out.bx.kept hf (by simp), HI.out.sg.kept hf (by simp), HI.out.own, HI.out.on.trans hbb⟩ ⟨W.heap.size, HI.out.bx.lt, ⟨(Box.new W 53 _).kept ((Fr.refl [] _).alloc _) (by simp), ?_⟩, rfl⟩
    have := Box.new (W.alloc (.cells #[.int .i64 (x.1.1 : Nat), .int .u64 (x.1.2 : Nat)] 53)) 53 #[.int .i64 (x.2.1 : Nat), .int .u64 (x.2.2 : Nat)]
    rwa [World.size_alloc] at this
  case body =>
    rintro l pre x a' W hl hrec ⟨A1, cap1, hi⟩ ⟨p, hp, h2, rfl⟩ hlt
    have hle := mrgZ_lenB pre
    have hsn := Lib.hid (mrgZ_snocB pre x)
    have KJ := Lib.hid (fun W' => CallsIn.inRound l ((callsIn_wide (n := 3)).2 (join1_anyB W' x)))
    have c0 : W.cell? ⟨w.heap.size, 0, none⟩ = some (.func (.func 36) #[] #[]) := hi.mt.cell 0
    have c1 : W.cell? ⟨w.heap.size + 1, 0, none⟩ = some (.slice A1 (mrgZB pre).length cap1) := hi.bx.cell 0
    have cx0 : W.cell? ⟨p, 0, none⟩ = some (.int .i64 (x.1.1 : Nat)) := h2.bx.cell 0
    have cx : W.cell? ⟨p, 1, none⟩ = some (.int .u64 (x.1.2 : Nat)) := h2.bx.cell 1
    have cy : W.cell? ⟨p + 1, 1, none⟩ = some (.int .u64 (x.2.2 : Nat)) := h2.by_.cell 1
    have HI := Lib.hid hi
    obtain ⟨i0, hi0, hz0, hz1, hz2⟩ := info_parts info_blk
    have Hi := Lib.hid hi0
    have Hz0 := Lib.hid hz0
    have Hz1 := Lib.hid hz1
    have Hz2 := Lib.hid hz2
    have hsame := Lib.hid (fun (e : mrgZB (pre ++ [x]) = mrgZB pre) => show KeepsFrom W0.heap.size W W ∧ Below w.heap.size W W ∧ ∃ A1 cap1, GIB w W A1 cap1 (mrgZB (pre ++ [x])) from ⟨KeepsFrom.refl _ _, Below.refl _ _, A1, cap1, by rw [e]; exact hi⟩)
    clear hi hi0 hz0 hz1 hz2 h2 hga hgb hGI hon h k hOr hsm hme
    refine wpIn_block ?_
    gi_wp2
    refine ⟨trivial, (KJ.out _).mono ?_⟩
    rintro e w2 ⟨rfl, rfl⟩
    by_cases hz : zoB x = 0
    · have e1 : ((zoB x : Int) != 0) = false := by rw [hz]; rfl
      have hsm := hsame.out (by rw [hsn.out, if_pos hz, List.append_nil])
      have HSM := Lib.hid hsm
      clear hsm hsame
      gi_wp2
      exact HSM.out
    · have e1 : ((zoB x : Int) != 0) = true := by simp only [bne_iff_ne, ne_eq]; omega
      have hsn2 : Hid (mrgZB (pre ++ [x]) = mrgZB pre ++ [(x.1.1, zoB x)]) := Lib.hid (by rw [hsn.out, if_neg hz])
      clear hsame hsn hz
      generalize mrgZB pre = S at *
      generalize zoB x = z at *
      gi_wp2_with (gi_at_builtin
                   refine wpListIn_row (us := [.int .i64 (x.1.1 : Nat), .int .u64 (z : Nat)]) rfl (.tmp 24) (.tmp 29) _ rfl (HI.out.sg.alloc _) Tryd.underlying24 Hi.out Hz0.out Hz1.out Hz2.out rfl rfl rfl rfl (two_cells0 _ _ _ _) (two_oneB _ _) (by omega) (by omega) ?_
                   intro A3 cap3 w3 hs3 f3 b3
                   have hga := Lib.hid (gi_addB (x := (x.1.1, z)) HI.out hs3 f3 b3)
                   have c4 := hga.out.1.1
                   have f4 := hga.out.1.2)
      exact ⟨hga.out.2.1.from _, hga.out.2.2.1, A3, cap3, by rw [hsn2.out]; exact hga.out.2.2.2⟩
  case done =>
    rintro D ys W hD rfl ⟨A1, cap1, hi⟩ hK
    rw [hme] at hi
    have cb : W.cell? ⟨w.heap.size + 1, 0, none⟩ = some (.slice A1 (bothB B C).length cap1) := hi.bx.cell 0
    gi_wp2
    refine ⟨by simp, .inl ⟨_, _, rfl, run_takeDeferred hK, ?_⟩⟩
    have hw := hi.grown (grownBy_putObj' W D (.deferred none)) (fun r e => by cases e; exact ⟨by omega, _, hK, rfl⟩)
    exact ⟨_, results_tmp rfl _ _ _, A1, cap1, rfl, hw.on, ⟨hw.sg, hOr.1, hfw, hsm⟩, hw.own⟩
  case stop =>
    rintro D c pre W hD _ h _
    exact h.elim
end Go.Proofs.YtnjaadcbpkbjbaaDoor.bt
