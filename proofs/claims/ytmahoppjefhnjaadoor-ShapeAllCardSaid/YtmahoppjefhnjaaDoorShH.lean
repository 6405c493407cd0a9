/-
  Shape: the closure of Begins.
-/
import Derived.Test.YtmahoppjefhnjaaDoorShG
namespace Go.Proofs.YtmahoppjefhnjaaDoor.sh
open Go.RowKit Go.Sort Go.Proofs.YtmahoppjefhnjaaDoor.mem Go.Proofs.YtmahoppjefhnjaaDoor.dt

/-- what the closure of Begins makes of a type and a place within it -/
def begStep (ss : List St) (f : Nat) (T : Ty) (p : Int) (tag : List UInt8) (b : Bool) : Bool :=
  if T.kind = 3 then b || (decide (p = 0) && (T.name.data.toList == tag))
  else if T.kind = 4 then b || (decide (p % (extC ss f (T.of.headD default)).2 = 0) && ([91, 93] ++ txt 4 (T.of.headD default) == tag))
  else b

/-- what Begins' closure has captured -/
structure LB (w : World) (A : Option Addr) (cap : Nat) (ss : List St) (g0 gt g : Nat) (tag : List UInt8) (b : Bool) : Prop where
  b0 : Box w g0 55 #[.slice A ss.length cap]
  bt : Box w gt 9 #[.string ⟨tag.toArray⟩]
  bg : Box w g 4 #[.bool b]

theorem LB.kept {w w' : World} {A : Option Addr} {cap : Nat} {ss : List St} {g0 gt g : Nat} {tag : List UInt8} {b : Bool} (h : LB w A cap ss g0 gt g tag b) (hb : Below w.heap.size w w') : LB w' A cap ss g0 gt g tag b :=
  ⟨h.b0.kept (Fr.of_below hb []) (by simp), h.bt.kept (Fr.of_below hb []) (by simp), h.bg.kept (Fr.of_below hb []) (by simp)⟩

theorem LB.set {w : World} {A : Option Addr} {cap : Nat} {ss : List St} {g0 gt g : Nat} {tag : List UInt8} {b : Bool} (h : LB w A cap ss g0 gt g tag b) (d : Bool) : LB (w.setCell ⟨g, 0, none⟩ (.bool d)) A cap ss g0 gt g tag d := by
  have hs : Fr [g] w (w.setCell ⟨g, 0, none⟩ (.bool d)) := (Fr.refl [g] w).setCell (p := ⟨g, 0, none⟩) (Or.inl (by simp)) _
  have n0 : g0 ≠ g := by
    rintro rfl
    have h1 := h.b0
    have h2 := h.bg
    unfold Box at h1 h2
    rw [h1] at h2
    simp at h2
  have n1 : gt ≠ g := by
    rintro rfl
    have h1 := h.bt
    have h2 := h.bg
    unfold Box at h1 h2
    rw [h1] at h2
    simp at h2
  exact ⟨h.b0.kept hs (by simpa using n0), h.bt.kept hs (by simpa using n1), h.bg.put 0 _⟩

def B1Post (w : World) (A : Option Addr) (cap : Nat) (ss : List St) (g0 gt g : Nat) (tag : List UInt8) (b : Bool) (e : Ending) (w' : World) : Prop := e = .returned (.tuple #[]) ∧ LB w' A cap ss g0 gt g tag b ∧ Fr [g] w w'

theorem b1post {w w' : World} {A : Option Addr} {cap : Nat} {ss : List St} {g0 gt g : Nat} {tag : List UInt8} {b d r : Bool} (hr : r = d) (h : LB w' A cap ss g0 gt g tag b) (hf : Fr [g] w w') : B1Post w A cap ss g0 gt g tag r (.returned (.tuple #[])) (w'.setCell ⟨g, 0, none⟩ (.bool d)) := by
  subst hr
  exact ⟨rfl, h.set r, fr_fr hf ((Fr.refl [g] w').setCell (p := ⟨g, 0, none⟩) (Or.inl (by simp)) _)⟩

set_option maxRecDepth 100000 in
set_option maxHeartbeats 1000000 in
theorem beg1_rec (w : World) (n q : Nat) (A : Option Addr) (cap : Nat) (ss : List St) (name : ByteArray) (num : Int) (of : List Ty) (v0 v1 v2 v3 : Value) (h : Arg w n q A ss (.mk 3 name num of) v0 v1 v2 v3) (f : Nat)
    (g0 gt g : Nat) (p : Int) (tag : List UInt8) (b : Bool) (hle : LB w A cap ss g0 gt g tag b) :
    Calls Tryd.prog 63 #[.agg #[v0, v1, v2, v3], .int .i64 p, .pointer (some ⟨g, 0, none⟩), .pointer (some ⟨gt, 0, none⟩), .pointer (some ⟨g0, 0, none⟩)] w (B1Post w A cap ss g0 gt g tag (begStep ss f (.mk 3 name num of) p tag b)) := by
  obtain ⟨A2, cap2, rfl, rfl, rfl, rfl⟩ := h.cells
  simp only [Ty.kind, Ty.name, Ty.num, Ty.of]
  have BA : Below w.heap.size w (w.alloc (.cells #[.int .i64 3, .string name, .int .i64 num, .slice A2 of.length cap2] 51)) := (Below.refl _ _).alloc (Nat.le_refl _) _
  have L1 := Lib.hid (hle.kept BA)
  have F1 := Lib.hid (bel_fr (g := g) BA)
  have cg : (w.alloc (.cells #[.int .i64 3, .string name, .int .i64 num, .slice A2 of.length cap2] 51)).cell? ⟨g, 0, none⟩ = some (.bool b) := L1.out.bg.cell 0
  have yg : (w.alloc (.cells #[.int .i64 3, .string name, .int .i64 num, .slice A2 of.length cap2] 51)).frozen? ⟨g, 0, none⟩ = false := L1.out.bg.free 0
  have ct : (w.alloc (.cells #[.int .i64 3, .string name, .int .i64 num, .slice A2 of.length cap2] 51)).cell? ⟨gt, 0, none⟩ = some (.string ⟨tag.toArray⟩) := L1.out.bt.cell 0
  have hv : begStep ss f (.mk 3 name num of) p tag b = (b || (decide (p = 0) && (name.data.toList == tag))) := by unfold begStep; rw [if_pos (show (Ty.mk 3 name num of).kind = 3 from rfl)]; rfl
  rw [hv]
  clear h hle BA hv
  cases b with
  | true =>
    go_enter Tryd.func63, Tryd.ntmps63
    go_wp2_with fail
    go_end0
    exact b1post rfl L1.out F1.out
  | false =>
    by_cases hp : p = 0
    · subst hp
      obtain ⟨d, hd⟩ : ∃ d, (name.data.toList == tag) = d := ⟨_, rfl⟩
      have hd2 : (name.toList == tag) = d := by rw [ByteArray.toList_eq]; exact hd
      have hr : (false || (decide ((0 : Int) = 0) && (name.data.toList == tag))) = d := by rw [hd]; simp
      rw [hr]
      clear hr hd
      go_enter Tryd.func63, Tryd.ntmps63
      go_wp2_with fail
      go_end0
      exact b1post rfl L1.out F1.out
    · have d1 : (p == 0) = false := by simpa using hp
      have hr : (false || (decide (p = 0) && (name.data.toList == tag))) = false := by rw [decide_eq_false hp]; simp
      rw [hr]
      clear hr
      go_enter Tryd.func63, Tryd.ntmps63
      go_wp2_with fail
      go_end0
      exact b1post rfl L1.out F1.out

set_option maxRecDepth 100000 in
theorem beg1_flat (w : World) (n q : Nat) (A : Option Addr) (cap : Nat) (ss : List St) (k : Int) (name : ByteArray) (num : Int) (of : List Ty) (v0 v1 v2 v3 : Value) (h : Arg w n q A ss (.mk k name num of) v0 v1 v2 v3) (f : Nat) (h3 : k ≠ 3) (h4 : k ≠ 4)
    (g0 gt g : Nat) (p : Int) (tag : List UInt8) (b : Bool) (hle : LB w A cap ss g0 gt g tag b) :
    Calls Tryd.prog 63 #[.agg #[v0, v1, v2, v3], .int .i64 p, .pointer (some ⟨g, 0, none⟩), .pointer (some ⟨gt, 0, none⟩), .pointer (some ⟨g0, 0, none⟩)] w (B1Post w A cap ss g0 gt g tag (begStep ss f (.mk k name num of) p tag b)) := by
  obtain ⟨A2, cap2, rfl, rfl, rfl, rfl⟩ := h.cells
  simp only [Ty.kind, Ty.name, Ty.num, Ty.of]
  have BA : Below w.heap.size w (w.alloc (.cells #[.int .i64 k, .string name, .int .i64 num, .slice A2 of.length cap2] 51)) := (Below.refl _ _).alloc (Nat.le_refl _) _
  have L1 := Lib.hid (hle.kept BA)
  have F1 := Lib.hid (bel_fr (g := g) BA)
  have hv : begStep ss f (.mk k name num of) p tag b = b := by unfold begStep; rw [if_neg (show ¬ (Ty.mk k name num of).kind = 3 from h3), if_neg (show ¬ (Ty.mk k name num of).kind = 4 from h4)]
  have d3 : (k == 3) = false := by simpa using h3
  have d4 : (k == 4) = false := by simpa using h4
  rw [hv]
  clear h hle BA hv
  go_enter Tryd.func63, Tryd.ntmps63
  go_wp2_with fail
  go_end0
  exact ⟨rfl, L1.out, F1.out⟩

set_option maxRecDepth 100000 in
set_option maxHeartbeats 1000000 in
theorem beg1_arr (w : World) (n q : Nat) (A : Option Addr) (cap : Nat) (ss : List St) (name : ByteArray) (num : Int) (E : Ty) (v0 v1 v2 v3 : Value) (h : Arg w n q A ss (.mk 4 name num [E]) v0 v1 v2 v3) (f : Nat) (hf4 : f ≤ 4) (hfz : faultC ss f E = 0)
    (m : Nat) (hm4 : 4 < m) (hdp : deepB m E = false) (htab : TabS w)
    (g0 gt g : Nat) (p : Int) (p0 : 0 ≤ p) (p1 : p ≤ 100000) (tag : List UInt8) (b : Bool) (hle : LB w A cap ss g0 gt g tag b) :
    Calls Tryd.prog 63 #[.agg #[v0, v1, v2, v3], .int .i64 p, .pointer (some ⟨g, 0, none⟩), .pointer (some ⟨gt, 0, none⟩), .pointer (some ⟨g0, 0, none⟩)] w (B1Post w A cap ss g0 gt g tag (begStep ss f (.mk 4 name num [E]) p tag b)) := by
  obtain ⟨bb, off, cap3, d0, d1, d2, d3, rfl, hbl, j0, j1, j2, j3, hAE⟩ := h.elem
  obtain ⟨A4, cap4, rfl, rfl, rfl, rfl⟩ := hAE.cells
  obtain ⟨A2, cap2, rfl, rfl, rfl, hsl⟩ := h.cells
  cases hsl
  simp only [Ty.kind, Ty.name, Ty.num, Ty.of, List.length_singleton]
  have hm := h.hm
  have BA : Below w.heap.size w (w.alloc (.cells #[.int .i64 4, .string name, .int .i64 num, .slice (some ⟨bb, off, none⟩) 1 cap3] 51)) := (Below.refl _ _).alloc (Nat.le_refl _) _
  have hx := ext_pos f E hfz
  have hv : begStep ss f (.mk 4 name num [E]) p tag b = (b || (decide (p % ((extC ss f E).2 : Nat) = 0) && ([91, 93] ++ txt 4 E == tag))) := by
    unfold begStep
    rw [if_neg (show ¬ (Ty.mk 4 name num [E]).kind = 3 by simp [Ty.kind]), if_pos (show (Ty.mk 4 name num [E]).kind = 4 from rfl)]
    rfl
  have KE := Lib.hid (fun w' (hb : Below w.heap.size w w') => (hAE.kept hb).extent (cap := cap) f hf4 hfz)
  have KT := Lib.hid (fun w' (hb : Below w.heap.size w w') => sTag_any E n _ _ _ _ w' ((hAE.kept hb).ty) m hm4 hdp (tabS_below htab hb))
  obtain ⟨x, hxe⟩ : ∃ x, extC ss f E = x := ⟨_, rfl⟩
  rw [hxe] at KE hv hx
  obtain ⟨x1, x2⟩ := x
  simp only at hx
  have hv : Hid (begStep ss f (.mk 4 name num [E]) p tag b = (b || (decide (p % (x2 : Int) = 0) && ([91, 93] ++ txt 4 E == tag)))) := Lib.hid hv
  rw [hv.out]
  unfold ExPost at KE
  unfold TagPost at KT
  generalize [91, 93] ++ txt 4 E = TE at *
  clear hxe hv
  have L1 := Lib.hid (hle.kept BA)
  have F1 := Lib.hid (bel_fr (g := g) BA)
  have BAH := Lib.hid BA
  have BX : Hid (Box (w.alloc (.cells #[.int .i64 4, .string name, .int .i64 num, .slice (some ⟨bb, off, none⟩) 1 cap3] 51)) w.heap.size 51 #[.int .i64 4, .string name, .int .i64 num, .slice (some ⟨bb, off, none⟩) 1 cap3]) := Lib.hid (Box.new w _ _)
  have HJ : Hid (∀ w', Below w.heap.size w w' → w'.cell? ⟨bb, off, none⟩ = some (.int .i64 E.kind) ∧ w'.cell? ⟨bb, off + 1, none⟩ = some (.string E.name) ∧ w'.cell? ⟨bb, off + 2, none⟩ = some (.int .i64 E.num) ∧ w'.cell? ⟨bb, off + 3, none⟩ = some (.slice A4 E.of.length cap4)) :=
    Lib.hid (fun w' hb => ⟨(hb.cell (p := ⟨bb, off, none⟩) hbl).trans j0, (hb.cell (p := ⟨bb, off + 1, none⟩) hbl).trans j1, (hb.cell (p := ⟨bb, off + 2, none⟩) hbl).trans j2, (hb.cell (p := ⟨bb, off + 3, none⟩) hbl).trans j3⟩)
  clear h hle BA hAE j0 j1 j2 j3 htab hdp hfz
  go_enter Tryd.func63, Tryd.ntmps63
  go_wp2_with fail
  generalize (w.alloc (.cells #[.int .i64 4, .string name, .int .i64 num, .slice (some ⟨bb, off, none⟩) 1 cap3] 51)) = w1 at *
  have c0 : w1.cell? ⟨g0, 0, none⟩ = some (.slice A ss.length cap) := L1.out.b0.cell 0
  have t3 : w1.cell? ⟨w.heap.size, 3, none⟩ = some (.slice (some ⟨bb, off, none⟩) 1 cap3) := BX.out.cell 3
  obtain ⟨i0, i1, i2, i3⟩ := HJ.out w1 BAH.out
  have keep : Hid (∀ w2, Below w1.heap.size w1 w2 → w2.cell? ⟨g0, 0, none⟩ = some (.slice A ss.length cap) ∧ w2.cell? ⟨w.heap.size, 3, none⟩ = some (.slice (some ⟨bb, off, none⟩) 1 cap3) ∧ w2.cell? ⟨bb, off, none⟩ = some (.int .i64 E.kind) ∧ w2.cell? ⟨bb, off + 1, none⟩ = some (.string E.name) ∧ w2.cell? ⟨bb, off + 2, none⟩ = some (.int .i64 E.num) ∧ w2.cell? ⟨bb, off + 3, none⟩ = some (.slice A4 E.of.length cap4)) :=
    Lib.hid (fun w2 hb => ⟨(L1.out.kept hb).b0.cell 0, (BX.out.kept (Fr.of_below hb []) (by simp)).cell 3, HJ.out w2 (BAH.out.trans (hb.mono BAH.out.size))⟩)
  have KE1 := Lib.hid (KE.out w1.drew (BAH.out.drew))
  go_region_held3 (fun w' => w'.cell? ⟨g0, 0, none⟩ = some (.slice A ss.length cap) ∧ w'.cell? ⟨w.heap.size, 3, none⟩ = some (.slice (some ⟨bb, off, none⟩) 1 cap3) ∧ w'.cell? ⟨bb, off, none⟩ = some (.int .i64 E.kind) ∧ w'.cell? ⟨bb, off + 1, none⟩ = some (.string E.name) ∧ w'.cell? ⟨bb, off + 2, none⟩ = some (.int .i64 E.num) ∧ w'.cell? ⟨bb, off + 3, none⟩ = some (.slice A4 E.of.length cap4))
    (first | exact ⟨c0, t3, i0, i1, i2, i3⟩ | exact keep.out _ h2 | go_keep)
    ((go_at_call 59; refine KE1.out.mono ?_; rintro e w2 ⟨rfl, b2⟩; have h2 := (Below.refl w1.heap.size w1).drew.trans (b2.mono (Nat.le_refl _)); clear b2))
  have H2 := Lib.hid h2
  clear h2 KE1 KE c0 t3 i0 i1 i2 i3
  obtain ⟨c0, t3, i0, i1, i2, i3⟩ := keep.out w2 H2.out
  have L2 := Lib.hid (L1.out.kept H2.out)
  have F2 := Lib.hid (fr_fr F1.out (bel_fr H2.out))
  have BA2 := Lib.hid (BAH.out.trans (H2.out.mono BAH.out.size))
  have KT2 := Lib.hid (KT.out w2.drew BA2.out.drew)
  have keep2 : Hid (∀ w3, Below w2.heap.size w2 w3 → LB w3 A cap ss g0 gt g tag b ∧ Fr [g] w w3) :=
    Lib.hid (fun w3 hb => ⟨L2.out.kept hb, fr_fr F2.out (bel_fr hb)⟩)
  have cg : w2.cell? ⟨g, 0, none⟩ = some (.bool b) := L2.out.bg.cell 0
  have yg : w2.frozen? ⟨g, 0, none⟩ = false := L2.out.bg.free 0
  have ct : w2.cell? ⟨gt, 0, none⟩ = some (.string ⟨tag.toArray⟩) := L2.out.bt.cell 0
  have hrem : p.tmod x2 = p % (x2 : Int) := Int.tmod_eq_emod_of_nonneg p0
  have hx2 : ¬ (x2 : Int) = 0 := by omega
  have hx3 : ¬ x2 = 0 := by omega
  have hq0 : 0 ≤ p % (x2 : Int) := Int.emod_nonneg _ hx2
  have hq1 : p % (x2 : Int) ≤ 100000 := by have := Int.emod_nonneg p hx2; have := Int.mul_ediv_add_emod p x2; have := Int.mul_nonneg (show (0 : Int) ≤ x2 by omega) (Int.ediv_nonneg p0 (show (0 : Int) ≤ x2 by omega)); omega
  clear KT BA2 keep H2 BX HJ BAH L1 F1 hv
  cases b with
  | true =>
    have hr : (true || (decide (p % (x2 : Int) = 0) && (TE == tag))) = true := by simp
    have hr := Lib.hid hr
    go_wp2_with fail
    obtain ⟨ld, fd⟩ := keep2.out w2.drew ((Below.refl w2.heap.size w2).drew)
    have LS := Lib.hid (ld.set true)
    refine wp_region_held_drew (S := fun w' => w'.cell? ⟨g, 0, none⟩ = some (.bool true) ∧ w'.frozen? ⟨g, 0, none⟩ = false) (by kernel_rfl) ⟨ld.bg.cell 0, ld.bg.free 0⟩ (fun hS => ?_)
    refine wpAnyH_take (i := 0) (v := (.bool true)) rfl (by kernel_rfl) (by kernel_rfl) (by kernel_rfl) (fun _ _ _ h => h) (Or.inl ⟨by kernel_rfl, ?_⟩) hS ?_
    · intro W' hSw
      obtain ⟨q0, q1'⟩ := hSw
      go_simp
    change wpAnyH _ _ _ _ _ _ _ (Act.put _ (some 35) _) _
    try simp only [Act.put, List.setIfInBounds_toArray, List.set_cons_zero, List.set_cons_succ]
    refine wpAnyH_take (i := 1) (v := (.bool true)) rfl (by kernel_rfl) (by kernel_rfl) (by kernel_rfl) (fun _ _ _ h => h) (Or.inl ⟨by kernel_rfl, ?_⟩) hS ?_
    · intro W' hSw
      obtain ⟨q0, q1'⟩ := hSw
      go_simp
    change wpAnyH _ _ _ _ _ _ _ (Act.put _ (some 36) _) _
    try simp only [Act.put, List.setIfInBounds_toArray, List.set_cons_zero, List.set_cons_succ]
    refine wpAnyH_take (i := 2) (v := undef) rfl (by kernel_rfl) (by kernel_rfl) (by kernel_rfl) (fun _ _ _ h => h) (Or.inr ⟨by kernel_rfl, rfl⟩) hS ?_
    change wpAnyH _ _ _ _ _ _ _ (Act.put _ (some 37) _) _
    try simp only [Act.put, List.setIfInBounds_toArray, List.set_cons_zero, List.set_cons_succ]
    refine wpAnyH_take (i := 3) (v := undef) rfl (by kernel_rfl) (by kernel_rfl) (by kernel_rfl) (fun _ _ _ h => h) (Or.inr ⟨by kernel_rfl, rfl⟩) hS ?_
    change wpAnyH _ _ _ _ _ _ _ (Act.put _ (some 38) _) _
    try simp only [Act.put, List.setIfInBounds_toArray, List.set_cons_zero, List.set_cons_succ]
    refine wpAnyH_take (i := 4) (v := undef) rfl (by kernel_rfl) (by kernel_rfl) (by kernel_rfl) (fun _ _ _ h => h) (Or.inr ⟨by kernel_rfl, rfl⟩) hS ?_
    change wpAnyH _ _ _ _ _ _ _ (Act.put _ (some 39) _) _
    try simp only [Act.put, List.setIfInBounds_toArray, List.set_cons_zero, List.set_cons_succ]
    refine wpAnyH_take (i := 5) (v := undef) rfl (by kernel_rfl) (by kernel_rfl) (by kernel_rfl) (fun _ _ _ h => h) (Or.inr ⟨by kernel_rfl, rfl⟩) hS ?_
    change wpAnyH _ _ _ _ _ _ _ (Act.put _ (some 40) _) _
    try simp only [Act.put, List.setIfInBounds_toArray, List.set_cons_zero, List.set_cons_succ]
    refine wpAnyH_take (i := 6) (v := undef) rfl (by kernel_rfl) (by kernel_rfl) (by kernel_rfl) (fun _ _ _ h => h) (Or.inr ⟨by kernel_rfl, rfl⟩) hS ?_
    change wpAnyH _ _ _ _ _ _ _ (Act.put _ (some 41) _) _
    try simp only [Act.put, List.setIfInBounds_toArray, List.set_cons_zero, List.set_cons_succ]
    refine wpAnyH_take (i := 7) (v := undef) rfl (by kernel_rfl) (by kernel_rfl) (by kernel_rfl) (fun _ _ _ h => h) (Or.inr ⟨by kernel_rfl, rfl⟩) hS ?_
    change wpAnyH _ _ _ _ _ _ _ (Act.put _ (some 42) _) _
    try simp only [Act.put, List.setIfInBounds_toArray, List.set_cons_zero, List.set_cons_succ]
    refine wpAnyH_take (i := 8) (v := undef) rfl (by kernel_rfl) (by kernel_rfl) (by kernel_rfl) (fun _ _ _ h => h) (Or.inr ⟨by kernel_rfl, rfl⟩) hS ?_
    change wpAnyH _ _ _ _ _ _ _ (Act.put _ (some 43) _) _
    try simp only [Act.put, List.setIfInBounds_toArray, List.set_cons_zero, List.set_cons_succ]
    refine wpAnyH_take (i := 9) (v := undef) rfl (by kernel_rfl) (by kernel_rfl) (by kernel_rfl) (fun _ _ _ h => h) (Or.inr ⟨by kernel_rfl, rfl⟩) hS ?_
    change wpAnyH _ _ _ _ _ _ _ (Act.put _ (some 44) _) _
    try simp only [Act.put, List.setIfInBounds_toArray, List.set_cons_zero, List.set_cons_succ]
    refine wpAnyH_take (i := 10) (v := undef) rfl (by kernel_rfl) (by kernel_rfl) (by kernel_rfl) (fun _ _ _ h => h) (Or.inr ⟨by kernel_rfl, rfl⟩) hS ?_
    change wpAnyH _ _ _ _ _ _ _ (Act.put _ (some 45) _) _
    try simp only [Act.put, List.setIfInBounds_toArray, List.set_cons_zero, List.set_cons_succ]
    refine wpAnyH_take (i := 11) (v := undef) rfl (by kernel_rfl) (by kernel_rfl) (by kernel_rfl) (fun _ _ _ h => h) (Or.inr ⟨by kernel_rfl, rfl⟩) hS ?_
    change wpAnyH _ _ _ _ _ _ _ (Act.put _ (some 46) _) _
    try simp only [Act.put, List.setIfInBounds_toArray, List.set_cons_zero, List.set_cons_succ]
    refine wpAnyH_take (i := 12) (v := undef) rfl (by kernel_rfl) (by kernel_rfl) (by kernel_rfl) (fun _ _ _ h => h) (Or.inr ⟨by kernel_rfl, rfl⟩) hS ?_
    change wpAnyH _ _ _ _ _ _ _ (Act.put _ (some 47) _) _
    try simp only [Act.put, List.setIfInBounds_toArray, List.set_cons_zero, List.set_cons_succ]
    refine wpAnyH_take (i := 13) (v := undef) rfl (by kernel_rfl) (by kernel_rfl) (by kernel_rfl) (fun _ _ _ h => h) (Or.inr ⟨by kernel_rfl, rfl⟩) hS ?_
    change wpAnyH _ _ _ _ _ _ _ (Act.put _ (some 48) _) _
    try simp only [Act.put, List.setIfInBounds_toArray, List.set_cons_zero, List.set_cons_succ]
    refine wpAnyH_take (i := 14) (v := undef) rfl (by kernel_rfl) (by kernel_rfl) (by kernel_rfl) (fun _ _ _ h => h) (Or.inr ⟨by kernel_rfl, rfl⟩) hS ?_
    change wpAnyH _ _ _ _ _ _ _ (Act.put _ (some 49) _) _
    try simp only [Act.put, List.setIfInBounds_toArray, List.set_cons_zero, List.set_cons_succ]
    refine wpAnyH_take (i := 15) (v := (.bool true)) rfl (by kernel_rfl) (by kernel_rfl) (by kernel_rfl) (fun _ _ _ h => h) (Or.inl ⟨by kernel_rfl, ?_⟩) hS ?_
    · intro W' hSw
      obtain ⟨q0, q1'⟩ := hSw
      go_simp
    change wpAnyH _ _ _ _ _ _ _ (Act.put _ (some 50) _) _
    try simp only [Act.put, List.setIfInBounds_toArray, List.set_cons_zero, List.set_cons_succ]
    obtain ⟨y0, y1⟩ := hS
    refine wpAnyH_ready (rs := [16]) (by kernel_rfl) (by simp) ?_
    refine AllReadyH.cons rfl (fun K hK => ?_) ?_
    · go_simp
      refine hK.out _ _ ?_ (fun hHeld => ?_)
      · exact ⟨LS.out.bg.cell 0, LS.out.bg.free 0⟩
      clear hK K hHeld
      refine wpAnyH_done (by kernel_rfl) ?_ _
      go_wp2_with fail
      go_end0
      exact b1post hr.out ld fd
    · exact AllReadyH.nil
  | false =>
    generalize p % (x2 : Int) = q1 at *
    by_cases hp : q1 = 0
    · subst hp
      obtain ⟨d, hd⟩ : ∃ d, (TE == tag) = d := ⟨_, rfl⟩
      have hr : (false || (decide ((0 : Int) = 0) && (TE == tag))) = d := by rw [hd]; simp
      have hr := Lib.hid hr
      go_wp2_with fail
      go_region_with ((go_at_call 28; refine KT2.out.mono ?_; rintro e w3 ⟨rfl, b3⟩; have h3 := Lib.hid ((Below.refl w2.heap.size w2).drew.trans (b3.mono (Nat.le_refl _))); clear b3; obtain ⟨l3, f3⟩ := keep2.out _ h3.out; have l3 := Lib.hid l3; have f3 := Lib.hid f3; have cg3 := l3.out.bg.cell 0; have yg3 := l3.out.bg.free 0; have ct3 := l3.out.bt.cell 0))
      all_goals (go_wp2_with fail; go_end0; first | exact b1post rfl l3.out f3.out | exact b1post hr.out l3.out f3.out)
    · have dq : (q1 == 0) = false := by simpa using hp
      have hr : (false || (decide (q1 = 0) && (TE == tag))) = false := by rw [decide_eq_false hp]; simp
      have hr := Lib.hid hr
      go_wp2_with fail
      obtain ⟨ld, fd⟩ := keep2.out w2.drew ((Below.refl w2.heap.size w2).drew)
      have LS := Lib.hid (ld.set false)
      refine wp_region_held_drew (S := fun w' => w'.cell? ⟨g, 0, none⟩ = some (.bool false) ∧ w'.frozen? ⟨g, 0, none⟩ = false) (by kernel_rfl) ⟨ld.bg.cell 0, ld.bg.free 0⟩ (fun hS => ?_)
      refine wpAnyH_take (i := 0) (v := (.bool false)) rfl (by kernel_rfl) (by kernel_rfl) (by kernel_rfl) (fun _ _ _ h => h) (Or.inl ⟨by kernel_rfl, ?_⟩) hS ?_
      · intro W' hSw
        obtain ⟨q0, q1'⟩ := hSw
        go_simp
      change wpAnyH _ _ _ _ _ _ _ (Act.put _ (some 35) _) _
      try simp only [Act.put, List.setIfInBounds_toArray, List.set_cons_zero, List.set_cons_succ]
      refine wpAnyH_take (i := 1) (v := (.bool false)) rfl (by kernel_rfl) (by kernel_rfl) (by kernel_rfl) (fun _ _ _ h => h) (Or.inl ⟨by kernel_rfl, ?_⟩) hS ?_
      · intro W' hSw
        obtain ⟨q0, q1'⟩ := hSw
        go_simp
      change wpAnyH _ _ _ _ _ _ _ (Act.put _ (some 36) _) _
      try simp only [Act.put, List.setIfInBounds_toArray, List.set_cons_zero, List.set_cons_succ]
      refine wpAnyH_take (i := 2) (v := (.int .i64 p)) rfl (by kernel_rfl) (by kernel_rfl) (by kernel_rfl) (fun _ _ _ h => h) (Or.inl ⟨by kernel_rfl, ?_⟩) hS ?_
      · intro W' hSw
        obtain ⟨q0, q1'⟩ := hSw
        go_simp
      change wpAnyH _ _ _ _ _ _ _ (Act.put _ (some 37) _) _
      try simp only [Act.put, List.setIfInBounds_toArray, List.set_cons_zero, List.set_cons_succ]
      refine wpAnyH_take (i := 3) (v := (.int .i64 (x2 : Int))) rfl (by kernel_rfl) (by kernel_rfl) (by kernel_rfl) (fun _ _ _ h => h) (Or.inl ⟨by kernel_rfl, ?_⟩) hS ?_
      · intro W' hSw
        obtain ⟨q0, q1'⟩ := hSw
        go_simp
      change wpAnyH _ _ _ _ _ _ _ (Act.put _ (some 38) _) _
      try simp only [Act.put, List.setIfInBounds_toArray, List.set_cons_zero, List.set_cons_succ]
      refine wpAnyH_take (i := 4) (v := (.int .i64 q1)) rfl (by kernel_rfl) (by kernel_rfl) (by kernel_rfl) (fun _ _ _ h => h) (Or.inl ⟨by kernel_rfl, ?_⟩) hS ?_
      · intro W' hSw
        obtain ⟨q0, q1'⟩ := hSw
        go_simp
      change wpAnyH _ _ _ _ _ _ _ (Act.put _ (some 39) _) _
      try simp only [Act.put, List.setIfInBounds_toArray, List.set_cons_zero, List.set_cons_succ]
      refine wpAnyH_take (i := 5) (v := (.bool false)) rfl (by kernel_rfl) (by kernel_rfl) (by kernel_rfl) (fun _ _ _ h => h) (Or.inl ⟨by kernel_rfl, ?_⟩) hS ?_
      · intro W' hSw
        obtain ⟨q0, q1'⟩ := hSw
        go_simp
      change wpAnyH _ _ _ _ _ _ _ (Act.put _ (some 40) _) _
      try simp only [Act.put, List.setIfInBounds_toArray, List.set_cons_zero, List.set_cons_succ]
      refine wpAnyH_take (i := 6) (v := (.bool false)) rfl (by kernel_rfl) (by kernel_rfl) (by kernel_rfl) (fun _ _ _ h => h) (Or.inl ⟨by kernel_rfl, ?_⟩) hS ?_
      · intro W' hSw
        obtain ⟨q0, q1'⟩ := hSw
        go_simp
      change wpAnyH _ _ _ _ _ _ _ (Act.put _ (some 41) _) _
      try simp only [Act.put, List.setIfInBounds_toArray, List.set_cons_zero, List.set_cons_succ]
      refine wpAnyH_take (i := 7) (v := undef) rfl (by kernel_rfl) (by kernel_rfl) (by kernel_rfl) (fun _ _ _ h => h) (Or.inr ⟨by kernel_rfl, rfl⟩) hS ?_
      change wpAnyH _ _ _ _ _ _ _ (Act.put _ (some 42) _) _
      try simp only [Act.put, List.setIfInBounds_toArray, List.set_cons_zero, List.set_cons_succ]
      refine wpAnyH_take (i := 8) (v := undef) rfl (by kernel_rfl) (by kernel_rfl) (by kernel_rfl) (fun _ _ _ h => h) (Or.inr ⟨by kernel_rfl, rfl⟩) hS ?_
      change wpAnyH _ _ _ _ _ _ _ (Act.put _ (some 43) _) _
      try simp only [Act.put, List.setIfInBounds_toArray, List.set_cons_zero, List.set_cons_succ]
      refine wpAnyH_take (i := 9) (v := undef) rfl (by kernel_rfl) (by kernel_rfl) (by kernel_rfl) (fun _ _ _ h => h) (Or.inr ⟨by kernel_rfl, rfl⟩) hS ?_
      change wpAnyH _ _ _ _ _ _ _ (Act.put _ (some 44) _) _
      try simp only [Act.put, List.setIfInBounds_toArray, List.set_cons_zero, List.set_cons_succ]
      refine wpAnyH_take (i := 10) (v := undef) rfl (by kernel_rfl) (by kernel_rfl) (by kernel_rfl) (fun _ _ _ h => h) (Or.inr ⟨by kernel_rfl, rfl⟩) hS ?_
      change wpAnyH _ _ _ _ _ _ _ (Act.put _ (some 45) _) _
      try simp only [Act.put, List.setIfInBounds_toArray, List.set_cons_zero, List.set_cons_succ]
      refine wpAnyH_take (i := 11) (v := undef) rfl (by kernel_rfl) (by kernel_rfl) (by kernel_rfl) (fun _ _ _ h => h) (Or.inr ⟨by kernel_rfl, rfl⟩) hS ?_
      change wpAnyH _ _ _ _ _ _ _ (Act.put _ (some 46) _) _
      try simp only [Act.put, List.setIfInBounds_toArray, List.set_cons_zero, List.set_cons_succ]
      refine wpAnyH_take (i := 12) (v := undef) rfl (by kernel_rfl) (by kernel_rfl) (by kernel_rfl) (fun _ _ _ h => h) (Or.inr ⟨by kernel_rfl, rfl⟩) hS ?_
      change wpAnyH _ _ _ _ _ _ _ (Act.put _ (some 47) _) _
      try simp only [Act.put, List.setIfInBounds_toArray, List.set_cons_zero, List.set_cons_succ]
      refine wpAnyH_take (i := 13) (v := undef) rfl (by kernel_rfl) (by kernel_rfl) (by kernel_rfl) (fun _ _ _ h => h) (Or.inr ⟨by kernel_rfl, rfl⟩) hS ?_
      change wpAnyH _ _ _ _ _ _ _ (Act.put _ (some 48) _) _
      try simp only [Act.put, List.setIfInBounds_toArray, List.set_cons_zero, List.set_cons_succ]
      refine wpAnyH_take (i := 14) (v := (.bool false)) rfl (by kernel_rfl) (by kernel_rfl) (by kernel_rfl) (fun _ _ _ h => h) (Or.inl ⟨by kernel_rfl, ?_⟩) hS ?_
      · intro W' hSw
        obtain ⟨q0, q1'⟩ := hSw
        go_simp
      change wpAnyH _ _ _ _ _ _ _ (Act.put _ (some 49) _) _
      try simp only [Act.put, List.setIfInBounds_toArray, List.set_cons_zero, List.set_cons_succ]
      refine wpAnyH_take (i := 15) (v := (.bool false)) rfl (by kernel_rfl) (by kernel_rfl) (by kernel_rfl) (fun _ _ _ h => h) (Or.inl ⟨by kernel_rfl, ?_⟩) hS ?_
      · intro W' hSw
        obtain ⟨q0, q1'⟩ := hSw
        go_simp
      change wpAnyH _ _ _ _ _ _ _ (Act.put _ (some 50) _) _
      try simp only [Act.put, List.setIfInBounds_toArray, List.set_cons_zero, List.set_cons_succ]
      obtain ⟨y0, y1⟩ := hS
      refine wpAnyH_ready (rs := [16]) (by kernel_rfl) (by simp) ?_
      refine AllReadyH.cons rfl (fun K hK => ?_) ?_
      · go_simp
        refine hK.out _ _ ?_ (fun hHeld => ?_)
        · exact ⟨LS.out.bg.cell 0, LS.out.bg.free 0⟩
        clear hK K hHeld
        refine wpAnyH_done (by kernel_rfl) ?_ _
        go_wp2_with fail
        go_end0
        exact b1post hr.out ld fd
      · exact AllReadyH.nil
end Go.Proofs.YtmahoppjefhnjaaDoor.sh
