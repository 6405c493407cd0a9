import Derived.Test.YtdmmkjijgoiecaaUVr4
import Derived.Test.YtdmmkjijgoiecaaV04
import Derived.Test.YtdmmkjijgoiecaaURnd
import Derived.RangeFuncBox
import Derived.Maps.AppendAt
/-
  varint: the Writer's Number.
-/
set_option linter.all false
namespace Go.Proofs.Ytdmmkjijgoiecaa.vr
open Go.RowKit Go.Shelf Go.Proofs.Ytdmmkjijgoiecaa.mem

attribute [local go_sem] Oper.semAt_some

def bytev (l : List UInt8) : List Value := l.map fun b => Value.int .u8 (b.toNat : Int)
theorem bytev_len (l : List UInt8) : (bytev l).length = l.length := by simp [bytev]
theorem bytev_snoc (l : List UInt8) (b : UInt8) : bytev l ++ [Value.int .u8 (b.toNat : Int)] = bytev (l ++ [b]) := by simp [bytev]
theorem bytev_app (l m : List UInt8) : bytev l ++ bytev m = bytev (l ++ m) := by simp [bytev]

theorem info_u8 : (Try.prog.info? 5).map (fun i => (i.zero, i.size, i.bytes)) = some (some (.int .u8 0), 1, 1) := by kernel_rfl

/-- a writer in memory -/
structure WA (w : World) (f : Nat) (A : Option Addr) (cap : Nat) (st : List UInt8 × Int) : Prop where
  box : Box w f 57 #[.slice A st.1.length cap, .int .i64 st.2]
  seg : Seg w 5 A cap (bytev st.1)

theorem WA.nf {w : World} {f : Nat} {A : Option Addr} {cap : Nat} {st : List UInt8 × Int} (h : WA w f A cap st) : f ∉ blk A := h.seg.ne_box h.box (by decide)

theorem WA.kept {F : List Nat} {w w' : World} {f : Nat} {A : Option Addr} {cap : Nat} {st : List UInt8 × Int} (h : WA w f A cap st) (hf : Fr F w w') (h1 : f ∉ F) (h2 : ∀ g ∈ blk A, g ∉ F) : WA w' f A cap st := ⟨h.box.kept hf h1, h.seg.kept hf h2⟩
theorem WA.setE {w : World} {f : Nat} {A : Option Addr} {cap : Nat} {st : List UInt8 × Int} (h : WA w f A cap st) (e : Int) : WA (w.setCell ⟨f, 1, none⟩ (.int .i64 e)) f A cap (st.1, e) :=
  ⟨h.box.put 1 _, h.seg.kept ((Fr.refl [f] w).setCell (p := ⟨f, 1, none⟩) (Or.inl (by simp)) _) (fun g hg e => by rw [List.mem_singleton] at e; subst e; exact h.nf hg)⟩

def WPost (w : World) (f : Nat) (A : Option Addr) (st : List UInt8 × Int) (e : Ending) (w' : World) : Prop :=
  e = .returned (.tuple #[]) ∧ ∃ A' cap', WA w' f A' cap' st ∧ Fr (f :: blk A) w w' ∧ ∀ g ∈ blk A', g ∈ blk A ∨ w.heap.size ≤ g

set_option maxRecDepth 100000 in
theorem wn_no (w : World) (f : Nat) (A : Option Addr) (cap : Nat) (st : List UInt8 × Int) (n : Int) (h : WA w f A cap st) (hno : st.2 ≠ 0 ∨ n < 0 ∨ 268435456 < n) :
    Calls Try.prog 113 #[.pointer (some ⟨f, 0, none⟩), .int .i64 n] w (WPost w f A (putN st n)) := by
  have hw1 : WA (w.alloc (.cells #[.pointer (some ⟨f, 0, none⟩)] 114)) f A cap st := h.kept ((Fr.refl [] w).alloc _) (by simp) (by simp)
  have c1 : (w.alloc (.cells #[.pointer (some ⟨f, 0, none⟩)] 114)).cell? ⟨f, 1, none⟩ = some (.int .i64 st.2) := hw1.box.cell 1
  have cb := new_cell w (.pointer (some ⟨f, 0, none⟩)) 114
  have fr : (w.alloc (.cells #[.pointer (some ⟨f, 0, none⟩)] 114)).frozen? ⟨f, 1, none⟩ = false := hw1.box.free 1
  have H := Lib.hid hw1
  have HF := Lib.hid ((Fr.refl (f :: blk A) w).alloc (.cells #[.pointer (some ⟨f, 0, none⟩)] 114))
  clear h hw1
  obtain ⟨S, E⟩ := st
  unfold putN
  simp only at c1 hno ⊢
  by_cases hE : E = 0
  · subst hE
    have hv : Hid ((if (0 : Int) ≠ 0 then (S, (0 : Int)) else if n < 0 ∨ 268435456 < n then (S, 2) else (S ++ nb n.toNat, 0)) = (S, 2)) := Lib.hid (by rw [if_neg (by simp), if_pos (by omega)])
    rw [hv.out]
    clear hv
    have hs := Lib.hid (H.out.setE 2)
    have hf := Lib.hid (HF.out.setCell (p := ⟨f, 1, none⟩) (Or.inl (by simp)) (.int .i64 2))
    have hb : Hid (∀ g ∈ blk A, g ∈ blk A ∨ w.heap.size ≤ g) := Lib.hid (fun g hg => Or.inl hg)
    by_cases h1 : n < 0
    · have d1 : decide (n < 0) = true := decide_eq_true h1
      go_enter Try.func113, Try.ntmps113
      go_wp2_with fail
      refine bodyPost_ret (results_none rfl _ _ _) rfl ?_
      exact ⟨rfl, A, cap, hs.out, hf.out, hb.out⟩
    · have d1 : decide (n < 0) = false := decide_eq_false h1
      have d2 : decide (268435456 < n) = true := decide_eq_true (by omega)
      go_enter Try.func113, Try.ntmps113
      go_wp2_with fail
      refine bodyPost_ret (results_none rfl _ _ _) rfl ?_
      exact ⟨rfl, A, cap, hs.out, hf.out, hb.out⟩
  · have hv : Hid ((if E ≠ 0 then (S, E) else if n < 0 ∨ 268435456 < n then (S, 2) else (S ++ nb n.toNat, 0)) = (S, E)) := Lib.hid (by rw [if_pos hE])
    rw [hv.out]
    have d0 : (E != 0) = true := by simp; exact hE
    clear hv fr
    go_enter Try.func113, Try.ntmps113
    go_wp2_with fail
    refine bodyPost_ret (results_none rfl _ _ _) rfl ?_
    exact ⟨rfl, A, cap, H.out, HF.out, fun g hg => Or.inl hg⟩

theorem box_grown {W W' : World} {row : Option Nat} {g : Nat} {t : TypeId} {cs : Array Value} (h : Box W g t cs) (hg : W.grownBy W' row) (hr : ∀ r, row = some r → ∃ o : Obj, W.heap[r]? = some o ∧ o.isCells = false) : Box W' g t cs := by
  refine (hg.block g h.lt (fun e => ?_)).trans h
  obtain ⟨o, ho, hc⟩ := hr g e.symm
  unfold Box at h
  rw [h] at ho
  cases ho
  cases hc

theorem seg_grown {W W' : World} {row : Option Nat} {e : TypeId} {A : Option Addr} {cap : Nat} {xs : List Value} (h : Seg W e A cap xs) (hg : W.grownBy W' row) (hr : ∀ r, row = some r → ∃ o : Obj, W.heap[r]? = some o ∧ o.isCells = false) : Seg W' e A cap xs := by
  refine ⟨h.1, h.2.1, h.2.2.1, fun a ha => ?_⟩
  obtain ⟨hs, cur, hc, r⟩ := h.2.2.2 a ha
  refine ⟨hs, cur, (hg.block _ (Array.getElem?_eq_some_iff.1 hc).1 (fun e => ?_)).trans hc, r⟩
  obtain ⟨o, ho, hn⟩ := hr _ e.symm
  rw [hc] at ho
  cases ho
  cases hn

/-- between two rounds -/
structure WI (w W : World) (f : Nat) (A A1 : Option Addr) (cap1 : Nat) (S : List UInt8) : Prop where
  wa : WA W f A1 cap1 (S, 0)
  fr : Fr (f :: blk A) w W
  own : ∀ g ∈ blk A1, g ∈ blk A ∨ w.heap.size ≤ g
  bx : Box W w.heap.size 114 #[.pointer (some ⟨f, 0, none⟩)]

theorem WI.grown {w W W' : World} {f : Nat} {A A1 : Option Addr} {cap1 : Nat} {S : List UInt8} {row : Option Nat} (h : WI w W f A A1 cap1 S) (hg : W.grownBy W' row) (hr : ∀ r, row = some r → w.heap.size ≤ r ∧ ∃ o : Obj, W.heap[r]? = some o ∧ o.isCells = false) : WI w W' f A A1 cap1 S := by
  have hr2 : ∀ r, row = some r → ∃ o : Obj, W.heap[r]? = some o ∧ o.isCells = false := fun r e => (hr r e).2
  exact ⟨⟨box_grown h.wa.box hg hr2, seg_grown h.wa.seg hg hr2⟩, h.fr.grown hg (fun k e => Or.inr (hr k e).1), h.own, box_grown h.bx hg hr2⟩

theorem keeps_fr {W W' : World} {L : List Nat} (h : Fr L W W') (hc : ∀ g ∈ L, ∃ o : Obj, W.heap[g]? = some o ∧ o.isCells = true) : KeepsOthers W W' :=
  ⟨h.size, fun k o hk ho => by
    have hlt : k < W.heap.size := (Array.getElem?_eq_some_iff.1 hk).1
    refine (h.block k hlt (fun hm => ?_)).trans hk
    obtain ⟨o', h1, h2⟩ := hc k hm
    rw [hk] at h1
    cases h1
    rw [ho] at h2
    cases h2⟩

theorem seg_cells {w : World} {e : TypeId} {A : Option Addr} {cap : Nat} {xs : List Value} (h : Seg w e A cap xs) : ∀ g ∈ blk A, ∃ o : Obj, w.heap[g]? = some o ∧ o.isCells = true := by
  intro g hg
  cases A with
  | none => cases hg
  | some a =>
    obtain ⟨_, cur, hc, _⟩ := h.2.2.2 a rfl
    simp only [blk, List.mem_singleton] at hg
    subst hg
    exact ⟨_, hc, rfl⟩

structure Fin (w W w3 : World) (f : Nat) (A A3 : Option Addr) (cap3 L : Nat) (T : List UInt8) : Prop where
  c : ∃ v, w3.cell? ⟨f, 0, none⟩ = some v
  fr : w3.frozen? ⟨f, 0, none⟩ = false
  wi : WI w (w3.setCell ⟨f, 0, none⟩ (.slice A3 (L + 1) cap3)) f A A3 cap3 T
  ko : KeepsOthers W (w3.setCell ⟨f, 0, none⟩ (.slice A3 (L + 1) cap3))
  sx : w3.cell? ⟨w.heap.size, 0, none⟩ = some (.pointer (some ⟨f, 0, none⟩))

theorem body_fin {w W W1 w3 : World} {f : Nat} {A A1 A3 : Option Addr} {cap1 cap3 L : Nat} {S : List UInt8} {x : UInt8} (hi : WI w W f A A1 cap1 S) (hL : S.length = L) (hW : Fr [] W W1) (hs3 : Seg w3 5 A3 cap3 (bytev S ++ [Value.int .u8 (x.toNat : Int)])) (f3 : Fr (blk A1) W1 w3) (hf3 : blk A3 = blk A1 ∨ blk A3 = [W1.heap.size]) : Fin w W w3 f A A3 cap3 L (S ++ [x]) := by
  have nf := hi.wa.nf
  have hF : Fr (blk A1) W w3 := hW.trans f3 (by simp) (fun g hg => Or.inl hg)
  have hbx := hi.wa.box.kept hF nf
  have hfl : f < W.heap.size := hi.wa.box.lt
  have hsw := hi.fr.size
  have hA3 : f ∉ blk A3 := hs3.ne_box hbx (by decide)
  have hset : Fr [f] w3 (w3.setCell ⟨f, 0, none⟩ (.slice A3 (L + 1) cap3)) := (Fr.refl [f] w3).setCell (Or.inl (by simp)) _
  refine ⟨⟨_, hbx.cell 0⟩, hbx.free 0, ⟨⟨?_, ?_⟩, ?_, ?_, ?_⟩, ?_, ?_⟩
  · have := hbx.put 0 (.slice A3 (L + 1) cap3)
    have e : (S ++ [x], (0 : Int)).1.length = L + 1 := by simp [hL]
    rw [e]
    exact this
  · have := hs3.kept hset (fun g hg e => by rw [List.mem_singleton] at e; subst e; exact hA3 hg)
    rwa [bytev_snoc] at this
  · have h1 : Fr (f :: blk A) w w3 := hi.fr.trans hF (fun g hg => Or.inl hg) (fun g hg => (hi.own g hg).imp (fun h => List.mem_cons_of_mem _ h) id)
    exact h1.trans hset (fun g hg => Or.inl hg) (fun g hg => Or.inl (by rw [List.mem_singleton] at hg; subst hg; exact List.mem_cons_self))
  · intro g hg
    rcases hf3 with e | e
    · exact hi.own g (e ▸ hg)
    · rw [e, List.mem_singleton] at hg
      have := hW.size
      subst hg
      exact Or.inr (by omega)
  · have n1 : w.heap.size ∉ blk A1 := hi.wa.seg.ne_box hi.bx (by decide)
    have n2 : w.heap.size ∉ [f] := by
      intro e
      rw [List.mem_singleton] at e
      have h1 := hi.bx
      have h2 := hi.wa.box
      unfold Box at h1 h2
      rw [e, h2] at h1
      simp at h1
    exact (hi.bx.kept hF n1).kept hset n2
  · exact (keeps_fr hF (seg_cells hi.wa.seg)).trans (KeepsOthers.setCell _ _ _)
  · exact (hi.bx.kept hF (hi.wa.seg.ne_box hi.bx (by decide))).cell 0

set_option maxRecDepth 100000 in
set_option maxHeartbeats 2000000 in
theorem wn_yes (w : World) (f : Nat) (A : Option Addr) (cap : Nat) (S : List UInt8) (k : Nat) (h : WA w f A cap (S, 0)) (hk : k ≤ 268435456) (hl : S.length ≤ 100000000) :
    Calls Try.prog 113 #[.pointer (some ⟨f, 0, none⟩), .int .i64 k] w (WPost w f A (S ++ nb k, 0)) := by
  have hw1 : WA (w.alloc (.cells #[.pointer (some ⟨f, 0, none⟩)] 114)) f A cap (S, 0) := h.kept ((Fr.refl [] w).alloc _) (by simp) (by simp)
  have c1 : (w.alloc (.cells #[.pointer (some ⟨f, 0, none⟩)] 114)).cell? ⟨f, 1, none⟩ = some (.int .i64 0) := hw1.box.cell 1
  have cb := new_cell w (.pointer (some ⟨f, 0, none⟩)) 114
  have d1 : decide ((k : Int) < 0) = false := decide_eq_false (by omega)
  have d2 : decide (268435456 < (k : Int)) = false := decide_eq_false (by omega)
  refine (callsIn_wide (n := 6)).1 ?_
  refine callsIn_of_wp_marks Try.func113 rfl trivial ?_ rfl
  simp only [Try.ntmps113, List.size_toArray, List.length_cons, List.length_nil, Nat.reduceAdd, Nat.reduceSub, Array.replicate_succ, Array.replicate_zero, List.push_toArray, List.append_toArray, List.nil_append, List.cons_append]
  gi_wp2_with (refine ⟨trivial, ?_⟩; gi_at_call 116; refine (sevens_in Fence.wide _ trivial rfl k _).mono ?_; rintro e w' ⟨rfl, rfl⟩)
  have hB0 : WI w ((w.alloc (.cells #[.pointer (some ⟨f, 0, none⟩)] 114)).alloc (.cells #[.int .i64 (k : Int)] 3)) f A A cap S := by
    refine ⟨hw1.kept ((Fr.refl [] _).alloc _) (by simp) (by simp), ((Fr.refl _ w).alloc _).alloc _, fun g hg => Or.inl hg, (Box.new w _ _).kept ((Fr.refl [] _).alloc _) (by simp)⟩
  have hbk : ((w.alloc (.cells #[.pointer (some ⟨f, 0, none⟩)] 114)).alloc (.cells #[.int .i64 (k : Int)] 3)).cell? ⟨w.heap.size + 1, 0, none⟩ = some (.int .i64 (k : Int)) := by
    have := new_cell (w.alloc (.cells #[.pointer (some ⟨f, 0, none⟩)] 114)) (.int .i64 (k : Int)) 3
    rwa [World.size_alloc] at this
  have hn5 := nb_len k hk
  refine wpIn_rangeFunc_ownF (F := Fence.wide) rfl (by omega) (gf := 118) (lb := #[.pointer (some ⟨w.heap.size + 1, 0, none⟩)]) rfl trivial (enters_of Try.func118 (by kernel_rfl) rfl)
    (sevens_stops Fence.wide _ trivial rfl (by omega) (w.heap.size + 1) k hk _ (by simp) hbk) (fun _ _ => trivial) (fun _ _ _ _ _ _ _ _ => trivial) (Below.refl _ _) (fun _ => rfl)
    (fun pre W => ∃ A1 cap1, WI w W f A A1 cap1 (S ++ pre))
    (fun _ _ _ => False)
    (fun s W W' row hs hg hr => by
      obtain ⟨A1, cap1, h1⟩ := hs
      exact ⟨A1, cap1, h1.grown hg (fun r e => ⟨by have := (hr r e).1; simp at this; omega, (hr r e).2⟩)⟩)
    (fun _ _ _ _ _ hs _ _ => hs)
    ⟨A, cap, by rw [List.append_nil]; exact hB0⟩
    (fun x => { tmps := #[.pointer (some ⟨f, 0, none⟩), .int .i64 k, .pointer (some ⟨w.heap.size, 0, none⟩), undef, .int .u8 (x.toNat : Int), .pointer (some ⟨f, 0, none⟩), .bool false, .bool false, .pointer (some ⟨f, 0, none⟩), .pointer (some ⟨f, 0, none⟩), .pointer (some ⟨f, 1, none⟩), .int .i64 0, .bool false, .bool false, .int .i64 k, .bool false, .bool false, .int .i64 k, .bool false, .bool false, undef, undef, undef, .int .i64 k, .func (.func 118) #[] #[.pointer (some ⟨w.heap.size + 1, 0, none⟩)], .int .u8 (x.toNat : Int), undef, undef, undef, undef, undef, undef, undef, undef, undef, undef], defers := [] }) ?assign ?body ?done ?stop
  case assign =>
    intro l x W K hK
    gi_wp2
    exact hK
  case body =>
    rintro l pre x W ⟨A1, cap1, hi⟩ hlt
    obtain ⟨L, hL⟩ : ∃ L, Hid ((S ++ pre).length = L) := ⟨_, Lib.hid rfl⟩
    have hLl : L ≤ 100000005 := by have := hL.out; rw [List.length_append] at this; omega
    have HI := Lib.hid hi
    have c0 : W.cell? ⟨f, 0, none⟩ = some (.slice A1 L cap1) := by have := hi.wa.box.cell 0; rw [show ((S ++ pre, (0 : Int)).1.length) = L from hL.out] at this; exact this
    have cbx : W.drew.cell? ⟨w.heap.size, 0, none⟩ = some (.pointer (some ⟨f, 0, none⟩)) := hi.bx.cell 0
    have hseg : Hid (Seg (W.drew.alloc (.cells #[.int .u8 (x.toNat : Int)] 5)) 5 A1 cap1 (bytev (S ++ pre))) := Lib.hid (hi.wa.seg.drew.alloc _)
    have hWf : Hid (Fr [] W (W.drew.alloc (.cells #[.int .u8 (x.toNat : Int)] 5))) := Lib.hid ((Fr.refl [] W).drew.alloc _)
    have hne : Hid (W.drew.cell? ⟨f, 0, none⟩ = some (.slice A1 L cap1) ∧ (W.drew.alloc (.cells #[.int .u8 (x.toNat : Int)] 5)).cell? ⟨f, 0, none⟩ = some (.slice A1 L cap1)) := Lib.hid ⟨c0, (((hi.wa.box.kept hWf.out (by simp)).cell 0).trans (by rw [← c0]; exact (hi.wa.box.cell 0).symm))⟩
    have hlen : Hid (L = (bytev (S ++ pre)).length) := Lib.hid (by rw [bytev_len, hL.out])
    have hSb : Hid ((W.drew.alloc (.cells #[.int .u8 (x.toNat : Int)] 5)).cell? ⟨w.heap.size, 0, none⟩ = some (.pointer (some ⟨f, 0, none⟩))) := Lib.hid ((hi.bx.kept hWf.out (by simp)).cell 0)
    obtain ⟨i0, hi0, hz0, hz1, hz2⟩ := info_parts info_u8
    have Hi := Lib.hid hi0
    have Hz0 := Lib.hid hz0
    have Hz1 := Lib.hid hz1
    have Hz2 := Lib.hid hz2
    clear hi c0 hi0 hz0 hz1 hz2 h hw1 c1 cb hB0 hbk
    refine wpIn_block ?_
    refine region_round (S := fun W' => W'.cell? ⟨w.heap.size, 0, none⟩ = some (.pointer (some ⟨f, 0, none⟩))) (by kernel_rfl) (by intro i o ho c hc; rcases i with _ | _ | _ | _ | _ | _ | _ | _ | _ | _ | _ | i <;> simp at ho <;> subst ho <;> cases hc) ?_
    refine wpAnyH_take (i := 0) (v := (.pointer (some ⟨f, 0, none⟩))) rfl (by kernel_rfl) (by kernel_rfl) (by kernel_rfl) (fun _ _ _ h => absurd h.1 (by simp)) (Or.inl ⟨by rfl, ?_⟩) cbx ?_
    · intro W' hSw
      go_simp
    try simp only [Act.put, List.setIfInBounds_toArray, List.set_cons_zero, List.set_cons_succ]
    refine wpAnyH_take (i := 1) (v := (.pointer (some ⟨f, 0, none⟩))) rfl (by kernel_rfl) (by kernel_rfl) (by kernel_rfl) (fun _ _ _ h => absurd h.1 (by simp)) (Or.inl ⟨by rfl, ?_⟩) cbx ?_
    · intro W' hSw
      go_simp
    try simp only [Act.put, List.setIfInBounds_toArray, List.set_cons_zero, List.set_cons_succ]
    refine wpAnyH_take (i := 2) (v := (.pointer (some ⟨f, 0, none⟩))) rfl (by kernel_rfl) (by kernel_rfl) (by kernel_rfl) (fun _ _ _ h => absurd h.1 (by simp)) (Or.inl ⟨by rfl, ?_⟩) cbx ?_
    · intro W' hSw
      go_simp
    try simp only [Act.put, List.setIfInBounds_toArray, List.set_cons_zero, List.set_cons_succ]
    refine wpAnyH_take (i := 3) (v := (.pointer (some ⟨f, 0, none⟩))) rfl (by kernel_rfl) (by kernel_rfl) (by kernel_rfl) (fun _ _ _ h => absurd h.1 (by simp)) (Or.inl ⟨by rfl, ?_⟩) cbx ?_
    · intro W' hSw
      go_simp
    try simp only [Act.put, List.setIfInBounds_toArray, List.set_cons_zero, List.set_cons_succ]
    refine wpAnyH_take (i := 5) (v := (.int .u8 (x.toNat : Int))) rfl (by kernel_rfl) (by kernel_rfl) (by kernel_rfl) (fun _ _ _ h => absurd h.1 (by simp)) (Or.inl ⟨by rfl, ?_⟩) cbx ?_
    · intro W' hSw
      go_simp
    try simp only [Act.put, List.setIfInBounds_toArray, List.set_cons_zero, List.set_cons_succ]
    refine wpAnyH_ready (rs := [4, 6]) (by kernel_rfl) (by simp) ?_
    refine AllReadyH.cons rfl (fun K hK => ?_) (AllReadyH.cons rfl (fun K hK => ?_) AllReadyH.nil)
    · have c0 := hne.out.1
      go_simp
      refine hK.out _ _ cbx (fun _ => ?_)
      clear hK
      try simp only [Act.put, List.setIfInBounds_toArray, List.set_cons_zero, List.set_cons_succ]
      refine wpAnyH_ready (rs := [6]) (by kernel_rfl) (by simp) ?_
      refine AllReadyH.cons rfl (fun K hK => ?_) AllReadyH.nil
      go_simp
      refine hK.out _ _ hSb.out (fun _ => ?_)
      clear hK c0
      try simp only [Act.put, List.setIfInBounds_toArray, List.set_cons_zero, List.set_cons_succ]
      refine wpAnyH_ready (rs := [7]) (by kernel_rfl) (by simp) ?_
      refine AllReadyH.cons rfl (fun K hK => ?_) AllReadyH.nil
      refine step_push (by rfl) (.tmp 30) (.tmp 32) _ (by rfl) hseg.out hlen.out Try.underlying55 Hi.out Hz0.out Hz1.out Hz2.out rfl (by rfl) (by rfl) (new_cell _ _ _) rfl (by omega) (by omega) ?_
      intro A3 cap3 w3 hs3 f3 hf3
      have hfin := Lib.hid (body_fin HI.out hL.out hWf.out hs3 f3 hf3)
      clear hs3 f3 hf3
      refine hK.out _ _ hfin.out.sx (fun _ => ?_)
      clear hK
      try simp only [Act.put, List.setIfInBounds_toArray, List.set_cons_zero, List.set_cons_succ]
      refine wpAnyH_take (i := 8) (v := (.pointer (some ⟨f, 0, none⟩))) rfl (by kernel_rfl) (by kernel_rfl) (by kernel_rfl) (fun _ _ _ h => absurd h.1 (by simp)) (Or.inl ⟨by rfl, ?_⟩) hfin.out.sx ?_
      · intro W' hSw
        go_simp
      try simp only [Act.put, List.setIfInBounds_toArray, List.set_cons_zero, List.set_cons_succ]
      refine wpAnyH_take (i := 9) (v := (.pointer (some ⟨f, 0, none⟩))) rfl (by kernel_rfl) (by kernel_rfl) (by kernel_rfl) (fun _ _ _ h => absurd h.1 (by simp)) (Or.inl ⟨by rfl, ?_⟩) hfin.out.sx ?_
      · intro W' hSw
        go_simp
      try simp only [Act.put, List.setIfInBounds_toArray, List.set_cons_zero, List.set_cons_succ]
      obtain ⟨v3, hc3⟩ := hfin.out.c
      have hf3 := hfin.out.fr
      refine wpAnyH_ready (rs := [10]) (by kernel_rfl) (by simp) ?_
      refine AllReadyH.cons rfl (fun K hK => ?_) AllReadyH.nil
      go_simp
      refine hK.out _ _ (hfin.out.wi.bx.cell 0) (fun _ => ?_)
      refine wpAnyH_done (by kernel_rfl) ?_ _
      refine ⟨rfl, ?_⟩
      exact ⟨hfin.out.ko, trivial, A3, cap3, by have := hfin.out.wi; rwa [List.append_assoc] at this⟩
    · go_simp
      refine hK.out _ _ hSb.out (fun _ => ?_)
      clear hK
      try simp only [Act.put, List.setIfInBounds_toArray, List.set_cons_zero, List.set_cons_succ]
      have c0 : (W.alloc (.cells #[.int .u8 (x.toNat : Int)] 5)).cell? ⟨f, 0, none⟩ = some (.slice A1 L cap1) := hne.out.2
      refine wpAnyH_ready (rs := [4]) (by kernel_rfl) (by simp) ?_
      refine AllReadyH.cons rfl (fun K hK => ?_) AllReadyH.nil
      go_simp
      refine hK.out _ _ hSb.out (fun _ => ?_)
      clear hK c0
      try simp only [Act.put, List.setIfInBounds_toArray, List.set_cons_zero, List.set_cons_succ]
      refine wpAnyH_ready (rs := [7]) (by kernel_rfl) (by simp) ?_
      refine AllReadyH.cons rfl (fun K hK => ?_) AllReadyH.nil
      refine step_push (by rfl) (.tmp 30) (.tmp 32) _ (by rfl) hseg.out hlen.out Try.underlying55 Hi.out Hz0.out Hz1.out Hz2.out rfl (by rfl) (by rfl) (new_cell _ _ _) rfl (by omega) (by omega) ?_
      intro A3 cap3 w3 hs3 f3 hf3
      have hfin := Lib.hid (body_fin HI.out hL.out hWf.out hs3 f3 hf3)
      clear hs3 f3 hf3
      refine hK.out _ _ hfin.out.sx (fun _ => ?_)
      clear hK
      try simp only [Act.put, List.setIfInBounds_toArray, List.set_cons_zero, List.set_cons_succ]
      refine wpAnyH_take (i := 8) (v := (.pointer (some ⟨f, 0, none⟩))) rfl (by kernel_rfl) (by kernel_rfl) (by kernel_rfl) (fun _ _ _ h => absurd h.1 (by simp)) (Or.inl ⟨by rfl, ?_⟩) hfin.out.sx ?_
      · intro W' hSw
        go_simp
      try simp only [Act.put, List.setIfInBounds_toArray, List.set_cons_zero, List.set_cons_succ]
      refine wpAnyH_take (i := 9) (v := (.pointer (some ⟨f, 0, none⟩))) rfl (by kernel_rfl) (by kernel_rfl) (by kernel_rfl) (fun _ _ _ h => absurd h.1 (by simp)) (Or.inl ⟨by rfl, ?_⟩) hfin.out.sx ?_
      · intro W' hSw
        go_simp
      try simp only [Act.put, List.setIfInBounds_toArray, List.set_cons_zero, List.set_cons_succ]
      obtain ⟨v3, hc3⟩ := hfin.out.c
      have hf3 := hfin.out.fr
      refine wpAnyH_ready (rs := [10]) (by kernel_rfl) (by simp) ?_
      refine AllReadyH.cons rfl (fun K hK => ?_) AllReadyH.nil
      go_simp
      refine hK.out _ _ (hfin.out.wi.bx.cell 0) (fun _ => ?_)
      refine wpAnyH_done (by kernel_rfl) ?_ _
      refine ⟨rfl, ?_⟩
      exact ⟨hfin.out.ko, trivial, A3, cap3, by have := hfin.out.wi; rwa [List.append_assoc] at this⟩
  case done =>
    rintro D ys W hD rfl ⟨A1, cap1, hi⟩ hK
    gi_wp2
    refine ⟨by simp, .inl ⟨_, _, rfl, run_takeDeferred hK, ?_⟩⟩
    have hw := hi.grown (grownBy_putObj' W D (.deferred none)) (fun r e => by cases e; exact ⟨by simp at hD; omega, _, hK, rfl⟩)
    exact ⟨_, results_none rfl _ _ _, rfl, A1, cap1, hw.wa, hw.fr, hw.own⟩
  case stop =>
    rintro D c pre W hD _ h _
    exact h.elim
end Go.Proofs.Ytdmmkjijgoiecaa.vr
