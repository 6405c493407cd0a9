import Derived.Test.YtdmmkjijgoiecaaUVr4
import Derived.Test.YtdmmkjijgoiecaaV04
import Derived.Lib.BufferRead
import Derived.Test.YtdmmkjijgoiecaaURnd
import Derived.RangeFuncBox
import Derived.Maps.AppendAt
import Derived.Test.YtdmmkjijgoiecaaUVr5
/-
  varint: the Writer's Number, wherever the writer lies at a block's beginning (a struct may hold it as its first part).
-/
set_option linter.all false
namespace Go.Proofs.Ytdmmkjijgoiecaa.vx
open Go.RowKit Go.Shelf Go.Proofs.Ytdmmkjijgoiecaa.mem Go.Proofs.Ytdmmkjijgoiecaa.vr

attribute [local go_sem] Oper.semAt_some

def bytev (l : List UInt8) : List Value := l.map fun b => Value.int .u8 (b.toNat : Int)
theorem bytev_len (l : List UInt8) : (bytev l).length = l.length := by simp [bytev]
theorem bytev_snoc (l : List UInt8) (b : UInt8) : bytev l ++ [Value.int .u8 (b.toNat : Int)] = bytev (l ++ [b]) := by simp [bytev]
theorem bytev_app (l m : List UInt8) : bytev l ++ bytev m = bytev (l ++ m) := by simp [bytev]

theorem info_u8 : (Try.prog.info? 5).map (fun i => (i.zero, i.size, i.bytes)) = some (some (.int .u8 0), 1, 1) := by kernel_rfl

theorem ta0 (a : Value) (l : List Value) : (a :: l).toArray[0]? = some a := by simp
theorem ta1 (a b : Value) (l : List Value) : (a :: b :: l).toArray[1]? = some b := by simp
theorem tp0 (a v : Value) (l : List Value) : (a :: l).toArray.setIfInBounds 0 v = (v :: l).toArray := by simp
theorem tp1 (a b v : Value) (l : List Value) : (a :: b :: l).toArray.setIfInBounds 1 v = (a :: v :: l).toArray := by simp

/-- a writer in memory: a block of type TX, with XS behind it -/
structure WX (TX : TypeId) (XS : List Value) (w : World) (f : Nat) (A : Option Addr) (cap : Nat) (st : List UInt8 × Int) : Prop where
  box : Box w f TX (.slice A st.1.length cap :: .int .i64 st.2 :: XS).toArray
  seg : Seg w 5 A cap (bytev st.1)
  ne : 5 ≠ TX ∧ TX ≠ 114
variable {TX : TypeId} {XS : List Value}
theorem WX.c0 {w : World} {f : Nat} {A : Option Addr} {cap : Nat} {st : List UInt8 × Int} (h : WX TX XS w f A cap st) : w.cell? ⟨f, 0, none⟩ = some (.slice A st.1.length cap) := (h.box.cell 0).trans (ta0 _ _)
theorem WX.c1 {w : World} {f : Nat} {A : Option Addr} {cap : Nat} {st : List UInt8 × Int} (h : WX TX XS w f A cap st) : w.cell? ⟨f, 1, none⟩ = some (.int .i64 st.2) := (h.box.cell 1).trans (ta1 _ _ _)
theorem WX.nf {w : World} {f : Nat} {A : Option Addr} {cap : Nat} {st : List UInt8 × Int} (h : WX TX XS w f A cap st) : f ∉ blk A := h.seg.ne_box h.box h.ne.1
theorem WX.kept {F : List Nat} {w w' : World} {f : Nat} {A : Option Addr} {cap : Nat} {st : List UInt8 × Int} (h : WX TX XS w f A cap st) (hf : Fr F w w') (h1 : f ∉ F) (h2 : ∀ g ∈ blk A, g ∉ F) : WX TX XS w' f A cap st := ⟨h.box.kept hf h1, h.seg.kept hf h2, h.ne⟩
theorem WX.setE {w : World} {f : Nat} {A : Option Addr} {cap : Nat} {st : List UInt8 × Int} (h : WX TX XS w f A cap st) (e : Int) : WX TX XS (w.setCell ⟨f, 1, none⟩ (.int .i64 e)) f A cap (st.1, e) :=
  ⟨by have := h.box.put 1 (.int .i64 e); rwa [tp1] at this, h.seg.kept ((Fr.refl [f] w).setCell (p := ⟨f, 1, none⟩) (Or.inl (by simp)) _) (fun g hg e => by rw [List.mem_singleton] at e; subst e; exact h.nf hg), h.ne⟩

def WPost (TX : TypeId) (XS : List Value) (w : World) (f : Nat) (A : Option Addr) (st : List UInt8 × Int) (e : Ending) (w' : World) : Prop :=
  e = .returned (.tuple #[]) ∧ ∃ A' cap', WX TX XS w' f A' cap' st ∧ Fr (f :: blk A) w w' ∧ ∀ g ∈ blk A', g ∈ blk A ∨ w.heap.size ≤ g

set_option maxRecDepth 100000 in
theorem wn_no (w : World) (f : Nat) (A : Option Addr) (cap : Nat) (st : List UInt8 × Int) (n : Int) (h : WX TX XS w f A cap st) (hno : st.2 ≠ 0 ∨ n < 0 ∨ 268435456 < n) :
    Calls Try.prog 113 #[.pointer (some ⟨f, 0, none⟩), .int .i64 n] w (WPost TX XS w f A (putN st n)) := by
  have hw1 : WX TX XS (w.alloc (.cells #[.pointer (some ⟨f, 0, none⟩)] 114)) f A cap st := h.kept ((Fr.refl [] w).alloc _) (by simp) (by simp)
  have c1 : (w.alloc (.cells #[.pointer (some ⟨f, 0, none⟩)] 114)).cell? ⟨f, 1, none⟩ = some (.int .i64 st.2) := hw1.c1
  have cb := new_cell w (.pointer (some ⟨f, 0, none⟩)) 114
  have fr : (w.alloc (.cells #[.pointer (some ⟨f, 0, none⟩)] 114)).frozen? ⟨f, 1, none⟩ = false := hw1.box.free 1
  have H := Lib.hid hw1
  have HF := Lib.hid ((Fr.refl (f :: blk A) w).alloc (.cells #[.pointer (some ⟨f, 0, none⟩)] 114))
  clear h hw1
  obtain ⟨S, E⟩ := st
  unfold putN
  simp only at c1 hno ⊢
  by_cases hE : E = 0
  · subst hE
    have hv : Hid ((if (0 : Int) ≠ 0 then (S, (0 : Int)) else if n < 0 ∨ 268435456 < n then (S, 2) else (S ++ nb n.toNat, 0)) = (S, 2)) := Lib.hid (by rw [if_neg (by simp), if_pos (by omega)])
    rw [hv.out]
    clear hv
    have hs := Lib.hid (H.out.setE 2)
    have hf := Lib.hid (HF.out.setCell (p := ⟨f, 1, none⟩) (Or.inl (by simp)) (.int .i64 2))
    have hb : Hid (∀ g ∈ blk A, g ∈ blk A ∨ w.heap.size ≤ g) := Lib.hid (fun g hg => Or.inl hg)
    by_cases h1 : n < 0
    · have d1 : decide (n < 0) = true := decide_eq_true h1
      go_enter Try.func113, Try.ntmps113
      go_wp2_with fail
      refine bodyPost_ret (results_none rfl _ _ _) rfl ?_
      exact ⟨rfl, A, cap, hs.out, hf.out, hb.out⟩
    · have d1 : decide (n < 0) = false := decide_eq_false h1
      have d2 : decide (268435456 < n) = true := decide_eq_true (by omega)
      go_enter Try.func113, Try.ntmps113
      go_wp2_with fail
      refine bodyPost_ret (results_none rfl _ _ _) rfl ?_
      exact ⟨rfl, A, cap, hs.out, hf.out, hb.out⟩
  · have hv : Hid ((if E ≠ 0 then (S, E) else if n < 0 ∨ 268435456 < n then (S, 2) else (S ++ nb n.toNat, 0)) = (S, E)) := Lib.hid (by rw [if_pos hE])
    rw [hv.out]
    have d0 : (E != 0) = true := by simp; exact hE
    clear hv fr
    go_enter Try.func113, Try.ntmps113
    go_wp2_with fail
    refine bodyPost_ret (results_none rfl _ _ _) rfl ?_
    exact ⟨rfl, A, cap, H.out, HF.out, fun g hg => Or.inl hg⟩

theorem box_grown {W W' : World} {row : Option Nat} {g : Nat} {t : TypeId} {cs : Array Value} (h : Box W g t cs) (hg : W.grownBy W' row) (hr : ∀ r, row = some r → ∃ o : Obj, W.heap[r]? = some o ∧ o.isCells = false) : Box W' g t cs := by
  refine (hg.block g h.lt (fun e => ?_)).trans h
  obtain ⟨o, ho, hc⟩ := hr g e.symm
  unfold Box at h
  rw [h] at ho
  cases ho
  cases hc

theorem seg_grown {W W' : World} {row : Option Nat} {e : TypeId} {A : Option Addr} {cap : Nat} {xs : List Value} (h : Seg W e A cap xs) (hg : W.grownBy W' row) (hr : ∀ r, row = some r → ∃ o : Obj, W.heap[r]? = some o ∧ o.isCells = false) : Seg W' e A cap xs := by
  refine ⟨h.1, h.2.1, h.2.2.1, fun a ha => ?_⟩
  obtain ⟨hs, cur, hc, r⟩ := h.2.2.2 a ha
  refine ⟨hs, cur, (hg.block _ (Array.getElem?_eq_some_iff.1 hc).1 (fun e => ?_)).trans hc, r⟩
  obtain ⟨o, ho, hn⟩ := hr _ e.symm
  rw [hc] at ho
  cases ho
  cases hn

/-- between two rounds -/
structure WI (TX : TypeId) (XS : List Value) (w W : World) (f : Nat) (A A1 : Option Addr) (cap1 : Nat) (S : List UInt8) : Prop where
  wa : WX TX XS W f A1 cap1 (S, 0)
  fr : Fr (f :: blk A) w W
  own : ∀ g ∈ blk A1, g ∈ blk A ∨ w.heap.size ≤ g
  bx : Box W w.heap.size 114 #[.pointer (some ⟨f, 0, none⟩)]

theorem WI.grown {w W W' : World} {f : Nat} {A A1 : Option Addr} {cap1 : Nat} {S : List UInt8} {row : Option Nat} (h : WI TX XS w W f A A1 cap1 S) (hg : W.grownBy W' row) (hr : ∀ r, row = some r → w.heap.size ≤ r ∧ ∃ o : Obj, W.heap[r]? = some o ∧ o.isCells = false) : WI TX XS w W' f A A1 cap1 S := by
  have hr2 : ∀ r, row = some r → ∃ o : Obj, W.heap[r]? = some o ∧ o.isCells = false := fun r e => (hr r e).2
  exact ⟨⟨box_grown h.wa.box hg hr2, seg_grown h.wa.seg hg hr2, h.wa.ne⟩, h.fr.grown hg (fun k e => Or.inr (hr k e).1), h.own, box_grown h.bx hg hr2⟩

theorem keeps_fr {W W' : World} {L : List Nat} (h : Fr L W W') (hc : ∀ g ∈ L, ∃ o : Obj, W.heap[g]? = some o ∧ o.isCells = true) : KeepsOthers W W' :=
  ⟨h.size, fun k o hk ho => by
    have hlt : k < W.heap.size := (Array.getElem?_eq_some_iff.1 hk).1
    refine (h.block k hlt (fun hm => ?_)).trans hk
    obtain ⟨o', h1, h2⟩ := hc k hm
    rw [hk] at h1
    cases h1
    rw [ho] at h2
    cases h2⟩

theorem seg_cells {w : World} {e : TypeId} {A : Option Addr} {cap : Nat} {xs : List Value} (h : Seg w e A cap xs) : ∀ g ∈ blk A, ∃ o : Obj, w.heap[g]? = some o ∧ o.isCells = true := by
  intro g hg
  cases A with
  | none => cases hg
  | some a =>
    obtain ⟨_, cur, hc, _⟩ := h.2.2.2 a rfl
    simp only [blk, List.mem_singleton] at hg
    subst hg
    exact ⟨_, hc, rfl⟩

structure Fin (TX : TypeId) (XS : List Value) (w W w3 : World) (f : Nat) (A A3 : Option Addr) (cap3 L : Nat) (T : List UInt8) : Prop where
  c : ∃ v, w3.cell? ⟨f, 0, none⟩ = some v
  fr : w3.frozen? ⟨f, 0, none⟩ = false
  wi : WI TX XS w (w3.setCell ⟨f, 0, none⟩ (.slice A3 (L + 1) cap3)) f A A3 cap3 T
  ko : KeepsOthers W (w3.setCell ⟨f, 0, none⟩ (.slice A3 (L + 1) cap3))
  sx : w3.cell? ⟨w.heap.size, 0, none⟩ = some (.pointer (some ⟨f, 0, none⟩))

theorem body_fin {w W W1 w3 : World} {f : Nat} {A A1 A3 : Option Addr} {cap1 cap3 L : Nat} {S : List UInt8} {x : UInt8} (hi : WI TX XS w W f A A1 cap1 S) (hL : S.length = L) (hW : Fr [] W W1) (hs3 : Seg w3 5 A3 cap3 (bytev S ++ [Value.int .u8 (x.toNat : Int)])) (f3 : Fr (blk A1) W1 w3) (hf3 : blk A3 = blk A1 ∨ blk A3 = [W1.heap.size]) : Fin TX XS w W w3 f A A3 cap3 L (S ++ [x]) := by
  have nf := hi.wa.nf
  have hF : Fr (blk A1) W w3 := hW.trans f3 (by simp) (fun g hg => Or.inl hg)
  have hbx := hi.wa.box.kept hF nf
  have hfl : f < W.heap.size := hi.wa.box.lt
  have hsw := hi.fr.size
  have hA3 : f ∉ blk A3 := hs3.ne_box hbx hi.wa.ne.1
  have hset : Fr [f] w3 (w3.setCell ⟨f, 0, none⟩ (.slice A3 (L + 1) cap3)) := (Fr.refl [f] w3).setCell (Or.inl (by simp)) _
  refine ⟨⟨_, (hbx.cell 0).trans (ta0 _ _)⟩, hbx.free 0, ⟨⟨?_, ?_, hi.wa.ne⟩, ?_, ?_, ?_⟩, ?_, ?_⟩
  · have := hbx.put 0 (.slice A3 (L + 1) cap3)
    rw [tp0] at this
    have e : (S ++ [x], (0 : Int)).1.length = L + 1 := by simp [hL]
    rw [e]
    exact this
  · have := hs3.kept hset (fun g hg e => by rw [List.mem_singleton] at e; subst e; exact hA3 hg)
    rwa [bytev_snoc] at this
  · have h1 : Fr (f :: blk A) w w3 := hi.fr.trans hF (fun g hg => Or.inl hg) (fun g hg => (hi.own g hg).imp (fun h => List.mem_cons_of_mem _ h) id)
    exact h1.trans hset (fun g hg => Or.inl hg) (fun g hg => Or.inl (by rw [List.mem_singleton] at hg; subst hg; exact List.mem_cons_self))
  · intro g hg
    rcases hf3 with e | e
    · exact hi.own g (e ▸ hg)
    · rw [e, List.mem_singleton] at hg
      have := hW.size
      subst hg
      exact Or.inr (by omega)
  · have n1 : w.heap.size ∉ blk A1 := hi.wa.seg.ne_box hi.bx (by decide)
    have n2 : w.heap.size ∉ [f] := by
      intro e
      rw [List.mem_singleton] at e
      have h1 := hi.bx
      have h2 := hi.wa.box
      unfold Box at h1 h2
      rw [e, h2] at h1
      have h3 := Option.some.inj h1
      injection h3 with _ h5
      exact hi.wa.ne.2 h5
    exact (hi.bx.kept hF n1).kept hset n2
  · exact (keeps_fr hF (seg_cells hi.wa.seg)).trans (KeepsOthers.setCell _ _ _)
  · exact (hi.bx.kept hF (hi.wa.seg.ne_box hi.bx (by decide))).cell 0

set_option maxRecDepth 100000 in
set_option maxHeartbeats 2000000 in
theorem wn_yes (w : World) (f : Nat) (A : Option Addr) (cap : Nat) (S : List UInt8) (k : Nat) (h : WX TX XS w f A cap (S, 0)) (hk : k ≤ 268435456) (hl : S.length ≤ 100000000) :
    Calls Try.prog 113 #[.pointer (some ⟨f, 0, none⟩), .int .i64 k] w (WPost TX XS w f A (S ++ nb k, 0)) := by
  have hw1 : WX TX XS (w.alloc (.cells #[.pointer (some ⟨f, 0, none⟩)] 114)) f A cap (S, 0) := h.kept ((Fr.refl [] w).alloc _) (by simp) (by simp)
  have c1 : (w.alloc (.cells #[.pointer (some ⟨f, 0, none⟩)] 114)).cell? ⟨f, 1, none⟩ = some (.int .i64 0) := hw1.c1
  have cb := new_cell w (.pointer (some ⟨f, 0, none⟩)) 114
  have d1 : decide ((k : Int) < 0) = false := decide_eq_false (by omega)
  have d2 : decide (268435456 < (k : Int)) = false := decide_eq_false (by omega)
  refine (callsIn_wide (n := 6)).1 ?_
  refine callsIn_of_wp_marks Try.func113 rfl trivial ?_ rfl
  simp only [Try.ntmps113, List.size_toArray, List.length_cons, List.length_nil, Nat.reduceAdd, Nat.reduceSub, Array.replicate_succ, Array.replicate_zero, List.push_toArray, List.append_toArray, List.nil_append, List.cons_append]
  gi_wp2_with (refine ⟨trivial, ?_⟩; gi_at_call 116; refine (sevens_in Fence.wide _ trivial rfl k _).mono ?_; rintro e w' ⟨rfl, rfl⟩)
  have hB0 : WI TX XS w ((w.alloc (.cells #[.pointer (some ⟨f, 0, none⟩)] 114)).alloc (.cells #[.int .i64 (k : Int)] 3)) f A A cap S := by
    refine ⟨hw1.kept ((Fr.refl [] _).alloc _) (by simp) (by simp), ((Fr.refl _ w).alloc _).alloc _, fun g hg => Or.inl hg, (Box.new w _ _).kept ((Fr.refl [] _).alloc _) (by simp)⟩
  have hbk : ((w.alloc (.cells #[.pointer (some ⟨f, 0, none⟩)] 114)).alloc (.cells #[.int .i64 (k : Int)] 3)).cell? ⟨w.heap.size + 1, 0, none⟩ = some (.int .i64 (k : Int)) := by
    have := new_cell (w.alloc (.cells #[.pointer (some ⟨f, 0, none⟩)] 114)) (.int .i64 (k : Int)) 3
    rwa [World.size_alloc] at this
  have hn5 := nb_len k hk
  refine wpIn_rangeFunc_ownF (F := Fence.wide) rfl (by omega) (gf := 118) (lb := #[.pointer (some ⟨w.heap.size + 1, 0, none⟩)]) rfl trivial (enters_of Try.func118 (by kernel_rfl) rfl)
    (sevens_stops Fence.wide _ trivial rfl (by omega) (w.heap.size + 1) k hk _ (by simp) hbk) (fun _ _ => trivial) (fun _ _ _ _ _ _ _ _ => trivial) (Below.refl _ _) (fun _ => rfl)
    (fun pre W => ∃ A1 cap1, WI TX XS w W f A A1 cap1 (S ++ pre))
    (fun _ _ _ => False)
    (fun s W W' row hs hg hr => by
      obtain ⟨A1, cap1, h1⟩ := hs
      exact ⟨A1, cap1, h1.grown hg (fun r e => ⟨by have := (hr r e).1; simp at this; omega, (hr r e).2⟩)⟩)
    (fun _ _ _ _ _ hs _ _ => hs)
    ⟨A, cap, by rw [List.append_nil]; exact hB0⟩
    (fun x => { tmps := #[.pointer (some ⟨f, 0, none⟩), .int .i64 k, .pointer (some ⟨w.heap.size, 0, none⟩), undef, .int .u8 (x.toNat : Int), .pointer (some ⟨f, 0, none⟩), .bool false, .bool false, .pointer (some ⟨f, 0, none⟩), .pointer (some ⟨f, 0, none⟩), .pointer (some ⟨f, 1, none⟩), .int .i64 0, .bool false, .bool false, .int .i64 k, .bool false, .bool false, .int .i64 k, .bool false, .bool false, undef, undef, undef, .int .i64 k, .func (.func 118) #[] #[.pointer (some ⟨w.heap.size + 1, 0, none⟩)], .int .u8 (x.toNat : Int), undef, undef, undef, undef, undef, undef, undef, undef, undef, undef], defers := [] }) ?assign ?body ?done ?stop
  case assign =>
    intro l x W K hK
    gi_wp2
    exact hK
  case body =>
    rintro l pre x W ⟨A1, cap1, hi⟩ hlt
    obtain ⟨L, hL⟩ : ∃ L, Hid ((S ++ pre).length = L) := ⟨_, Lib.hid rfl⟩
    have hLl : L ≤ 100000005 := by have := hL.out; rw [List.length_append] at this; omega
    have HI := Lib.hid hi
    have c0 : W.cell? ⟨f, 0, none⟩ = some (.slice A1 L cap1) := by have := hi.wa.c0; rw [show ((S ++ pre, (0 : Int)).1.length) = L from hL.out] at this; exact this
    have cbx : W.drew.cell? ⟨w.heap.size, 0, none⟩ = some (.pointer (some ⟨f, 0, none⟩)) := hi.bx.cell 0
    have hseg : Hid (Seg (W.drew.alloc (.cells #[.int .u8 (x.toNat : Int)] 5)) 5 A1 cap1 (bytev (S ++ pre))) := Lib.hid (hi.wa.seg.drew.alloc _)
    have hWf : Hid (Fr [] W (W.drew.alloc (.cells #[.int .u8 (x.toNat : Int)] 5))) := Lib.hid ((Fr.refl [] W).drew.alloc _)
    have hne : Hid (W.drew.cell? ⟨f, 0, none⟩ = some (.slice A1 L cap1) ∧ (W.drew.alloc (.cells #[.int .u8 (x.toNat : Int)] 5)).cell? ⟨f, 0, none⟩ = some (.slice A1 L cap1)) := Lib.hid ⟨c0, (((hi.wa.box.kept hWf.out (by simp)).cell 0).trans (by rw [← c0]; exact (hi.wa.box.cell 0).symm))⟩
    have hlen : Hid (L = (bytev (S ++ pre)).length) := Lib.hid (by rw [bytev_len, hL.out])
    have hSb : Hid ((W.drew.alloc (.cells #[.int .u8 (x.toNat : Int)] 5)).cell? ⟨w.heap.size, 0, none⟩ = some (.pointer (some ⟨f, 0, none⟩))) := Lib.hid ((hi.bx.kept hWf.out (by simp)).cell 0)
    obtain ⟨i0, hi0, hz0, hz1, hz2⟩ := info_parts info_u8
    have Hi := Lib.hid hi0
    have Hz0 := Lib.hid hz0
    have Hz1 := Lib.hid hz1
    have Hz2 := Lib.hid hz2
    clear hi c0 hi0 hz0 hz1 hz2 h hw1 c1 cb hB0 hbk
    refine wpIn_block ?_
    refine region_round (S := fun W' => W'.cell? ⟨w.heap.size, 0, none⟩ = some (.pointer (some ⟨f, 0, none⟩))) (by kernel_rfl) (by intro i o ho c hc; rcases i with _ | _ | _ | _ | _ | _ | _ | _ | _ | _ | _ | i <;> simp at ho <;> subst ho <;> cases hc) ?_
    refine wpAnyH_take (i := 0) (v := (.pointer (some ⟨f, 0, none⟩))) rfl (by kernel_rfl) (by kernel_rfl) (by kernel_rfl) (fun _ _ _ h => absurd h.1 (by simp)) (Or.inl ⟨by rfl, ?_⟩) cbx ?_
    · intro W' hSw
      go_simp
    try simp only [Act.put, List.setIfInBounds_toArray, List.set_cons_zero, List.set_cons_succ]
    refine wpAnyH_take (i := 1) (v := (.pointer (some ⟨f, 0, none⟩))) rfl (by kernel_rfl) (by kernel_rfl) (by kernel_rfl) (fun _ _ _ h => absurd h.1 (by simp)) (Or.inl ⟨by rfl, ?_⟩) cbx ?_
    · intro W' hSw
      go_simp
    try simp only [Act.put, List.setIfInBounds_toArray, List.set_cons_zero, List.set_cons_succ]
    refine wpAnyH_take (i := 2) (v := (.pointer (some ⟨f, 0, none⟩))) rfl (by kernel_rfl) (by kernel_rfl) (by kernel_rfl) (fun _ _ _ h => absurd h.1 (by simp)) (Or.inl ⟨by rfl, ?_⟩) cbx ?_
    · intro W' hSw
      go_simp
    try simp only [Act.put, List.setIfInBounds_toArray, List.set_cons_zero, List.set_cons_succ]
    refine wpAnyH_take (i := 3) (v := (.pointer (some ⟨f, 0, none⟩))) rfl (by kernel_rfl) (by kernel_rfl) (by kernel_rfl) (fun _ _ _ h => absurd h.1 (by simp)) (Or.inl ⟨by rfl, ?_⟩) cbx ?_
    · intro W' hSw
      go_simp
    try simp only [Act.put, List.setIfInBounds_toArray, List.set_cons_zero, List.set_cons_succ]
    refine wpAnyH_take (i := 5) (v := (.int .u8 (x.toNat : Int))) rfl (by kernel_rfl) (by kernel_rfl) (by kernel_rfl) (fun _ _ _ h => absurd h.1 (by simp)) (Or.inl ⟨by rfl, ?_⟩) cbx ?_
    · intro W' hSw
      go_simp
    try simp only [Act.put, List.setIfInBounds_toArray, List.set_cons_zero, List.set_cons_succ]
    refine wpAnyH_ready (rs := [4, 6]) (by kernel_rfl) (by simp) ?_
    refine AllReadyH.cons rfl (fun K hK => ?_) (AllReadyH.cons rfl (fun K hK => ?_) AllReadyH.nil)
    · have c0 := hne.out.1
      go_simp
      refine hK.out _ _ cbx (fun _ => ?_)
      clear hK
      try simp only [Act.put, List.setIfInBounds_toArray, List.set_cons_zero, List.set_cons_succ]
      refine wpAnyH_ready (rs := [6]) (by kernel_rfl) (by simp) ?_
      refine AllReadyH.cons rfl (fun K hK => ?_) AllReadyH.nil
      go_simp
      refine hK.out _ _ hSb.out (fun _ => ?_)
      clear hK c0
      try simp only [Act.put, List.setIfInBounds_toArray, List.set_cons_zero, List.set_cons_succ]
      refine wpAnyH_ready (rs := [7]) (by kernel_rfl) (by simp) ?_
      refine AllReadyH.cons rfl (fun K hK => ?_) AllReadyH.nil
      refine step_push (by rfl) (.tmp 30) (.tmp 32) _ (by rfl) hseg.out hlen.out Try.underlying55 Hi.out Hz0.out Hz1.out Hz2.out rfl (by rfl) (by rfl) (new_cell _ _ _) rfl (by omega) (by omega) ?_
      intro A3 cap3 w3 hs3 f3 hf3
      have hfin := Lib.hid (body_fin HI.out hL.out hWf.out hs3 f3 hf3)
      clear hs3 f3 hf3
      refine hK.out _ _ hfin.out.sx (fun _ => ?_)
      clear hK
      try simp only [Act.put, List.setIfInBounds_toArray, List.set_cons_zero, List.set_cons_succ]
      refine wpAnyH_take (i := 8) (v := (.pointer (some ⟨f, 0, none⟩))) rfl (by kernel_rfl) (by kernel_rfl) (by kernel_rfl) (fun _ _ _ h => absurd h.1 (by simp)) (Or.inl ⟨by rfl, ?_⟩) hfin.out.sx ?_
      · intro W' hSw
        go_simp
      try simp only [Act.put, List.setIfInBounds_toArray, List.set_cons_zero, List.set_cons_succ]
      refine wpAnyH_take (i := 9) (v := (.pointer (some ⟨f, 0, none⟩))) rfl (by kernel_rfl) (by kernel_rfl) (by kernel_rfl) (fun _ _ _ h => absurd h.1 (by simp)) (Or.inl ⟨by rfl, ?_⟩) hfin.out.sx ?_
      · intro W' hSw
        go_simp
      try simp only [Act.put, List.setIfInBounds_toArray, List.set_cons_zero, List.set_cons_succ]
      obtain ⟨v3, hc3⟩ := hfin.out.c
      have hf3 := hfin.out.fr
      refine wpAnyH_ready (rs := [10]) (by kernel_rfl) (by simp) ?_
      refine AllReadyH.cons rfl (fun K hK => ?_) AllReadyH.nil
      go_simp
      refine hK.out _ _ (hfin.out.wi.bx.cell 0) (fun _ => ?_)
      refine wpAnyH_done (by kernel_rfl) ?_ _
      refine ⟨rfl, ?_⟩
      exact ⟨hfin.out.ko, trivial, A3, cap3, by have := hfin.out.wi; rwa [List.append_assoc] at this⟩
    · go_simp
      refine hK.out _ _ hSb.out (fun _ => ?_)
      clear hK
      try simp only [Act.put, List.setIfInBounds_toArray, List.set_cons_zero, List.set_cons_succ]
      have c0 : (W.alloc (.cells #[.int .u8 (x.toNat : Int)] 5)).cell? ⟨f, 0, none⟩ = some (.slice A1 L cap1) := hne.out.2
      refine wpAnyH_ready (rs := [4]) (by kernel_rfl) (by simp) ?_
      refine AllReadyH.cons rfl (fun K hK => ?_) AllReadyH.nil
      go_simp
      refine hK.out _ _ hSb.out (fun _ => ?_)
      clear hK c0
      try simp only [Act.put, List.setIfInBounds_toArray, List.set_cons_zero, List.set_cons_succ]
      refine wpAnyH_ready (rs := [7]) (by kernel_rfl) (by simp) ?_
      refine AllReadyH.cons rfl (fun K hK => ?_) AllReadyH.nil
      refine step_push (by rfl) (.tmp 30) (.tmp 32) _ (by rfl) hseg.out hlen.out Try.underlying55 Hi.out Hz0.out Hz1.out Hz2.out rfl (by rfl) (by rfl) (new_cell _ _ _) rfl (by omega) (by omega) ?_
      intro A3 cap3 w3 hs3 f3 hf3
      have hfin := Lib.hid (body_fin HI.out hL.out hWf.out hs3 f3 hf3)
      clear hs3 f3 hf3
      refine hK.out _ _ hfin.out.sx (fun _ => ?_)
      clear hK
      try simp only [Act.put, List.setIfInBounds_toArray, List.set_cons_zero, List.set_cons_succ]
      refine wpAnyH_take (i := 8) (v := (.pointer (some ⟨f, 0, none⟩))) rfl (by kernel_rfl) (by kernel_rfl) (by kernel_rfl) (fun _ _ _ h => absurd h.1 (by simp)) (Or.inl ⟨by rfl, ?_⟩) hfin.out.sx ?_
      · intro W' hSw
        go_simp
      try simp only [Act.put, List.setIfInBounds_toArray, List.set_cons_zero, List.set_cons_succ]
      refine wpAnyH_take (i := 9) (v := (.pointer (some ⟨f, 0, none⟩))) rfl (by kernel_rfl) (by kernel_rfl) (by kernel_rfl) (fun _ _ _ h => absurd h.1 (by simp)) (Or.inl ⟨by rfl, ?_⟩) hfin.out.sx ?_
      · intro W' hSw
        go_simp
      try simp only [Act.put, List.setIfInBounds_toArray, List.set_cons_zero, List.set_cons_succ]
      obtain ⟨v3, hc3⟩ := hfin.out.c
      have hf3 := hfin.out.fr
      refine wpAnyH_ready (rs := [10]) (by kernel_rfl) (by simp) ?_
      refine AllReadyH.cons rfl (fun K hK => ?_) AllReadyH.nil
      go_simp
      refine hK.out _ _ (hfin.out.wi.bx.cell 0) (fun _ => ?_)
      refine wpAnyH_done (by kernel_rfl) ?_ _
      refine ⟨rfl, ?_⟩
      exact ⟨hfin.out.ko, trivial, A3, cap3, by have := hfin.out.wi; rwa [List.append_assoc] at this⟩
  case done =>
    rintro D ys W hD rfl ⟨A1, cap1, hi⟩ hK
    gi_wp2
    refine ⟨by simp, .inl ⟨_, _, rfl, run_takeDeferred hK, ?_⟩⟩
    have hw := hi.grown (grownBy_putObj' W D (.deferred none)) (fun r e => by cases e; exact ⟨by simp at hD; omega, _, hK, rfl⟩)
    exact ⟨_, results_none rfl _ _ _, rfl, A1, cap1, hw.wa, hw.fr, hw.own⟩
  case stop =>
    rintro D c pre W hD _ h _
    exact h.elim

theorem wn_any (w : World) (f : Nat) (A : Option Addr) (cap : Nat) (st : List UInt8 × Int) (n : Int) (h : WX TX XS w f A cap st) (hl : st.1.length ≤ 100000000) :
    Calls Try.prog 113 #[.pointer (some ⟨f, 0, none⟩), .int .i64 n] w (WPost TX XS w f A (putN st n)) := by
  by_cases hno : st.2 ≠ 0 ∨ n < 0 ∨ 268435456 < n
  · exact wn_no w f A cap st n h hno
  · obtain ⟨S, E⟩ := st
    simp only [not_or, Decidable.not_not] at hno
    obtain ⟨rfl, h1, h2⟩ := hno
    obtain ⟨k, rfl⟩ := Int.eq_ofNat_of_zero_le (by omega : 0 ≤ n)
    have e : putN (S, 0) (k : Int) = (S ++ nb k, 0) := by unfold putN; rw [if_neg (by simp), if_neg (by omega)]; rfl
    rw [e]
    exact wn_yes w f A cap S k h (by omega) hl

theorem conv_seg (w : World) (A : Option Addr) (cap : Nat) (S : List UInt8) (h : Seg w 5 A cap (bytev S)) : (convert 55 9 (.slice A S.length cap)).run Try.prog w = .ok (.string (bs S)) w := by
  cases A with
  | none =>
    obtain ⟨h1, rfl⟩ := h.empty
    have h2 : S = [] := by
      have := congrArg List.length h1
      rw [bytev_len] at this
      exact List.eq_nil_of_length_eq_zero this
    subst h2
    exact Lib.run_convert_nil_bytes w _ _ 5 0 Try.underlying55 Try.underlying5 Try.underlying9
  | some a =>
    refine run_convert_bytes_back (P := Try.prog) w 55 9 5 a cap S Try.underlying55 Try.underlying5 Try.underlying9 (fun j hj => ?_)
    obtain ⟨g, off, e, _, hc⟩ := h.at_ (by rw [bytev_len]; omega)
    cases e
    have e1 : (⟨g, off, none⟩ : Addr).add j = ⟨g, off + j, none⟩ := by unfold Addr.add; split <;> simp_all
    rw [e1, hc j (by rw [bytev_len]; exact hj)]
    simp [bytev]

set_option maxRecDepth 100000 in
theorem wd_any (w : World) (f : Nat) (A : Option Addr) (cap : Nat) (st : List UInt8 × Int) (h : WX TX XS w f A cap st) :
    Calls Try.prog 24 #[.pointer (some ⟨f, 0, none⟩)] w fun e w' => e = .returned (.tuple #[.string (bs (doneS st)), .int .i64 st.2]) ∧ Below w.heap.size w w' := by
  have c0 : w.cell? ⟨f, 0, none⟩ = some (.slice A st.1.length cap) := h.c0
  have c1 : w.cell? ⟨f, 1, none⟩ = some (.int .i64 st.2) := h.c1
  have hcv := conv_seg w A cap st.1 h.seg
  clear h
  obtain ⟨S, E⟩ := st
  unfold doneS
  simp only at c0 c1 hcv ⊢
  by_cases hE : E = 0
  · subst hE
    have hv : Hid ((if (0 : Int) ≠ 0 then ([] : List UInt8) else S) = S) := Lib.hid (if_neg (by simp))
    rw [hv.out]
    clear hv
    go_enter Try.func24, Try.ntmps24
    go_wp2_with fail
    go_ret2
    exact ⟨rfl, Below.refl _ _⟩
  · have hv : Hid ((if E ≠ 0 then ([] : List UInt8) else S) = []) := Lib.hid (if_pos hE)
    rw [hv.out]
    have d0 : (E != 0) = true := by simp; exact hE
    clear hv
    go_enter Try.func24, Try.ntmps24
    go_wp2_with fail
    go_region
    go_wp2_with fail
    go_ret2
    exact ⟨rfl, (Below.refl _ _).drew⟩
end Go.Proofs.Ytdmmkjijgoiecaa.vx

/-
  varint: the Writer's Text and Done.
-/
set_option linter.all false
namespace Go.Proofs.Ytdmmkjijgoiecaa.vr
open Go.RowKit Go.Shelf Go.Proofs.Ytdmmkjijgoiecaa.mem

/-- 'append(x, s...)' of a string -/
theorem seg_str {P : Program} {w : World} {e t tx ty : TypeId} {A : Option Addr} {cap bytes : Nat} {xs : List Value} {i : TypeInfo} {z : Value} (h : Seg w e A cap xs) (s : ByteArray) (hx : P.underlying tx = some .string) (ht : P.underlying t = some (.slice e)) (hi : P.info? e = some i) (hz : i.zero = some z) (hs : i.size = 1) (hb : i.bytes = bytes) (hzs : z.cells.size = 1)
    (h63 : xs.length + s.size ≤ 9223372036854775807) (hby : (xs.length + s.size) * bytes ≤ 140737488355328) :
    ∃ A' cap' w', (Builtin.append_ #[t, tx] ty #[.slice A xs.length cap, .string s]).run P w = .ok (.slice A' (xs.length + s.size) cap') w' ∧ Seg w' e A' cap' (xs ++ byteCells s) ∧ Fr (blk A) w w' ∧ (blk A' = blk A ∨ blk A' = [w.heap.size]) := by
  have hsrc : Src P i.size tx (.string s) s.size (byteCells s) w := by rw [hs]; exact Src.ofString w hx s
  have hbl : (byteCells s).length = s.size := byteCells_length s
  by_cases hroom : xs.length + s.size ≤ cap
  · rcases A with _ | a
    · obtain ⟨rfl, rfl⟩ := h.empty
      have hs0 : s.size = 0 := by simpa using hroom
      have hy0 : byteCells s = [] := List.eq_nil_of_length_eq_zero (by omega)
      refine ⟨none, 0, w, ?_, by rw [hy0]; exact Seg.nil w e, Fr.refl _ w, Or.inl rfl⟩
      have hfc := hsrc.cells
      rw [hs, hs0, hy0] at hfc
      simp [Builtin.append_, run_underlying ht, run_underlying hx, sizeOf, typeInfo, hi, Builtin.lenOf, hs0, hfc]
      simp [Builtin.firstCells]
    · obtain ⟨hsp, cur, hc, hl, hxx⟩ := h.2.2.2 a rfl
      obtain ⟨g, off, spot⟩ := a
      have hsp : spot = none := hsp
      subst hsp
      have hl : off + cap ≤ cur.size := hl
      have hc : w.heap[g]? = some (.cells cur e (0, 0)) := hc
      have hr := run_append_room_src (P := P) w t tx ty e i ht hi g off xs.length cap _ s.size (byteCells s) hsrc hroom (fun j hj => by
        rw [hs, Nat.mul_one, cell_of_row w g _ cur e (0, 0) hc, Array.getElem?_eq_getElem (by omega)]; rfl) (fun j hj => by simp [World.frozen?, hc])
      rw [hs, Nat.mul_one] at hr
      obtain ⟨cur', k1, k2, k3, k4⟩ := setCells_row g e (byteCells s) (off + xs.length) w cur hc (by omega)
      refine ⟨_, _, _, hr, ⟨by rw [List.length_append, hbl]; exact hroom, h.2.1, fun hn => (by cases hn), fun a ha => ?_⟩, setCells_fr g (byteCells s) _ w, Or.inl rfl⟩
      cases ha
      refine ⟨rfl, cur', k1, by rw [k2]; exact hl, fun j u hu => ?_⟩
      rcases Nat.lt_or_ge j xs.length with hj | hj
      · rw [List.getElem?_append_left hj] at hu
        show cur'[off + j]? = _
        rw [k4 _ (Or.inl (by omega))]
        exact hxx j u hu
      · rw [List.getElem?_append_right hj] at hu
        show cur'[off + j]? = _
        have := k3 _ u hu
        rwa [show off + xs.length + (j - xs.length) = off + j by omega] at this
  · have hold : (Builtin.firstCells i.size xs.length (.slice A xs.length cap)).run P w.drew = .ok xs.toArray w.drew := by
      rcases A with _ | a
      · obtain ⟨rfl, rfl⟩ := h.empty
        exact run_firstCells_none w.drew i.size 0 0 0
      · obtain ⟨hsp, cur, hc, hl, hxx⟩ := h.2.2.2 a rfl
        obtain ⟨g, off, spot⟩ := a
        have hsp : spot = none := hsp
        subst hsp
        exact run_firstCells_some w.drew i.size xs.length ⟨g, off, none⟩ xs.length cap xs (by rw [hs, Nat.mul_one]) (fun j v hv => by
          have e1 : (⟨g, off, none⟩ : Addr).add j = ⟨g, off + j, none⟩ := by unfold Addr.add; split <;> simp_all
          rw [e1]
          show w.cell? _ = _
          rw [cell_of_row w g (off + j) cur e (0, 0) hc]
          exact hxx j v hv)
    have hlen := h.1
    have hr := run_append_grow_src (P := P) w t tx ty e i z ht hi hz A xs.length cap xs hold _ s.size (byteCells s) hsrc (by omega) (by omega) (growslice_fits (by omega) (by rw [hb]; exact hby))
    have hge := grownCap_ge w (xs.length + s.size) cap e
    have hcm : grownCap w (xs.length + s.size) cap e ≤ maxLen := grownCap_le_maxLen w (xs.length + s.size) cap e (by unfold maxLen; omega)
    refine ⟨_, _, _, hr, ?_, (Fr.refl _ w).drew.alloc _, Or.inr rfl⟩
    refine ⟨by rw [List.length_append, hbl]; exact hge, hcm, fun hn => (by cases hn), fun a ha => ?_⟩
    cases ha
    refine ⟨rfl, _, heap_alloc_new w.drew _, ?_, fun j v hv => ?_⟩
    · show 0 + _ ≤ _
      simp only [Array.size_append, List.size_toArray, List.length_append, size_zeroCells, hzs, hbl]
      omega
    · show (_ : Array Value)[0 + j]? = some v
      have hj := (List.getElem?_eq_some_iff.1 hv).1
      rw [Nat.zero_add, Array.getElem?_append_left (by simpa using hj)]
      simpa using hv

theorem wpList_str {P : Program} {w : World} {ops : Array Oper} {rest : List Oper} {o : Oper} {a : Act} {Q : Exit → Act → World → Prop} (hgd : o.guard = none) (s x : Operand) (t tx : TypeId)
    (ho : o.op = .call { callee := .builtin .append, args := #[s, x], argTypes := #[t, tx] }) {e : TypeId} {A : Option Addr} {cap n bytes : Nat} {xs : List Value} {b : ByteArray} {i : TypeInfo} {z : Value} (h : Seg w e A cap xs) (hn : n = xs.length) (hx : P.underlying tx = some .string) (ht : P.underlying t = some (.slice e)) (hi : P.info? e = some i) (hz : i.zero = some z) (hs : i.size = 1) (hb : i.bytes = bytes) (hzs : z.cells.size = 1)
    (hes : a.eval s = .slice A n cap) (hex : a.eval x = .string b) (h63 : n + b.size ≤ 9223372036854775807) (hby : (n + b.size) * bytes ≤ 140737488355328)
    (hK : ∀ A' cap' w', Seg w' e A' cap' (xs ++ byteCells b) → Fr (blk A) w w' → (blk A' = blk A ∨ blk A' = [w.heap.size]) → wpList P ops Q rest (a.put o.dst (.slice A' (n + b.size) cap')) w') : wpList P ops Q (o :: rest) a w := by
  subst hn
  refine wpList_plain hgd fun K hK' => ?_
  obtain ⟨A', cap', w', hr, h2, h3, h4⟩ := seg_str (ty := o.type) h b hx ht hi hz hs hb hzs h63 hby
  unfold Oper.wp execOp
  simp only [ho, resolve, invoke, builtin, Sem.run_bind, Sem.run_pure, Result.andThen_ok, List.map_toArray, List.map_cons, List.map_nil, hes, hex, hr]
  exact hK' _ _ (hK A' cap' w' h2 h3 h4)
end Go.Proofs.Ytdmmkjijgoiecaa.vr

/-
  varint: the Writer's Text and Done.
-/
set_option linter.all false
namespace Go.Proofs.Ytdmmkjijgoiecaa.vr
open Go.RowKit Go.Proofs.Ytdmmkjijgoiecaa.mem

theorem bytev_str (l : List UInt8) (s : ByteArray) : bytev l ++ byteCells s = bytev (l ++ s.data.toList) := by simp [bytev, byteCells]

theorem wn_any (w : World) (f : Nat) (A : Option Addr) (cap : Nat) (st : List UInt8 × Int) (n : Int) (h : WA w f A cap st) (hl : st.1.length ≤ 100000000) :
    Calls Try.prog 113 #[.pointer (some ⟨f, 0, none⟩), .int .i64 n] w (WPost w f A (putN st n)) := by
  by_cases hno : st.2 ≠ 0 ∨ n < 0 ∨ 268435456 < n
  · exact wn_no w f A cap st n h hno
  · obtain ⟨S, E⟩ := st
    simp only [not_or, Decidable.not_not] at hno
    obtain ⟨rfl, h1, h2⟩ := hno
    obtain ⟨k, rfl⟩ := Int.eq_ofNat_of_zero_le (by omega : 0 ≤ n)
    have e : putN (S, 0) (k : Int) = (S ++ nb k, 0) := by unfold putN; rw [if_neg (by simp), if_neg (by omega)]; rfl
    rw [e]
    exact wn_yes w f A cap S k h (by omega) hl

structure TFin (w w3 : World) (f : Nat) (A A3 : Option Addr) (cap3 L : Nat) (T : List UInt8) : Prop where
  c : ∃ v, w3.cell? ⟨f, 0, none⟩ = some v
  fr : w3.frozen? ⟨f, 0, none⟩ = false
  wa : WA (w3.setCell ⟨f, 0, none⟩ (.slice A3 L cap3)) f A3 cap3 (T, 0)
  f : Fr (f :: blk A) w (w3.setCell ⟨f, 0, none⟩ (.slice A3 L cap3))
  own : ∀ g ∈ blk A3, g ∈ blk A ∨ w.heap.size ≤ g

theorem text_fin {w w2 w3 : World} {f : Nat} {A A2 A3 : Option Addr} {cap2 cap3 : Nat} {T : List UInt8} {s : ByteArray} (h2 : WA w2 f A2 cap2 (T, 0)) (hf : Fr (f :: blk A) w w2) (ho : ∀ g ∈ blk A2, g ∈ blk A ∨ w.heap.size ≤ g)
    (hs3 : Seg w3 5 A3 cap3 (bytev T ++ byteCells s)) (f3 : Fr (blk A2) w2 w3) (hf3 : blk A3 = blk A2 ∨ blk A3 = [w2.heap.size]) : TFin w w3 f A A3 cap3 (T.length + s.size) (T ++ s.data.toList) := by
  have hbx := h2.box.kept f3 h2.nf
  have hA3 : f ∉ blk A3 := hs3.ne_box hbx (by decide)
  have hset : Fr [f] w3 (w3.setCell ⟨f, 0, none⟩ (.slice A3 (T.length + s.size) cap3)) := (Fr.refl [f] w3).setCell (Or.inl (by simp)) _
  refine ⟨⟨_, hbx.cell 0⟩, hbx.free 0, ⟨?_, ?_⟩, ?_, ?_⟩
  · have := hbx.put 0 (.slice A3 (T.length + s.size) cap3)
    have e : (T ++ s.data.toList, (0 : Int)).1.length = T.length + s.size := by
      show (T ++ s.data.toList).length = _
      rw [List.length_append, Array.length_toList]
      rfl
    rw [e]
    exact this
  · have := hs3.kept hset (fun g hg e => by rw [List.mem_singleton] at e; subst e; exact hA3 hg)
    rwa [bytev_str] at this
  · have h1 : Fr (f :: blk A) w w3 := hf.trans f3 (fun g hg => Or.inl hg) (fun g hg => (ho g hg).imp (fun h => List.mem_cons_of_mem _ h) id)
    exact h1.trans hset (fun g hg => Or.inl hg) (fun g hg => Or.inl (by rw [List.mem_singleton] at hg; subst hg; exact List.mem_cons_self))
  · intro g hg
    rcases hf3 with e | e
    · exact ho g (e ▸ hg)
    · rw [e, List.mem_singleton] at hg
      have := hf.size
      subst hg
      exact Or.inr this

theorem conv_seg (w : World) (A : Option Addr) (cap : Nat) (S : List UInt8) (h : Seg w 5 A cap (bytev S)) : (convert 55 9 (.slice A S.length cap)).run Try.prog w = .ok (.string (bs S)) w := by
  cases A with
  | none =>
    obtain ⟨h1, rfl⟩ := h.empty
    have h2 : S = [] := by
      have := congrArg List.length h1
      rw [bytev_len] at this
      exact List.eq_nil_of_length_eq_zero this
    subst h2
    exact Lib.run_convert_nil_bytes w _ _ 5 0 Try.underlying55 Try.underlying5 Try.underlying9
  | some a =>
    refine run_convert_bytes_back (P := Try.prog) w 55 9 5 a cap S Try.underlying55 Try.underlying5 Try.underlying9 (fun j hj => ?_)
    obtain ⟨g, off, e, _, hc⟩ := h.at_ (by rw [bytev_len]; omega)
    cases e
    have e1 : (⟨g, off, none⟩ : Addr).add j = ⟨g, off + j, none⟩ := by unfold Addr.add; split <;> simp_all
    rw [e1, hc j (by rw [bytev_len]; exact hj)]
    simp [bytev]

set_option maxRecDepth 100000 in
theorem wd_any (w : World) (f : Nat) (A : Option Addr) (cap : Nat) (st : List UInt8 × Int) (h : WA w f A cap st) :
    Calls Try.prog 24 #[.pointer (some ⟨f, 0, none⟩)] w fun e w' => e = .returned (.tuple #[.string (bs (doneS st)), .int .i64 st.2]) ∧ Below w.heap.size w w' := by
  have c0 : w.cell? ⟨f, 0, none⟩ = some (.slice A st.1.length cap) := h.box.cell 0
  have c1 : w.cell? ⟨f, 1, none⟩ = some (.int .i64 st.2) := h.box.cell 1
  have hcv := conv_seg w A cap st.1 h.seg
  clear h
  obtain ⟨S, E⟩ := st
  unfold doneS
  simp only at c0 c1 hcv ⊢
  by_cases hE : E = 0
  · subst hE
    have hv : Hid ((if (0 : Int) ≠ 0 then ([] : List UInt8) else S) = S) := Lib.hid (if_neg (by simp))
    rw [hv.out]
    clear hv
    go_enter Try.func24, Try.ntmps24
    go_wp2_with fail
    go_ret2
    exact ⟨rfl, Below.refl _ _⟩
  · have hv : Hid ((if E ≠ 0 then ([] : List UInt8) else S) = []) := Lib.hid (if_pos hE)
    rw [hv.out]
    have d0 : (E != 0) = true := by simp; exact hE
    clear hv
    go_enter Try.func24, Try.ntmps24
    go_wp2_with fail
    go_region
    go_wp2_with fail
    go_ret2
    exact ⟨rfl, (Below.refl _ _).drew⟩
end Go.Proofs.Ytdmmkjijgoiecaa.vr

/-
  varint: what is put: a slice of it, light, write, works.
-/
set_option linter.all false
namespace Go.Proofs.Ytdmmkjijgoiecaa.vr
open Go.RowKit Go.Proofs.Ytdmmkjijgoiecaa.mem

abbrev PutT := Bool × Int × ByteArray

/-- a slice of what is put, that can be read -/
def Puts (w : World) (A : Option Addr) (l : List PutT) : Prop := 0 < l.length → ∃ b off, A = some ⟨b, off, none⟩ ∧ b < w.heap.size ∧ ∀ j (hj : j < l.length), w.cell? ⟨b, off + j * 3, none⟩ = some (.bool l[j].1) ∧ w.cell? ⟨b, off + j * 3 + 1, none⟩ = some (.int .i64 l[j].2.1) ∧ w.cell? ⟨b, off + j * 3 + 2, none⟩ = some (.string l[j].2.2)

theorem Puts.below {w w' : World} {A : Option Addr} {l : List PutT} (h : Puts w A l) (hb : Below w.heap.size w w') : Puts w' A l := fun hz => by
  obtain ⟨b, off, rfl, hl, hc⟩ := h hz
  refine ⟨b, off, rfl, Nat.lt_of_lt_of_le hl hb.size, fun j hj => ?_⟩
  obtain ⟨h1, h2, h3⟩ := hc j hj
  exact ⟨(hb.cell (p := ⟨b, _, none⟩) hl).trans h1, (hb.cell (p := ⟨b, _, none⟩) hl).trans h2, (hb.cell (p := ⟨b, _, none⟩) hl).trans h3⟩

def put1 (st : List UInt8 × Int) (p : PutT) : List UInt8 × Int := if p.1 = true then putT st p.2.2 else putN st p.2.1
def putAll (l : List PutT) : List UInt8 × Int := l.foldl put1 ([], 0)

theorem putAll_snoc (l : List PutT) (p : PutT) : putAll (l ++ [p]) = put1 (putAll l) p := by unfold putAll; rw [List.foldl_append]; rfl

theorem put1_len (st : List UInt8 × Int) (p : PutT) : (put1 st p).1.length ≤ st.1.length + 200005 := by
  unfold put1 putT putN
  split
  · split
    · omega
    · split
      · show st.1.length ≤ _
        omega
      · rename_i h
        have := nb_len p.2.2.size (by omega)
        show (st.1 ++ (nb p.2.2.size ++ p.2.2.data.toList)).length ≤ _
        rw [List.length_append, List.length_append]
        have e : p.2.2.data.toList.length = p.2.2.size := by rw [Array.length_toList]; rfl
        omega
  · split
    · omega
    · split
      · show st.1.length ≤ _
        omega
      · have := nb_len p.2.1.toNat (by omega)
        show (st.1 ++ nb p.2.1.toNat).length ≤ _
        rw [List.length_append]
        omega

theorem fold_len : ∀ (l : List PutT) (st : List UInt8 × Int), (l.foldl put1 st).1.length ≤ st.1.length + l.length * 200005
  | [], st => by simp
  | p :: l, st => by
    have h1 := fold_len l (put1 st p)
    have h2 := put1_len st p
    simp only [List.foldl_cons, List.length_cons]
    omega

theorem putAll_len (l : List PutT) : (putAll l).1.length ≤ l.length * 200005 := by
  have := fold_len l ([], 0)
  simpa [putAll] using this

def LPost (w : World) (l : List PutT) (e : Ending) (w' : World) : Prop := ∃ b, e = .returned (.bool b) ∧ w = w' ∧ (b = true → l.length ≤ 300)
def WrPost (w : World) (l : List PutT) (e : Ending) (w' : World) : Prop := e = .returned (.tuple #[.string (bs (doneS (putAll l))), .int .i64 (putAll l).2]) ∧ Below w.heap.size w w'

/-- a writer made since w -/
structure WOwn (w wr : World) (f : Nat) (A : Option Addr) (cap : Nat) (st : List UInt8 × Int) : Prop where
  wa : WA wr f A cap st
  on : Below w.heap.size w wr
  bf : w.heap.size ≤ f
  ba : ∀ g ∈ blk A, w.heap.size ≤ g

theorem WOwn.step {w wr w2 : World} {f : Nat} {A A2 : Option Addr} {cap cap2 : Nat} {st st2 : List UInt8 × Int} (h : WOwn w wr f A cap st) (h2 : WA w2 f A2 cap2 st2) (hf : Fr (f :: blk A) wr w2) (ho : ∀ g ∈ blk A2, g ∈ blk A ∨ wr.heap.size ≤ g) : WOwn w w2 f A2 cap2 st2 := by
  have hs := h.on.size
  have hbf := h.bf
  refine ⟨h2, h.on.trans (hf.below (fun g hg => ?_) hs), hbf, fun g hg => ?_⟩
  · rcases List.mem_cons.1 hg with rfl | hg
    · exact hbf
    · exact h.ba g hg
  · rcases ho g hg with h1 | h1
    · exact h.ba g h1
    · omega

theorem wown_new (w : World) : WOwn w (w.alloc (.cells #[.slice none 0 0, .int .i64 0] 57)) w.heap.size none 0 ([], 0) :=
  ⟨⟨Box.new w _ _, Seg.nil _ _⟩, (Below.refl _ _).alloc (Nat.le_refl _) _, Nat.le_refl _, by simp [blk]⟩

end Go.Proofs.Ytdmmkjijgoiecaa.vr

/-
  varint: works; the law on writing.
-/
set_option linter.all false
namespace Go.Proofs.Ytdmmkjijgoiecaa.vr
open Go.RowKit Go.Proofs.Ytdmmkjijgoiecaa.mem

def WorksPost (w : World) (e : Ending) (w' : World) : Prop := e = .returned (.bool true) ∧ Below w.heap.size w w'

def L2 : List PutT := [(false, 300, ⟨#[]⟩), (true, 0, ⟨#[97, 98]⟩)]

theorem nb300 : nb 300 = [172, 2] := by rw [nb_more _ (by omega), nb_small _ (by omega)]; decide
theorem nb2 : nb 2 = [2] := by rw [nb_small _ (by omega)]; decide

theorem L2_all : putAll L2 = ([172, 2, 2, 97, 98], 0) := by
  have h1 : putN ([], 0) 300 = ([172, 2], 0) := by
    unfold putN
    rw [if_neg (by simp), if_neg (by omega)]
    show ([] ++ nb 300, (0 : Int)) = _
    rw [nb300]; rfl
  have h2 : putT ([172, 2], 0) ⟨#[97, 98]⟩ = ([172, 2, 2, 97, 98], 0) := by
    unfold putT
    rw [if_neg (by simp), if_neg (by decide)]
    show ([172, 2] ++ (nb 2 ++ [97, 98]), (0 : Int)) = _
    rw [nb2]; rfl
  show put1 (put1 ([], 0) (false, 300, ⟨#[]⟩)) (true, 0, ⟨#[97, 98]⟩) = _
  have e1 : put1 ([], 0) (false, 300, ⟨#[]⟩) = ([172, 2], 0) := h1
  rw [e1]
  exact h2

end Go.Proofs.Ytdmmkjijgoiecaa.vr

/-
  varint: plain facts: what is written is read, and in one way alone.
-/
set_option linter.all false
namespace Go.Proofs.Ytdmmkjijgoiecaa.vr

theorem pow7 (i : Nat) : 2 ^ (7 * (i + 1)) = 128 * 2 ^ (7 * i) := by
  rw [Nat.mul_add, Nat.pow_add, Nat.mul_comm]

theorem split_mul (k P : Nat) : k * P = k % 128 * P + k / 128 * (128 * P) := by
  conv => lhs; rw [← Nat.mod_add_div k 128]
  rw [Nat.add_mul, Nat.mul_comm 128 (k / 128), Nat.mul_assoc]

/-- a count written is read -/
theorem cntF_nb : ∀ (f : Nat) (k i m : Nat) (r : List UInt8), k ≤ f → i ≤ 4 → (0 < i → 0 < k) → m + k * 2 ^ (7 * i) ≤ 268435456 → cntF i m (nb k ++ r) = (m + k * 2 ^ (7 * i), i + (nb k).length, 0) := by
  intro f
  induction f with
  | zero =>
    intro k i m r hk hi h0 hb
    obtain rfl : k = 0 := by omega
    have hi0 : i = 0 := by
      rcases Nat.eq_zero_or_pos i with h | h
      · exact h
      · have := h0 h; omega
    subst hi0
    rw [nb_small 0 (by omega)]
    show cntF 0 m (by8 0 :: r) = _
    unfold cntF
    rw [by8_nat 0 (by omega), if_neg (by omega), if_neg (by omega), if_pos (by omega)]
    simp
  | succ f ih =>
    intro k i m r hk hi h0 hb
    by_cases h1 : k < 128
    · rw [nb_small k h1]
      show cntF i m (by8 k :: r) = _
      unfold cntF
      have e : k % 128 = k := Nat.mod_eq_of_lt h1
      rw [by8_nat k (by omega), e, if_neg (by omega), if_neg, if_pos h1]
      · simp
      · rintro (⟨rfl, h2⟩ | h2)
        · have : 2 ^ (7 * 4) = 268435456 := by decide
          rw [this] at hb
          omega
        · omega
    · have hk7 := split_mul k (2 ^ (7 * i))
      have hlt : i < 4 := by
        rcases Nat.lt_or_ge i 4 with h | h
        · exact h
        · obtain rfl : i = 4 := by omega
          have : 2 ^ (7 * 4) = 268435456 := by decide
          rw [this] at hb
          omega
      rw [nb_more k (by omega)]
      show cntF i m (by8 (k % 128 + 128) :: (nb (k / 128) ++ r)) = _
      have e : (k % 128 + 128) % 128 = k % 128 := by omega
      have hx : cntF i m (by8 (k % 128 + 128) :: (nb (k / 128) ++ r)) = cntF (i + 1) (m + k % 128 * 2 ^ (7 * i)) (nb (k / 128) ++ r) := by
        conv => lhs; unfold cntF
        rw [by8_nat _ (by omega), e, if_neg (by omega), if_neg (by omega), if_neg (by omega), if_neg (by omega)]
      rw [hx, ih (k / 128) (i + 1) _ r (by omega) (by omega) (by omega) (by rw [pow7]; omega), pow7]
      simp only [List.length_cons, Prod.mk.injEq]
      refine ⟨by omega, by omega, trivial⟩

theorem cnt_nb (k : Nat) (r : List UInt8) (h : k ≤ 268435456) : cnt (nb k ++ r) = (k, (nb k).length, 0) := by
  have := cntF_nb k k 0 0 r (Nat.le_refl _) (by omega) (by omega) (by simpa using h)
  unfold cnt
  rw [this]
  simp

/-- a count read was written, in this way alone -/
theorem nb_of_cntF : ∀ (l : List UInt8) (i m v sz : Nat), cntF i m l = (v, sz, 0) → ∃ k r, l = nb k ++ r ∧ v = m + k * 2 ^ (7 * i) ∧ sz = i + (nb k).length ∧ (0 < i → 0 < k)
  | [], i, m, v, sz, h => by simp [cntF] at h
  | b :: r, i, m, v, sz, h => by
    have hb := b.toNat_lt
    unfold cntF at h
    split at h
    · simp at h
    · rename_i h0
      split at h
      · simp at h
      · split at h
        · rename_i h1
          simp only [Prod.mk.injEq] at h
          obtain ⟨rfl, rfl, _⟩ := h
          have e : by8 b.toNat = b := by unfold by8; simp
          refine ⟨b.toNat, r, ?_, ?_, ?_, by omega⟩
          · rw [nb_small _ h1, e]; rfl
          · rw [Nat.mod_eq_of_lt h1]
          · rw [nb_small _ h1]; rfl
        · rename_i h1
          split at h
          · simp at h
          · obtain ⟨k, r', rfl, rfl, rfl, h2⟩ := nb_of_cntF r (i + 1) _ v sz h
            have hk := h2 (by omega)
            have hd : (b.toNat % 128 + 128 * k) % 128 = b.toNat % 128 := by omega
            have hq : (b.toNat % 128 + 128 * k) / 128 = k := by omega
            have e : by8 (b.toNat % 128 + 128) = b := by
              have e2 : b.toNat % 128 + 128 = b.toNat := by omega
              rw [e2]; unfold by8; simp
            have hn : nb (b.toNat % 128 + 128 * k) = b :: nb k := by rw [nb_more _ (by omega), hd, hq, e]
            refine ⟨b.toNat % 128 + 128 * k, r', by rw [hn]; rfl, ?_, by rw [hn]; simp; omega, by omega⟩
            rw [split_mul (b.toNat % 128 + 128 * k) (2 ^ (7 * i)), hd, hq, pow7]
            omega

theorem nb_of_cnt (l : List UInt8) (v sz : Nat) (h : cnt l = (v, sz, 0)) : ∃ r, l = nb v ++ r ∧ sz = (nb v).length := by
  obtain ⟨k, r, h1, h2, h3, _⟩ := nb_of_cntF l 0 0 v sz h
  have : k = v := by simpa using h2.symm
  subst this
  exact ⟨r, h1, by omega⟩
end Go.Proofs.Ytdmmkjijgoiecaa.vr
