/-
  intern: a table's Rising: its iterator, called with whatever closure.
-/
import Derived.Test.YtehieiddelngfaaInJ
import Derived.RangeFuncBox
namespace Go.Proofs.Ytehieiddelngfaa.ins
open Go.RowKit Go.Shelf Go.Proofs.Ytehieiddelngfaa.mem Go.Proofs.Ytehieiddelngfaa.inn

attribute [local go_sem] Oper.semAt_some

theorem rising_new (w : World) (b : Nat) : Calls Try.prog 32 #[.pointer (some ⟨b, 0, none⟩)] w fun e w' => e = .returned (.func (.func 47) #[] #[.pointer (some ⟨w.heap.size, 0, none⟩)]) ∧ w' = w.alloc (.cells #[.pointer (some ⟨b, 0, none⟩)] 24) := by
  go_enter Try.func32, Try.ntmps32
  go_wp2_with fail
  go_ret
  exact ⟨rfl, rfl⟩

/-- what the iterator looks at -/
structure RI (W : World) (tb yb b : Nat) (m : Option Nat) (N : Nat) (xs : List (List UInt8)) (fv v : Value) : Prop where
  tb : Box W tb 24 #[.pointer (some ⟨b, 0, none⟩)]
  yb : Box W yb 68 #[fv]
  bx : Box W b 27 #[.map m, v]
  set : Held W m N xs

theorem RI.kept {F : List Nat} {W W' : World} {tb yb b : Nat} {m : Option Nat} {N : Nat} {xs : List (List UInt8)} {fv v : Value} (h : RI W tb yb b m N xs fv v) (hf : Fr F W W') (h1 : tb ∉ F) (h2 : yb ∉ F) (h3 : b ∉ F) (h4 : ∀ g ∈ m.toList, g ∉ F) : RI W' tb yb b m N xs fv v :=
  ⟨h.tb.kept hf h1, h.yb.kept hf h2, h.bx.kept hf h3, h.set.kept hf h4⟩

theorem RI.grown {W W' : World} {tb yb b : Nat} {m : Option Nat} {N B : Nat} {xs : List (List UInt8)} {fv v : Value} {row : Option Nat} (h : RI W tb yb b m N xs fv v) (hm : ∀ g ∈ m.toList, g < B) (hg : W.grownBy W' row) (hr : ∀ r, row = some r → B ≤ r ∧ ∃ o : Obj, W.heap[r]? = some o ∧ o.isCells = false) : RI W' tb yb b m N xs fv v := by
  have hr2 : ∀ r, row = some r → ∃ o : Obj, W.heap[r]? = some o ∧ o.isCells = false := fun r e => (hr r e).2
  refine ⟨box_grown h.tb hg hr2, box_grown h.yb hg hr2, box_grown h.bx hg hr2, ?_⟩
  rcases h.set with ⟨rfl, h0⟩ | ⟨mb, D, rfl, ho, hh⟩
  · exact Or.inl ⟨rfl, h0⟩
  · right
    obtain ⟨es, clock, hb, r⟩ := ho
    refine ⟨mb, D, rfl, ⟨es, clock, (hg.block mb (Array.getElem?_eq_some_iff.1 hb).1 (fun e => ?_)).trans hb, r⟩, hh⟩
    have h1 := (hr mb e.symm).1
    have h2 := hm mb (by simp)
    omega

/-- a call of a function value, at a step of a region that draws its order -/
theorem take_call {P : Program} {w : World} {o : Oper} {a : Act} {K : Act → World → Prop} {Q : Exit → Act → World → Prop} {ops : Array Oper} {E : Prop} (hgd : o.guard = none) (x : Operand) (xs : Array Operand) (ts : Array TypeId) (ho : o.op = .call { callee := .value x, args := xs, argTypes := ts }) {f : Nat} {lb : Array Value} (hen : ∀ args w, (callFunc f args).run P w = .ok (.enter f args) w)
    (hx : a.eval x = .func (.func f) #[] lb) {vs : Array Value} (hv : xs.map a.eval = vs) (h : Calls P f (vs ++ lb) w (fun e w' => ∃ v, e = .returned v ∧ K (a.put o.dst v) w')) :
    if Region.wanted o (yielded ops a.tmps) = true then Oper.wp P o a w K Q else E := by
  have hw : Region.wanted o (yielded ops a.tmps) = true := by simp [Region.wanted, hgd]
  rw [if_pos hw]
  subst hv
  unfold Oper.wp execOp
  simp only [ho, resolve, hx, Deferred.ofValue, Sem.run_bind, Sem.run_pure, Result.andThen_ok, invoke, hen, Array.empty_append]
  refine Calls.mono h ?_
  rintro e w' ⟨v, rfl, hk⟩
  exact hk

set_option maxRecDepth 100000 in
theorem Held.look1 {w : World} {m : Option Nat} {N : Nat} {xs : List (List UInt8)} (h : Held w m N xs) (x : List UInt8) (hx : WF x) :
    (Instr.lookup 25 (.map m) (encStr x) false).run Try.prog w = .ok (.int .i64 (noOf xs x : Nat)) w := by
  have hz : (zeroValue 3).run Try.prog w = .ok (.int .i64 0) w := by kernel_rfl
  rcases h with ⟨rfl, rfl⟩ | ⟨b, D, rfl, ho, hh⟩
  · exact Maps.look_nil (w := w) false (Maps.string_keyed Try.underlying9) Try.underlying25 hz (key_s hx)
  · obtain ⟨_, h2⟩ := hh x hx
    obtain ⟨es, clock, hb, F, _, rfl⟩ := ho
    rcases Maps.fit_look false (Maps.string_keyed Try.underlying9) Try.underlying25 hz hb F (key_s hx) with ⟨hrun, _, hat⟩ | ⟨e0, y, _, _, hrun, hRv, hat, _⟩
    · rw [hat] at h2
      injection h2 with h2
      injection h2 with _ h2
      rw [← h2]
      exact hrun
    · obtain ⟨c, hv, hc, _⟩ := plainElem_int_inv Try.underlying3 hRv
      rw [hat, hc] at h2
      injection h2 with h2
      injection h2 with _ h2
      rw [← h2, ← hv]
      exact hrun

set_option maxRecDepth 100000 in
set_option maxHeartbeats 2000000 in
theorem rise_s (w : World) (tb b : Nat) (A : Option Addr) (cap : Nat) (m : Option Nat) (N : Nat) (xs : List (List UInt8)) (hT : Tb w b A cap m N xs) (htb : Box w tb 24 #[.pointer (some ⟨b, 0, none⟩)]) (hlen : xs.length ≤ 1000)
    (f : Nat) (lb : Array Value) (hen : ∀ args w, (callFunc f args).run Try.prog w = .ok (.enter f args) w) (F : List Nat) (hFl : ∀ g ∈ F, g < w.heap.size) (hF1 : tb ∉ F) (hF2 : b ∉ F) (hF3 : ∀ g ∈ m.toList, g ∉ F)
    (J Jx : List (List UInt8) → World → Prop) (hJ : OwnFrom w.heap.size J) (hJx : OwnFrom w.heap.size Jx) (h0 : J [] w)
    (hC : ∀ pre W, J pre W → ∀ g ∈ F, ∃ o : Obj, W.heap[g]? = some o ∧ o.isCells = true)
    (hY : ∀ pre x W, WF x → J pre W → pre.length < (rsS xs).length → Calls Try.prog f (#[encStr x, .int .i64 (noOf xs x : Nat)] ++ lb) W fun e W' => Fr F W W' ∧ ((e = .returned (.bool true) ∧ J (pre ++ [x]) W') ∨ (e = .returned (.bool false) ∧ Jx (pre ++ [x]) W'))) :
    Calls Try.prog 47 #[.func (.func f) #[] lb, .pointer (some ⟨tb, 0, none⟩)] w fun e w' => e = .returned (.tuple #[]) ∧ (J (rsS xs) w' ∨ ∃ pre, pre <+: rsS xs ∧ Jx pre w') := by
  have fr1 : Fr [] w (w.alloc (.cells #[.func (.func f) #[] lb] 68)) := (Fr.refl [] w).alloc _
  have hT1 := hT.kept fr1 (by simp)
  have htb1 := htb.kept fr1 (by simp)
  have c0 : (w.alloc (.cells #[.func (.func f) #[] lb] 68)).cell? ⟨tb, 0, none⟩ = some (.pointer (some ⟨b, 0, none⟩)) := htb1.cell 0
  have c1 : (w.alloc (.cells #[.func (.func f) #[] lb] 68)).cell? ⟨b, 1, none⟩ = some (.slice A xs.length cap) := hT1.box.cell 1
  have Hall := Lib.hid (And.intro hT (And.intro htb (And.intro hJ (And.intro hJx (And.intro h0 (And.intro hC hY))))))
  have Hen := Lib.hid hen
  have HF := Lib.hid (And.intro hFl (And.intro hF1 (And.intro hF2 hF3)))
  have HT1 := Lib.hid (And.intro hT1 htb1)
  clear hT htb hJ hJx h0 hC hY hen hFl hF1 hF2 hF3 hT1 htb1
  refine (callsIn_wide (n := 8)).1 ?_
  refine callsIn_of_wp_marks Try.func47 rfl trivial ?_ rfl
  simp only [Try.ntmps47, List.size_toArray, List.length_cons, List.length_nil, Nat.reduceAdd, Nat.reduceSub, Array.replicate_succ, Array.replicate_zero, List.push_toArray, List.append_toArray, List.nil_append, List.cons_append]
  gi_wp2_with (refine ⟨trivial, ?_⟩; gi_at_call 35; refine (rising_in_s _ A xs.length cap _).mono ?_; rintro e w' ⟨rfl, rfl⟩)
  obtain ⟨W0, hW0⟩ : ∃ W0, Hid (W0 = (w.alloc (.cells #[.func (.func f) #[] lb] 68)).alloc (.cells #[.slice A xs.length cap] 22)) := ⟨_, Lib.hid rfl⟩
  obtain ⟨hT, htb, hJ, hJx, h0, hC, hY⟩ := Hall.out
  obtain ⟨hFl, hF1, hF2, hF3⟩ := HF.out
  have hsz : W0.heap.size = w.heap.size + 2 := by rw [hW0.out]; simp
  have hfr : Fr [] w W0 := by rw [hW0.out]; exact ((Fr.refl [] w).alloc _).alloc _
  have hyb : Box W0 w.heap.size 68 #[.func (.func f) #[] lb] := by rw [hW0.out]; exact (Box.new w _ _).kept ((Fr.refl [] _).alloc _) (by simp)
  have hRI : RI W0 tb w.heap.size b m N xs (.func (.func f) #[] lb) (.slice A xs.length cap) := ⟨htb.kept hfr (by simp), hyb, hT.box.kept hfr (by simp), hT.set.kept hfr (by simp)⟩
  have hJ0 : J [] W0 := by
    rw [hW0.out]
    exact hJ.alloc _ (hJ.alloc _ h0)
  have hbx : W0.cell? ⟨w.heap.size + 1, 0, none⟩ = some (.slice A xs.length cap) := by
    rw [hW0.out]
    have := new_cell (w.alloc (.cells #[.func (.func f) #[] lb] 68)) (.slice A xs.length cap) 22
    rwa [World.size_alloc] at this
  have hA0 : Rd W0 A (xs.map encStr) := (hT.seg.kept hfr (by simp)).rd
  have hml : ∀ g ∈ m.toList, g < w.heap.size := hT.set.lt
  have hwf := hT.wf
  have hybF : w.heap.size ∉ F := fun h => by have := hFl _ h; omega
  rw [← hW0.out]
  clear Hall HF HT1 c0 c1 fr1 hW0 htb h0 hyb
  refine wpIn_rangeFunc_ownF (F := Fence.wide) rfl (by omega) (gf := 48) (lb := #[.pointer (some ⟨w.heap.size + 1, 0, none⟩)]) rfl trivial (enters_of Try.func48 (by kernel_rfl) rfl)
    (rising_stops_w WF _ (by omega) (w.heap.size + 1) A cap xs hwf hlen W0 (by omega) hbx hA0) (fun h k => kq_t h k) (fun W l o o' _ h1 h2 _ => kq_b W l o o' h1 h2) (Below.refl _ _) (fun _ => rfl)
    (fun (pre : List {x : List UInt8 // WF x}) W => J (pre.map (·.1)) W ∧ RI W tb w.heap.size b m N xs (.func (.func f) #[] lb) (.slice A xs.length cap))
    (fun c (pre : List {x : List UInt8 // WF x}) W => c = .ret ∧ Jx (pre.map (·.1)) W)
    (fun (s : List {x : List UInt8 // WF x}) W W' row hs hg hr => ⟨hJ (s.map (·.1)) W W' row hs.1 hg (fun r e => ⟨by have := (hr r e).1; omega, (hr r e).2⟩), hs.2.grown (B := w.heap.size) hml hg (fun r e => ⟨by have := (hr r e).1; omega, (hr r e).2⟩)⟩)
    (fun c (s : List {x : List UInt8 // WF x}) W W' row hs hg hr => ⟨hs.1, hJx (s.map (·.1)) W W' row hs.2 hg (fun r e => ⟨by have := (hr r e).1; omega, (hr r e).2⟩)⟩)
    ⟨hJ0, hRI⟩
    (fun x => { tmps := #[.func (.func f) #[] lb, .pointer (some ⟨tb, 0, none⟩), .pointer (some ⟨w.heap.size, 0, none⟩), encStr x.1, .pointer (some ⟨b, 0, none⟩), .bool false, .pointer (some ⟨b, 0, none⟩), .pointer (some ⟨b, 0, none⟩), .pointer (some ⟨b, 1, none⟩), .slice A xs.length cap, .func (.func 48) #[] #[.pointer (some ⟨w.heap.size + 1, 0, none⟩)], encStr x.1, undef, undef, undef, undef, undef, undef, undef, undef, undef, undef], defers := [] }) ?assign ?body ?done ?stop
  case assign =>
    intro l x W K hK
    gi_wp2
    exact hK
  case body =>
    rintro l pre ⟨x, hx⟩ W ⟨hj, hr⟩ hlt
    have hjd : J (pre.map (·.1)) W.drew := hJ _ _ _ none hj ⟨rfl, rfl, rfl, Nat.le_refl _, fun _ _ _ => rfl⟩ (fun r e => by cases e)
    have HC := Lib.hid (hY _ x W.drew hx hjd (by simpa using hlt))
    have HR := Lib.hid hr
    have HJ := Lib.hid hjd
    have HK := Lib.hid hC
    have hfl : Hid (∀ g ∈ F, g < W0.heap.size) := Lib.hid (fun g hg => by have := hFl g hg; omega)
    have hFF : Hid (tb ∉ F ∧ w.heap.size ∉ F ∧ b ∉ F ∧ ∀ g ∈ m.toList, g ∉ F) := Lib.hid ⟨hF1, hybF, hF2, hF3⟩
    clear hT hJ hJx hC hY hFl hF1 hF2 hF3 hRI hJ0 hbx hA0 hml hwf hybF hj hjd hfr
    obtain ⟨S, hSd⟩ : ∃ S : World → Prop, Hid (∀ W', S W' ↔ (W'.cell? ⟨w.heap.size, 0, none⟩ = some (.func (.func f) #[] lb) ∧ W'.cell? ⟨tb, 0, none⟩ = some (.pointer (some ⟨b, 0, none⟩)) ∧ W'.cell? ⟨b, 0, none⟩ = some (.map m) ∧ Held W' m N xs)) := ⟨_, Lib.hid fun _ => Iff.rfl⟩
    have hS : S W.drew := (hSd.out _).2 ⟨hr.yb.cell 0, hr.tb.cell 0, hr.bx.cell 0, hr.set⟩
    clear hr
    refine wpIn_block ?_
    refine wpIn_seq_k (fun K hK => ?_)
    refine region_round (S := S) (by kernel_rfl) (by intro i o ho c hc; rcases i with _ | _ | _ | _ | _ | _ | _ | _ | _ | _ | i <;> simp at ho <;> subst ho <;> cases hc) ?_
    refine wpAnyH_take (i := 0) (v := (.func (.func f) #[] lb)) rfl (by kernel_rfl) (by kernel_rfl) (by kernel_rfl) (fun _ _ _ h => absurd h.1 (by simp)) (Or.inl ⟨by rfl, ?_⟩) hS ?_
    · intro W' hSw
      obtain ⟨s1, s2, s3, s4⟩ := (hSd.out _).1 hSw
      go_simp
    change wpAnyH _ _ _ _ _ _ _ (Act.put _ (some 12) _) _
    simp only [Act.put, List.setIfInBounds_toArray, List.set_cons_zero, List.set_cons_succ]
    refine wpAnyH_take (i := 1) (v := encStr x) rfl (by kernel_rfl) (by kernel_rfl) (by kernel_rfl) (fun _ _ _ h => absurd h.1 (by simp)) (Or.inl ⟨by rfl, ?_⟩) hS ?_
    · intro W' hSw
      go_simp
    change wpAnyH _ _ _ _ _ _ _ (Act.put _ (some 13) _) _
    simp only [Act.put, List.setIfInBounds_toArray, List.set_cons_zero, List.set_cons_succ]
    refine wpAnyH_take (i := 2) (v := .pointer (some ⟨b, 0, none⟩)) rfl (by kernel_rfl) (by kernel_rfl) (by kernel_rfl) (fun _ _ _ h => absurd h.1 (by simp)) (Or.inl ⟨by rfl, ?_⟩) hS ?_
    · intro W' hSw
      obtain ⟨s1, s2, s3, s4⟩ := (hSd.out _).1 hSw
      go_simp
    change wpAnyH _ _ _ _ _ _ _ (Act.put _ (some 14) _) _
    simp only [Act.put, List.setIfInBounds_toArray, List.set_cons_zero, List.set_cons_succ]
    refine wpAnyH_take (i := 3) (v := .pointer (some ⟨b, 0, none⟩)) rfl (by kernel_rfl) (by kernel_rfl) (by kernel_rfl) (fun _ _ _ h => absurd h.1 (by simp)) (Or.inl ⟨by rfl, ?_⟩) hS ?_
    · intro W' hSw
      go_simp
    change wpAnyH _ _ _ _ _ _ _ (Act.put _ (some 15) _) _
    simp only [Act.put, List.setIfInBounds_toArray, List.set_cons_zero, List.set_cons_succ]
    refine wpAnyH_take (i := 4) (v := .pointer (some ⟨b, 0, none⟩)) rfl (by kernel_rfl) (by kernel_rfl) (by kernel_rfl) (fun _ _ _ h => absurd h.1 (by simp)) (Or.inl ⟨by rfl, ?_⟩) hS ?_
    · intro W' hSw
      go_simp
    change wpAnyH _ _ _ _ _ _ _ (Act.put _ (some 16) _) _
    simp only [Act.put, List.setIfInBounds_toArray, List.set_cons_zero, List.set_cons_succ]
    refine wpAnyH_take (i := 5) (v := .map m) rfl (by kernel_rfl) (by kernel_rfl) (by kernel_rfl) (fun _ _ _ h => absurd h.1 (by simp)) (Or.inl ⟨by rfl, ?_⟩) hS ?_
    · intro W' hSw
      obtain ⟨s1, s2, s3, s4⟩ := (hSd.out _).1 hSw
      go_simp
    change wpAnyH _ _ _ _ _ _ _ (Act.put _ (some 17) _) _
    simp only [Act.put, List.setIfInBounds_toArray, List.set_cons_zero, List.set_cons_succ]
    refine wpAnyH_take (i := 6) (v := encStr x) rfl (by kernel_rfl) (by kernel_rfl) (by kernel_rfl) (fun _ _ _ h => absurd h.1 (by simp)) (Or.inl ⟨by rfl, ?_⟩) hS ?_
    · intro W' hSw
      go_simp
    change wpAnyH _ _ _ _ _ _ _ (Act.put _ (some 18) _) _
    simp only [Act.put, List.setIfInBounds_toArray, List.set_cons_zero, List.set_cons_succ]
    refine wpAnyH_take (i := 7) (v := .int .i64 (noOf xs x : Nat)) rfl (by kernel_rfl) (by kernel_rfl) (by kernel_rfl) (fun _ _ _ h => absurd h.1 (by simp)) (Or.inl ⟨by rfl, ?_⟩) hS ?_
    · intro W' hSw
      obtain ⟨s1, s2, s3, s4⟩ := (hSd.out _).1 hSw
      have hl := s4.look1 x hx
      go_simp
    change wpAnyH _ _ _ _ _ _ _ (Act.put _ (some 19) _) _
    simp only [Act.put, List.setIfInBounds_toArray, List.set_cons_zero, List.set_cons_succ]
    refine wpAnyH_ready (rs := [8]) (by kernel_rfl) (by simp) ?_
    refine AllReadyH.cons rfl (fun K8 hK8 => ?_) AllReadyH.nil
    refine take_call rfl (.tmp 12) #[.tmp 13, .tmp 19] _ rfl Hen.out rfl (vs := #[encStr x, .int .i64 (noOf xs x : Nat)]) (by simp only [List.map_toArray, List.map_cons, List.map_nil]; rfl) ?_
    refine HC.out.mono ?_
    rintro e W' ⟨hF, hres⟩
    have hrk := HR.out
    have hR2 : RI W' tb w.heap.size b m N xs (.func (.func f) #[] lb) (.slice A xs.length cap) := RI.kept (F := F) (W := W.drew) ⟨hrk.tb, hrk.yb, hrk.bx, hrk.set⟩ hF hFF.out.1 hFF.out.2.1 hFF.out.2.2.1 hFF.out.2.2.2
    have hS2 : S W' := (hSd.out _).2 ⟨hR2.yb.cell 0, hR2.tb.cell 0, hR2.bx.cell 0, hR2.set⟩
    have hko : KeepsOthers W W' := keeps_fr (W := W) ⟨hF.os, hF.tape, hF.output, hF.size, hF.block⟩ (HK.out _ W.drew HJ.out)
    have hkq : Kq W0.heap.size W W' := kq_fr (W := W) ⟨hF.os, hF.tape, hF.output, hF.size, hF.block⟩ hfl.out
    rw [hsz] at hkq
    rcases hres with ⟨rfl, hj2⟩ | ⟨rfl, hj2⟩
    · have hj3 : J ((pre ++ [(⟨x, hx⟩ : {x : List UInt8 // WF x})]).map (·.1)) W' := by rw [List.map_append]; exact hj2
      refine ⟨_, rfl, hK8.out _ _ hS2 (fun _ => ?_)⟩
      clear hK8
      try simp only [Act.put, List.setIfInBounds_toArray, List.set_cons_zero, List.set_cons_succ]
      refine wpAnyH_ready (rs := [9]) (by kernel_rfl) (by simp) ?_
      refine AllReadyH.cons rfl (fun K9 hK9 => ?_) AllReadyH.nil
      go_simp
      refine hK9.out _ _ hS2 (fun _ => ?_)
      refine wpAnyH_done (by kernel_rfl) ?_ _
      refine ⟨rfl, hK _ _ ?_⟩
      refine wpIn_cond_false rfl ?_
      gi_wp2
      exact ⟨hko, hkq, hj3, hR2⟩
    · have hj3 : Jx ((pre ++ [(⟨x, hx⟩ : {x : List UInt8 // WF x})]).map (·.1)) W' := by rw [List.map_append]; exact hj2
      refine ⟨_, rfl, hK8.out _ _ hS2 (fun _ => ?_)⟩
      clear hK8
      try simp only [Act.put, List.setIfInBounds_toArray, List.set_cons_zero, List.set_cons_succ]
      refine wpAnyH_ready (rs := [9]) (by kernel_rfl) (by simp) ?_
      refine AllReadyH.cons rfl (fun K9 hK9 => ?_) AllReadyH.nil
      go_simp
      refine hK9.out _ _ hS2 (fun _ => ?_)
      refine wpAnyH_done (by kernel_rfl) ?_ _
      refine ⟨rfl, hK _ _ ?_⟩
      refine wpIn_cond_true rfl ?_
      gi_wp2
      exact ⟨hko, rfl, hj3⟩
  case done =>
    rintro D ys W hD hys ⟨hj, hr⟩ hK
    gi_wp2
    refine ⟨by simp, .inl ⟨_, _, rfl, run_takeDeferred hK, ?_⟩⟩
    have hw := hJ.putObj (.deferred none) hj (by omega) hK rfl
    exact ⟨_, results_none rfl _ _ _, rfl, Or.inl (by rw [hys] at hw; exact hw)⟩
  case stop =>
    rintro D c pre W hD hpre ⟨rfl, hj⟩ hK
    gi_wp2
    refine ⟨by simp, .inl ⟨_, _, rfl, run_takeDeferred hK, ?_⟩⟩
    have hw := hJx.putObj (.deferred none) hj (by omega) hK rfl
    exact ⟨_, results_none rfl _ _ _, rfl, Or.inr ⟨_, hpre, hw⟩⟩
end Go.Proofs.Ytehieiddelngfaa.ins
