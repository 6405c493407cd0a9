import Derived.Test.YtohdcmmkbblhkaaGreatDoorV21
/-
  intern: a table's Rising, in a range, to a body that writes blocks of its own.
-/
set_option linter.all false
namespace Go.Proofs.YtohdcmmkbblhkaaGreatDoor.rng
open Go.RowKit Go.Sort Go.Shelf Go.Proofs.YtohdcmmkbblhkaaGreatDoor.mem
open Go.Proofs.YtohdcmmkbblhkaaGreatDoor.inn (rsS mem_rsS rising_in_s)
open Go.Proofs.YtohdcmmkbblhkaaGreatDoor.ins (Tb RI WF Held noOf)
attribute [local go_sem] Oper.semAt_some

theorem round_any {P : Program} {l l' m m' : Nat} {f : FuncId} {tmps : Array Value} {asg bd : Code} {w : World} {R : Ending → World → Prop} (h : RoundIn Fence.wide m P l f tmps asg bd w R) : RoundIn (Fence.wide.inRound l') m' P l f tmps asg bd w R :=
  ⟨h.1, fun c cs _ => h.2 c cs (room_wide _)⟩

/-- a call of yield -/
theorem yield_step {P : Program} {l l' m n : Nat} {o : Oper} {a : Act} {w : World} {K : Act → World → Prop} {Q : Exit → Act → World → Prop} (x : Operand) (xs : Array Operand) (ts : Array TypeId) (ho : o.op = .call { callee := .value x, args := xs, argTypes := ts })
    (hx : a.eval x = .func (.yield l) #[] #[]) {vs : Array Value} (hv : xs.map a.eval = vs) (h : YieldAt Fence.wide m P l vs w fun e w' => ∃ v, e = .returned v ∧ K (a.put o.dst v) w') : o.wpIn (Fence.wide.inRound l') n P a w K Q := by
  obtain ⟨fn, tmps, asg, bd, hy, hR⟩ := h
  refine ⟨fun _ _ => trivial, ?_⟩
  rw [Oper.semAt_plain _ _ _ (fun c hc => by rw [ho] at hc; cases hc)]
  have hrun : (execOp a.eval o).run P w = .ok (.round l fn tmps asg bd) w := by
    subst hv
    unfold execOp
    simp only [ho, resolve, hx, Deferred.ofValue, Sem.run_bind, Sem.run_pure, Result.andThen_ok, invoke, Array.empty_append, hy]
  rw [hrun]
  refine ⟨fun hh => (by simp [Fence.wide] at hh), (round_any hR).mono ?_⟩
  rintro e w' ⟨v, rfl, hk⟩
  exact hk

theorem opsIn_cons {F : Fence} {n i : Nat} {P : Program} {ops : Array Oper} {Q : Exit → Act → World → Prop} {rest : List Nat} {a : Act} {w : World} {o : Oper} (ho : ops[i]? = some o) (hg : o.guard = none) (h : o.wpIn F n P a w (wpOpsIn F n P ops Q rest) Q) : wpOpsIn F n P ops Q (i :: rest) a w := by
  unfold wpOpsIn
  rw [ho]
  simp only [Region.wanted, hg, if_true]
  exact h

theorem ri_ko {Own : World → Nat → Prop} {W W' : World} {tb yb b : Nat} {m : Option Nat} {N : Nat} {xs : List (List UInt8)} {fv v : Value} (h : RI W tb yb b m N xs fv v) (hk : KO Own W W') (hn : ∀ k ∈ yb :: tb :: b :: m.toList, ¬ Own W k) : RI W' tb yb b m N xs fv v ∧ ∀ k ∈ yb :: tb :: b :: m.toList, ¬ Own W' k := by
  have hlt : ∀ k ∈ yb :: tb :: b :: m.toList, k < W.heap.size := fun k hk => by
    simp only [List.mem_cons] at hk
    rcases hk with rfl | rfl | rfl | hk
    · exact h.yb.lt
    · exact h.tb.lt
    · exact h.bx.lt
    · exact h.set.lt k hk
  refine ⟨⟨(hk.same tb h.tb.lt (hn tb (by simp))).trans h.tb, (hk.same yb h.yb.lt (hn yb (by simp))).trans h.yb, (hk.same b h.bx.lt (hn b (by simp))).trans h.bx, ?_⟩, fun k hk2 => hk.not (hlt k hk2) (hn k hk2)⟩
  rcases h.set with ⟨rfl, h0⟩ | ⟨mb, D, rfl, ho, hh⟩
  · exact Or.inl ⟨rfl, h0⟩
  · right
    obtain ⟨es, clock, hb, r⟩ := ho
    exact ⟨mb, D, rfl, ⟨es, clock, (hk.same mb (Array.getElem?_eq_some_iff.1 hb).1 (hn mb (by simp))).trans hb, r⟩, hh⟩

set_option maxRecDepth 100000 in
set_option maxHeartbeats 4000000 in
theorem rise1 (n : Nat) (hn : 4 ≤ n) (l tb b : Nat) (A : Option Addr) (cap : Nat) (m : Option Nat) (N : Nat) (xs : List (List UInt8)) (W : World) (hT : Tb W b A cap m N xs) (htb : Box W tb 111 #[.pointer (some ⟨b, 0, none⟩)]) (hlen : xs.length ≤ 1000000)
    (J Jx : List {x : List UInt8 // WF x} → World → Prop) (Own : World → Nat → Prop) (hJ : OwnFrom W.heap.size J) (hJx : OwnFrom W.heap.size Jx) (hO : ∀ k, Own W k → k < W.heap.size) (hZ : ∀ k ∈ tb :: b :: m.toList, ¬ Own W k) (hS : OwnS W.heap.size Own)
    (hY : ∀ pre x W1, J pre W1 → pre.length < (rsS xs).length → YieldAt Fence.wide (n - 1) Tryz.prog l #[encStr x.1, .int .i64 (noOf xs x.1 : Nat)] W1 fun e W' =>
      (e = .returned (.bool true) ∧ J (pre ++ [x]) W' ∧ KO Own W1 W') ∨ (e = .returned (.bool false) ∧ Jx (pre ++ [x]) W' ∧ KO Own W1 W'))
    (h0 : J [] W) :
    CallsIn Fence.wide n Tryz.prog 61 #[.func (.yield l) #[] #[], .pointer (some ⟨tb, 0, none⟩)] W fun e W' => (∃ v, e = .returned v) ∧
      ((∃ ys : List {x : List UInt8 // WF x}, ys.map (·.1) = rsS xs ∧ J ys W') ∨ (∃ pre : List {x : List UInt8 // WF x}, pre.map (·.1) <+: rsS xs ∧ Jx pre W')) := by
  have fr1 : Fr [] W (W.alloc (.cells #[.func (.yield l) #[] #[]] 112)) := (Fr.refl [] W).alloc _
  have hT1 := hT.kept fr1 (by simp)
  have htb1 := htb.kept fr1 (by simp)
  have c0 : (W.alloc (.cells #[.func (.yield l) #[] #[]] 112)).cell? ⟨tb, 0, none⟩ = some (.pointer (some ⟨b, 0, none⟩)) := htb1.cell 0
  have c1 : (W.alloc (.cells #[.func (.yield l) #[] #[]] 112)).cell? ⟨b, 1, none⟩ = some (.slice A xs.length cap) := hT1.box.cell 1
  have Hall := Lib.hid (And.intro hT (And.intro htb (And.intro hJ (And.intro hJx (And.intro h0 (And.intro hO (And.intro hZ (And.intro hS hY))))))))
  clear hT htb hJ hJx h0 hO hZ hS hY hT1 htb1
  refine callsIn_of_wp_marks Tryz.func61 rfl trivial ?_ rfl
  simp only [Tryz.ntmps61, List.size_toArray, List.length_cons, List.length_nil, Nat.reduceAdd, Nat.reduceSub, Array.replicate_succ, Array.replicate_zero, List.push_toArray, List.append_toArray, List.nil_append, List.cons_append]
  gi_wp2_with (refine ⟨trivial, fun _ => (by omega), ?_⟩; gi_at_call 43; refine (rising_in_s _ A xs.length cap _).mono ?_; rintro e w' ⟨rfl, rfl⟩)
  obtain ⟨W0, hW0⟩ : ∃ W0, Hid (W0 = (W.alloc (.cells #[.func (.yield l) #[] #[]] 112)).alloc (.cells #[.slice A xs.length cap] 26)) := ⟨_, Lib.hid rfl⟩
  obtain ⟨hT, htb, hJ, hJx, h0, hO, hZ, hS, hY⟩ := Hall.out
  have hsz : W0.heap.size = W.heap.size + 2 := by rw [hW0.out]; simp
  have hfr : Fr [] W W0 := by rw [hW0.out]; exact ((Fr.refl [] W).alloc _).alloc _
  have hyb : Box W0 W.heap.size 112 #[.func (.yield l) #[] #[]] := by rw [hW0.out]; exact (Box.new W _ _).kept ((Fr.refl [] _).alloc _) (by simp)
  have hRI : RI W0 tb W.heap.size b m N xs (.func (.yield l) #[] #[]) (.slice A xs.length cap) := ⟨htb.kept hfr (by simp), hyb, hT.box.kept hfr (by simp), hT.set.kept hfr (by simp)⟩
  have hJ0 : J [] W0 := ownF_b hJ h0 hfr.all
  have hO0 : ∀ k, Own W0 k → k < W.heap.size := fun k hk => hO k (hS.below (Nat.le_refl _) hk hfr.all)
  have hno : ∀ k ∈ W.heap.size :: tb :: b :: m.toList, ¬ Own W0 k := fun k hk h => by
    rcases List.mem_cons.1 hk with rfl | hk
    · have := hO0 _ h; omega
    · exact hZ k hk (hS.below (Nat.le_refl _) h hfr.all)
  have hbx : W0.cell? ⟨W.heap.size + 1, 0, none⟩ = some (.slice A xs.length cap) := by
    rw [hW0.out]
    have := new_cell (W.alloc (.cells #[.func (.yield l) #[] #[]] 112)) (.slice A xs.length cap) 26
    rwa [World.size_alloc] at this
  have hA0 : Rd W0 A (xs.map encStr) := (hT.seg.kept hfr (by simp)).rd
  have hml : ∀ g ∈ m.toList, g < W.heap.size := hT.set.lt
  have hwf := hT.wf
  rw [← hW0.out]
  clear Hall c0 c1 fr1 hW0 htb h0 hyb hO hZ hT
  refine range_own (Own := Own) (by omega) (gf := 62) (lb := #[.pointer (some ⟨W.heap.size + 1, 0, none⟩)]) rfl (enters_of Tryz.func62 (by kernel_rfl) rfl)
    (ris_own WF _ (by omega) (W.heap.size + 1) A cap xs hwf hlen W0 (by omega) hbx hA0) (Below.refl _ _) (fun _ => rfl) (fun k hk => by have := hO0 k hk; omega) (by simp) (hS.mono (by omega))
    (fun (pre : List {x : List UInt8 // WF x}) W1 => J pre W1 ∧ RI W1 tb W.heap.size b m N xs (.func (.yield l) #[] #[]) (.slice A xs.length cap) ∧ ∀ k ∈ W.heap.size :: tb :: b :: m.toList, ¬ Own W1 k)
    (fun c (pre : List {x : List UInt8 // WF x}) W1 => c = .ret ∧ Jx pre W1)
    (fun (s : List {x : List UInt8 // WF x}) W1 W2 row hs hg hr => ⟨hJ s W1 W2 row hs.1 hg (fun r e => ⟨by have := (hr r e).1; omega, (hr r e).2⟩), hs.2.1.grown (B := W.heap.size) hml hg (fun r e => ⟨by have := (hr r e).1; omega, (hr r e).2⟩), fun k hk h => hs.2.2 k hk (hS k W1 W2 row (Nat.le_of_lt hs.2.1.yb.lt) h hg (fun r e => ⟨by have := (hr r e).1; omega, (hr r e).2⟩))⟩)
    (fun c (s : List {x : List UInt8 // WF x}) W1 W2 row hs hg hr => ⟨hs.1, hJx s W1 W2 row hs.2 hg (fun r e => ⟨by have := (hr r e).1; omega, (hr r e).2⟩)⟩)
    ⟨hJ0, hRI, hno⟩
    (fun x => { tmps := #[.func (.yield l) #[] #[], .pointer (some ⟨tb, 0, none⟩), .pointer (some ⟨W.heap.size, 0, none⟩), encStr x.1, .pointer (some ⟨b, 0, none⟩), .bool false, .pointer (some ⟨b, 0, none⟩), .pointer (some ⟨b, 0, none⟩), .pointer (some ⟨b, 1, none⟩), .slice A xs.length cap, .func (.func 62) #[] #[.pointer (some ⟨W.heap.size + 1, 0, none⟩)], encStr x.1, undef, undef, undef, undef, undef, undef, undef, undef, undef, undef], defers := [] }) ?assign ?body ?done ?stop
  case assign =>
    intro l2 x W1 K hK
    gi_wp2
    exact hK
  case body =>
    rintro l2 pre x W1 ⟨hj, hr, hn1⟩ hsz1 hO1 hlt
    have hjd : J pre W1.drew := hJ _ _ _ none hj ⟨rfl, rfl, rfl, Nat.le_refl _, fun _ _ _ => rfl⟩ (fun r e => by cases e)
    have HC := Lib.hid (hY pre x W1.drew hjd hlt)
    have HR := Lib.hid hr
    have HN := Lib.hid hn1
    have HS := Lib.hid hS
    obtain ⟨S, hSd⟩ : ∃ S : World → Prop, Hid (∀ W', S W' ↔ (W'.cell? ⟨W.heap.size, 0, none⟩ = some (.func (.yield l) #[] #[]) ∧ W'.cell? ⟨tb, 0, none⟩ = some (.pointer (some ⟨b, 0, none⟩)) ∧ W'.cell? ⟨b, 0, none⟩ = some (.map m) ∧ Held W' m N xs)) := ⟨_, Lib.hid fun _ => Iff.rfl⟩
    have hS1 : S W1.drew := (hSd.out _).2 ⟨hr.yb.cell 0, hr.tb.cell 0, hr.bx.cell 0, hr.set⟩
    clear hJ hJx hY hRI hJ0 hbx hA0 hml hwf hj hjd hfr hr hn1 hno hO0 hO1 hS
    obtain ⟨x, hx⟩ := x
    dsimp only at HC ⊢
    refine wpIn_block ?_
    refine wpIn_seq_k (fun K hK => ?_)
    refine region_tail_round 8 (S := S) (by kernel_rfl) (by kernel_rfl) (by intro i o ho; rcases i with _ | _ | _ | _ | _ | _ | _ | _ | _ | _ | i <;> simp at ho <;> subst ho <;> exact ⟨(fun c hc => by cases hc), rfl⟩) (fun a w h => h) ?_
    simp only [List.take_succ_cons, List.take_zero]
    refine wpAnyH_take (i := 0) (v := (.func (.yield l) #[] #[])) rfl (by kernel_rfl) (by kernel_rfl) (by kernel_rfl) (fun _ _ _ h => absurd h.1 (by simp)) (Or.inl ⟨by rfl, ?_⟩) hS1 ?_
    · intro W' hSw
      obtain ⟨s1, s2, s3, s4⟩ := (hSd.out _).1 hSw
      go_simp
    change wpAnyH _ _ _ _ _ _ _ (Act.put _ (some 12) _) _
    simp only [Act.put, List.setIfInBounds_toArray, List.set_cons_zero, List.set_cons_succ]
    refine wpAnyH_take (i := 1) (v := encStr x) rfl (by kernel_rfl) (by kernel_rfl) (by kernel_rfl) (fun _ _ _ h => absurd h.1 (by simp)) (Or.inl ⟨by rfl, ?_⟩) hS1 ?_
    · intro W' hSw
      go_simp
    change wpAnyH _ _ _ _ _ _ _ (Act.put _ (some 13) _) _
    simp only [Act.put, List.setIfInBounds_toArray, List.set_cons_zero, List.set_cons_succ]
    refine wpAnyH_take (i := 2) (v := .pointer (some ⟨b, 0, none⟩)) rfl (by kernel_rfl) (by kernel_rfl) (by kernel_rfl) (fun _ _ _ h => absurd h.1 (by simp)) (Or.inl ⟨by rfl, ?_⟩) hS1 ?_
    · intro W' hSw
      obtain ⟨s1, s2, s3, s4⟩ := (hSd.out _).1 hSw
      go_simp
    change wpAnyH _ _ _ _ _ _ _ (Act.put _ (some 14) _) _
    simp only [Act.put, List.setIfInBounds_toArray, List.set_cons_zero, List.set_cons_succ]
    refine wpAnyH_take (i := 3) (v := .pointer (some ⟨b, 0, none⟩)) rfl (by kernel_rfl) (by kernel_rfl) (by kernel_rfl) (fun _ _ _ h => absurd h.1 (by simp)) (Or.inl ⟨by rfl, ?_⟩) hS1 ?_
    · intro W' hSw
      go_simp
    change wpAnyH _ _ _ _ _ _ _ (Act.put _ (some 15) _) _
    simp only [Act.put, List.setIfInBounds_toArray, List.set_cons_zero, List.set_cons_succ]
    refine wpAnyH_take (i := 4) (v := .pointer (some ⟨b, 0, none⟩)) rfl (by kernel_rfl) (by kernel_rfl) (by kernel_rfl) (fun _ _ _ h => absurd h.1 (by simp)) (Or.inl ⟨by rfl, ?_⟩) hS1 ?_
    · intro W' hSw
      go_simp
    change wpAnyH _ _ _ _ _ _ _ (Act.put _ (some 16) _) _
    simp only [Act.put, List.setIfInBounds_toArray, List.set_cons_zero, List.set_cons_succ]
    refine wpAnyH_take (i := 5) (v := .map m) rfl (by kernel_rfl) (by kernel_rfl) (by kernel_rfl) (fun _ _ _ h => absurd h.1 (by simp)) (Or.inl ⟨by rfl, ?_⟩) hS1 ?_
    · intro W' hSw
      obtain ⟨s1, s2, s3, s4⟩ := (hSd.out _).1 hSw
      go_simp
    change wpAnyH _ _ _ _ _ _ _ (Act.put _ (some 17) _) _
    simp only [Act.put, List.setIfInBounds_toArray, List.set_cons_zero, List.set_cons_succ]
    refine wpAnyH_take (i := 6) (v := encStr x) rfl (by kernel_rfl) (by kernel_rfl) (by kernel_rfl) (fun _ _ _ h => absurd h.1 (by simp)) (Or.inl ⟨by rfl, ?_⟩) hS1 ?_
    · intro W' hSw
      go_simp
    change wpAnyH _ _ _ _ _ _ _ (Act.put _ (some 18) _) _
    simp only [Act.put, List.setIfInBounds_toArray, List.set_cons_zero, List.set_cons_succ]
    refine wpAnyH_take (i := 7) (v := .int .i64 (noOf xs x : Nat)) rfl (by kernel_rfl) (by kernel_rfl) (by kernel_rfl) (fun _ _ _ h => absurd h.1 (by simp)) (Or.inl ⟨by rfl, ?_⟩) hS1 ?_
    · intro W' hSw
      obtain ⟨s1, s2, s3, s4⟩ := (hSd.out _).1 hSw
      have hl := s4.look1 x hx
      go_simp
    change wpAnyH _ _ _ _ _ _ _ (Act.put _ (some 19) _) _
    simp only [Act.put, List.setIfInBounds_toArray, List.set_cons_zero, List.set_cons_succ]
    refine wpAnyH_done (by kernel_rfl) ⟨rfl, ?_⟩ _
    refine opsIn_cons rfl rfl (yield_step (.tmp 12) #[.tmp 13, .tmp 19] _ rfl rfl (vs := #[encStr x, .int .i64 (noOf xs x : Nat)]) (by simp only [List.map_toArray, List.map_cons, List.map_nil]; rfl) (HC.out.mono ?_))
    rintro e W' hres
    rcases hres with ⟨rfl, hj2, hk2⟩ | ⟨rfl, hj2, hk2⟩
    · refine ⟨_, rfl, ?_⟩
      have hk1 : KO Own W1 W' := ⟨hk2.size, fun k hk hn => hk2.same k hk (fun h => hn (HS.out.below (by omega) h ((Fr.refl [] W1).drew.all))), fun k hk => (hk2.own k hk).imp (fun h => HS.out.below (by omega) h ((Fr.refl [] W1).drew.all)) id, hk2.lt⟩
      obtain ⟨hR2, hN2⟩ := ri_ko HR.out hk1 HN.out
      clear HC HR HN HS hk2 hSd hS1
      refine opsIn_cons rfl rfl ⟨fun _ _ => trivial, ?_⟩
      rw [Oper.semAt_plain _ _ _ (fun c hc => by cases hc)]
      go_simp
      refine hK _ _ ?_
      refine wpIn_cond_false rfl ?_
      gi_wp2
      exact ⟨hk1, hj2, hR2, hN2⟩
    · refine ⟨_, rfl, ?_⟩
      have hko : KO Own W1 W' := ⟨hk2.size, fun k hk hn => hk2.same k hk (fun h => hn (HS.out.below (by omega) h ((Fr.refl [] W1).drew.all))), fun k hk => (hk2.own k hk).imp (fun h => HS.out.below (by omega) h ((Fr.refl [] W1).drew.all)) id, hk2.lt⟩
      clear HC HR HN HS hSd hS1
      refine opsIn_cons rfl rfl ⟨fun _ _ => trivial, ?_⟩
      rw [Oper.semAt_plain _ _ _ (fun c hc => by cases hc)]
      go_simp
      refine hK _ _ ?_
      refine wpIn_cond_true rfl ?_
      gi_wp2
      exact ⟨hko, rfl, hj2⟩
  case done =>
    rintro D ys W2 hD hys ⟨hj, hr, _⟩ hK
    gi_wp2
    refine ⟨by simp, .inl ⟨_, _, rfl, run_takeDeferred hK, ?_⟩⟩
    have hw := hJ.putObj (.deferred none) hj (by omega) hK rfl
    exact ⟨_, results_none rfl _ _ _, ⟨_, rfl⟩, Or.inl ⟨ys, hys, hw⟩⟩
  case stop =>
    rintro D c pre W2 hD hpre ⟨rfl, hj⟩ hK
    gi_wp2
    refine ⟨by simp, .inl ⟨_, _, rfl, run_takeDeferred hK, ?_⟩⟩
    have hw := hJx.putObj (.deferred none) hj (by omega) hK rfl
    exact ⟨_, results_none rfl _ _ _, ⟨_, rfl⟩, Or.inr ⟨_, hpre, hw⟩⟩

theorem rise_own (n : Nat) (hn : 4 ≤ n) (tb b : Nat) (A : Option Addr) (cap : Nat) (m : Option Nat) (N : Nat) (xs : List (List UInt8)) (w : World) (hT : Tb w b A cap m N xs) (htb : Box w tb 111 #[.pointer (some ⟨b, 0, none⟩)]) (hlen : xs.length ≤ 1000000) :
    SeqO n Tryz.prog 61 #[.pointer (some ⟨tb, 0, none⟩)] (fun x : {x : List UInt8 // WF x} => #[encStr x.1, .int .i64 (noOf xs x.1 : Nat)]) (fun ys => ys.map (·.1) = rsS xs) (fun pre => pre.map (·.1) <+: rsS xs) (rsS xs).length (tb :: b :: m.toList) w := fun l J Jx Own W hW hJ hJx hO hZ hS hY h0 =>
  rise1 n hn l tb b A cap m N xs W (hT.kept (Fr.of_below hW []) (by simp)) (htb.kept (Fr.of_below hW []) (by simp)) hlen J Jx Own hJ hJx hO hZ hS hY h0
end Go.Proofs.YtohdcmmkbblhkaaGreatDoor.rng
