import Derived.Test.YtohdcmmkbblhkaaGreatDoorURng
import Derived.OwnWalkIn
import Derived.TacticsInMore
/-
  A list that grows in a box of its own, under a range over a function.
-/
set_option linter.all false
namespace Go.Proofs.YtohdcmmkbblhkaaGreatDoor.rng
open Go.RowKit Go.Proofs.YtohdcmmkbblhkaaGreatDoor.mem

theorem wpListIn_push {F : Fence} {nF : Nat} {P : Program} {w : World} {ops : Array Oper} {rest : List Oper} {o : Oper} {a : Act} {Q : Exit → Act → World → Prop} (hgd : o.guard = none) (s x : Operand) (t : TypeId)
    (ho : o.op = .call { callee := .builtin .append, args := #[s, x], argTypes := #[t, t] }) {e : TypeId} {A : Option Addr} {cap n bytes : Nat} {xs : List Value} {i : TypeInfo} {z : Value} (h : Seg w e A cap xs) (hn : n = xs.length) (ht : P.underlying t = some (.slice e)) (hi : P.info? e = some i) (hz : i.zero = some z) (hs : i.size = 1) (hb : i.bytes = bytes) (hzs : z.cells.size = 1)
    {ad : Addr} {u : Value} (hes : a.eval s = .slice A n cap) (hex : a.eval x = .slice (some ad) 1 1) (hu : w.cell? ad = some u) (h1 : u.oneCell' = true) (h63 : n + 1 ≤ 9223372036854775807) (hby : (n + 1) * bytes ≤ 140737488355328)
    (hK : ∀ A' cap' w', Seg w' e A' cap' (xs ++ [u]) → Fr (blk A) w w' → (blk A' = blk A ∨ blk A' = [w.heap.size]) → wpListIn F nF P ops Q rest (a.put o.dst (.slice A' (n + 1) cap')) w') : wpListIn F nF P ops Q (o :: rest) a w := by
  subst hn
  refine wpListIn_plain hgd fun K hK' => ?_
  obtain ⟨A', cap', w', hr, h2, h3, h4⟩ := h.push (ty := o.type) ht hi hz hs hb hzs hu h1 h63 hby
  unfold Oper.wpIn
  refine ⟨by simp [Oper.about, ho, resolve, Target.leads, Sem.run_pure], ?_⟩
  rw [Oper.semAt_plain F _ _ (by rw [ho]; intro c hc'; cases hc')]
  simp [execOp, ho, resolve, invoke, builtin, hes, hex, hr, Result.andThen]
  exact hK' _ _ (hK A' cap' w' h2 h3 h4)

theorem wp_normal {P : Program} {c : Code} {Q : Exit → Act → World → Prop} {a : Act} {w : World} (h : c.wp P (fun e a w => e = .normal ∧ Q .normal a w) a w) : c.wp P Q a w := wp_mono h (by rintro e a w ⟨rfl, h⟩; exact h)

theorem boxg {W W' : World} {row : Option Nat} {g : Nat} {t : TypeId} {cs : Array Value} (h : Box W g t cs) (hg : W.grownBy W' row) (hr : ∀ r, row = some r → ∃ o : Obj, W.heap[r]? = some o ∧ o.isCells = false) : Box W' g t cs := by
  refine (hg.block g h.lt (fun e => ?_)).trans h
  obtain ⟨o, ho, hc⟩ := hr g e.symm
  unfold Box at h
  rw [h] at ho
  cases ho
  cases hc
theorem segg {W W' : World} {row : Option Nat} {e : TypeId} {A : Option Addr} {cap : Nat} {xs : List Value} (h : Seg W e A cap xs) (hg : W.grownBy W' row) (hr : ∀ r, row = some r → ∃ o : Obj, W.heap[r]? = some o ∧ o.isCells = false) : Seg W' e A cap xs := by
  refine ⟨h.1, h.2.1, h.2.2.1, fun a ha => ?_⟩
  obtain ⟨hs, cur, hc, r⟩ := h.2.2.2 a ha
  refine ⟨hs, cur, (hg.block _ (Array.getElem?_eq_some_iff.1 hc).1 (fun e => ?_)).trans hc, r⟩
  obtain ⟨o, ho, hn⟩ := hr _ e.symm
  rw [hc] at ho
  cases ho
  cases hn

/-- the list that grows, in a box of its own -/
structure PI (t e : TypeId) (w W : World) (ob : Nat) (vs : List Value) (A : Option Addr) (cap : Nat) : Prop where
  bx : Box W ob t #[.slice A vs.length cap]
  sg : Seg W e A cap vs
  ge : ∀ q ∈ blk A, w.heap.size ≤ q
  on : Below w.heap.size w W
  ob : w.heap.size ≤ ob
/-- what is the body's -/
def OwnP (ob : Nat) (W : World) (k : Nat) : Prop := k = ob ∨ ∃ A n c, W.cell? ⟨ob, 0, none⟩ = some (.slice A n c) ∧ k ∈ blk A

section
variable {t e : TypeId} {w W W' : World} {ob : Nat} {vs : List Value} {A : Option Addr} {cap : Nat}
theorem PI.new (w : World) (t e : TypeId) : PI t e w (w.alloc (.cells #[.slice none 0 0] t)) w.heap.size [] none 0 := ⟨Box.new w t _, Seg.nil _ _, fun q hq => (by cases hq), (Below.refl _ w).alloc (Nat.le_refl _) _, Nat.le_refl _⟩
theorem PI.below (h : PI t e w W ob vs A cap) (hb : Below W.heap.size W W') : PI t e w W' ob vs A cap :=
  ⟨h.bx.kept (Fr.of_below hb []) (by simp), h.sg.kept (Fr.of_below hb []) (by simp), h.ge, h.on.trans (hb.mono h.on.size), h.ob⟩
theorem PI.grown {row : Option Nat} (h : PI t e w W ob vs A cap) (hg : W.grownBy W' row) (hr : ∀ r, row = some r → w.heap.size ≤ r ∧ ∃ o : Obj, W.heap[r]? = some o ∧ o.isCells = false) : PI t e w W' ob vs A cap :=
  ⟨boxg h.bx hg (fun r e => (hr r e).2), segg h.sg hg (fun r e => (hr r e).2), h.ge, h.on.grown hg h.on.size (fun k e => (hr k e).1), h.ob⟩
theorem PI.own (h : PI t e w W ob vs A cap) (k : Nat) : OwnP ob W k ↔ k = ob ∨ k ∈ blk A := by
  have c := h.bx.cell 0
  simp only [List.getElem?_toArray, List.getElem?_cons_zero] at c
  constructor
  · rintro (h | ⟨A', n, cc, h, hk⟩)
    · exact Or.inl h
    · rw [c] at h
      injection h with h
      injection h with h1 h2 h3
      subst h1
      exact Or.inr hk
  · rintro (h | hk)
    · exact Or.inl h
    · exact Or.inr ⟨A, _, _, c, hk⟩
theorem PI.lt (h : PI t e w W ob vs A cap) (k : Nat) (hk : OwnP ob W k) : k < W.heap.size := by
  rcases (h.own k).1 hk with rfl | hk
  · exact h.bx.lt
  · exact h.sg.lt k hk
theorem ownP_s {B : Nat} (h : ob < B) : OwnS B (OwnP ob) := by
  rintro k W W' row hW (hk | ⟨A, n, c, hc, hk⟩) hg hr
  · exact Or.inl hk
  · have : W'.heap[ob]? = W.heap[ob]? := hg.block ob (by omega) (fun e => by have := (hr ob e.symm).1; omega)
    exact Or.inr ⟨A, n, c, (World.cell?_of_block (w := W) (w' := W') (a := ⟨ob, 0, none⟩) this).symm.trans hc, hk⟩

/-- elements more -/
theorem PI.app (h : PI t e w W ob vs A cap) (hte : e ≠ t) {A3 : Option Addr} {cap3 : Nat} {w3 : World} {o : Obj} {us : List Value} (hs3 : Seg w3 e A3 cap3 (vs ++ us)) (f3 : Fr (blk A) (W.alloc o) w3) (b3 : blk A3 = blk A ∨ blk A3 = [(W.alloc o).heap.size]) :
    (w3.cell? ⟨ob, 0, none⟩ = some (.slice A vs.length cap) ∧ w3.frozen? ⟨ob, 0, none⟩ = false ∧ ob < w3.heap.size) ∧ KO (OwnP ob) W (w3.setCell ⟨ob, 0, none⟩ (.slice A3 (vs.length + us.length) cap3)) ∧ PI t e w (w3.setCell ⟨ob, 0, none⟩ (.slice A3 (vs.length + us.length) cap3)) ob (vs ++ us) A3 cap3 := by
  have hF : Fr (blk A) W w3 := ((Fr.refl [] W).alloc o).trans f3 (by simp) (fun g hg => Or.inl hg)
  have n0 : ob ∉ blk A := h.sg.ne_box h.bx hte
  have hb3 := h.bx.kept hF n0
  have n3 : ob ∉ blk A3 := hs3.ne_box hb3 hte
  have hset : Fr [ob] w3 (w3.setCell ⟨ob, 0, none⟩ (.slice A3 (vs.length + us.length) cap3)) := (Fr.refl _ w3).setCell (Or.inl (by simp)) _
  have hall : Fr (ob :: blk A) W (w3.setCell ⟨ob, 0, none⟩ (.slice A3 (vs.length + us.length) cap3)) := (hF.mono fun g hg => Or.inl (List.mem_cons_of_mem _ hg)).trans hset (fun g hg => Or.inl hg) (fun g hg => Or.inl (by rw [List.mem_singleton] at hg; subst hg; exact List.mem_cons_self))
  have hA3 : ∀ q ∈ blk A3, q ∈ blk A ∨ W.heap.size ≤ q := fun q hq => by
    rcases b3 with e | e
    · exact Or.inl (e ▸ hq)
    · rw [e, List.mem_singleton] at hq
      subst hq
      right
      simp
  have hP : PI t e w (w3.setCell ⟨ob, 0, none⟩ (.slice A3 (vs.length + us.length) cap3)) ob (vs ++ us) A3 cap3 := by
    refine ⟨?_, hs3.kept hset (fun g hg => by rw [List.mem_singleton]; exact fun e => n3 (e ▸ hg)), fun q hq => ?_, h.on.trans (hall.below (fun g hg => ?_) h.on.size), h.ob⟩
    · have := hb3.put 0 (.slice A3 (vs.length + us.length) cap3)
      rw [List.length_append]
      exact this
    · rcases hA3 q hq with h1 | h1
      · exact h.ge q h1
      · exact Nat.le_trans h.on.size h1
    · rcases List.mem_cons.1 hg with rfl | hg
      · exact h.ob
      · exact h.ge g hg
  refine ⟨⟨hb3.cell 0, hb3.free 0, hb3.lt⟩, ⟨hall.size, fun k hk hn => hall.block k hk (fun hm => hn ((h.own k).2 ?_)), fun k hk => ?_, fun k hk => hP.lt k hk⟩, hP⟩
  · rcases List.mem_cons.1 hm with h1 | h1
    · exact Or.inl h1
    · exact Or.inr h1
  · rcases (hP.own k).1 hk with h1 | h1
    · exact Or.inl ((h.own k).2 (Or.inl h1))
    · rcases hA3 k h1 with h2 | h2
      · exact Or.inl ((h.own k).2 (Or.inr h2))
      · exact Or.inr h2
/-- an element more -/
theorem PI.push (h : PI t e w W ob vs A cap) (hte : e ≠ t) {A3 : Option Addr} {cap3 : Nat} {w3 : World} {o : Obj} {x : Value} (hs3 : Seg w3 e A3 cap3 (vs ++ [x])) (f3 : Fr (blk A) (W.alloc o) w3) (b3 : blk A3 = blk A ∨ blk A3 = [(W.alloc o).heap.size]) :
    (w3.cell? ⟨ob, 0, none⟩ = some (.slice A vs.length cap) ∧ w3.frozen? ⟨ob, 0, none⟩ = false ∧ ob < w3.heap.size) ∧ KO (OwnP ob) W (w3.setCell ⟨ob, 0, none⟩ (.slice A3 (vs.length + 1) cap3)) ∧ PI t e w (w3.setCell ⟨ob, 0, none⟩ (.slice A3 (vs.length + 1) cap3)) ob (vs ++ [x]) A3 cap3 :=
  h.app hte hs3 f3 b3
end

/-- the caller's law, where a round's beginning puts one value into a slot -/
theorem range_put {α : Type} {P : Program} {Own : World → Nat → Prop} {n : Nat} {g : Operand} {ps : Array Tmp} {assign body : Code} {Q : Exit → Act → World → Prop} {a : Act} {w : World} (h1 : 1 ≤ n) {gf : Nat} {lb : Array Value} (hg : a.eval g = .func (.func gf) #[] lb) (eg : ∀ args w, (callFunc gf args).run P w = .ok (.enter gf args) w)
    {encs : α → Array Value} {S Sp : List α → Prop} {N : Nat} {Z : List Nat} {w0 : World} (hseq : SeqO (n - 1) P gf lb encs S Sp N Z w0) (hb0 : Below w0.heap.size w0 w) (hps : ∀ x, (encs x).size = ps.size)
    (hO : ∀ k, Own w k → k < w.heap.size) (hZ : ∀ k ∈ Z, ¬ Own w k ∧ k < w.heap.size) (hS : OwnS w.heap.size Own)
    (I : List α → World → Prop) (hI : OwnFrom w.heap.size I) (h0 : I [] w) (sl : Tmp) (f : α → Value)
    (hassign : ∀ (l : Nat) (x : α) (W : World) (K : Act → World → Prop), K (Act.put { tmps := (ps.zip (encs x)).foldl (fun t (p, v) => t.setIfInBounds p v) a.tmps, defers := [] } (some sl) (f x)) W →
      assign.wpIn (Fence.wide.inRound l) (n - 1 - 1) P (Exit.then K (fun _ _ _ => False)) { tmps := (ps.zip (encs x)).foldl (fun t (p, v) => t.setIfInBounds p v) a.tmps, defers := [] } W)
    (hbody : ∀ (l : Nat) (pre : List α) (x : α) (W : World), I pre W → w.heap.size ≤ W.heap.size → pre.length < N → body.wpIn (Fence.wide.inRound l) (n - 1 - 1) P (bodyO Own I (fun _ _ _ => False) (pre ++ [x]) W) (Act.put { tmps := (ps.zip (encs x)).foldl (fun t (p, v) => t.setIfInBounds p v) a.tmps, defers := [] } (some sl) (f x)) W)
    (hdone : ∀ (D : Nat) (xs : List α) (W : World), w.heap.size ≤ D → S xs → I xs W → W.heap[D]? = some (.deferred (some [])) → Q .normal { a with defers := { target := .collected D, args := #[] } :: a.defers } W) :
    (Code.rangeFunc g ps assign body).wpIn Fence.wide n P Q a w :=
  range_own h1 hg eg hseq hb0 hps hO hZ hS I (fun _ _ _ => False) hI (fun _ _ _ _ _ h _ _ => h) h0 (fun x => Act.put { tmps := (ps.zip (encs x)).foldl (fun t (p, v) => t.setIfInBounds p v) a.tmps, defers := [] } (some sl) (f x)) hassign (fun l pre x W hi hs _ hN => hbody l pre x W hi hs hN) hdone (fun _ _ _ _ _ _ h _ => h.elim)
end Go.Proofs.YtohdcmmkbblhkaaGreatDoor.rng
