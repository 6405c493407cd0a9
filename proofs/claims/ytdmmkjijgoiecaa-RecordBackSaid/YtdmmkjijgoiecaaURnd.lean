import Derived.Test.YtdmmkjijgoiecaaV01
import Derived.RangeFuncNested
import Derived.RangeFuncBound
import Derived.RangeFuncCalls
import Derived.RangeFuncLeaves
import Derived.RangeFuncFrom
import Derived.OwnWalkIn
import Derived.Deep.RegionHeld3
/-
  A region that draws its order, in a round of a range over a function: carried over from the plain laws.
-/
set_option linter.all false
namespace Go.Proofs.Ytdmmkjijgoiecaa.mem
open Go.RowKit

theorem rowsIn_of {n l : Nat} {P : Program} {row : String} {args : Array Value} {w : World} {R : Value → World → Prop} (h : Rows P row args w R) : RowsIn (Fence.wide.inRound l) n P row args w R :=
  fun c cs _ => let ⟨v, w', r, s⟩ := h c cs; ⟨v, w', r, stepsIn_wide.2 s⟩

theorem opsIn_round {P : Program} {ops : Array Oper} {Q : Exit → Act → World → Prop} (l n : Nat) (hd : ∀ (i : Nat) (o : Oper), ops[i]? = some o → ∀ c, o.op ≠ .defer c) (hL : ¬ LetsOut Q) :
    ∀ (L : List Nat) (a : Act) (w : World), wpOps P ops Q L a w → wpOpsIn (Fence.wide.inRound l) n P ops Q L a w
  | [], _, _, h => h
  | i :: rest, a, w, h => by
    unfold wpOps at h
    unfold wpOpsIn
    cases ho : ops[i]? with
    | none =>
      rw [ho] at h
      exact opsIn_round l n hd hL rest a w h
    | some o =>
      rw [ho] at h
      simp only at h ⊢
      split
      · rename_i hw
        rw [if_pos hw] at h
        rcases h with h | ⟨_, h⟩
        · refine ⟨fun _ _ => trivial, ?_⟩
          rw [Oper.semAt_plain _ _ _ (hd i o ho)]
          unfold Oper.wp at h
          generalize (execOp a.eval o).run P w = r at h ⊢
          cases r with
          | ok nx w' =>
            cases nx with
            | value v => exact opsIn_round l n hd hL rest _ _ h
            | skip => exact opsIn_round l n hd hL rest _ _ h
            | defer d => exact opsIn_round l n hd hL rest _ _ h
            | enter f args =>
              refine ⟨fun hh => (by simp [Fence.wide] at hh), ?_⟩
              refine CallsIn.inRound l (callsIn_wide.2 (Calls.mono h ?_))
              intro e w'' hh
              cases e with
              | returned v => exact opsIn_round l n hd hL rest _ _ hh
              | panicked c => exact hh
              | outgrown => exact hh
            | row row args =>
              refine ⟨fun hh => (by simp [Fence.wide] at hh), ?_⟩
              exact (rowsIn_of h).mono (fun v w'' hh => opsIn_round l n hd hL rest _ _ hh)
            | _ => exact h.elim
          | halt x w' =>
            cases x with
            | panic v => exact h
            | _ => exact h.elim
        · exact absurd h hL
      · rename_i hw
        rw [if_neg hw] at h
        exact ⟨fun _ _ => trivial, opsIn_round l n hd hL rest _ _ h⟩

/-- a region that draws its order, in a round: by the plain laws on loads that may be taken first -/
theorem region_round {P : Program} {ops : Array Oper} {Q : Exit → Act → World → Prop} {S : World → Prop} {id l n : Nat} {a : Act} {w : World} (hm : P.follows .mixedOrders = true) (hd : ∀ (i : Nat) (o : Oper), ops[i]? = some o → ∀ c, o.op ≠ .defer c)
    (h : wpAnyH P .any ops (fun e a w => e = .normal ∧ Q .normal a w) S ops.size (Array.replicate ops.size false) a w.drew) : (Code.region id ops true).wpIn (Fence.wide.inRound l) n P Q a w := by
  refine wpIn_mono (wpIn_region_draw (Q := fun e a w => e = .normal ∧ Q .normal a w) fun t => ?_) (fun e a w hh => ?_)
  · refine opsIn_round l n hd (fun hl => ?_) _ _ _ ?_
    · obtain ⟨_, _, h, _⟩ := hl
      cases h
    · simp only [Region.schedule, hm, Bool.true_or, if_true]
      exact wpAny_sound ops.size t _ a _ (wpAny_of_held _ _ _ _ h)
  · obtain ⟨rfl, hq⟩ := hh
    exact hq

/-- 'append' of one element, at a step of a region that draws its order -/
theorem step_push {P : Program} {w : World} {ops : Array Oper} {o : Oper} {a : Act} {K : Act → World → Prop} {Q : Exit → Act → World → Prop} {E : Prop} (hgd : o.guard = none) (s x : Operand) (t : TypeId)
    (ho : o.op = .call { callee := .builtin .append, args := #[s, x], argTypes := #[t, t] }) {e : TypeId} {A : Option Addr} {cap n bytes : Nat} {xs : List Value} {i : TypeInfo} {z : Value} (h : Seg w e A cap xs) (hn : n = xs.length) (ht : P.underlying t = some (.slice e)) (hi : P.info? e = some i) (hz : i.zero = some z) (hs : i.size = 1) (hb : i.bytes = bytes) (hzs : z.cells.size = 1)
    {ad : Addr} {u : Value} (hes : a.eval s = .slice A n cap) (hex : a.eval x = .slice (some ad) 1 1) (hu : w.cell? ad = some u) (h1 : u.oneCell' = true) (h63 : n + 1 ≤ 9223372036854775807) (hby : (n + 1) * bytes ≤ 140737488355328)
    (hK : ∀ A' cap' w', Seg w' e A' cap' (xs ++ [u]) → Fr (blk A) w w' → (blk A' = blk A ∨ blk A' = [w.heap.size]) → K (a.put o.dst (.slice A' (n + 1) cap')) w') :
    if Region.wanted o (yielded ops a.tmps) = true then Oper.wp P o a w K Q else E := by
  have hw : Region.wanted o (yielded ops a.tmps) = true := by simp [Region.wanted, hgd]
  rw [if_pos hw]
  subst hn
  obtain ⟨A', cap', w', hr, h2, h3, h4⟩ := h.push (ty := o.type) ht hi hz hs hb hzs hu h1 h63 hby
  unfold Oper.wp execOp
  simp only [ho, resolve, invoke, builtin, Sem.run_bind, Sem.run_pure, Result.andThen_ok, List.map_toArray, List.map_cons, List.map_nil, hes, hex, hr]
  exact hK A' cap' w' h2 h3 h4
end Go.Proofs.Ytdmmkjijgoiecaa.mem
