import Derived.Test.YtohdcmmkbblhkaaGreatDoorV01
import Derived.Maps.OwnSet
import Derived.Maps.Views
import Derived.Maps.Own
/-
  Maps keyed by texts, of any elements: what is held at each key.
-/
set_option linter.all false
namespace Go.Proofs.YtohdcmmkbblhkaaGreatDoor.mp
open Go.RowKit Go.Maps Go.Proofs.YtohdcmmkbblhkaaGreatDoor.mem

def hv (v : Value) : Option (DataW Value × List MemPlace) := some (.held v, [])

def updT {α : Type} (F : List UInt8 → α) (x : List UInt8) (v : α) : List UInt8 → α := fun y => if y = x then v else F y
theorem updT_same {α : Type} (F : List UInt8 → α) (x : List UInt8) (v : α) : updT F x v x = v := if_pos rfl
theorem updT_ne {α : Type} (F : List UInt8 → α) {x y : List UInt8} (v : α) (h : y ≠ x) : updT F x v y = F y := if_neg h

/-- block b is a map, keyed by texts, of at most N entries; at x it holds F x (z where there is none); has x: there is one -/
def SM (P : Program) (k : TypeId) (w : World) (b N : Nat) (z : Value) (F : List UInt8 → Value) (has : List UInt8 → Bool) : Prop :=
  ∃ D, w.ownsMap (H := Value) P k hv b N D ∧ ∀ x, D.atKey (.string x) (.held z) = .held (F x) ∧ Maps.has D (.string x) = has x

section
variable {P : Program} {k : TypeId} {w : World} {b N : Nat} {z : Value} {F : List UInt8 → Value} {has : List UInt8 → Bool}

theorem SM.made (P : Program) (k : TypeId) (w : World) (z : Value) : SM P k (w.alloc (.map #[] 0)) w.heap.size 0 z (fun _ => z) (fun _ => false) :=
  ⟨_, World.ownsMap_made w P k hv, fun _ => ⟨rfl, rfl⟩⟩
theorem SM.lt (h : SM P k w b N z F has) : b < w.heap.size := by
  obtain ⟨D, h, _⟩ := h
  exact h.lt
theorem SM.mono (h : SM P k w b N z F has) {N' : Nat} (hN : N ≤ N') : SM P k w b N' z F has := by
  obtain ⟨D, h, h2⟩ := h
  exact ⟨D, h.mono hN, h2⟩
theorem SM.block (h : SM P k w b N z F has) {w' : World} (hb : w'.heap[b]? = w.heap[b]?) : SM P k w' b N z F has := by
  obtain ⟨D, ⟨es, clock, h1, r⟩, h2⟩ := h
  exact ⟨D, ⟨es, clock, hb.trans h1, r⟩, h2⟩
theorem SM.kept (h : SM P k w b N z F has) {w' : World} {G : List Nat} (hf : Fr G w w') (hb : b ∉ G) : SM P k w' b N z F has := h.block (hf.block b h.lt hb)
theorem SM.below (h : SM P k w b N z F has) {w' : World} (hb : Below w.heap.size w w') : SM P k w' b N z F has := h.block (hb.block b h.lt)
theorem SM.ne_cells (h : SM P k w b N z F has) {g : Nat} {cs : Array Value} {t : TypeId} {f : Nat × Nat} (hg : w.heap[g]? = some (.cells cs t f)) : b ≠ g := fun e => by
  obtain ⟨D, ⟨es, clock, h1, _⟩, _⟩ := h
  rw [e, hg] at h1
  cases h1

/-- a look-up -/
theorem SM.look (h : SM P k w b N z F has) {t e : TypeId} (K : Keyed P k) (ht : P.underlying t = some (.map k e)) (hz : (zeroValue e).run P w = .ok z w) {s : ByteArray} (hs : keyOf P k (.string s) = some (.string s.data.toList)) :
    (Instr.lookup t (.map (some b)) (.string s) false).run P w = .ok (F s.data.toList) w := by
  obtain ⟨D, h, h2⟩ := h
  obtain ⟨v, ps, hr, hv'⟩ := h.lookup K ht hz (zd := .held z) (zp := []) rfl hs
  rw [(h2 _).1] at hv'
  unfold hv at hv'
  simp only [Option.some.injEq, Prod.mk.injEq, DataW.held.injEq] at hv'
  rw [hr, hv'.1]

/-- a store -/
theorem SM.put (h : SM P k w b N z F has) {t e : TypeId} (K : Keyed P k) (ht : P.underlying t = some (.map k e)) (hn : N < maxLen) {s : ByteArray} (hs : keyOf P k (.string s) = some (.string s.data.toList)) (v : Value) :
    ∃ w', (Instr.mapUpdate t (.map (some b)) (.string s) v).run P w = .ok () w' ∧ SM P k w' b (N + 1) z (updT F s.data.toList v) (updT has s.data.toList true) ∧ w.grownBy w' (some b) := by
  obtain ⟨D, h, h2⟩ := h
  have hD : Maps.IsMap D := by
    obtain ⟨es, clock, _, _, _, rfl⟩ := h
    exact ⟨_, rfl⟩
  obtain ⟨w', hr, ho, hg⟩ := h.update K ht hn hs (val := v) (d := .held v) (ps := []) rfl
  refine ⟨w', hr, ⟨_, ho, fun x => ?_⟩, hg⟩
  by_cases hx : x = s.data.toList
  · subst hx
    rw [updT_same, updT_same]
    exact ⟨Maps.atKey_put_same hD (show WideAt.IsKeyLit (.string s.data.toList) from trivial) _ _, Maps.has_put_same hD (show WideAt.IsKeyLit (.string s.data.toList) from trivial) _⟩
  · rw [updT_ne _ _ hx, updT_ne _ _ hx]
    have hne : Lit.string x ≠ Lit.string s.data.toList := fun e => hx (by injection e)
    exact ⟨(Maps.atKey_put_other hne _ _).trans (h2 x).1, (Maps.has_put_other hne _).trans (h2 x).2⟩

/-- a store, at a step of a region that draws its order -/
theorem step_put {o : Oper} {a : Act} {K : Act → World → Prop} {Q : Exit → Act → World → Prop} {ops : Array Oper} {E : Prop} (hgd : o.guard = none) (mo xo vo : Operand) (t : TypeId) (ho : o.op = Op.mapUpdate t mo xo vo)
    (h : SM P k w b N z F has) {e : TypeId} (Kk : Keyed P k) (ht : P.underlying t = some (.map k e)) (hn : N < maxLen) {s : ByteArray} (hs : keyOf P k (.string s) = some (.string s.data.toList)) {v : Value}
    (hm : a.eval mo = .map (some b)) (hx : a.eval xo = .string s) (hv' : a.eval vo = v)
    (hK : ∀ w', SM P k w' b (N + 1) z (updT F s.data.toList v) (updT has s.data.toList true) → w.grownBy w' (some b) → K (a.put o.dst undef) w') :
    if Region.wanted o (yielded ops a.tmps) = true then Oper.wp P o a w K Q else E := by
  have hw : Region.wanted o (yielded ops a.tmps) = true := by simp [Region.wanted, hgd]
  rw [if_pos hw]
  obtain ⟨w', hr, h2, h3⟩ := h.put Kk ht hn hs v
  unfold Oper.wp
  simp [execOp, ho, hm, hx, hv', hr, Result.andThen]
  exact hK w' h2 h3
end
end Go.Proofs.YtohdcmmkbblhkaaGreatDoor.mp
