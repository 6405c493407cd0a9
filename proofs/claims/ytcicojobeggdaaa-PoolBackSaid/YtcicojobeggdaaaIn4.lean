/-
  intern: Sorted.
-/
import Derived.Test.YtcicojobeggdaaaIn3
import Derived.Test.YtcicojobeggdaaaRnd
import Derived.Deep.OwnRows
import Derived.Laws.OwnMore
namespace Go.Proofs.Ytcicojobeggdaaa.inn
open Go.RowKit Go.Shelf Go.Proofs.Ytcicojobeggdaaa.mem

attribute [local go_sem] Oper.semAt_some

theorem box_grown {W W' : World} {row : Option Nat} {g : Nat} {t : TypeId} {cs : Array Value} (h : Box W g t cs) (hg : W.grownBy W' row) (hr : ∀ r, row = some r → ∃ o : Obj, W.heap[r]? = some o ∧ o.isCells = false) : Box W' g t cs := by
  refine (hg.block g h.lt (fun e => ?_)).trans h
  obtain ⟨o, ho, hc⟩ := hr g e.symm
  unfold Box at h
  rw [h] at ho
  cases ho
  cases hc

theorem CB.grown {α : Type} {enc : α → Value} {e : TypeId} {W W' : World} {row : Option Nat} {g cap : Nat} {xs : List α} (h : CB enc e W g cap xs) (hg : W.grownBy W' row) (hr : ∀ r, row = some r → ∃ o : Obj, W.heap[r]? = some o ∧ o.isCells = false) : CB enc e W' g cap xs := by
  obtain ⟨cur, h1, h2, h3⟩ := h.ex
  refine h.kept _ (hg.block g (Array.getElem?_eq_some_iff.1 h1).1 (fun e => ?_))
  obtain ⟨o, ho, hc⟩ := hr g e.symm
  rw [h1] at ho
  cases ho
  cases hc

theorem keeps_fr {W W' : World} {L : List Nat} (h : Fr L W W') (hc : ∀ g ∈ L, ∃ o : Obj, W.heap[g]? = some o ∧ o.isCells = true) : KeepsOthers W W' :=
  ⟨h.size, fun k o hk ho => by
    have hlt : k < W.heap.size := (Array.getElem?_eq_some_iff.1 hk).1
    refine (h.block k hlt (fun hm => ?_)).trans hk
    obtain ⟨o', h1, h2⟩ := hc k hm
    rw [hk] at h1
    cases h1
    rw [ho] at h2
    cases h2⟩

theorem kq_fr {n : Nat} {W W' : World} {L : List Nat} (h : Fr L W W') (hL : ∀ g ∈ L, g < n) : Kq n W W' := fun k hk cs t fr hh =>
  (h.block k (Array.getElem?_eq_some_iff.1 hh).1 (fun hm => by have := hL k hm; omega)).trans hh

/-- 'append' of one element where there is room -/
theorem push_room {P : Program} {α : Type} {enc : α → Value} {w : World} {e t ty : TypeId} {g cap : Nat} {xs : List α} {x : α} {i : TypeInfo} (h : CB enc e w g cap xs) (hroom : xs.length + 1 ≤ cap) (ht : P.underlying t = some (.slice e)) (hi : P.info? e = some i) (hs : i.size = 1)
    {ad : Addr} (hu : w.cell? ad = some (enc x)) (h1 : (enc x).oneCell' = true) :
    ∃ w', (Builtin.append_ #[t, t] ty #[.slice (some ⟨g, 0, none⟩) xs.length cap, .slice (some ad) 1 1]).run P w = .ok (.slice (some ⟨g, 0, none⟩) (xs.length + 1) cap) w' ∧ CB enc e w' g cap (xs ++ [x]) ∧ Fr [g] w w' := by
  have hsrc : Src P i.size t (.slice (some ad) 1 1) 1 [enc x] w := Src.ofSlice w ht ad 1 1 [enc x] (by rw [hs]; rfl) (fun j v hv => by
    cases j with
    | zero => simp at hv; subst hv; simpa [Addr.add] using hu
    | succ j => simp at hv) (fun v hv => by rw [List.mem_singleton] at hv; subst hv; exact h1)
  obtain ⟨cur, hc, hsz, htk⟩ := h.ex
  have hr := run_append_room_src (P := P) w t t ty e i ht hi g 0 xs.length cap _ 1 [enc x] hsrc hroom (fun j hj => by
    have : j = 0 := by simpa using hj
    subst this
    rw [hs, Nat.mul_one, Nat.add_zero, Nat.zero_add, cell_of_row w g _ cur e (0, 0) hc, Array.getElem?_eq_getElem (by omega)]; rfl) (fun j hj => by simp [World.frozen?, hc])
  rw [hs, Nat.mul_one, Nat.zero_add] at hr
  obtain ⟨cur', k1, k2, k3, k4⟩ := setCells_row g e [enc x] xs.length w cur hc (by simp; omega)
  refine ⟨_, hr, ⟨⟨cur', k1, by rw [k2]; exact hsz, ?_⟩, by simp; exact hroom, h.max⟩, setCells_fr g [enc x] _ w⟩
  apply List.ext_getElem?
  intro j
  rw [List.length_append, List.length_singleton]
  by_cases hj : j < xs.length + 1
  · rw [List.getElem?_take_of_lt hj, Array.getElem?_toList, List.map_append]
    rcases Nat.lt_or_ge j xs.length with hj2 | hj2
    · rw [k4 j (Or.inl hj2), List.getElem?_append_left (by simpa using hj2), ← htk, List.getElem?_take_of_lt hj2, Array.getElem?_toList]
    · have : j = xs.length := by omega
      subst this
      rw [List.getElem?_append_right (by simp)]
      have := k3 0 (enc x) (by simp)
      simpa using this
  · rw [List.getElem?_take_eq_none (by omega), List.getElem?_eq_none (by simp; omega)]

theorem wpListIn_room {F : Fence} {n : Nat} {P : Program} {α : Type} {enc : α → Value} {w : World} {ops : Array Oper} {rest : List Oper} {o : Oper} {a : Act} {Q : Exit → Act → World → Prop} (hgd : o.guard = none) (s y : Operand) (t : TypeId)
    (ho : o.op = .call { callee := .builtin .append, args := #[s, y], argTypes := #[t, t] }) {e : TypeId} {g cap m : Nat} {xs : List α} {x : α} {i : TypeInfo} (h : CB enc e w g cap xs) (hm : m = xs.length) (hroom : xs.length + 1 ≤ cap) (ht : P.underlying t = some (.slice e)) (hi : P.info? e = some i) (hs : i.size = 1)
    {ad : Addr} (hes : a.eval s = .slice (some ⟨g, 0, none⟩) m cap) (hex : a.eval y = .slice (some ad) 1 1) (hu : w.cell? ad = some (enc x)) (h1 : (enc x).oneCell' = true)
    (hK : ∀ w', CB enc e w' g cap (xs ++ [x]) → Fr [g] w w' → wpListIn F n P ops Q rest (a.put o.dst (.slice (some ⟨g, 0, none⟩) (m + 1) cap)) w') : wpListIn F n P ops Q (o :: rest) a w := by
  subst hm
  refine wpListIn_plain hgd fun K hK' => ?_
  obtain ⟨w', hr, h2, h3⟩ := push_room (ty := o.type) h hroom ht hi hs hu h1
  unfold Oper.wpIn
  refine ⟨?_, ?_⟩
  · simp [Oper.about, ho, resolve, Target.leads, Sem.run_pure]
  · rw [Oper.semAt_plain F _ _ (by rw [ho]; intro c hc'; cases hc')]
    simp [execOp, ho, resolve, invoke, builtin, hes, hex, hr, Result.andThen]
    exact hK' _ _ (hK w' h2 h3)

theorem info_str : (Try.prog.info? 9).map (fun i => (i.zero, i.size, i.bytes)) = some (some (.string ByteArray.empty), 1, 16) := by kernel_rfl

theorem make_s (W : World) (n : Nat) (hn : n ≤ 1000) : (Instr.makeSlice 22 (.int .i64 0) (.int .i64 (n : Int))).run Try.prog W = .ok (.slice (some ⟨W.heap.size, 0, none⟩) 0 n) (W.alloc (.cells (madeCells #[.string ByteArray.empty] n) 9)) := by
  obtain ⟨i0, hi, hz, hs, hb⟩ := info_parts info_str
  have := run_make (P := Try.prog) W 22 9 i0 (.string ByteArray.empty) Try.underlying22 hi hz .i64 .i64 0 n (by omega) (by omega) (by rw [hb]; omega) (by omega)
  rw [hs, Nat.mul_one, Int.toNat_natCast] at this
  exact this

/-- between two rounds -/
structure SI (w W : World) (n k : Nat) (pre : List (List UInt8)) : Prop where
  cb : CB encStr 9 W w.heap.size n pre
  bx : Box W (w.heap.size + 1) 22 #[.slice (some ⟨w.heap.size, 0, none⟩) k n]
  len : k = pre.length
  on : Below w.heap.size w W

theorem SI.grown {w W W' : World} {n k : Nat} {pre : List (List UInt8)} {row : Option Nat} (h : SI w W n k pre) (hg : W.grownBy W' row) (hr : ∀ r, row = some r → w.heap.size ≤ r ∧ ∃ o : Obj, W.heap[r]? = some o ∧ o.isCells = false) : SI w W' n k pre :=
  ⟨h.cb.grown hg (fun r e => (hr r e).2), box_grown h.bx hg (fun r e => (hr r e).2), h.len, h.on.grown hg h.on.size (fun k e => (hr k e).1)⟩
end Go.Proofs.Ytcicojobeggdaaa.inn
