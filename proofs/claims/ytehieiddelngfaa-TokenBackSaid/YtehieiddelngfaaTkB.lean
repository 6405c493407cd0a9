/-
  token: the law on tokens that are joined.
-/
import Derived.Test.YtehieiddelngfaaTkA
import Derived.Test.YtehieiddelngfaaTk9
namespace Go.Proofs.Ytehieiddelngfaa.tk
open Go.RowKit Go.Proofs.Ytehieiddelngfaa.dg Go.Proofs.Ytehieiddelngfaa.mem

abbrev GT := Int × ByteArray × Int
def encG (g : GT) : List Value := [.int .i64 g.1, .string g.2.1, .int .i64 g.2.2]
def cellsG (l : List GT) : List Value := l.flatMap encG
theorem cellsG_snoc (l : List GT) (t : GT) : cellsG l ++ encG t = cellsG (l ++ [t]) := by simp [cellsG]
theorem cellsG_len (l : List GT) : (cellsG l).length = l.length * 3 := by
  induction l with
  | nil => rfl
  | cons t l ih => simp only [cellsG, List.flatMap_cons, List.length_append, List.length_cons] at ih ⊢; rw [ih]; simp [encG]; omega
theorem cellsG_get (l : List GT) (k : Nat) (hk : k < l.length) : (cellsG l)[k * 3]? = some (.int .i64 l[k].1) ∧ (cellsG l)[k * 3 + 1]? = some (.string l[k].2.1) ∧ (cellsG l)[k * 3 + 2]? = some (.int .i64 l[k].2.2) := by
  induction l generalizing k with
  | nil => simp at hk
  | cons t l ih =>
    have hc : cellsG (t :: l) = encG t ++ cellsG l := by simp [cellsG]
    cases k with
    | zero => rw [hc]; simp [encG]
    | succ k =>
      have := ih k (by simpa using hk)
      rw [hc]
      have hl : (encG t).length = 3 := rfl
      refine ⟨?_, ?_, ?_⟩
      · rw [List.getElem?_append_right (by rw [hl]; omega), hl, show (k + 1) * 3 - 3 = k * 3 by omega]; exact this.1
      · rw [List.getElem?_append_right (by rw [hl]; omega), hl, show (k + 1) * 3 + 1 - 3 = k * 3 + 1 by omega]; exact this.2.1
      · rw [List.getElem?_append_right (by rw [hl]; omega), hl, show (k + 1) * 3 + 2 - 3 = k * 3 + 2 by omega]; exact this.2.2

theorem encG_one (t : GT) : ∀ u ∈ encG t, u.oneCell' = true := by
  intro u hu
  simp only [encG, List.mem_cons, List.not_mem_nil, or_false] at hu
  rcases hu with rfl | rfl | rfl <;> rfl

/-- tokens as they come in -/
def GV (w : World) (A : Option Addr) (l : List GT) : Prop := 0 < l.length → ∃ b o, A = some ⟨b, o, none⟩ ∧ b < w.heap.size ∧ ∀ k (hk : k < l.length), w.cell? ⟨b, o + k * 3, none⟩ = some (.int .i64 l[k].1) ∧ w.cell? ⟨b, o + k * 3 + 1, none⟩ = some (.string l[k].2.1) ∧ w.cell? ⟨b, o + k * 3 + 2, none⟩ = some (.int .i64 l[k].2.2)

def txs (l : List GT) : List (List UInt8) := l.map fun g => g.2.1.data.toList
theorem txs_len (l : List GT) : (txs l).length = l.length := by simp [txs]

theorem GV.tv {w : World} {A : Option Addr} {l : List GT} (h : GV w A l) : TV w A (txs l) := fun hz => by
  obtain ⟨b, o, rfl, hl, hc⟩ := h (by simpa [txs] using hz)
  refine ⟨b, o, rfl, hl, fun k hk => ?_⟩
  obtain ⟨h1, h2, h3⟩ := hc k (by simpa [txs] using hk)
  refine ⟨⟨_, h1⟩, ?_, ⟨_, h3⟩⟩
  rw [h2]
  simp only [txs, List.getElem_map]
  try rw [ba_eq]

theorem GV.of_rd {w : World} {A : Option Addr} {l : List GT} (h : Rd w A (cellsG l)) : GV w A l := fun hz => by
  have hl := cellsG_len l
  obtain ⟨b, o, rfl, hlt, hc⟩ := h (by omega)
  refine ⟨b, o, rfl, hlt, fun k hk => ?_⟩
  obtain ⟨g1, g2, g3⟩ := cellsG_get l k hk
  refine ⟨?_, ?_, ?_⟩
  · rw [hc (k * 3) (by omega)]; exact (List.getElem?_eq_getElem _).symm.trans g1
  · rw [Nat.add_assoc, hc (k * 3 + 1) (by omega)]; exact (List.getElem?_eq_getElem _).symm.trans g2
  · rw [Nat.add_assoc, hc (k * 3 + 2) (by omega)]; exact (List.getElem?_eq_getElem _).symm.trans g3

structure TG (w wr : World) (T : TypeId) (A : Option Addr) (cap : Nat) (acc : List GT) : Prop where
  sg : Sg 3 wr T A cap acc.length (cellsG acc)
  on : Below w.heap.size w wr
  own : ∀ g ∈ blk A, w.heap.size ≤ g

theorem TG.new (w : World) (T : TypeId) : TG w w T none 0 [] := ⟨Sg.new 3 w T, Below.refl _ _, by simp [blk]⟩
theorem TG.drew {w wr : World} {T : TypeId} {A : Option Addr} {cap : Nat} {acc : List GT} (h : TG w wr T A cap acc) : TG w wr.drew T A cap acc :=
  ⟨h.sg.kept (Fr.of_below (below_one wr) []) (by simp), h.on.trans ((below_one wr).mono h.on.size), h.own⟩

theorem TG.push {w wr w3 : World} {T : TypeId} {A A' : Option Addr} {cap cap' : Nat} {acc : List GT} {o : Obj} (h : TG w wr T A cap acc) (t : GT) (hs : Sg 3 w3 T A' cap' (acc.length + 1) (cellsG acc ++ encG t)) (b3 : Fr (blk A) (wr.alloc o) w3) (hf3 : blk A' = blk A ∨ blk A' = [(wr.alloc o).heap.size]) : TG w w3 T A' cap' (acc ++ [t]) := by
  have f : Fr (blk A) wr w3 := ((Fr.refl (blk A) wr).alloc o).trans b3 (fun g hg => Or.inl hg) (fun g hg => Or.inl hg)
  refine ⟨?_, h.on.trans (f.below h.own h.on.size), fun g hg => ?_⟩
  · rw [← cellsG_snoc, List.length_append, List.length_singleton]
    exact hs
  · rcases hf3 with e | e
    · exact h.own g (e ▸ hg)
    · rw [e, List.mem_singleton] at hg
      subst hg
      have := h.on.size
      simp; omega

/-- 'append' of one element, at a step of a region that draws its order -/
theorem step_row {P : Program} {sz : Nat} {w : World} {ops : Array Oper} {o : Oper} {a : Act} {K : Act → World → Prop} {Q : Exit → Act → World → Prop} {E : Prop} (hgd : o.guard = none) (s x : Operand) (t : TypeId)
    (ho : o.op = .call { callee := .builtin .append, args := #[s, x], argTypes := #[t, t] }) {e : TypeId} {A : Option Addr} {cap n bytes : Nat} {cs us : List Value} {i : TypeInfo} {z : Value} (h : Sg sz w e A cap n cs) (ht : P.underlying t = some (.slice e)) (hi : P.info? e = some i) (hz : i.zero = some z) (hs : i.size = sz) (hb : i.bytes = bytes) (hzs : z.cells.size = sz)
    {ad : Addr} (hes : a.eval s = .slice A n cap) (hex : a.eval x = .slice (some ad) 1 1) (hl : us.length = sz) (hu : ∀ j v, us[j]? = some v → w.cell? (ad.add j) = some v) (h1 : ∀ u ∈ us, u.oneCell' = true) (h63 : n + 1 ≤ 9223372036854775807) (hby : (n + 1) * bytes ≤ 140737488355328)
    (hK : ∀ A' cap' w', Sg sz w' e A' cap' (n + 1) (cs ++ us) → Fr (blk A) w w' → (blk A' = blk A ∨ blk A' = [w.heap.size]) → K (a.put o.dst (.slice A' (n + 1) cap')) w') :
    if Region.wanted o (yielded ops a.tmps) = true then Oper.wp P o a w K Q else E := by
  have hw : Region.wanted o (yielded ops a.tmps) = true := by simp [Region.wanted, hgd]
  rw [if_pos hw]
  obtain ⟨A', cap', w', hr, h2, h3, h4⟩ := h.push (ty := o.type) ht hi hz hs hb hzs hl hu h1 h63 hby
  unfold Oper.wp execOp
  simp only [ho, resolve, invoke, builtin, Sem.run_bind, Sem.run_pure, Result.andThen_ok, List.map_toArray, List.map_cons, List.map_nil, hes, hex, hr]
  exact hK A' cap' w' h2 h3 h4

theorem join_len (xs : List (List UInt8)) (h : ∀ t ∈ xs, t.length ≤ 300) : (Lib.join xs [32]).length ≤ 301 * xs.length := by
  have key : ∀ k, k ≤ xs.length → (Lib.join (xs.take k) [32]).length ≤ 301 * k := by
    intro k
    induction k with
    | zero => intro _; simp [Lib.join, List.intercalate]
    | succ k ih =>
      intro hk
      have h1 := ih (by omega)
      have h2 := h xs[k] (List.getElem_mem _)
      rw [List.take_succ_eq_append_getElem (by omega)]
      rcases Nat.eq_zero_or_pos k with rfl | h0
      · simp [Lib.join, List.intercalate]; omega
      · rw [join_snoc _ _ (by intro h; have := congrArg List.length h; rw [List.length_take, List.length_nil] at this; omega)]
        simp only [List.length_append, List.length_singleton]
        omega
  have := key xs.length (Nat.le_refl _)
  rwa [List.take_length] at this

set_option maxRecDepth 100000 in
set_option maxHeartbeats 2000000 in
theorem law_joins (w : World) (A : Option Addr) (c : Nat) (l : List GT) (hA : GV w A l) (hl : l.length ≤ 9223372036854775807) (hw : ∀ t ∈ l, t.2.1.size ≤ maxLen) (hm : MaxAt w) :
    Calls Try.prog 7 #[.slice A l.length c] w (WorksPost w) := by
  by_cases hg : (300 : Int) < (l.length : Int)
  · have d0 : decide ((300 : Int) < (l.length : Int)) = true := decide_eq_true hg
    go_enter Try.func7, Try.ntmps7
    go_wp2_with fail
    go_ret
    exact ⟨rfl, Below.refl _ _⟩
  have d0 : decide ((300 : Int) < (l.length : Int)) = false := decide_eq_false hg
  have hl3 : l.length ≤ 300 := by omega
  have HA := Lib.hid hA
  have HM := Lib.hid hm
  have HW := Lib.hid hw
  have H0 := Lib.hid (TG.new w 61)
  obtain ⟨i0, hi0, hz0, hz1, hz2⟩ := info_parts info_tok
  have Hi := Lib.hid hi0
  have Hz0 := Lib.hid hz0
  have Hz1 := Lib.hid hz1
  have Hz2 := Lib.hid hz2
  clear hi0 hz0 hz1 hz2 hA hm hw hg hl
  go_enter Try.func7, Try.ntmps7
  go_wp2_with fail
  go_loopw [3, 4] (fun m0 i wr => ∃ (k : Nat) (B : Option Addr) (cap : Nat), k ≤ l.length ∧ m0 = .slice B k cap ∧ i = .int .i64 k ∧ Hid (∀ t ∈ l.take k, t.2.1.size ≤ 300) ∧ Hid (TG w wr 61 B cap (l.take k))) (fun _ i _ => l.length - (intOf i).toNat)
  case atStart => exact ⟨0, none, 0, by omega, rfl, rfl, Lib.hid (by simp), H0⟩
  case round =>
    obtain ⟨k, B, cap, hk, rfl, rfl, hsm, ht⟩ := hrel
    rename_i wr
    by_cases hkl : k < l.length
    · have e1 : decide ((k : Int) < (l.length : Int)) = true := decide_eq_true (by omega)
      obtain ⟨b1, o1, rfl, hl1, h1⟩ := HA.out (by omega)
      obtain ⟨x1, x2, x3⟩ := h1 k hkl
      have HKS : Hid (∀ W', Below w.heap.size w W' → W'.cell? ⟨b1, o1 + k * 3, none⟩ = some (.int .i64 l[k].1) ∧ W'.cell? ⟨b1, o1 + k * 3 + 1, none⟩ = some (.string l[k].2.1) ∧ W'.cell? ⟨b1, o1 + k * 3 + 2, none⟩ = some (.int .i64 l[k].2.2)) := Lib.hid (fun W' hb => ⟨(hb.cell (p := ⟨b1, _, none⟩) hl1).trans x1, (hb.cell (p := ⟨b1, _, none⟩) hl1).trans x2, (hb.cell (p := ⟨b1, _, none⟩) hl1).trans x3⟩)
      have htk := Lib.hid (List.take_succ_eq_append_getElem hkl)
      have hsz : l[k].2.1.size ≤ maxLen := HW.out _ (List.getElem_mem hkl)
      unfold maxLen at hsz
      have hlk : (l.take k).length = k := by rw [List.length_take]; omega
      clear h1 x1 x2 x3
      obtain ⟨g, hgg⟩ : ∃ g, l[k] = g := ⟨_, rfl⟩
      rw [hgg] at HKS htk hsz
      clear hgg
      obtain ⟨kd, tx, ln⟩ := g
      have hsz : tx.size ≤ 9223372036854775807 := hsz
      obtain ⟨y1, y2, y3⟩ := HKS.out wr ht.out.on
      have y2 : wr.cell? ⟨b1, o1 + k * 3 + 1, none⟩ = some (.string tx) := y2
      by_cases hbig : (300 : Int) < (tx.size : Int)
      · have d1 : decide ((300 : Int) < (tx.size : Int)) = true := decide_eq_true hbig
        clear y1 y3
        go_wp2_with fail
        go_ret
        exact ⟨rfl, ht.out.on⟩
      have d1 : decide ((300 : Int) < (tx.size : Int)) = false := decide_eq_false hbig
      have hsm2 : Hid (∀ t ∈ l.take (k + 1), t.2.1.size ≤ 300) := Lib.hid (by
        rw [htk.out]
        intro t h
        rcases List.mem_append.1 h with h | h
        · exact hsm.out t h
        · rw [List.mem_singleton] at h; subst h; show tx.size ≤ 300; omega)
      have HT : Hid (TG w wr.drew 61 B cap (l.take k)) := Lib.hid ht.out.drew
      have hS0 := HKS.out wr.drew ht.out.drew.on
      have HS17 := Lib.hid (HKS.out (wr.drew.alloc (.cells #[.int .i64 kd, .string tx, .int .i64 ln] 61)) (ht.out.drew.on.alloc ht.out.drew.on.size _))
      rw [htk.out] at hsm2
      clear ht hbig y1 y3
      have HSg : Hid (Sg 3 (wr.drew.alloc (.cells #[.int .i64 kd, .string tx, .int .i64 ln] 61)) 61 B cap k (cellsG (l.take k))) := Lib.hid (by have := HT.out.sg.alloc (.cells #[.int .i64 kd, .string tx, .int .i64 ln] 61); rw [hlk] at this; exact this)
      have HLk := Lib.hid hlk
      clear hlk hsm
      go_wp2_with fail
      refine wp_region_held_drew (S := fun w' => w'.cell? ⟨b1, o1 + k * 3, none⟩ = some (.int .i64 kd) ∧ w'.cell? ⟨b1, o1 + k * 3 + 1, none⟩ = some (.string tx) ∧ w'.cell? ⟨b1, o1 + k * 3 + 2, none⟩ = some (.int .i64 ln)) (by kernel_rfl) hS0 (fun hS => ?_)
      refine wpAnyH_take (i := 0) (v := (.slice B k cap)) rfl (by kernel_rfl) (by kernel_rfl) (by kernel_rfl) (fun _ _ _ h => h) (Or.inl ⟨by kernel_rfl, ?_⟩) hS ?_
      · intro W' hSw
        obtain ⟨q0, q1, q2⟩ := hSw
        go_simp
      change wpAnyH _ _ _ _ _ _ _ (Act.put _ (some 21) _) _
      simp only [Act.put, List.setIfInBounds_toArray, List.set_cons_zero, List.set_cons_succ]
      refine wpAnyH_take (i := 1) (v := (.slice (some ⟨b1, o1, none⟩) l.length c)) rfl (by kernel_rfl) (by kernel_rfl) (by kernel_rfl) (fun _ _ _ h => h) (Or.inl ⟨by kernel_rfl, ?_⟩) hS ?_
      · intro W' hSw
        obtain ⟨q0, q1, q2⟩ := hSw
        go_simp
      change wpAnyH _ _ _ _ _ _ _ (Act.put _ (some 22) _) _
      simp only [Act.put, List.setIfInBounds_toArray, List.set_cons_zero, List.set_cons_succ]
      refine wpAnyH_take (i := 2) (v := (.int .i64 (k : Int))) rfl (by kernel_rfl) (by kernel_rfl) (by kernel_rfl) (fun _ _ _ h => h) (Or.inl ⟨by kernel_rfl, ?_⟩) hS ?_
      · intro W' hSw
        obtain ⟨q0, q1, q2⟩ := hSw
        go_simp
      change wpAnyH _ _ _ _ _ _ _ (Act.put _ (some 23) _) _
      simp only [Act.put, List.setIfInBounds_toArray, List.set_cons_zero, List.set_cons_succ]
      refine wpAnyH_take (i := 3) (v := (.pointer (some ⟨b1, o1 + k * 3, none⟩))) rfl (by kernel_rfl) (by kernel_rfl) (by kernel_rfl) (fun _ _ _ h => h) (Or.inl ⟨by kernel_rfl, ?_⟩) hS ?_
      · intro W' hSw
        obtain ⟨q0, q1, q2⟩ := hSw
        go_simp
      change wpAnyH _ _ _ _ _ _ _ (Act.put _ (some 24) _) _
      simp only [Act.put, List.setIfInBounds_toArray, List.set_cons_zero, List.set_cons_succ]
      refine wpAnyH_take (i := 4) (v := (.pointer (some ⟨b1, o1 + k * 3, none⟩))) rfl (by kernel_rfl) (by kernel_rfl) (by kernel_rfl) (fun _ _ _ h => h) (Or.inl ⟨by kernel_rfl, ?_⟩) hS ?_
      · intro W' hSw
        obtain ⟨q0, q1, q2⟩ := hSw
        go_simp
      change wpAnyH _ _ _ _ _ _ _ (Act.put _ (some 25) _) _
      simp only [Act.put, List.setIfInBounds_toArray, List.set_cons_zero, List.set_cons_succ]
      refine wpAnyH_take (i := 5) (v := (.int .i64 kd)) rfl (by kernel_rfl) (by kernel_rfl) (by kernel_rfl) (fun _ _ _ h => h) (Or.inl ⟨by kernel_rfl, ?_⟩) hS ?_
      · intro W' hSw
        obtain ⟨q0, q1, q2⟩ := hSw
        go_simp
      change wpAnyH _ _ _ _ _ _ _ (Act.put _ (some 26) _) _
      simp only [Act.put, List.setIfInBounds_toArray, List.set_cons_zero, List.set_cons_succ]
      refine wpAnyH_take (i := 6) (v := (.slice (some ⟨b1, o1, none⟩) l.length c)) rfl (by kernel_rfl) (by kernel_rfl) (by kernel_rfl) (fun _ _ _ h => h) (Or.inl ⟨by kernel_rfl, ?_⟩) hS ?_
      · intro W' hSw
        obtain ⟨q0, q1, q2⟩ := hSw
        go_simp
      change wpAnyH _ _ _ _ _ _ _ (Act.put _ (some 27) _) _
      simp only [Act.put, List.setIfInBounds_toArray, List.set_cons_zero, List.set_cons_succ]
      refine wpAnyH_take (i := 7) (v := (.int .i64 (k : Int))) rfl (by kernel_rfl) (by kernel_rfl) (by kernel_rfl) (fun _ _ _ h => h) (Or.inl ⟨by kernel_rfl, ?_⟩) hS ?_
      · intro W' hSw
        obtain ⟨q0, q1, q2⟩ := hSw
        go_simp
      change wpAnyH _ _ _ _ _ _ _ (Act.put _ (some 28) _) _
      simp only [Act.put, List.setIfInBounds_toArray, List.set_cons_zero, List.set_cons_succ]
      refine wpAnyH_take (i := 8) (v := (.pointer (some ⟨b1, o1 + k * 3, none⟩))) rfl (by kernel_rfl) (by kernel_rfl) (by kernel_rfl) (fun _ _ _ h => h) (Or.inl ⟨by kernel_rfl, ?_⟩) hS ?_
      · intro W' hSw
        obtain ⟨q0, q1, q2⟩ := hSw
        go_simp
      change wpAnyH _ _ _ _ _ _ _ (Act.put _ (some 29) _) _
      simp only [Act.put, List.setIfInBounds_toArray, List.set_cons_zero, List.set_cons_succ]
      refine wpAnyH_take (i := 9) (v := (.pointer (some ⟨b1, o1 + k * 3 + 1, none⟩))) rfl (by kernel_rfl) (by kernel_rfl) (by kernel_rfl) (fun _ _ _ h => h) (Or.inl ⟨by kernel_rfl, ?_⟩) hS ?_
      · intro W' hSw
        obtain ⟨q0, q1, q2⟩ := hSw
        go_simp
      change wpAnyH _ _ _ _ _ _ _ (Act.put _ (some 30) _) _
      simp only [Act.put, List.setIfInBounds_toArray, List.set_cons_zero, List.set_cons_succ]
      refine wpAnyH_take (i := 10) (v := (.string tx)) rfl (by kernel_rfl) (by kernel_rfl) (by kernel_rfl) (fun _ _ _ h => h) (Or.inl ⟨by kernel_rfl, ?_⟩) hS ?_
      · intro W' hSw
        obtain ⟨q0, q1, q2⟩ := hSw
        go_simp
      change wpAnyH _ _ _ _ _ _ _ (Act.put _ (some 31) _) _
      simp only [Act.put, List.setIfInBounds_toArray, List.set_cons_zero, List.set_cons_succ]
      refine wpAnyH_take (i := 11) (v := (.slice (some ⟨b1, o1, none⟩) l.length c)) rfl (by kernel_rfl) (by kernel_rfl) (by kernel_rfl) (fun _ _ _ h => h) (Or.inl ⟨by kernel_rfl, ?_⟩) hS ?_
      · intro W' hSw
        obtain ⟨q0, q1, q2⟩ := hSw
        go_simp
      change wpAnyH _ _ _ _ _ _ _ (Act.put _ (some 32) _) _
      simp only [Act.put, List.setIfInBounds_toArray, List.set_cons_zero, List.set_cons_succ]
      refine wpAnyH_take (i := 12) (v := (.int .i64 (k : Int))) rfl (by kernel_rfl) (by kernel_rfl) (by kernel_rfl) (fun _ _ _ h => h) (Or.inl ⟨by kernel_rfl, ?_⟩) hS ?_
      · intro W' hSw
        obtain ⟨q0, q1, q2⟩ := hSw
        go_simp
      change wpAnyH _ _ _ _ _ _ _ (Act.put _ (some 33) _) _
      simp only [Act.put, List.setIfInBounds_toArray, List.set_cons_zero, List.set_cons_succ]
      refine wpAnyH_take (i := 13) (v := (.pointer (some ⟨b1, o1 + k * 3, none⟩))) rfl (by kernel_rfl) (by kernel_rfl) (by kernel_rfl) (fun _ _ _ h => h) (Or.inl ⟨by kernel_rfl, ?_⟩) hS ?_
      · intro W' hSw
        obtain ⟨q0, q1, q2⟩ := hSw
        go_simp
      change wpAnyH _ _ _ _ _ _ _ (Act.put _ (some 34) _) _
      simp only [Act.put, List.setIfInBounds_toArray, List.set_cons_zero, List.set_cons_succ]
      refine wpAnyH_take (i := 14) (v := (.pointer (some ⟨b1, o1 + k * 3 + 2, none⟩))) rfl (by kernel_rfl) (by kernel_rfl) (by kernel_rfl) (fun _ _ _ h => h) (Or.inl ⟨by kernel_rfl, ?_⟩) hS ?_
      · intro W' hSw
        obtain ⟨q0, q1, q2⟩ := hSw
        go_simp
      change wpAnyH _ _ _ _ _ _ _ (Act.put _ (some 35) _) _
      simp only [Act.put, List.setIfInBounds_toArray, List.set_cons_zero, List.set_cons_succ]
      refine wpAnyH_take (i := 15) (v := (.int .i64 ln)) rfl (by kernel_rfl) (by kernel_rfl) (by kernel_rfl) (fun _ _ _ h => h) (Or.inl ⟨by kernel_rfl, ?_⟩) hS ?_
      · intro W' hSw
        obtain ⟨q0, q1, q2⟩ := hSw
        go_simp
      change wpAnyH _ _ _ _ _ _ _ (Act.put _ (some 36) _) _
      simp only [Act.put, List.setIfInBounds_toArray, List.set_cons_zero, List.set_cons_succ]
      refine wpAnyH_take (i := 16) (v := (.agg #[.int .i64 kd, .string tx, .int .i64 ln])) rfl (by kernel_rfl) (by kernel_rfl) (by kernel_rfl) (fun _ _ _ h => h) (Or.inl ⟨by kernel_rfl, ?_⟩) hS ?_
      · intro W' hSw
        obtain ⟨q0, q1, q2⟩ := hSw
        go_simp
      change wpAnyH _ _ _ _ _ _ _ (Act.put _ (some 37) _) _
      simp only [Act.put, List.setIfInBounds_toArray, List.set_cons_zero, List.set_cons_succ]
      refine wpAnyH_ready (rs := [17]) (by kernel_rfl) (by simp) ?_
      refine AllReadyH.cons rfl (fun K17 hK17 => ?_) AllReadyH.nil
      go_simp
      refine hK17.out _ _ HS17.out (fun _ => ?_)
      clear hK17
      try simp only [Act.put, List.setIfInBounds_toArray, List.set_cons_zero, List.set_cons_succ]
      refine wpAnyH_ready (rs := [18]) (by kernel_rfl) (by simp) ?_
      refine AllReadyH.cons rfl (fun K18 hK18 => ?_) AllReadyH.nil
      refine step_row (us := [.int .i64 kd, .string tx, .int .i64 ln]) (by rfl) (.tmp 21) (.tmp 38) _ (by rfl) HSg.out Try.underlying50 Hi.out Hz0.out Hz1.out Hz2.out rfl (by rfl) (by rfl) rfl (three_cells _ _ _ _ _) (encG_one (kd, tx, ln)) (by omega) (by omega) ?_
      intro A' cap' w5 hs5 b5 hf5
      have T5 := Lib.hid (HT.out.push (kd, tx, ln) (by rw [HLk.out]; exact hs5) b5 hf5)
      have hS5 := HKS.out w5 T5.out.on
      clear hs5 b5 hf5
      refine hK18.out _ _ hS5 (fun _ => ?_)
      clear hK18
      try simp only [Act.put, List.setIfInBounds_toArray, List.set_cons_zero, List.set_cons_succ]
      refine wpAnyH_take (i := 19) (v := (.slice A' (k + 1) cap')) rfl (by kernel_rfl) (by kernel_rfl) (by kernel_rfl) (fun _ _ _ h => h) (Or.inl ⟨by kernel_rfl, ?_⟩) hS5 ?_
      · intro W' hSw
        obtain ⟨q0, q1, q2⟩ := hSw
        go_simp
      change wpAnyH _ _ _ _ _ _ _ (Act.put _ (some 3) _) _
      simp only [Act.put, List.setIfInBounds_toArray, List.set_cons_zero, List.set_cons_succ]
      refine wpAnyH_done (by kernel_rfl) ?_ _
      go_wp2_with fail
      go_roundw
      case rel => exact ⟨k + 1, A', cap', by omega, rfl, by go_num, by rw [htk.out]; exact hsm2, by rw [htk.out]; exact T5⟩
      case measure => simp [intOf]; omega
    · obtain rfl : k = l.length := by omega
      have e1 : decide ((l.length : Int) < (l.length : Int)) = false := decide_eq_false (by omega)
      rw [List.take_length] at hsm ht
      have hs3 : ∀ t ∈ txs l, t.length ≤ 300 := by
        intro t h
        obtain ⟨g, hg, rfl⟩ := List.mem_map.1 h
        rw [size_list]
        exact hsm.out g hg
      have hjl := join_len (txs l) hs3
      rw [txs_len] at hjl
      have hTV := (GV.of_rd (ht.out.sg.rd (by omega))).tv
      have KJ := Lib.hid (joinx_any wr B cap (txs l) hTV (by rw [txs_len]; omega) (by omega))
      have KR := Lib.hid (fun (w' : World) (b : Below w.heap.size w w') => rjoinx_any w' A c (txs l) (HA.out.tv.below b) (by rw [txs_len]; omega) hs3)
      rw [txs_len] at KJ KR
      have HO := Lib.hid ht.out.on
      clear ht hsm hs3 hjl hTV
      generalize BA (Lib.join (txs l) [32]) = z at *
      have e5 : (z.toList == z.toList) = true := by simp
      go_wp2_with fail
      refine KJ.out.mono ?_
      rintro e w2 ⟨rfl, b2⟩
      have HO2 := Lib.hid (HO.out.trans (b2.mono HO.out.size))
      clear b2
      go_wp2_with fail
      refine (KR.out _ HO2.out).mono ?_
      rintro e w3 ⟨rfl, rfl⟩
      go_wp2_with fail
      refine (tworks_any _ (HM.out.below HO2.out)).mono ?_
      rintro e w4 ⟨rfl, b4⟩
      have HO4 := Lib.hid (HO2.out.trans (b4.mono HO2.out.size))
      clear b4
      go_wp2_with fail
      go_ret
      exact ⟨rfl, HO4.out⟩
end Go.Proofs.Ytehieiddelngfaa.tk
