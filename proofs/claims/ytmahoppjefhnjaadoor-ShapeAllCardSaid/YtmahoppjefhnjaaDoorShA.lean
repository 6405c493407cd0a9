/-
  Shape: how many cells and places a type has.
-/
import Derived.Test.YtmahoppjefhnjaaDoorSh9
namespace Go.Proofs.YtmahoppjefhnjaaDoor.sh
open Go.RowKit Go.Sort Go.Proofs.YtmahoppjefhnjaaDoor.mem

def gsum (L : List Ty) (g : Ty → Nat) (k : Nat) : Nat := ((L.take k).map g).sum
theorem gsum_succ {L : List Ty} {g : Ty → Nat} {k : Nat} (hk : k < L.length) : gsum L g (k + 1) = gsum L g k + g L[k] := by
  unfold gsum
  rw [List.take_succ_eq_append_getElem hk, List.map_append, List.sum_append]
  simp
theorem gsum_le {L : List Ty} {g : Ty → Nat} {B : Nat} (h : ∀ E ∈ L, g E ≤ B) : ∀ k, k ≤ L.length → gsum L g k ≤ k * B
  | 0, _ => by simp [gsum]
  | k + 1, hk => by
    rw [gsum_succ (by omega), Nat.succ_mul]
    have := gsum_le h k (by omega)
    have := h L[k] (List.getElem_mem (by omega))
    omega

/-- how many cells, and how many places -/
def extC (ss : List St) : Nat → Ty → Nat × Nat
  | 0, _ => (0, 0)
  | f + 1, T => if T.kind = 1 ∨ T.kind = 2 then (1, 1) else
      (gsum (withinL ss T) (fun E => (extC ss f E).1) (withinL ss T).length, (if T.kind = 4 then gsum (withinL ss T) (fun E => (extC ss f E).2) (withinL ss T).length * T.num.toNat else gsum (withinL ss T) (fun E => (extC ss f E).2) (withinL ss T).length))

theorem first_zero : ∀ (l : List Ty) (g : Ty → Int), firstC l g = 0 → ∀ E ∈ l, g E = 0
  | [], _, _, E, h => by simp at h
  | T :: r, g, h, E, hE => by
    unfold firstC at h
    by_cases h0 : g T = 0
    · rw [if_neg (by simp [h0])] at h
      rcases List.mem_cons.1 hE with rfl | hE
      · exact h0
      · exact first_zero r g h E hE
    · rw [if_pos h0] at h
      exact absurd h h0

/-- what is right of a type in which nothing is wrong -/
theorem fault_ok {ss : List St} {f : Nat} {T : Ty} (h : faultC ss (f + 1) T = 0) : wrongC ss T (4 - (f : Int)) = 0 ∧ ∀ E ∈ withinL ss T, faultC ss f E = 0 := by
  unfold faultC at h
  by_cases h0 : wrongC ss T (4 - (f : Int)) = 0
  · rw [if_neg (by simp [h0])] at h
    exact ⟨h0, first_zero _ _ h⟩
  · rw [if_pos h0] at h
    exact absurd h h0

theorem wrong_ok {ss : List St} {T : Ty} {d : Int} (h : wrongC ss T d = 0) : 1 ≤ T.kind ∧ T.kind ≤ 4 ∧ (withinL ss T).length ≤ 8 ∧ (T.kind = 4 → T.of.length = 1 ∧ 1 ≤ T.num ∧ T.num ≤ 16) ∧ (T.kind = 3 → 1 ≤ (withinL ss T).length) := by
  unfold wrongC at h
  split at h
  · simp at h
  split at h
  · simp at h
  rename_i h2
  split at h
  · simp at h
  rename_i h3
  refine ⟨by omega, by omega, ?_, fun h4 => ?_, fun hk => ?_⟩
  · unfold withinL
    by_cases h4 : T.kind = 4
    · rw [if_pos h4]
      by_cases h5 : T.of.length = 1
      · omega
      · exact absurd ⟨h4, Or.inl h5⟩ h3
    · rw [if_neg h4]
      by_cases hk : T.kind = 3
      · rw [if_pos hk]
        rw [if_pos hk] at h
        cases hf : findS ss T.name with
        | none => simp
        | some st =>
          rw [hf] at h
          simp only at h ⊢
          split at h
          · simp at h
          · rw [List.length_map]; omega
      · rw [if_neg hk]; simp
  · refine ⟨?_, ?_, ?_⟩
    · exact Classical.byContradiction fun h5 => h3 ⟨h4, Or.inl h5⟩
    · exact Classical.byContradiction fun h5 => h3 ⟨h4, Or.inr (Or.inl (by omega))⟩
    · exact Classical.byContradiction fun h5 => h3 ⟨h4, Or.inr (Or.inr (by omega))⟩
  · rw [if_pos hk] at h
    unfold withinL
    rw [if_neg (by omega), if_pos hk]
    cases hf : findS ss T.name with
    | none => rw [hf] at h; simp at h
    | some st =>
      rw [hf] at h
      simp only at h ⊢
      split at h
      · simp at h
      · rw [List.length_map]; omega

theorem ext_le {ss : List St} : ∀ (f : Nat) (T : Ty), faultC ss f T = 0 → (extC ss f T).1 ≤ 16 ^ f ∧ (extC ss f T).2 ≤ 16 ^ f
  | 0, T, _ => by simp [extC]
  | f + 1, T, h => by
    obtain ⟨hw, hin⟩ := fault_ok h
    obtain ⟨k1, k4, hl, h4, _⟩ := wrong_ok hw
    have ih : ∀ E ∈ withinL ss T, (extC ss f E).1 ≤ 16 ^ f ∧ (extC ss f E).2 ≤ 16 ^ f := fun E hE => ext_le f E (hin E hE)
    have g1 := gsum_le (g := fun E => (extC ss f E).1) (fun E hE => (ih E hE).1) (withinL ss T).length (Nat.le_refl _)
    have g2 := gsum_le (g := fun E => (extC ss f E).2) (fun E hE => (ih E hE).2) (withinL ss T).length (Nat.le_refl _)
    have m8 : (withinL ss T).length * 16 ^ f ≤ 8 * 16 ^ f := Nat.mul_le_mul_right _ hl
    have hp : 16 ^ (f + 1) = 16 ^ f * 16 := Nat.pow_succ _ _
    have h1 : 0 < 16 ^ f := Nat.pow_pos (by omega)
    unfold extC
    split
    · simp only; omega
    · refine ⟨by simp only; omega, ?_⟩
      simp only
      split
      · rename_i hk
        obtain ⟨ho, n1, n2⟩ := h4 hk
        have hwl : (withinL ss T).length = 1 := by unfold withinL; rw [if_pos hk]; exact ho
        rw [hwl, Nat.one_mul] at g2
        rw [hwl, hp]
        exact Nat.mul_le_mul g2 (by omega)
      · omega

/-- between two rounds -/
structure ER (w wr : World) (n : Nat) (A : Option Addr) (cap : Nat) (ss : List St) (B : Option Addr) (L : List Ty) (T : Ty) (c0 c1 c2 c3 : Value) : Prop where
  on : Below w.heap.size w wr
  at_ : SsAt wr n A ss
  ty : TysAt wr n B L
  box : Box wr w.heap.size 51 #[c0, c1, c2, c3]

theorem ER.kept {w wr w2 : World} {n : Nat} {A : Option Addr} {cap : Nat} {ss : List St} {B : Option Addr} {L : List Ty} {T : Ty} {c0 c1 c2 c3 : Value} (h : ER w wr n A cap ss B L T c0 c1 c2 c3) (hb : Below wr.heap.size wr w2) : ER w w2 n A cap ss B L T c0 c1 c2 c3 :=
  ⟨h.on.trans (hb.mono h.on.size), h.at_.kept hb, h.ty.kept hb, h.box.kept (Fr.of_below hb []) (by simp)⟩

def ExPost (r : Nat × Nat) (w : World) (e : Ending) (w' : World) : Prop := e = .returned (.tuple #[.int .i64 (r.1 : Nat), .int .i64 (r.2 : Nat)]) ∧ Below w.heap.size w w'
theorem expost {r : Nat × Nat} {a b : Nat} {w w' : World} (h : r = (a, b)) (hb : Below w.heap.size w w') : ExPost r w (.returned (.tuple #[.int .i64 (a : Nat), .int .i64 (b : Nat)])) w' := by subst h; exact ⟨rfl, hb⟩

set_option maxRecDepth 100000 in
set_option maxHeartbeats 1000000 in
theorem extent_any (n : Nat) (A : Option Addr) (cap : Nat) (ss : List St) (hm : ss.length ≤ 9223372036854775807) (hfew : ∀ st ∈ ss, st.2.length ≤ 1000) : ∀ (f : Nat), f ≤ 4 → ∀ (T : Ty) (q : Nat) (v0 v1 v2 v3 : Value) (w : World), q ≤ n → TyAt w q T v0 v1 v2 v3 → SsAt w n A ss → faultC ss f T = 0 →
    Calls Tryd.prog 59 #[.slice A ss.length cap, .agg #[v0, v1, v2, v3]] w (ExPost (extC ss f T) w) := by
  intro f
  induction f with
  | zero =>
    intro _ T q v0 v1 v2 v3 w hq ht hss hf
    have : faultC ss 0 T = 10 := by unfold faultC wrongC; rw [if_pos (by decide)]
    rw [this] at hf
    exact absurd hf (by decide)
  | succ f ih =>
    intro hf4 T q v0 v1 v2 v3 w hq ht hss hf
    obtain ⟨hw, hin⟩ := fault_ok hf
    obtain ⟨k1, k4, hl8, h4, _⟩ := wrong_ok hw
    have KI : Hid (∀ (E : Ty) (v0 v1 v2 v3 : Value) (w : World), TyAt w n E v0 v1 v2 v3 → SsAt w n A ss → faultC ss f E = 0 →
        Calls Tryd.prog 59 #[.slice A ss.length cap, .agg #[v0, v1, v2, v3]] w (ExPost (extC ss f E) w)) :=
      Lib.hid (fun E v0 v1 v2 v3 w ht hss hE => ih (by omega) E n v0 v1 v2 v3 w (Nat.le_refl _) ht hss hE)
    have KN := Lib.hid (fun w' (hb : Below w.heap.size w w') => within_any w' n q A cap ss (hss.kept hb) hm T v0 v1 v2 v3 (ht.kept hb) hq hfew)
    have B0 := Lib.hid (fun o => (Below.refl w.heap.size w).alloc (Nat.le_refl _) o)
    have HS := Lib.hid (fun w' (hb : Below w.heap.size w w') => hss.kept hb)
    have hle : ∀ E ∈ withinL ss T, (extC ss f E).1 ≤ 65536 ∧ (extC ss f E).2 ≤ 65536 := fun E hE => by
      have h1 := ext_le f E (hin E hE)
      have h2 : 16 ^ f ≤ 16 ^ 4 := Nat.pow_le_pow_right (by omega) (by omega)
      have h3 : (16 : Nat) ^ 4 = 65536 := by decide
      omega
    obtain ⟨X, hX⟩ : ∃ X, extC ss (f + 1) T = X := ⟨_, rfl⟩
    rw [hX]
    rw [extC] at hX
    have HX := Lib.hid hX.symm
    have HIN := Lib.hid hin
    have HLE := Lib.hid hle
    clear hX hss ih hf hw hin hle
    cases q with
    | zero => exact ht.elim
    | succ q =>
    obtain ⟨rfl, _, rfl, _, rfl, _, A2, cap2, rfl, _, _, _⟩ := ht
    obtain ⟨k, name, num, of⟩ := T
    simp only [Ty.kind, Ty.name, Ty.num, Ty.of] at *
    by_cases c1 : k = 1
    · subst c1
      have hx := Lib.hid (HX.out.trans (if_pos (Or.inl rfl)))
      clear KN HX HIN HLE
      go_enter Tryd.func59, Tryd.ntmps59
      go_wp2_with fail
      go_ret2
      exact expost hx.out (B0.out _)
    by_cases c2 : k = 2
    · subst c2
      have hx := Lib.hid (HX.out.trans (if_pos (Or.inr rfl)))
      clear KN HX HIN HLE
      go_enter Tryd.func59, Tryd.ntmps59
      go_wp2_with fail
      go_ret2
      exact expost hx.out (B0.out _)
    have HX := Lib.hid (HX.out.trans (if_neg (by rintro (h | h); exact c1 h; exact c2 h)))
    have d1 : (k == 1) = false := by simpa using c1
    have d2 : (k == 2) = false := by simpa using c2
    have BX : Hid (Box (w.alloc (.cells #[.int .i64 k, .string name, .int .i64 num, .slice A2 of.length cap2] 51)) w.heap.size 51 #[.int .i64 k, .string name, .int .i64 num, .slice A2 of.length cap2]) := Lib.hid (Box.new w _ _)
    generalize withinL ss (.mk k name num of) = L at *
    go_enter Tryd.func59, Tryd.ntmps59
    go_wp2_with fail
    refine (KN.out _ (B0.out _)).mono ?_
    rintro e w2 ⟨B, cb, rfl, b2, hty, hLm⟩
    have E0 : Hid (ER w w2 n A cap ss B L (.mk k name num of) (.int .i64 k) (.string name) (.int .i64 num) (.slice A2 of.length cap2)) := Lib.hid ⟨(B0.out _).trans (b2.mono (B0.out _).size), HS.out _ ((B0.out _).trans (b2.mono (B0.out _).size)), hty, BX.out.kept (Fr.of_below b2 []) (by simp)⟩
    clear b2 hty KN BX HS
    go_wp2_with fail
    go_loopw [6, 7, 24] (fun c p i wr => ∃ (j a b : Nat), j ≤ L.length ∧ a ≤ j * 65536 ∧ b ≤ j * 65536 ∧ c = .int .i64 a ∧ p = .int .i64 b ∧ i = .int .i64 j ∧ Hid (a = gsum L (fun E => (extC ss f E).1) j ∧ b = gsum L (fun E => (extC ss f E).2) j) ∧ Hid (ER w wr n A cap ss B L (.mk k name num of) (.int .i64 k) (.string name) (.int .i64 num) (.slice A2 of.length cap2))) (fun _ _ i _ => L.length - (intOf i).toNat)
    case atStart => exact ⟨0, 0, 0, by omega, by omega, by omega, rfl, rfl, rfl, Lib.hid ⟨rfl, rfl⟩, E0⟩
    case round =>
      obtain ⟨j, a, b, hj, ha, hb, rfl, rfl, rfl, hg, he⟩ := hrel
      rename_i wr _
      by_cases hjl : j < L.length
      · have e1 : decide ((j : Int) < (L.length : Int)) = true := decide_eq_true (by omega)
        obtain ⟨bb, off, rfl, hbl⟩ := he.out.ty.1 (by omega)
        obtain ⟨c0, c1', c2', c3, k0, k1', k2, k3, hT⟩ := he.out.ty.2 j hjl bb off rfl
        have hT2 := hT
        have hmem := List.getElem_mem hjl
        have hEz := Lib.hid (HIN.out _ hmem)
        obtain ⟨l1, l2⟩ := HLE.out _ hmem
        have GS : Hid (∀ a' b', a' = (extC ss f L[j]).1 → b' = (extC ss f L[j]).2 → a + a' = gsum L (fun E => (extC ss f E).1) (j + 1) ∧ b + b' = gsum L (fun E => (extC ss f E).2) (j + 1)) := Lib.hid (fun a' b' h1 h2 => by
          rw [gsum_succ hjl, gsum_succ hjl, h1, h2, hg.out.1, hg.out.2]
          exact ⟨rfl, rfl⟩)
        have HT := Lib.hid (fun o => TyAt.kept ((Below.refl wr.heap.size wr).alloc (Nat.le_refl _) o) _ _ _ _ _ _ hT)
        have HK := Lib.hid (fun w' (hb : Below wr.heap.size wr w') => he.out.kept hb)
        have BA := Lib.hid (fun o => (Below.refl wr.heap.size wr).alloc (Nat.le_refl _) o)
        clear hmem
        generalize L[j] = E at *
        cases n with
        | zero => exact hT2.elim
        | succ n =>
        obtain ⟨rfl, _, rfl, _, rfl, _, A3, cap3, rfl, _, _, _⟩ := hT2
        clear hT he
        have KE := Lib.hid (fun o => KI.out E _ _ _ _ _ (HT.out o) (HK.out _ (BA.out o)).at_ hEz.out)
        obtain ⟨x, hx⟩ : ∃ x, extC ss f E = x := ⟨_, rfl⟩
        rw [hx] at KE GS l1 l2
        obtain ⟨x1, x2⟩ := x
        simp only at l1 l2 GS
        unfold ExPost at KE
        clear hx HT hEz
        go_wp2_with fail
        refine (KE.out _).mono ?_
        rintro e w4 ⟨rfl, b4⟩
        have HK4 := Lib.hid (HK.out _ ((BA.out _).trans (b4.mono (BA.out _).size)))
        clear b4 KE k0 k1' k2 k3 HK BA
        go_wp2_with fail
        go_roundw
        case rel => exact ⟨j + 1, a + x1, b + x2, by omega, by omega, by omega, by go_num, by go_num, by go_num, Lib.hid (GS.out x1 x2 rfl rfl), HK4⟩
        case measure => simp [intOf]; omega
      · obtain rfl : j = L.length := by omega
        have e1 : decide ((L.length : Int) < (L.length : Int)) = false := decide_eq_false (by omega)
        have K0 : wr.cell? ⟨w.heap.size, 0, none⟩ = some (.int .i64 k) := he.out.box.cell 0
        have K1 : wr.cell? ⟨w.heap.size, 1, none⟩ = some (.string name) := he.out.box.cell 1
        have K2 : wr.cell? ⟨w.heap.size, 2, none⟩ = some (.int .i64 num) := he.out.box.cell 2
        have K3 : wr.cell? ⟨w.heap.size, 3, none⟩ = some (.slice A2 of.length cap2) := he.out.box.cell 3
        have HON := Lib.hid he.out.on
        have HX2 := HX.out
        rw [← hg.out.1, ← hg.out.2] at HX2
        clear he hg HX
        by_cases c4 : k = 4
        · subst c4
          obtain ⟨_, n1, n2⟩ := h4 rfl
          obtain ⟨N, rfl⟩ := Int.eq_ofNat_of_zero_le (by omega : 0 ≤ num)
          have hx : Hid (X = (a, b * N)) := Lib.hid (by rw [HX2]; simp)
          have hbn : b * N ≤ b * 16 := Nat.mul_le_mul_left _ (by omega)
          have hmul : IntKind.i64.wrap ((b : Int) * (N : Int)) = ((b * N : Nat) : Int) := by
            rw [IntWalk.i64_in _ (by rw [← Int.natCast_mul]; omega), Int.natCast_mul]
          clear HX2
          go_wp2_with fail
          go_ret2
          exact expost hx.out HON.out
        · have hx : Hid (X = (a, b)) := Lib.hid (HX2.trans (Prod.ext rfl (if_neg c4)))
          have d4 : (k == 4) = false := by simpa using c4
          clear HX2
          go_wp2_with fail
          go_ret2
          exact expost hx.out HON.out
end Go.Proofs.YtmahoppjefhnjaaDoor.sh
