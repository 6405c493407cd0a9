/-
  Shape: cells without a gap, as plain facts: each cell has a first place; marks stand at first places, where something of them begins.
-/
import Derived.Test.YtmahoppjefhnjaaDoorShJ
import Derived.Test.YtmahoppjefhnjaaDoorShU
namespace Go.Proofs.YtmahoppjefhnjaaDoor.sh
open Go.RowKit Go.Sort Go.Proofs.YtmahoppjefhnjaaDoor.mem

/-- N cells, P places: F tells each cell's first place, D each place's cell (from c0 on), B whether something of a tag begins there, put what is put -/
structure Fi (N P : Nat) (F : Nat → Nat) (D : Int → Int → Int) (B : List UInt8 → Int → Bool → Bool) (put : Pk → Pk) (ks : List UInt8) (ms : List (Nat × List UInt8)) : Prop where
  mono : ∀ i j, i < j → j < N → F i < F j
  lt : ∀ c, c < N → F c < P
  at_ : ∀ c, c < N → ∀ c0 : Int, D (F c : Nat) c0 = c0 + c
  low : ∀ p, p < P → ∃ d, d < N ∧ F d ≤ p ∧ ∀ c0 : Int, D (p : Nat) c0 = c0 + d
  put : ∀ x, put x = (x.1 ++ ks, x.2 ++ ms.map fun m => (((x.1.length + m.1 : Nat) : Int), m.2))
  klen : ks.length = N
  mks : ∀ m ∈ ms, m.1 < N ∧ ∀ c, B m.2 (F m.1 : Nat) c = true

theorem Fi.zero {N P : Nat} {F : Nat → Nat} {D : Int → Int → Int} {B : List UInt8 → Int → Bool → Bool} {put : Pk → Pk} {ks : List UInt8} {ms : List (Nat × List UInt8)} (h : Fi N P F D B put ks ms) (hP : 0 < P) : 0 < N ∧ F 0 = 0 := by
  obtain ⟨d, hd, h0, _⟩ := h.low 0 hP
  rcases Nat.eq_zero_or_pos d with rfl | h1
  · exact ⟨hd, by omega⟩
  · have := h.mono 0 d h1 hd
    omega

/-- the cell at a place of some fields -/
def stepL (ss : List St) (f : Nat) (L : List Ty) (p c : Int) : Int := viaQ (downC ss f) (pickC ss f L p) (aheadC ss f L p c)

theorem stepL_cons {ss : List St} {f : Nat} {E : Ty} {r : List Ty} (p c : Int) : stepL ss f (E :: r) p c = if p < (extC ss f E).2 then downC ss f E p c else stepL ss f r (p - (extC ss f E).2) (c + (extC ss f E).1) := by
  unfold stepL
  rw [pickC, aheadC]
  split <;> rfl

theorem viaB_cons {ss : List St} {f : Nat} {E : Ty} {r : List Ty} (tag : List UInt8) (p : Int) (c : Bool) : viaB (begC ss tag f) (pickC ss f (E :: r) p) c = if p < (extC ss f E).2 then begC ss tag f E p c else viaB (begC ss tag f) (pickC ss f r (p - (extC ss f E).2)) c := by
  rw [pickC]
  split <;> rfl

def cellsL (ss : List St) (f : Nat) (L : List Ty) : Nat := (L.map fun E => (extC ss f E).1).sum
def placesL (ss : List St) (f : Nat) (L : List Ty) : Nat := (L.map fun E => (extC ss f E).2).sum

theorem fl_any (ss : List St) (f : Nat) : ∀ (L : List Ty), (∀ E ∈ L, ∃ F ks ms, Fi (extC ss f E).1 (extC ss f E).2 F (downC ss f E) (fun tag => begC ss tag f E) (putC ss f E) ks ms) →
    ∃ F ks ms, Fi (cellsL ss f L) (placesL ss f L) F (stepL ss f L) (fun tag p c => viaB (begC ss tag f) (pickC ss f L p) c) (fun x => L.foldl (fun y E => putC ss f E y) x) ks ms
  | [], _ => ⟨fun _ => 0, [], [], ⟨fun i j _ h => by simp [cellsL] at h, fun c h => by simp [cellsL] at h, fun c h => by simp [cellsL] at h, fun p h => by simp [placesL] at h, fun x => by simp, rfl, fun m h => by simp at h⟩⟩
  | E :: r, hL => by
    obtain ⟨F1, k1, m1, h1⟩ := hL E (by simp)
    obtain ⟨F2, k2, m2, h2⟩ := fl_any ss f r (fun E' hE' => hL E' (List.mem_cons_of_mem _ hE'))
    have hN : cellsL ss f (E :: r) = (extC ss f E).1 + cellsL ss f r := by simp [cellsL]
    have hP : placesL ss f (E :: r) = (extC ss f E).2 + placesL ss f r := by simp [placesL]
    rw [hN, hP]
    obtain ⟨N1, hN1⟩ : ∃ N1, (extC ss f E).1 = N1 := ⟨_, rfl⟩
    obtain ⟨P1, hP1⟩ : ∃ P1, (extC ss f E).2 = P1 := ⟨_, rfl⟩
    generalize cellsL ss f r = N2 at *
    generalize placesL ss f r = P2 at *
    have sc : ∀ p c : Int, stepL ss f (E :: r) p c = if p < (P1 : Int) then downC ss f E p c else stepL ss f r (p - P1) (c + N1) := fun p c => by rw [stepL_cons, hP1, hN1]
    have vc : ∀ (tag : List UInt8) (p : Int) (c : Bool), viaB (begC ss tag f) (pickC ss f (E :: r) p) c = if p < (P1 : Int) then begC ss tag f E p c else viaB (begC ss tag f) (pickC ss f r (p - P1)) c := fun tag p c => by rw [viaB_cons, hP1]
    rw [hN1, hP1] at h1 ⊢
    refine ⟨fun c => if c < N1 then F1 c else P1 + F2 (c - N1), k1 ++ k2, m1 ++ m2.map (fun m => (N1 + m.1, m.2)), ⟨fun i j hij hj => ?_, fun c hc => ?_, fun c hc c0 => ?_, fun p hp => ?_, fun x => ?_, ?_, fun m hm => ?_⟩⟩
    · by_cases ha : j < N1
      · rw [if_pos ha, if_pos (by omega)]
        exact h1.mono i j hij ha
      · rw [if_neg ha]
        by_cases hb : i < N1
        · rw [if_pos hb]
          have := h1.lt i hb
          omega
        · rw [if_neg hb]
          have := h2.mono (i - N1) (j - N1) (by omega) (by omega)
          omega
    · by_cases ha : c < N1
      · rw [if_pos ha]
        have := h1.lt c ha
        omega
      · rw [if_neg ha]
        have := h2.lt (c - N1) (by omega)
        omega
    · rw [sc]
      by_cases ha : c < N1
      · have := h1.lt c ha
        rw [if_pos ha, if_pos (by omega)]
        exact h1.at_ c ha c0
      · rw [if_neg ha, if_neg (by omega)]
        have := h2.at_ (c - N1) (by omega) (c0 + N1)
        rw [show ((P1 + F2 (c - N1) : Nat) : Int) - P1 = ((F2 (c - N1) : Nat) : Int) by omega, this]
        omega
    · by_cases ha : p < P1
      · obtain ⟨d, hd, hF, hD⟩ := h1.low p ha
        refine ⟨d, by omega, by simp only [if_pos hd]; exact hF, fun c0 => ?_⟩
        rw [sc, if_pos (by omega)]
        exact hD c0
      · obtain ⟨d, hd, hF, hD⟩ := h2.low (p - P1) (by omega)
        refine ⟨N1 + d, by omega, ?_, fun c0 => ?_⟩
        · simp only [if_neg (show ¬ N1 + d < N1 by omega), show N1 + d - N1 = d by omega]
          omega
        · rw [sc, if_neg (by omega), show ((p : Nat) : Int) - P1 = ((p - P1 : Nat) : Int) by omega, hD (c0 + N1)]
          omega
    · have e1 := h1.put x
      have e2 := h2.put (putC ss f E x)
      rw [List.foldl_cons]
      rw [e2, e1]
      have hk := h1.klen
      simp only [List.append_assoc, List.length_append, List.map_append, List.map_map, hk]
      refine Prod.ext rfl ?_
      simp only
      congr 2
      refine List.map_congr_left fun m _ => ?_
      simp [Nat.add_assoc]
    · rw [List.length_append, h1.klen, h2.klen]
    · rcases List.mem_append.1 hm with hm | hm
      · obtain ⟨ha, hb⟩ := h1.mks m hm
        refine ⟨by omega, fun c => ?_⟩
        have := h1.lt m.1 ha
        simp only [if_pos ha]
        rw [vc, if_pos (by omega)]
        exact hb c
      · obtain ⟨m', hm', rfl⟩ := List.mem_map.1 hm
        obtain ⟨ha, hb⟩ := h2.mks m' hm'
        refine ⟨by simp only; omega, fun c => ?_⟩
        simp only [if_neg (show ¬ N1 + m'.1 < N1 by omega), show N1 + m'.1 - N1 = m'.1 by omega]
        rw [vc, if_neg (by omega), show ((P1 + F2 m'.1 : Nat) : Int) - P1 = ((F2 m'.1 : Nat) : Int) by omega]
        exact hb c

theorem begStep_true {ss : List St} {f : Nat} {T : Ty} {p : Int} {tag : List UInt8} : begStep ss f T p tag true = true := by
  unfold begStep
  repeat' split
  all_goals simp

theorem begC_true {ss : List St} {tag : List UInt8} : ∀ (f : Nat) (T : Ty) (p : Int), begC ss tag f T p true = true
  | 0, _, _ => rfl
  | f + 1, T, p => by
    unfold begC
    rw [begStep_true]
    split
    · exact begC_true f _ _
    · cases pickC ss f (withinL ss T) p with
      | none => rfl
      | some x => exact begC_true f x.1 x.2

theorem gsum_all (L : List Ty) (g : Ty → Nat) : gsum L g L.length = (L.map g).sum := by unfold gsum; rw [List.take_length]

theorem within_leaf {ss : List St} {T : Ty} (h3 : T.kind ≠ 3) (h4 : T.kind ≠ 4) : withinL ss T = [] := by
  unfold withinL
  rw [if_neg h4, if_neg h3]

theorem fi_leaf {ss : List St} {f : Nat} {T : Ty} {k : UInt8} (hk : T.kind = 1 ∨ T.kind = 2) (hp : ∀ x, putStep T x = (x.1 ++ [k], x.2)) : Fi (extC ss (f + 1) T).1 (extC ss (f + 1) T).2 (fun _ => 0) (downC ss (f + 1) T) (fun tag => begC ss tag (f + 1) T) (putC ss (f + 1) T) [k] [] := by
  have hw : withinL ss T = [] := within_leaf (by omega) (by omega)
  have he : extC ss (f + 1) T = (1, 1) := by unfold extC; rw [if_pos hk]
  have hd : ∀ p c, downC ss (f + 1) T p c = c := fun p c => by
    rw [downC, if_neg (show ¬ T.kind = 4 by omega), hw]
    show cellStep ss f T p c = c
    unfold cellStep
    rw [if_pos (show T.kind ≠ 3 by omega)]
  rw [he]
  refine ⟨fun i j _ h => by omega, fun c h => by omega, fun c h c0 => ?_, fun p h => ⟨0, by omega, by omega, fun c0 => ?_⟩, fun x => ?_, rfl, fun m h => by simp at h⟩
  · rw [hd]; omega
  · rw [hd]; omega
  · unfold putC
    rw [hw, hp]
    simp

theorem fi_any (ss : List St) : ∀ (f : Nat) (T : Ty), faultC ss f T = 0 → ∃ F ks ms, Fi (extC ss f T).1 (extC ss f T).2 F (downC ss f T) (fun tag => begC ss tag f T) (putC ss f T) ks ms
  | 0, T, h => by
    have : faultC ss 0 T = 10 := by unfold faultC wrongC; rw [if_pos (by decide)]
    rw [this] at h
    exact absurd h (by decide)
  | f + 1, T, h => by
    obtain ⟨hw, hin⟩ := fault_ok h
    obtain ⟨k1, k4, hl8, h4, h3⟩ := wrong_ok hw
    have hL := fun E hE => fi_any ss f E (hin E hE)
    by_cases c1 : T.kind = 1
    · exact ⟨_, _, _, fi_leaf (k := 105) (Or.inl c1) (fun x => by unfold putStep; rw [if_pos c1])⟩
    by_cases c2 : T.kind = 2
    · exact ⟨_, _, _, fi_leaf (k := 112) (Or.inr c2) (fun x => by unfold putStep; rw [if_neg c1, if_pos c2])⟩
    have hne : ¬ (T.kind = 1 ∨ T.kind = 2) := by omega
    by_cases c4 : T.kind = 4
    · obtain ⟨hlen, n1, n16⟩ := h4 c4
      obtain ⟨E, hE⟩ := one_of hlen
      have hWL : withinL ss T = [E] := by unfold withinL; rw [if_pos c4, hE]
      have hhd : T.of.headD default = E := by rw [hE]; rfl
      obtain ⟨F, ks, ms, hf⟩ := hL E (by rw [hWL]; simp)
      obtain ⟨N, hN⟩ : ∃ N, (extC ss f E).1 = N := ⟨_, rfl⟩
      obtain ⟨P, hP⟩ : ∃ P, (extC ss f E).2 = P := ⟨_, rfl⟩
      have hpos : 1 ≤ P := by rw [← hP]; exact ext_pos f E (hin E (by rw [hWL]; simp))
      have he : extC ss (f + 1) T = (N, P * T.num.toNat) := by
        unfold extC
        rw [if_neg hne, if_pos c4, gsum_all, gsum_all, hWL]
        simp [hN, hP]
      have hd : ∀ p c, downC ss (f + 1) T p c = downC ss f E (p % (P : Int)) c := fun p c => by
        rw [downC, if_pos c4, hhd, hP, cellStep, if_pos (by omega)]
      have hb : ∀ tag p c, begC ss tag (f + 1) T p c = begC ss tag f E (p % (P : Int)) (begStep ss f T p tag c) := fun tag p c => by
        rw [begC, if_pos c4, hhd, hP]
      have hst : ∀ x : Pk, putStep T x = (x.1, x.2 ++ [((x.1.length : Int), [91, 93] ++ txt 4 E)]) := fun x => by
        unfold putStep
        rw [if_neg c1, if_neg c2, if_neg (by omega), if_pos c4, hhd]
      rw [he]
      rw [hN, hP] at hf
      obtain ⟨hz, hz0⟩ := hf.zero hpos
      have hnum : 1 ≤ T.num.toNat := by omega
      have hPn : P ≤ P * T.num.toNat := Nat.le_mul_of_pos_right _ hnum
      refine ⟨F, ks, (0, [91, 93] ++ txt 4 E) :: ms, ⟨hf.mono, fun c hc => Nat.lt_of_lt_of_le (hf.lt c hc) hPn, fun c hc c0 => ?_, fun p hp => ?_, fun x => ?_, hf.klen, fun m hm => ?_⟩⟩
      · have hl := hf.lt c hc
        rw [hd, Int.emod_eq_of_lt (by omega) (by omega)]
        exact hf.at_ c hc c0
      · obtain ⟨d, hd1, hd2, hd3⟩ := hf.low (p % P) (Nat.mod_lt _ (by omega))
        refine ⟨d, hd1, Nat.le_trans hd2 (Nat.mod_le _ _), fun c0 => ?_⟩
        rw [hd, show ((p : Nat) : Int) % (P : Int) = ((p % P : Nat) : Int) by omega]
        exact hd3 c0
      · rw [putC, hWL, hst]
        show putC ss f E _ = _
        rw [hf.put]
        simp
      · simp only
        rcases List.mem_cons.1 hm with rfl | hm
        · refine ⟨hz, fun c => ?_⟩
          have hs : begStep ss f T ((F 0 : Nat) : Int) ([91, 93] ++ txt 4 E) c = true := by
            unfold begStep
            rw [if_neg (by omega), if_pos c4, hhd, hz0]
            simp
          rw [hb, hs]
          exact begC_true _ _ _
        · obtain ⟨ha, hbm⟩ := hf.mks m hm
          have hl := hf.lt m.1 ha
          refine ⟨ha, fun c => ?_⟩
          rw [hb, Int.emod_eq_of_lt (by omega) (by omega)]
          exact hbm _
    · have c3 : T.kind = 3 := by omega
      obtain ⟨F, ks, ms, hf⟩ := fl_any ss f (withinL ss T) hL
      have he : extC ss (f + 1) T = (cellsL ss f (withinL ss T), placesL ss f (withinL ss T)) := by
        unfold extC
        rw [if_neg hne, if_neg c4, gsum_all, gsum_all]
        rfl
      have hd : ∀ p c, downC ss (f + 1) T p c = stepL ss f (withinL ss T) p c := fun p c => by
        rw [downC, if_neg c4, cellStep, if_neg (by omega)]
        rfl
      have hb : ∀ tag p c, begC ss tag (f + 1) T p c = viaB (begC ss tag f) (pickC ss f (withinL ss T) p) (begStep ss f T p tag c) := fun tag p c => by
        rw [begC, if_neg c4]
      have hst : ∀ x : Pk, putStep T x = (x.1, x.2 ++ [((x.1.length : Int), T.name.data.toList)]) := fun x => by
        unfold putStep
        rw [if_neg c1, if_neg c2, if_pos c3]
      have hpos : 0 < placesL ss f (withinL ss T) := by
        have h1 := ext_pos (f + 1) T h
        rw [he] at h1
        exact h1
      rw [he]
      obtain ⟨hz, hz0⟩ := hf.zero hpos
      refine ⟨F, ks, (0, T.name.data.toList) :: ms, ⟨hf.mono, hf.lt, fun c hc c0 => ?_, fun p hp => ?_, fun x => ?_, hf.klen, fun m hm => ?_⟩⟩
      · rw [hd]
        exact hf.at_ c hc c0
      · obtain ⟨d, hd1, hd2, hd3⟩ := hf.low p hp
        exact ⟨d, hd1, hd2, fun c0 => by rw [hd]; exact hd3 c0⟩
      · have := hf.put (putStep T x)
        rw [putC]
        rw [this, hst]
        simp
      · rcases List.mem_cons.1 hm with rfl | hm
        · refine ⟨hz, fun c => ?_⟩
          have hs : begStep ss f T ((F 0 : Nat) : Int) T.name.data.toList c = true := by
            unfold begStep
            rw [if_pos c3, hz0]
            simp
          simp only
          rw [hb, hs]
          cases pickC ss f (withinL ss T) ((F 0 : Nat) : Int) with
          | none => rfl
          | some x => exact begC_true f x.1 x.2
        · obtain ⟨ha, hbm⟩ := hf.mks m hm
          exact ⟨ha, fun c => by rw [hb]; exact hbm _⟩
end Go.Proofs.YtmahoppjefhnjaaDoor.sh
