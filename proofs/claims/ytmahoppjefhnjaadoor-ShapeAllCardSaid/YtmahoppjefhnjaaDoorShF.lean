/-
  Shape: down, with the closure of Cell.
-/
import Derived.Test.YtmahoppjefhnjaaDoorShE
import Derived.Test.YtmahoppjefhnjaaDoorSh6
import Derived.Deep.RegionHeld3
namespace Go.Proofs.YtmahoppjefhnjaaDoor.sh
open Go.RowKit Go.Sort Go.Proofs.YtmahoppjefhnjaaDoor.mem

theorem ext_pos {ss : List St} : ∀ (f : Nat) (T : Ty), faultC ss f T = 0 → 1 ≤ (extC ss f T).2
  | 0, T, h => by
    have : faultC ss 0 T = 10 := by unfold faultC wrongC; rw [if_pos (by decide)]
    rw [this] at h
    exact absurd h (by decide)
  | f + 1, T, h => by
    obtain ⟨hw, hin⟩ := fault_ok h
    obtain ⟨k1, k4, hl, h4, h3⟩ := wrong_ok hw
    unfold extC
    by_cases hk : T.kind = 1 ∨ T.kind = 2
    · rw [if_pos hk]
      exact Nat.le_refl 1
    · rw [if_neg hk]
      have hlen : 1 ≤ (withinL ss T).length := by
        by_cases h4' : T.kind = 4
        · have := (h4 h4').1
          unfold withinL
          rw [if_pos h4']
          omega
        · exact h3 (by omega)
      have hg : 1 ≤ gsum (withinL ss T) (fun E => (extC ss f E).2) (withinL ss T).length := by
        have h0 := gsum_succ (L := withinL ss T) (g := fun E => (extC ss f E).2) (k := 0) hlen
        have hp := ext_pos f (withinL ss T)[0] (hin _ (List.getElem_mem hlen))
        have hmono : ∀ k, 1 ≤ k → k ≤ (withinL ss T).length → 1 ≤ gsum (withinL ss T) (fun E => (extC ss f E).2) k := by
          intro k hk1
          induction k with
          | zero => omega
          | succ k ih =>
            intro hk2
            by_cases hk0 : k = 0
            · subst hk0
              rw [h0]; omega
            · have := ih (by omega) (by omega)
              rw [gsum_succ (by omega)]
              omega
        exact hmono _ hlen (Nat.le_refl _)
      simp only
      split
      · rename_i h4'
        have hn := (h4 h4').2.1
        have : 1 ≤ T.num.toNat := by omega
        exact Nat.le_trans (by omega : 1 ≤ 1 * 1) (Nat.mul_le_mul hg this)
      · exact hg

/-- what lies at a place: a type right within, and the place within it -/
def pickC (ss : List St) (f : Nat) : List Ty → Int → Option (Ty × Int)
  | [], _ => none
  | E :: r, p => if p < (extC ss f E).2 then some (E, p) else pickC ss f r (p - (extC ss f E).2)

theorem pick_step {ss : List St} {f : Nat} {L : List Ty} {j : Nat} (hj : j < L.length) (p : Int) : pickC ss f (L.drop j) p = if p < (extC ss f L[j]).2 then some (L[j], p) else pickC ss f (L.drop (j + 1)) (p - (extC ss f L[j]).2) := by
  rw [List.drop_eq_getElem_cons hj]
  rfl

def viaQ (g : Ty → Int → Int → Int) (Q : Option (Ty × Int)) (c : Int) : Int := match Q with | some x => g x.1 x.2 c | none => c

/-- the cell that the way down comes to -/
def downC (ss : List St) : Nat → Ty → Int → Int → Int
  | 0, _, _, c => c
  | f + 1, T, p, c =>
    if T.kind = 4 then downC ss f (T.of.headD default) (p % (extC ss f (T.of.headD default)).2) (cellStep ss f T p c)
    else viaQ (downC ss f) (pickC ss f (withinL ss T) p) (cellStep ss f T p c)

theorem ahead_le {ss : List St} {f : Nat} : ∀ (L : List Ty), (∀ E ∈ L, (extC ss f E).1 ≤ 65536) → ∀ (p c : Int), 0 ≤ c → 0 ≤ aheadC ss f L p c ∧ aheadC ss f L p c ≤ c + 65536 * (L.length : Int)
  | [], _, p, c, h => by simp [aheadC]; omega
  | E :: r, hL, p, c, h => by
    unfold aheadC
    have h1 := hL E (by simp)
    split
    · simp; omega
    · have ih := ahead_le r (fun E hE => hL E (List.mem_cons_of_mem _ hE)) (p - (extC ss f E).2) (c + (extC ss f E).1) (by omega)
      simp only [List.length_cons]
      omega

theorem step_le {ss : List St} {f : Nat} {T : Ty} (h8 : (withinL ss T).length ≤ 8) (hL : ∀ E ∈ withinL ss T, (extC ss f E).1 ≤ 65536) (p c : Int) (h : 0 ≤ c) : 0 ≤ cellStep ss f T p c ∧ cellStep ss f T p c ≤ c + 600000 := by
  unfold cellStep
  split
  · omega
  · have := ahead_le (withinL ss T) hL p c h
    omega

/-- between two rounds -/
structure DL (w wr : World) (n : Nat) (A : Option Addr) (cap : Nat) (ss : List St) (g1 g f : Nat) (B : Option Addr) (L : List Ty) (j : Nat) (p c : Int) (Q : Option (Ty × Int)) : Prop where
  fr : Fr [g] w wr
  le : LE wr n A cap ss g1 g c
  at_ : SsAt wr n A ss
  ty : TysAt wr n B L
  eq : pickC ss f (L.drop j) p = Q

theorem DL.kept {w wr w2 : World} {n : Nat} {A : Option Addr} {cap : Nat} {ss : List St} {g1 g f : Nat} {B : Option Addr} {L : List Ty} {j : Nat} {p c : Int} {Q : Option (Ty × Int)} (h : DL w wr n A cap ss g1 g f B L j p c Q) (hb : Below wr.heap.size wr w2) : DL w w2 n A cap ss g1 g f B L j p c Q :=
  ⟨fr_bel h.fr hb, h.le.kept hb, h.at_.kept hb, h.ty.kept hb, h.eq⟩
theorem DL.next {w wr : World} {n : Nat} {A : Option Addr} {cap : Nat} {ss : List St} {g1 g f : Nat} {B : Option Addr} {L : List Ty} {j : Nat} {p c p' : Int} {Q : Option (Ty × Int)} (h : DL w wr n A cap ss g1 g f B L j p c Q) (he : pickC ss f (L.drop (j + 1)) p' = Q) : DL w wr n A cap ss g1 g f B L (j + 1) p' c Q := ⟨h.fr, h.le, h.at_, h.ty, he⟩

/-- an array's element -/
theorem Arg.elem {w : World} {n q : Nat} {A : Option Addr} {ss : List St} {k : Int} {name : ByteArray} {num : Int} {E : Ty} {v0 v1 v2 v3 : Value} (h : Arg w n q A ss (.mk k name num [E]) v0 v1 v2 v3) :
    ∃ b off cap c0 c1 c2 c3, v3 = .slice (some ⟨b, off, none⟩) 1 cap ∧ b < w.heap.size ∧ w.cell? ⟨b, off, none⟩ = some c0 ∧ w.cell? ⟨b, off + 1, none⟩ = some c1 ∧ w.cell? ⟨b, off + 2, none⟩ = some c2 ∧ w.cell? ⟨b, off + 3, none⟩ = some c3 ∧ Arg w n n A ss E c0 c1 c2 c3 := by
  have ht := h.ty
  have hq := h.hq
  cases q with
  | zero => exact ht.elim
  | succ q =>
  obtain ⟨_, _, _, _, _, _, A2, cap, rfl, h7, h8, h9⟩ := ht
  obtain ⟨b, off, rfl, hb⟩ := h8 (by simp [Ty.of])
  obtain ⟨c0, c1, c2, c3, k0, k1, k2, k3, hE⟩ := h9 0 (by simp [Ty.of]) b off rfl
  rw [Nat.zero_mul, Nat.add_zero] at k0 k1 k2 k3
  exact ⟨b, off, cap, c0, c1, c2, c3, rfl, hb, k0, k1, k2, k3, ⟨h.at_, h.hm, h.few, TyAt.more _ _ _ _ _ _ hE n (by omega), Nat.le_refl _⟩⟩

set_option maxRecDepth 100000 in
set_option maxHeartbeats 1000000 in
theorem downc_any (n : Nat) (A : Option Addr) (cap : Nat) (ss : List St) (g1 g : Nat) : ∀ (f : Nat), f ≤ 4 → ∀ (T : Ty) (q : Nat) (v0 v1 v2 v3 : Value) (w : World) (p c : Int), Arg w n q A ss T v0 v1 v2 v3 → faultC ss f T = 0 → LE w n A cap ss g1 g c → 0 ≤ p → p ≤ 100000 → 0 ≤ c → c ≤ 600000 * (4 - (f : Int)) →
    Calls Tryd.prog 61 #[.slice A ss.length cap, .agg #[v0, v1, v2, v3], .int .i64 p, .func (.func 62) #[] #[.pointer (some ⟨g1, 0, none⟩), .pointer (some ⟨g, 0, none⟩)]] w (C1Post w n A cap ss g1 g (downC ss f T p c)) := by
  intro f
  induction f with
  | zero =>
    intro _ T q v0 v1 v2 v3 w p c _ hf
    have : faultC ss 0 T = 10 := by unfold faultC wrongC; rw [if_pos (by decide)]
    rw [this] at hf
    exact absurd hf (by decide)
  | succ f ih =>
    intro hf4 T q v0 v1 v2 v3 w p c h hf hle p0 p1 q0 q1
    obtain ⟨hw, hin⟩ := fault_ok hf
    obtain ⟨k1, k4, hl8, h4, _⟩ := wrong_ok hw
    have hex : ∀ E ∈ withinL ss T, (extC ss f E).1 ≤ 65536 ∧ (extC ss f E).2 ≤ 65536 ∧ faultC ss f E = 0 ∧ 1 ≤ (extC ss f E).2 := fun E hE => by
      have h1 := ext_le f E (hin E hE)
      have h2 : 16 ^ f ≤ 16 ^ 4 := Nat.pow_le_pow_right (by omega) (by omega)
      have h3 : (16 : Nat) ^ 4 = 65536 := by decide
      exact ⟨by omega, by omega, hin E hE, ext_pos f E (hin E hE)⟩
    have hst := step_le (f := f) (T := T) hl8 (fun E hE => (hex E hE).1) p c q0
    have hq1 : c ≤ 600000 * (4 - ((f : Int) + 1)) := by simpa using q1
    have K1 := Lib.hid (fun w' (hb : Below w.heap.size w w') => cell1_any w' n q A cap ss T v0 v1 v2 v3 (h.kept hb) f (by omega) hin hl8 g1 g p c (hle.kept hb) ⟨p0, p1⟩ ⟨q0, by omega⟩)
    have KI : Hid (∀ (T : Ty) (v0 v1 v2 v3 : Value) (w : World) (p c : Int), Arg w n n A ss T v0 v1 v2 v3 → faultC ss f T = 0 → LE w n A cap ss g1 g c → 0 ≤ p → p ≤ 100000 → 0 ≤ c → c ≤ 600000 * (4 - (f : Int)) →
        Calls Tryd.prog 61 #[.slice A ss.length cap, .agg #[v0, v1, v2, v3], .int .i64 p, .func (.func 62) #[] #[.pointer (some ⟨g1, 0, none⟩), .pointer (some ⟨g, 0, none⟩)]] w (C1Post w n A cap ss g1 g (downC ss f T p c))) :=
      Lib.hid (fun T v0 v1 v2 v3 w p c a b d e1 e2 e3 e4 => ih (by omega) T n v0 v1 v2 v3 w p c a b d e1 e2 e3 e4)
    have hm := h.hm
    have HA := Lib.hid (fun o => h.kept ((Below.refl w.heap.size w).alloc (Nat.le_refl _) o))
    have HLE := Lib.hid (fun o => hle.kept ((Below.refl w.heap.size w).alloc (Nat.le_refl _) o))
    have hgl : g < w.heap.size := hle.bg.lt
    obtain ⟨A2, cap2, rfl, rfl, rfl, rfl⟩ := h.cells
    have B0 := Lib.hid (fun o => (Below.refl w.heap.size w).alloc (Nat.le_refl _) o)
    have BX : Hid (Box (w.alloc (.cells #[.int .i64 T.kind, .string T.name, .int .i64 T.num, .slice A2 T.of.length cap2] 51)) w.heap.size 51 #[.int .i64 T.kind, .string T.name, .int .i64 T.num, .slice A2 T.of.length cap2]) := Lib.hid (Box.new w _ _)
    obtain ⟨R, hR⟩ : ∃ R, downC ss (f + 1) T p c = R := ⟨_, rfl⟩
    rw [hR]
    unfold downC at hR
    have HR := Lib.hid hR.symm
    have HEX := Lib.hid hex
    clear h hin hle hR ih hw hf hex q1
    obtain ⟨k, name, num, of⟩ := T
    simp only [Ty.kind, Ty.name, Ty.num, Ty.of] at *
    generalize cellStep ss f (.mk k name num of) p c = c1 at *
    have hc1 : 0 ≤ c1 ∧ c1 ≤ 600000 * (4 - (f : Int)) := by omega
    unfold C1Post at K1 KI ⊢
    go_enter Tryd.func61, Tryd.ntmps61
    go_wp2_with fail
    refine (K1.out _ (B0.out _)).mono ?_
    rintro e w2 ⟨rfl, hle2, hf2⟩
    have HL2 := Lib.hid hle2
    have HA2 := Lib.hid ((HA.out _).fr (HLE.out _).bg hf2)
    have BX2 := Lib.hid (BX.out.kept hf2 (by simp; omega))
    have HF2 := Lib.hid (fr_fr (bel_fr (g := g) (B0.out _)) hf2)
    clear hle2 hf2 K1 HA HLE BX
    have t0 : w2.cell? ⟨w.heap.size, 0, none⟩ = some (.int .i64 k) := BX2.out.cell 0
    have t1 : w2.cell? ⟨w.heap.size, 1, none⟩ = some (.string name) := BX2.out.cell 1
    have t2 : w2.cell? ⟨w.heap.size, 2, none⟩ = some (.int .i64 num) := BX2.out.cell 2
    have t3 : w2.cell? ⟨w.heap.size, 3, none⟩ = some (.slice A2 of.length cap2) := BX2.out.cell 3
    by_cases hk : k = 4
    · subst hk
      obtain ⟨E, rfl⟩ := one_of (h4 rfl).1
      obtain ⟨b, off, cap3, d0, d1, d2, d3, hsl, hbl, j0, j1, j2, j3, hAE⟩ := HA2.out.elem
      obtain ⟨A4, cap4, rfl, rfl, rfl, rfl⟩ := hAE.cells
      cases hsl
      have hmem : E ∈ withinL ss (.mk 4 name num [E]) := by unfold withinL; rw [if_pos (show (Ty.mk 4 name num [E]).kind = 4 from rfl)]; simp [Ty.of]
      obtain ⟨l1, l2, hfz, l3⟩ := HEX.out E hmem
      have hr : Hid (R = downC ss f E (p % (extC ss f E).2) c1) := Lib.hid (HR.out.trans (if_pos rfl))
      have KE := Lib.hid (hAE.extent (cap := cap) f (by omega) hfz)
      have KD := Lib.hid (fun w' (ha : Arg w' n n A ss E (.int .i64 E.kind) (.string E.name) (.int .i64 E.num) (.slice A4 E.of.length cap4)) (hl : LE w' n A cap ss g1 g c1) (z : Int) (hz0 : 0 ≤ z) (hz1 : z ≤ 100000) => KI.out E _ _ _ _ w' z c1 ha hfz hl hz0 hz1 hc1.1 hc1.2)
      have HAE := Lib.hid hAE
      clear hmem HR HA2 KI hAE h4
      obtain ⟨x, hx⟩ : ∃ x, extC ss f E = x := ⟨_, rfl⟩
      rw [hx] at KE hr l1 l2 l3
      obtain ⟨x1, x2⟩ := x
      simp only at l1 l2 l3
      have hr : Hid (R = downC ss f E (p % (x2 : Int)) c1) := hr
      unfold ExPost at KE
      clear hx
      have KE : Hid (Calls Tryd.prog 59 #[.slice A ss.length cap, .agg #[.int .i64 E.kind, .string E.name, .int .i64 E.num, .slice A4 E.of.length cap4]] w2 fun e w' => e = .returned (.tuple #[.int .i64 (x1 : Nat), .int .i64 (x2 : Nat)]) ∧ Below w2.heap.size w2 w') := KE
      go_wp2_with fail
      refine KE.out.mono ?_
      rintro e w3 ⟨rfl, b3⟩
      have HL3 := Lib.hid (HL2.out.kept b3)
      have HA3 := Lib.hid (HAE.out.kept b3)
      have BX3 := BX2.out.kept (Fr.of_below b3 []) (by simp)
      have HF3 := Lib.hid (fr_bel HF2.out b3)
      have u3 : w3.cell? ⟨w.heap.size, 3, none⟩ = some (.slice (some ⟨b, off, none⟩) 1 cap2) := BX3.cell 3
      have i0 := (b3.cell (p := ⟨b, off, none⟩) hbl).trans j0
      have i1 := (b3.cell (p := ⟨b, off + 1, none⟩) hbl).trans j1
      have i2 := (b3.cell (p := ⟨b, off + 2, none⟩) hbl).trans j2
      have i3 := (b3.cell (p := ⟨b, off + 3, none⟩) hbl).trans j3
      clear b3 BX3 BX2 HL2 HAE HF2 KE t0 t1 t2 t3 j0 j1 j2 j3
      have hrem : p.tmod (x2 : Int) = p % (x2 : Int) := Int.tmod_eq_emod_of_nonneg p0
      have hm0 : 0 ≤ p % (x2 : Int) := Int.emod_nonneg _ (by omega)
      have hm1 : p % (x2 : Int) < (x2 : Int) := Int.emod_lt_of_pos _ (by omega)
      have hne : ¬ ((x2 : Int) = 0) := by omega
      have hn0 : ¬ (x2 = 0) := by omega
      have KD3 := Lib.hid (KD.out w3.drew (HA3.out.kept (Below.refl _ _).drew) (HL3.out.kept (Below.refl _ _).drew) (p % (x2 : Int)) hm0 (by omega))
      have hbg : b ≠ g := by
        rintro rfl
        have := one_cell HL3.out.bg i1
        omega
      have hwg : w.heap.size ≠ g := by omega
      have hb3 : b < w3.heap.size := cell_lt i0
      have hw3 : w.heap.size < w3.heap.size := cell_lt u3
      have keep : Hid (∀ w4, Fr [g] w3.drew w4 → w4.cell? ⟨w.heap.size, 3, none⟩ = some (.slice (some ⟨b, off, none⟩) 1 cap2) ∧ w4.cell? ⟨b, off, none⟩ = some (.int .i64 E.kind) ∧ w4.cell? ⟨b, off + 1, none⟩ = some (.string E.name) ∧ w4.cell? ⟨b, off + 2, none⟩ = some (.int .i64 E.num) ∧ w4.cell? ⟨b, off + 3, none⟩ = some (.slice A4 E.of.length cap4)) :=
        Lib.hid (fun w4 hf => ⟨(cell_fr hf hw3 hwg).trans u3, (cell_fr hf hb3 hbg).trans i0, (cell_fr hf hb3 hbg).trans i1, (cell_fr hf hb3 hbg).trans i2, (cell_fr hf hb3 hbg).trans i3⟩)
      clear KD
      go_wp2_with fail
      go_region_held3 (fun w' => w'.cell? ⟨w.heap.size, 3, none⟩ = some (.slice (some ⟨b, off, none⟩) 1 cap2) ∧ w'.cell? ⟨b, off, none⟩ = some (.int .i64 E.kind) ∧ w'.cell? ⟨b, off + 1, none⟩ = some (.string E.name) ∧ w'.cell? ⟨b, off + 2, none⟩ = some (.int .i64 E.num) ∧ w'.cell? ⟨b, off + 3, none⟩ = some (.slice A4 E.of.length cap4))
        (first | exact ⟨u3, i0, i1, i2, i3⟩ | exact keep.out _ hf4 | go_keep)
        ((go_at_call 61; refine KD3.out.mono ?_; rintro e w4 ⟨rfl, hle4, hf4⟩))
      have HL4 := Lib.hid hle4
      have HF4 := Lib.hid (fr_fr (fr_bel HF3.out (Below.refl _ _).drew) hf4)
      clear hle4 hf4
      go_wp2_with fail
      refine bodyPost_ret (results_none rfl _ _ _) rfl ?_
      exact ⟨rfl, by rw [hr.out]; exact HL4.out, HF4.out⟩
    · have HR := Lib.hid (HR.out.trans (if_neg hk))
      have d4 : (k == 4) = false := by simpa using hk
      have KN := Lib.hid (HA2.out.within (cap := cap))
      have few := Lib.hid HA2.out.few
      have HS2 := Lib.hid (fun w' (hb : Below w2.heap.size w2 w') => HA2.out.at_.kept hb)
      have hl8 : (withinL ss (.mk k name num of)).length ≤ 8 := hl8
      clear HA2 BX2
      generalize withinL ss (.mk k name num of) = L at *
      obtain ⟨Q, hQ⟩ : ∃ Q, pickC ss f L p = Q := ⟨_, rfl⟩
      have HR : Hid (R = viaQ (downC ss f) Q c1) := Lib.hid (by rw [← hQ]; exact HR.out)
      have HQ := Lib.hid hQ
      clear hQ
      go_wp2_with fail
      refine KN.out.mono ?_
      rintro e w3 ⟨B, cb, rfl, b3, hty, hLm⟩
      have D0 : Hid (DL w w3 n A cap ss g1 g f B L 0 p c1 Q) := Lib.hid ⟨fr_bel HF2.out b3, HL2.out.kept b3, HS2.out _ b3, hty, HQ.out⟩
      clear b3 hty KN HF2 HL2 HS2 HQ t0 t1 t2 t3
      go_wp2_with fail
      go_loopw [2, 44] (fun pv i wr => ∃ (j : Nat) (p' : Int), j ≤ L.length ∧ i = .int .i64 j ∧ pv = .int .i64 p' ∧ 0 ≤ p' ∧ p' ≤ 100000 ∧ Hid (DL w wr n A cap ss g1 g f B L j p' c1 Q)) (fun _ i _ => L.length - (intOf i).toNat)
      case atStart => exact ⟨0, p, by omega, rfl, rfl, by omega, by omega, D0⟩
      case round =>
        obtain ⟨j, p', hj, rfl, rfl, r0, r1, hdl⟩ := hrel
        rename_i wr _
        by_cases hjl : j < L.length
        · have e1 : decide ((j : Int) < (L.length : Int)) = true := decide_eq_true (by omega)
          obtain ⟨bb, off, rfl, hbl⟩ := hdl.out.ty.1 (by omega)
          obtain ⟨c0, c1', c2', c3, k0, k1', k2, k3, hT⟩ := hdl.out.ty.2 j hjl bb off rfl
          have hT2 := hT
          obtain ⟨l1, l2, hz, l3⟩ := HEX.out _ (List.getElem_mem hjl)
          have AS := Lib.hid (fun (b : Nat) (h2 : (b : Int) = (extC ss f L[j]).2) => by
            have := (pick_step (ss := ss) (f := f) hjl p').symm.trans hdl.out.eq
            rw [← h2] at this
            exact this)
          have BA := Lib.hid (fun o => (Below.refl wr.heap.size wr).alloc (Nat.le_refl _) o)
          have HK := Lib.hid (fun w' (hb : Below wr.heap.size wr w') => hdl.out.kept hb)
          have HAE := Lib.hid (fun w' (hb : Below wr.heap.size wr w') => (⟨hdl.out.at_.kept hb, hm, few.out, hT.kept hb, Nat.le_refl _⟩ : Arg w' n n A ss L[j] c0 c1' c2' c3))
          have KE := Lib.hid (fun w' (hb : Below wr.heap.size wr w') => (HAE.out w' hb).extent (cap := cap) f (by omega) hz)
          have KD := Lib.hid (fun w' (hb : Below wr.heap.size wr w') => KI.out L[j] _ _ _ _ w' p' c1 (HAE.out w' hb) hz (hdl.out.kept hb).le r0 r1 hc1.1 hc1.2)
          have BXE := Lib.hid (fun o1 o2 o3 o4 => Box.new wr 51 #[o1, o2, o3, o4])
          generalize L[j] = E at *
          cases n with
          | zero => exact hT2.elim
          | succ n =>
          obtain ⟨rfl, _, rfl, _, rfl, _, A3, cap3, rfl, _, _, _⟩ := hT2
          clear hT hdl hz HAE
          obtain ⟨x, hx⟩ : ∃ x, extC ss f E = x := ⟨_, rfl⟩
          rw [hx] at KE AS l1 l2 l3
          obtain ⟨x1, x2⟩ := x
          simp only at l1 l2 l3 AS
          unfold ExPost at KE
          clear hx
          have AS := Lib.hid (AS.out x2 rfl)
          have BE := Lib.hid (BXE.out (.int .i64 E.kind) (.string E.name) (.int .i64 E.num) (.slice A3 E.of.length cap3))
          clear BXE
          go_wp2_with fail
          refine (KE.out _ (BA.out _)).mono ?_
          rintro e w4 ⟨rfl, b4⟩
          have hb4 := (BA.out _).trans (b4.mono (BA.out _).size)
          have HK4 := Lib.hid (HK.out _ hb4)
          have BE4 := BE.out.kept (Fr.of_below b4 []) (by simp)
          have u0 : w4.cell? ⟨wr.heap.size, 0, none⟩ = some (.int .i64 E.kind) := BE4.cell 0
          have u1 : w4.cell? ⟨wr.heap.size, 1, none⟩ = some (.string E.name) := BE4.cell 1
          have u2 : w4.cell? ⟨wr.heap.size, 2, none⟩ = some (.int .i64 E.num) := BE4.cell 2
          have u3 : w4.cell? ⟨wr.heap.size, 3, none⟩ = some (.slice A3 E.of.length cap3) := BE4.cell 3
          have KD4 := Lib.hid (KD.out _ hb4)
          clear b4 hb4 KE KD k0 k1' k2 k3 HK BA BE BE4
          by_cases hlt : p' < (x2 : Int)
          · have d2 : decide (p' < (x2 : Int)) = true := decide_eq_true hlt
            have hq := (if_pos hlt).symm.trans AS.out
            have hr : Hid (R = downC ss f E p' c1) := Lib.hid (by have := HR.out; rw [← hq] at this; exact this)
            clear hq AS
            go_wp2_with fail
            refine KD4.out.mono ?_
            rintro e w5 ⟨rfl, hle5, hf5⟩
            have HL5 := Lib.hid hle5
            have HF5 := Lib.hid (fr_fr HK4.out.fr hf5)
            clear hle5 hf5 KD4
            go_wp2_with fail
            refine bodyPost_ret (results_none rfl _ _ _) rfl ?_
            exact ⟨rfl, by rw [hr.out]; exact HL5.out, HF5.out⟩
          · have d2 : decide (p' < (x2 : Int)) = false := decide_eq_false hlt
            have hq := Lib.hid ((if_neg hlt).symm.trans AS.out)
            clear AS KD4 u0 u1 u2 u3
            go_wp2_with fail
            go_roundw
            case rel => exact ⟨j + 1, p' - x2, by omega, by go_num, rfl, by omega, by omega, Lib.hid (HK4.out.next hq.out)⟩
            case measure => simp [intOf]; omega
        · obtain rfl : j = L.length := by omega
          have e1 : decide ((L.length : Int) < (L.length : Int)) = false := decide_eq_false (by omega)
          have hq : Q = none := by have := hdl.out.eq; rw [List.drop_length] at this; exact this.symm
          have hr : Hid (R = c1) := Lib.hid (by have := HR.out; rw [hq] at this; exact this)
          clear hq
          go_wp2_with fail
          go_end0
          exact ⟨rfl, by rw [hr.out]; exact hdl.out.le, hdl.out.fr⟩
end Go.Proofs.YtmahoppjefhnjaaDoor.sh
