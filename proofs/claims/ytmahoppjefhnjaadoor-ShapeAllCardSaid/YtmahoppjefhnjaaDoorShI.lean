/-
  Shape: down, with the closure of Begins.
-/
import Derived.Test.YtmahoppjefhnjaaDoorShH
import Derived.Deep.RegionHeld3
namespace Go.Proofs.YtmahoppjefhnjaaDoor.sh
open Go.RowKit Go.Sort Go.Proofs.YtmahoppjefhnjaaDoor.mem

theorem deep_elem {m k : Int} {n : Nat} {name : ByteArray} {num : Int} {E : Ty} (h : deepB (n + 1) (.mk k name num [E]) = false) : deepB n E = false := by
  unfold deepB at h
  simp only [Ty.of, List.any_cons, List.any_nil, Bool.or_false, Bool.or_eq_false_iff] at h
  exact h.2.2

theorem beg1_any (w : World) (n q : Nat) (A : Option Addr) (cap : Nat) (ss : List St) (T : Ty) (v0 v1 v2 v3 : Value) (h : Arg w n q A ss T v0 v1 v2 v3) (f : Nat) (hf4 : f ≤ 4) (hin : ∀ E ∈ withinL ss T, faultC ss f E = 0) (h4 : T.kind = 4 → T.of.length = 1)
    (hdp : ∃ m, f + 4 < m ∧ deepB m T = false) (htab : TabS w) (g0 gt g : Nat) (p : Int) (p0 : 0 ≤ p) (p1 : p ≤ 100000) (tag : List UInt8) (b : Bool) (hle : LB w A cap ss g0 gt g tag b) :
    Calls Tryd.prog 63 #[.agg #[v0, v1, v2, v3], .int .i64 p, .pointer (some ⟨g, 0, none⟩), .pointer (some ⟨gt, 0, none⟩), .pointer (some ⟨g0, 0, none⟩)] w (B1Post w A cap ss g0 gt g tag (begStep ss f T p tag b)) := by
  obtain ⟨k, name, num, of⟩ := T
  by_cases h3 : k = 3
  · subst h3
    exact beg1_rec w n q A cap ss name num of v0 v1 v2 v3 h f g0 gt g p tag b hle
  · by_cases hk : k = 4
    · subst hk
      obtain ⟨E, rfl⟩ := one_of (h4 rfl)
      have hfz : faultC ss f E = 0 := hin E (by unfold withinL; rw [if_pos (show (Ty.mk 4 name num [E]).kind = 4 from rfl)]; simp [Ty.of])
      obtain ⟨m, hm, hd⟩ := hdp
      have hf1 : 1 ≤ f := by
        cases f with
        | zero =>
          have : faultC ss 0 E = 10 := by unfold faultC wrongC; rw [if_pos (by decide)]
          rw [this] at hfz
          exact absurd hfz (by decide)
        | succ f => omega
      obtain ⟨m, rfl⟩ : ∃ m', m = m' + 1 := ⟨m - 1, by omega⟩
      exact beg1_arr w n q A cap ss name num E v0 v1 v2 v3 h f hf4 hfz m (by omega) (deep_elem (m := 0) hd) htab g0 gt g p p0 p1 tag b hle
    · exact beg1_flat w n q A cap ss k name num of v0 v1 v2 v3 h f h3 hk g0 gt g p tag b hle

def viaB (g : Ty → Int → Bool → Bool) (Q : Option (Ty × Int)) (c : Bool) : Bool := match Q with | some x => g x.1 x.2 c | none => c

/-- whether anything of a tag begins on the way down -/
def begC (ss : List St) (tag : List UInt8) : Nat → Ty → Int → Bool → Bool
  | 0, _, _, c => c
  | f + 1, T, p, c =>
    if T.kind = 4 then begC ss tag f (T.of.headD default) (p % (extC ss f (T.of.headD default)).2) (begStep ss f T p tag c)
    else viaB (begC ss tag f) (pickC ss f (withinL ss T) p) (begStep ss f T p tag c)

theorem within_deep {ss : List St} (hss : ∀ st ∈ ss, ∀ fd ∈ st.2, deepB 8 fd.2 = false) {f : Nat} (hf : f + 1 ≤ 4) {T : Ty} (hT : ∃ m, f + 1 + 3 < m ∧ deepB m T = false) (h4 : T.kind = 4 → T.of.length = 1) : ∀ E ∈ withinL ss T, ∃ m, f + 3 < m ∧ deepB m E = false := by
  intro E hE
  obtain ⟨k, name, num, of⟩ := T
  unfold withinL at hE
  split at hE
  · rename_i hk
    obtain ⟨E', hE'⟩ := one_of (h4 hk)
    simp only [Ty.of] at hE hE'
    subst hE'
    rw [List.mem_singleton] at hE
    subst hE
    obtain ⟨m, hm, hd⟩ := hT
    obtain ⟨m, rfl⟩ : ∃ m', m = m' + 1 := ⟨m - 1, by omega⟩
    exact ⟨m, by omega, deep_elem (m := 0) hd⟩
  · split at hE
    · split at hE
      · simp at hE
      · rename_i st hst
        obtain ⟨fd, hfd, rfl⟩ := List.mem_map.1 hE
        exact ⟨8, by omega, hss st (List.mem_of_find?_eq_some hst) fd hfd⟩
    · simp at hE

/-- between two rounds -/
structure BL (w wr : World) (n : Nat) (A : Option Addr) (cap : Nat) (ss : List St) (g0 gt g : Nat) (tag : List UInt8) (f : Nat) (B : Option Addr) (L : List Ty) (j : Nat) (p : Int) (c : Bool) (Q : Option (Ty × Int)) : Prop where
  fr : Fr [g] w wr
  le : LB wr A cap ss g0 gt g tag c
  at_ : SsAt wr n A ss
  ty : TysAt wr n B L
  eq : pickC ss f (L.drop j) p = Q

theorem BL.kept {w wr w2 : World} {n : Nat} {A : Option Addr} {cap : Nat} {ss : List St} {g0 gt g : Nat} {tag : List UInt8} {f : Nat} {B : Option Addr} {L : List Ty} {j : Nat} {p : Int} {c : Bool} {Q : Option (Ty × Int)} (h : BL w wr n A cap ss g0 gt g tag f B L j p c Q) (hb : Below wr.heap.size wr w2) : BL w w2 n A cap ss g0 gt g tag f B L j p c Q :=
  ⟨fr_bel h.fr hb, h.le.kept hb, h.at_.kept hb, h.ty.kept hb, h.eq⟩
theorem BL.next {w wr : World} {n : Nat} {A : Option Addr} {cap : Nat} {ss : List St} {g0 gt g : Nat} {tag : List UInt8} {f : Nat} {B : Option Addr} {L : List Ty} {j : Nat} {p p' : Int} {c : Bool} {Q : Option (Ty × Int)} (h : BL w wr n A cap ss g0 gt g tag f B L j p c Q) (he : pickC ss f (L.drop (j + 1)) p' = Q) : BL w wr n A cap ss g0 gt g tag f B L (j + 1) p' c Q := ⟨h.fr, h.le, h.at_, h.ty, he⟩

/-- the table is as it was before the box was made -/
def TB (w0 w : World) (g : Nat) : Prop := TabS w0 ∧ Below w0.heap.size w0 w ∧ w0.heap.size ≤ g
theorem TB.kept {w0 w w' : World} {g : Nat} (h : TB w0 w g) (hb : Below w.heap.size w w') : TB w0 w' g := ⟨h.1, h.2.1.trans (hb.mono h.2.1.size), h.2.2⟩
theorem TB.fr {w0 w w' : World} {g : Nat} (h : TB w0 w g) (hf : Fr [g] w w') : TB w0 w' g := ⟨h.1, h.2.1.trans (hf.below (B := w0.heap.size) (by simpa using h.2.2) h.2.1.size), h.2.2⟩
theorem TB.tab {w0 w : World} {g : Nat} (h : TB w0 w g) : TabS w := tabS_below h.1 h.2.1

set_option maxRecDepth 100000 in
set_option maxHeartbeats 1000000 in
theorem downb_any (w0 : World) (n : Nat) (A : Option Addr) (cap : Nat) (ss : List St) (hss : ∀ st ∈ ss, ∀ fd ∈ st.2, deepB 8 fd.2 = false) (g0 gt g : Nat) (tag : List UInt8) : ∀ (f : Nat), f ≤ 4 → ∀ (T : Ty) (q : Nat) (v0 v1 v2 v3 : Value) (w : World) (p : Int) (c : Bool), Arg w n q A ss T v0 v1 v2 v3 → faultC ss f T = 0 → LB w A cap ss g0 gt g tag c → 0 ≤ p → p ≤ 100000 → (∃ m, f + 3 < m ∧ deepB m T = false) → TB w0 w g →
    Calls Tryd.prog 61 #[.slice A ss.length cap, .agg #[v0, v1, v2, v3], .int .i64 p, .func (.func 63) #[] #[.pointer (some ⟨g, 0, none⟩), .pointer (some ⟨gt, 0, none⟩), .pointer (some ⟨g0, 0, none⟩)]] w (B1Post w A cap ss g0 gt g tag (begC ss tag f T p c)) := by
  intro f
  induction f with
  | zero =>
    intro _ T q v0 v1 v2 v3 w p c _ hf
    have : faultC ss 0 T = 10 := by unfold faultC wrongC; rw [if_pos (by decide)]
    rw [this] at hf
    exact absurd hf (by decide)
  | succ f ih =>
    intro hf4 T q v0 v1 v2 v3 w p c h hf hle p0 p1 hdT htb
    obtain ⟨hw, hin⟩ := fault_ok hf
    obtain ⟨k1, k4, hl8, h4, _⟩ := wrong_ok hw
    have hex : ∀ E ∈ withinL ss T, (extC ss f E).1 ≤ 65536 ∧ (extC ss f E).2 ≤ 65536 ∧ faultC ss f E = 0 ∧ 1 ≤ (extC ss f E).2 := fun E hE => by
      have h1 := ext_le f E (hin E hE)
      have h2 : 16 ^ f ≤ 16 ^ 4 := Nat.pow_le_pow_right (by omega) (by omega)
      have h3 : (16 : Nat) ^ 4 = 65536 := by decide
      exact ⟨by omega, by omega, hin E hE, ext_pos f E (hin E hE)⟩
    have hdw := Lib.hid (within_deep hss hf4 hdT (fun hk => (h4 hk).1))
    have K1 := Lib.hid (fun w' (hb : Below w.heap.size w w') => beg1_any w' n q A cap ss T v0 v1 v2 v3 (h.kept hb) f (by omega) hin (fun hk => (h4 hk).1) hdT (htb.kept hb).tab g0 gt g p p0 p1 tag c (hle.kept hb))
    have KI : Hid (∀ (T : Ty) (v0 v1 v2 v3 : Value) (w : World) (p : Int) (c : Bool), Arg w n n A ss T v0 v1 v2 v3 → faultC ss f T = 0 → LB w A cap ss g0 gt g tag c → 0 ≤ p → p ≤ 100000 → (∃ m, f + 3 < m ∧ deepB m T = false) → TB w0 w g →
        Calls Tryd.prog 61 #[.slice A ss.length cap, .agg #[v0, v1, v2, v3], .int .i64 p, .func (.func 63) #[] #[.pointer (some ⟨g, 0, none⟩), .pointer (some ⟨gt, 0, none⟩), .pointer (some ⟨g0, 0, none⟩)]] w (B1Post w A cap ss g0 gt g tag (begC ss tag f T p c))) :=
      Lib.hid (fun T v0 v1 v2 v3 w p c a b d e1 e2 e3 e4 => ih (by omega) T n v0 v1 v2 v3 w p c a b d e1 e2 e3 e4)
    have hm := h.hm
    have HA := Lib.hid (fun o => h.kept ((Below.refl w.heap.size w).alloc (Nat.le_refl _) o))
    have HTB := Lib.hid (fun o => htb.kept ((Below.refl w.heap.size w).alloc (Nat.le_refl _) o))
    have HLE := Lib.hid (fun o => hle.kept ((Below.refl w.heap.size w).alloc (Nat.le_refl _) o))
    have hgl : g < w.heap.size := hle.bg.lt
    obtain ⟨A2, cap2, rfl, rfl, rfl, rfl⟩ := h.cells
    have B0 := Lib.hid (fun o => (Below.refl w.heap.size w).alloc (Nat.le_refl _) o)
    have BX : Hid (Box (w.alloc (.cells #[.int .i64 T.kind, .string T.name, .int .i64 T.num, .slice A2 T.of.length cap2] 51)) w.heap.size 51 #[.int .i64 T.kind, .string T.name, .int .i64 T.num, .slice A2 T.of.length cap2]) := Lib.hid (Box.new w _ _)
    obtain ⟨R, hR⟩ : ∃ R, begC ss tag (f + 1) T p c = R := ⟨_, rfl⟩
    rw [hR]
    unfold begC at hR
    have HR := Lib.hid hR.symm
    have HEX := Lib.hid hex
    clear h hin hle hR ih hw hf hex htb hdT
    obtain ⟨k, name, num, of⟩ := T
    simp only [Ty.kind, Ty.name, Ty.num, Ty.of] at *
    generalize begStep ss f (.mk k name num of) p tag c = c1 at *
    unfold B1Post at K1 KI ⊢
    go_enter Tryd.func61, Tryd.ntmps61
    go_wp2_with fail
    refine (K1.out _ (B0.out _)).mono ?_
    rintro e w2 ⟨rfl, hle2, hf2⟩
    have HL2 := Lib.hid hle2
    have HA2 := Lib.hid ((HA.out _).fr (HLE.out _).bg hf2)
    have HT2 := Lib.hid ((HTB.out _).fr hf2)
    have BX2 := Lib.hid (BX.out.kept hf2 (by simp; omega))
    have HF2 := Lib.hid (fr_fr (bel_fr (g := g) (B0.out _)) hf2)
    clear hle2 hf2 K1 HA HLE BX HTB
    have t0 : w2.cell? ⟨w.heap.size, 0, none⟩ = some (.int .i64 k) := BX2.out.cell 0
    have t1 : w2.cell? ⟨w.heap.size, 1, none⟩ = some (.string name) := BX2.out.cell 1
    have t2 : w2.cell? ⟨w.heap.size, 2, none⟩ = some (.int .i64 num) := BX2.out.cell 2
    have t3 : w2.cell? ⟨w.heap.size, 3, none⟩ = some (.slice A2 of.length cap2) := BX2.out.cell 3
    by_cases hk : k = 4
    · subst hk
      obtain ⟨E, rfl⟩ := one_of (h4 rfl).1
      obtain ⟨b, off, cap3, d0, d1, d2, d3, hsl, hbl, j0, j1, j2, j3, hAE⟩ := HA2.out.elem
      obtain ⟨A4, cap4, rfl, rfl, rfl, rfl⟩ := hAE.cells
      cases hsl
      have hmem : E ∈ withinL ss (.mk 4 name num [E]) := by unfold withinL; rw [if_pos (show (Ty.mk 4 name num [E]).kind = 4 from rfl)]; simp [Ty.of]
      obtain ⟨l1, l2, hfz, l3⟩ := HEX.out E hmem
      have hr : Hid (R = begC ss tag f E (p % (extC ss f E).2) c1) := Lib.hid (HR.out.trans (if_pos rfl))
      have hdE := hdw.out E hmem
      have KE := Lib.hid (hAE.extent (cap := cap) f (by omega) hfz)
      have KD := Lib.hid (fun w' (ha : Arg w' n n A ss E (.int .i64 E.kind) (.string E.name) (.int .i64 E.num) (.slice A4 E.of.length cap4)) (hl : LB w' A cap ss g0 gt g tag c1) (z : Int) (hz0 : 0 ≤ z) (hz1 : z ≤ 100000) (ht : TB w0 w' g) => KI.out E _ _ _ _ w' z c1 ha hfz hl hz0 hz1 hdE ht)
      have HAE := Lib.hid hAE
      clear hmem HR HA2 KI hAE h4 hdE hdw
      obtain ⟨x, hx⟩ : ∃ x, extC ss f E = x := ⟨_, rfl⟩
      rw [hx] at KE hr l1 l2 l3
      obtain ⟨x1, x2⟩ := x
      simp only at l1 l2 l3
      have hr : Hid (R = begC ss tag f E (p % (x2 : Int)) c1) := hr
      unfold ExPost at KE
      clear hx
      have KE : Hid (Calls Tryd.prog 59 #[.slice A ss.length cap, .agg #[.int .i64 E.kind, .string E.name, .int .i64 E.num, .slice A4 E.of.length cap4]] w2 fun e w' => e = .returned (.tuple #[.int .i64 (x1 : Nat), .int .i64 (x2 : Nat)]) ∧ Below w2.heap.size w2 w') := KE
      go_wp2_with fail
      refine KE.out.mono ?_
      rintro e w3 ⟨rfl, b3⟩
      have HL3 := Lib.hid (HL2.out.kept b3)
      have HA3 := Lib.hid (HAE.out.kept b3)
      have HT3 := Lib.hid (HT2.out.kept b3)
      have BX3 := BX2.out.kept (Fr.of_below b3 []) (by simp)
      have HF3 := Lib.hid (fr_bel HF2.out b3)
      have u3 : w3.cell? ⟨w.heap.size, 3, none⟩ = some (.slice (some ⟨b, off, none⟩) 1 cap2) := BX3.cell 3
      have i0 := (b3.cell (p := ⟨b, off, none⟩) hbl).trans j0
      have i1 := (b3.cell (p := ⟨b, off + 1, none⟩) hbl).trans j1
      have i2 := (b3.cell (p := ⟨b, off + 2, none⟩) hbl).trans j2
      have i3 := (b3.cell (p := ⟨b, off + 3, none⟩) hbl).trans j3
      clear b3 BX3 BX2 HL2 HAE HF2 HT2 KE t0 t1 t2 t3 j0 j1 j2 j3
      have hrem : p.tmod (x2 : Int) = p % (x2 : Int) := Int.tmod_eq_emod_of_nonneg p0
      have hm0 : 0 ≤ p % (x2 : Int) := Int.emod_nonneg _ (by omega)
      have hm1 : p % (x2 : Int) < (x2 : Int) := Int.emod_lt_of_pos _ (by omega)
      have hne : ¬ ((x2 : Int) = 0) := by omega
      have hn0 : ¬ (x2 = 0) := by omega
      have KD3 := Lib.hid (KD.out w3.drew (HA3.out.kept (Below.refl _ _).drew) (HL3.out.kept (Below.refl _ _).drew) (p % (x2 : Int)) hm0 (by omega) (HT3.out.kept (Below.refl _ _).drew))
      have hbg : b ≠ g := by
        rintro rfl
        have := one_cell HL3.out.bg i1
        omega
      have hwg : w.heap.size ≠ g := by omega
      have hb3 : b < w3.heap.size := cell_lt i0
      have hw3 : w.heap.size < w3.heap.size := cell_lt u3
      have keep : Hid (∀ w4, Fr [g] w3.drew w4 → w4.cell? ⟨w.heap.size, 3, none⟩ = some (.slice (some ⟨b, off, none⟩) 1 cap2) ∧ w4.cell? ⟨b, off, none⟩ = some (.int .i64 E.kind) ∧ w4.cell? ⟨b, off + 1, none⟩ = some (.string E.name) ∧ w4.cell? ⟨b, off + 2, none⟩ = some (.int .i64 E.num) ∧ w4.cell? ⟨b, off + 3, none⟩ = some (.slice A4 E.of.length cap4)) :=
        Lib.hid (fun w4 hf => ⟨(cell_fr hf hw3 hwg).trans u3, (cell_fr hf hb3 hbg).trans i0, (cell_fr hf hb3 hbg).trans i1, (cell_fr hf hb3 hbg).trans i2, (cell_fr hf hb3 hbg).trans i3⟩)
      clear KD
      go_wp2_with fail
      go_region_held3 (fun w' => w'.cell? ⟨w.heap.size, 3, none⟩ = some (.slice (some ⟨b, off, none⟩) 1 cap2) ∧ w'.cell? ⟨b, off, none⟩ = some (.int .i64 E.kind) ∧ w'.cell? ⟨b, off + 1, none⟩ = some (.string E.name) ∧ w'.cell? ⟨b, off + 2, none⟩ = some (.int .i64 E.num) ∧ w'.cell? ⟨b, off + 3, none⟩ = some (.slice A4 E.of.length cap4))
        (first | exact ⟨u3, i0, i1, i2, i3⟩ | exact keep.out _ hf4 | go_keep)
        ((go_at_call 61; refine KD3.out.mono ?_; rintro e w4 ⟨rfl, hle4, hf4⟩))
      have HL4 := Lib.hid hle4
      have HF4 := Lib.hid (fr_fr (fr_bel HF3.out (Below.refl _ _).drew) hf4)
      clear hle4 hf4
      go_wp2_with fail
      refine bodyPost_ret (results_none rfl _ _ _) rfl ?_
      exact ⟨rfl, by rw [hr.out]; exact HL4.out, HF4.out⟩
    · have HR := Lib.hid (HR.out.trans (if_neg hk))
      have d4 : (k == 4) = false := by simpa using hk
      have KN := Lib.hid (HA2.out.within (cap := cap))
      have few := Lib.hid HA2.out.few
      have HS2 := Lib.hid (fun w' (hb : Below w2.heap.size w2 w') => HA2.out.at_.kept hb)
      have hl8 : (withinL ss (.mk k name num of)).length ≤ 8 := hl8
      clear HA2 BX2
      generalize withinL ss (.mk k name num of) = L at *
      obtain ⟨Q, hQ⟩ : ∃ Q, pickC ss f L p = Q := ⟨_, rfl⟩
      have HR : Hid (R = viaB (begC ss tag f) Q c1) := Lib.hid (by rw [← hQ]; exact HR.out)
      have HQ := Lib.hid hQ
      clear hQ
      go_wp2_with fail
      refine KN.out.mono ?_
      rintro e w3 ⟨B, cb, rfl, b3, hty, hLm⟩
      have D0 : Hid (BL w w3 n A cap ss g0 gt g tag f B L 0 p c1 Q) := Lib.hid ⟨fr_bel HF2.out b3, HL2.out.kept b3, HS2.out _ b3, hty, HQ.out⟩
      have D0 := Lib.hid (And.intro D0.out (HT2.out.kept b3))
      clear b3 hty KN HF2 HL2 HS2 HQ HT2 t0 t1 t2 t3
      go_wp2_with fail
      go_loopw [2, 44] (fun pv i wr => ∃ (j : Nat) (p' : Int), j ≤ L.length ∧ i = .int .i64 j ∧ pv = .int .i64 p' ∧ 0 ≤ p' ∧ p' ≤ 100000 ∧ Hid (BL w wr n A cap ss g0 gt g tag f B L j p' c1 Q ∧ TB w0 wr g)) (fun _ i _ => L.length - (intOf i).toNat)
      case atStart => exact ⟨0, p, by omega, rfl, rfl, by omega, by omega, D0⟩
      case round =>
        obtain ⟨j, p', hj, rfl, rfl, r0, r1, hdlt⟩ := hrel
        have hdl := Lib.hid hdlt.out.1
        have htl := Lib.hid hdlt.out.2
        clear hdlt
        rename_i wr _
        by_cases hjl : j < L.length
        · have e1 : decide ((j : Int) < (L.length : Int)) = true := decide_eq_true (by omega)
          obtain ⟨bb, off, rfl, hbl⟩ := hdl.out.ty.1 (by omega)
          obtain ⟨c0, c1', c2', c3, k0, k1', k2, k3, hT⟩ := hdl.out.ty.2 j hjl bb off rfl
          have hT2 := hT
          obtain ⟨l1, l2, hz, l3⟩ := HEX.out _ (List.getElem_mem hjl)
          have AS := Lib.hid (fun (b : Nat) (h2 : (b : Int) = (extC ss f L[j]).2) => by
            have := (pick_step (ss := ss) (f := f) hjl p').symm.trans hdl.out.eq
            rw [← h2] at this
            exact this)
          have BA := Lib.hid (fun o => (Below.refl wr.heap.size wr).alloc (Nat.le_refl _) o)
          have HK := Lib.hid (fun w' (hb : Below wr.heap.size wr w') => And.intro (hdl.out.kept hb) (htl.out.kept hb))
          have HAE := Lib.hid (fun w' (hb : Below wr.heap.size wr w') => (⟨hdl.out.at_.kept hb, hm, few.out, hT.kept hb, Nat.le_refl _⟩ : Arg w' n n A ss L[j] c0 c1' c2' c3))
          have KE := Lib.hid (fun w' (hb : Below wr.heap.size wr w') => (HAE.out w' hb).extent (cap := cap) f (by omega) hz)
          have KD := Lib.hid (fun w' (hb : Below wr.heap.size wr w') => KI.out L[j] _ _ _ _ w' p' c1 (HAE.out w' hb) hz (hdl.out.kept hb).le r0 r1 (hdw.out _ (List.getElem_mem hjl)) (htl.out.kept hb))
          have BXE := Lib.hid (fun o1 o2 o3 o4 => Box.new wr 51 #[o1, o2, o3, o4])
          generalize L[j] = E at *
          cases n with
          | zero => exact hT2.elim
          | succ n =>
          obtain ⟨rfl, _, rfl, _, rfl, _, A3, cap3, rfl, _, _, _⟩ := hT2
          clear hT hdl htl hz HAE
          obtain ⟨x, hx⟩ : ∃ x, extC ss f E = x := ⟨_, rfl⟩
          rw [hx] at KE AS l1 l2 l3
          obtain ⟨x1, x2⟩ := x
          simp only at l1 l2 l3 AS
          unfold ExPost at KE
          clear hx
          have AS := Lib.hid (AS.out x2 rfl)
          have BE := Lib.hid (BXE.out (.int .i64 E.kind) (.string E.name) (.int .i64 E.num) (.slice A3 E.of.length cap3))
          clear BXE
          go_wp2_with fail
          refine (KE.out _ (BA.out _)).mono ?_
          rintro e w4 ⟨rfl, b4⟩
          have hb4 := (BA.out _).trans (b4.mono (BA.out _).size)
          have HK4 := Lib.hid (HK.out _ hb4)
          have BE4 := BE.out.kept (Fr.of_below b4 []) (by simp)
          have u0 : w4.cell? ⟨wr.heap.size, 0, none⟩ = some (.int .i64 E.kind) := BE4.cell 0
          have u1 : w4.cell? ⟨wr.heap.size, 1, none⟩ = some (.string E.name) := BE4.cell 1
          have u2 : w4.cell? ⟨wr.heap.size, 2, none⟩ = some (.int .i64 E.num) := BE4.cell 2
          have u3 : w4.cell? ⟨wr.heap.size, 3, none⟩ = some (.slice A3 E.of.length cap3) := BE4.cell 3
          have KD4 := Lib.hid (KD.out _ hb4)
          clear b4 hb4 KE KD k0 k1' k2 k3 HK BA BE BE4
          by_cases hlt : p' < (x2 : Int)
          · have d2 : decide (p' < (x2 : Int)) = true := decide_eq_true hlt
            have hq := (if_pos hlt).symm.trans AS.out
            have hr : Hid (R = begC ss tag f E p' c1) := Lib.hid (by have := HR.out; rw [← hq] at this; exact this)
            clear hq AS
            go_wp2_with fail
            refine KD4.out.mono ?_
            rintro e w5 ⟨rfl, hle5, hf5⟩
            have HL5 := Lib.hid hle5
            have HF5 := Lib.hid (fr_fr HK4.out.1.fr hf5)
            clear hle5 hf5 KD4
            go_wp2_with fail
            refine bodyPost_ret (results_none rfl _ _ _) rfl ?_
            exact ⟨rfl, by rw [hr.out]; exact HL5.out, HF5.out⟩
          · have d2 : decide (p' < (x2 : Int)) = false := decide_eq_false hlt
            have hq := Lib.hid ((if_neg hlt).symm.trans AS.out)
            clear AS KD4 u0 u1 u2 u3
            go_wp2_with fail
            go_roundw
            case rel => exact ⟨j + 1, p' - x2, by omega, by go_num, rfl, by omega, by omega, Lib.hid (And.intro (HK4.out.1.next hq.out) HK4.out.2)⟩
            case measure => simp [intOf]; omega
        · obtain rfl : j = L.length := by omega
          have e1 : decide ((L.length : Int) < (L.length : Int)) = false := decide_eq_false (by omega)
          have hq : Q = none := by have := hdl.out.eq; rw [List.drop_length] at this; exact this.symm
          have hr : Hid (R = c1) := Lib.hid (by have := HR.out; rw [hq] at this; exact this)
          clear hq
          go_wp2_with fail
          go_end0
          exact ⟨rfl, by rw [hr.out]; exact hdl.out.le, hdl.out.fr⟩
end Go.Proofs.YtmahoppjefhnjaaDoor.sh
