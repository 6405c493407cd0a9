/-
  Shape: the closure of Cell.
-/
import Derived.Test.YtmahoppjefhnjaaDoorShD
namespace Go.Proofs.YtmahoppjefhnjaaDoor.sh
open Go.RowKit Go.Sort Go.Proofs.YtmahoppjefhnjaaDoor.mem

theorem fr_bel {g : Nat} {a b c : World} (h : Fr [g] a b) (k : Below b.heap.size b c) : Fr [g] a c := h.trans (Fr.of_below k []) (fun q hq => Or.inl hq) (by simp)
theorem bel_fr {g : Nat} {a b : World} (k : Below a.heap.size a b) : Fr [g] a b := Fr.of_below k [g]
theorem fr_fr {g : Nat} {a b c : World} (h : Fr [g] a b) (k : Fr [g] b c) : Fr [g] a c := h.trans k (fun q hq => Or.inl hq) (fun q hq => Or.inl hq)

theorem ahead_step' {ss : List St} {f : Nat} {L : List Ty} {j : Nat} (hj : j < L.length) (p c : Int) : aheadC ss f (L.drop j) p c = if p < (extC ss f L[j]).2 then c else aheadC ss f (L.drop (j + 1)) (p - (extC ss f L[j]).2) (c + (extC ss f L[j]).1) := by
  rw [List.drop_eq_getElem_cons hj]
  rfl

/-- between two rounds -/
structure CL (w wr : World) (n : Nat) (A : Option Addr) (cap : Nat) (ss : List St) (g1 g f : Nat) (B : Option Addr) (L : List Ty) (j : Nat) (p c R : Int) : Prop where
  fr : Fr [g] w wr
  le : LE wr n A cap ss g1 g c
  at_ : SsAt wr n A ss
  ty : TysAt wr n B L
  eq : aheadC ss f (L.drop j) p c = R

theorem CL.kept {w wr w2 : World} {n : Nat} {A : Option Addr} {cap : Nat} {ss : List St} {g1 g f : Nat} {B : Option Addr} {L : List Ty} {j : Nat} {p c R : Int} (h : CL w wr n A cap ss g1 g f B L j p c R) (hb : Below wr.heap.size wr w2) : CL w w2 n A cap ss g1 g f B L j p c R :=
  ⟨fr_bel h.fr hb, h.le.kept hb, h.at_.kept hb, h.ty.kept hb, h.eq⟩

theorem CL.next {w wr : World} {n : Nat} {A : Option Addr} {cap : Nat} {ss : List St} {g1 g f : Nat} {B : Option Addr} {L : List Ty} {j : Nat} {p c R p' c' : Int} (h : CL w wr n A cap ss g1 g f B L j p c R) (he : aheadC ss f (L.drop (j + 1)) p' c' = R) : CL w (wr.setCell ⟨g, 0, none⟩ (.int .i64 c')) n A cap ss g1 g f B L (j + 1) p' c' R := by
  have hs : Fr [g] wr (wr.setCell ⟨g, 0, none⟩ (.int .i64 c')) := (Fr.refl [g] wr).setCell (p := ⟨g, 0, none⟩) (Or.inl (by simp)) _
  exact ⟨fr_fr h.fr hs, h.le.set c', h.at_.fr h.le.bg hs, h.ty.fr h.le.bg hs, he⟩

def C1Post (w : World) (n : Nat) (A : Option Addr) (cap : Nat) (ss : List St) (g1 g : Nat) (c : Int) (e : Ending) (w' : World) : Prop := e = .returned (.tuple #[]) ∧ LE w' n A cap ss g1 g c ∧ Fr [g] w w'

set_option maxRecDepth 100000 in
set_option maxHeartbeats 1000000 in
theorem cell1_any (w : World) (n q : Nat) (A : Option Addr) (cap : Nat) (ss : List St) (T : Ty) (v0 v1 v2 v3 : Value) (h : Arg w n q A ss T v0 v1 v2 v3) (f : Nat) (hf : f ≤ 4) (hin : ∀ E ∈ withinL ss T, faultC ss f E = 0) (hl8 : (withinL ss T).length ≤ 8)
    (g1 g : Nat) (p c : Int) (hle : LE w n A cap ss g1 g c) (hp : 0 ≤ p ∧ p ≤ 100000) (hc : 0 ≤ c ∧ c ≤ 10000000) :
    Calls Tryd.prog 62 #[.agg #[v0, v1, v2, v3], .int .i64 p, .pointer (some ⟨g1, 0, none⟩), .pointer (some ⟨g, 0, none⟩)] w (C1Post w n A cap ss g1 g (cellStep ss f T p c)) := by
  have KN := Lib.hid (fun w' (hb : Below w.heap.size w w') => (h.kept hb).within (cap := cap))
  have HA := Lib.hid h
  have hm := h.hm
  obtain ⟨A2, cap2, rfl, rfl, rfl, rfl⟩ := h.cells
  have B0 := Lib.hid (fun o => (Below.refl w.heap.size w).alloc (Nat.le_refl _) o)
  have BX : Hid (Box (w.alloc (.cells #[.int .i64 T.kind, .string T.name, .int .i64 T.num, .slice A2 T.of.length cap2] 51)) w.heap.size 51 #[.int .i64 T.kind, .string T.name, .int .i64 T.num, .slice A2 T.of.length cap2]) := Lib.hid (Box.new w _ _)
  have HL := Lib.hid (fun w' (hb : Below w.heap.size w w') => hle.kept hb)
  have HSS := Lib.hid (fun w' (hb : Below w.heap.size w w') => h.at_.kept hb)
  have HEX : Hid (∀ E ∈ withinL ss T, (extC ss f E).1 ≤ 65536 ∧ (extC ss f E).2 ≤ 65536 ∧ faultC ss f E = 0) := Lib.hid (fun E hE => by
    have h1 := ext_le f E (hin E hE)
    have h2 : 16 ^ f ≤ 16 ^ 4 := Nat.pow_le_pow_right (by omega) (by omega)
    have h3 : (16 : Nat) ^ 4 = 65536 := by decide
    exact ⟨by omega, by omega, hin E hE⟩)
  obtain ⟨R, hR⟩ : ∃ R, cellStep ss f T p c = R := ⟨_, rfl⟩
  rw [hR]
  unfold cellStep at hR
  have HR := Lib.hid hR.symm
  have few := Lib.hid h.few
  clear h hin hle hR
  have hl8' := Lib.hid hl8
  clear hl8
  obtain ⟨k, name, num, of⟩ := T
  simp only [Ty.kind, Ty.name, Ty.num, Ty.of] at *
  by_cases hk : k = 3
  · subst hk
    have HR := Lib.hid (HR.out.trans (if_neg (by simp)))
    have c1 : (w.alloc (.cells #[.int .i64 3, .string name, .int .i64 num, .slice A2 of.length cap2] 51)).cell? ⟨g1, 0, none⟩ = some (.slice A ss.length cap) := (HL.out _ (B0.out _)).b1.cell 0
    go_enter Tryd.func62, Tryd.ntmps62
    go_wp2_with fail
    refine (KN.out _ (B0.out _)).mono ?_
    rintro e w2 ⟨B, cb, rfl, b2, hty, hLm⟩
    have hb2 := (B0.out _).trans (b2.mono (B0.out _).size)
    have C0 : Hid (CL w w2 n A cap ss g1 g f B (withinL ss (.mk 3 name num of)) 0 p c R) := Lib.hid ⟨bel_fr hb2, HL.out _ hb2, HSS.out _ hb2, hty, HR.out.symm⟩
    clear b2 hb2 hty KN BX HL HSS HR c1
    generalize withinL ss (.mk 3 name num of) = L at *
    have hl8 := hl8'.out
    go_wp2_with fail
    go_loopw [1, 17] (fun pv i wr => ∃ (j : Nat) (p' c' : Int), j ≤ L.length ∧ i = .int .i64 j ∧ pv = .int .i64 p' ∧ 0 ≤ p' ∧ p' ≤ 100000 ∧ 0 ≤ c' ∧ c' ≤ 10000000 + 65536 * (j : Int) ∧ Hid (CL w wr n A cap ss g1 g f B L j p' c' R)) (fun _ i _ => L.length - (intOf i).toNat)
    case atStart => exact ⟨0, p, c, by omega, rfl, rfl, by omega, by omega, by omega, by omega, C0⟩
    case round =>
      obtain ⟨j, p', c', hj, rfl, rfl, p0, p1, q0, q1, hcl⟩ := hrel
      by_cases hjl : j < L.length
      · have e1 : decide ((j : Int) < (L.length : Int)) = true := decide_eq_true (by omega)
        obtain ⟨bb, off, rfl, hbl⟩ := hcl.out.ty.1 (by omega)
        obtain ⟨c0, c1', c2', c3, k0, k1', k2, k3, hT⟩ := hcl.out.ty.2 j hjl bb off rfl
        have hT2 := hT
        obtain ⟨l1, l2, hz⟩ := HEX.out _ (List.getElem_mem hjl)
        have AS := Lib.hid (fun a b (h1 : (a : Int) = (extC ss f L[j]).1) (h2 : (b : Int) = (extC ss f L[j]).2) => by
          have := (ahead_step' (ss := ss) (f := f) hjl p' c').symm.trans hcl.out.eq
          rw [← h1, ← h2] at this
          exact this)
        have BA := Lib.hid (fun o => (Below.refl wr.heap.size wr).alloc (Nat.le_refl _) o)
        have HK := Lib.hid (fun w' (hb : Below wr.heap.size wr w') => hcl.out.kept hb)
        have KE := Lib.hid (fun w' (hb : Below wr.heap.size wr w') => Arg.extent (cap := cap) ⟨hcl.out.at_.kept hb, hm, few.out, hT.kept hb, Nat.le_refl _⟩ f hf hz)
        have z1 : ∀ o, (wr.alloc o).cell? ⟨g1, 0, none⟩ = some (.slice A ss.length cap) := fun o => (HK.out _ (BA.out o)).le.b1.cell 0
        generalize L[j] = E at *
        cases n with
        | zero => exact hT2.elim
        | succ n =>
        obtain ⟨rfl, _, rfl, _, rfl, _, A3, cap3, rfl, _, _, _⟩ := hT2
        have z1 := z1 (.cells #[.int .i64 E.kind, .string E.name, .int .i64 E.num, .slice A3 E.of.length cap3] 51)
        clear hT hcl hz
        obtain ⟨x, hx⟩ : ∃ x, extC ss f E = x := ⟨_, rfl⟩
        rw [hx] at KE AS l1 l2
        obtain ⟨x1, x2⟩ := x
        simp only at l1 l2 AS
        unfold ExPost at KE
        clear hx
        have AS := Lib.hid (AS.out x1 x2 rfl rfl)
        go_wp2_with fail
        refine (KE.out _ (BA.out _)).mono ?_
        rintro e w4 ⟨rfl, b4⟩
        have HK4 := Lib.hid (HK.out _ ((BA.out _).trans (b4.mono (BA.out _).size)))
        clear b4 KE k0 k1' k2 k3 HK BA z1
        by_cases hlt : p' < (x2 : Int)
        · have d2 : decide (p' < (x2 : Int)) = true := decide_eq_true hlt
          have hr := Lib.hid ((if_pos hlt).symm.trans AS.out)
          go_wp2_with fail
          refine bodyPost_ret (results_none rfl _ _ _) rfl ?_
          exact ⟨rfl, by rw [← hr.out]; exact HK4.out.le, HK4.out.fr⟩
        · have d2 : decide (p' < (x2 : Int)) = false := decide_eq_false hlt
          have hr := Lib.hid ((if_neg hlt).symm.trans AS.out)
          have z2 : w4.cell? ⟨g, 0, none⟩ = some (.int .i64 c') := HK4.out.le.bg.cell 0
          have z3 : w4.frozen? ⟨g, 0, none⟩ = false := HK4.out.le.bg.free 0
          go_wp2_with fail
          go_roundw
          case rel => exact ⟨j + 1, p' - x2, c' + x1, by omega, by go_num, rfl, by omega, by omega, by omega, by omega, Lib.hid (HK4.out.next hr.out)⟩
          case measure => simp [intOf]; omega
      · obtain rfl : j = L.length := by omega
        have e1 : decide ((L.length : Int) < (L.length : Int)) = false := decide_eq_false (by omega)
        have hr : Hid (c' = R) := Lib.hid (by have := hcl.out.eq; rw [List.drop_length] at this; exact this)
        go_wp2_with fail
        go_end0
        exact ⟨rfl, by rw [← hr.out]; exact hcl.out.le, hcl.out.fr⟩
  · have HR := Lib.hid (HR.out.trans (if_pos hk))
    have d1 : (k == 3) = false := by simpa using hk
    have d1' : (k != 3) = true := by simpa using hk
    clear KN HA BX HSS HEX few
    go_enter Tryd.func62, Tryd.ntmps62
    go_wp2_with fail
    refine bodyPost_ret (results_none rfl _ _ _) rfl ?_
    exact ⟨rfl, by rw [HR.out]; exact HL.out _ (B0.out _), bel_fr (B0.out _)⟩
end Go.Proofs.YtmahoppjefhnjaaDoor.sh
