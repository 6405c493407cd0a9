/-
  Shape: what is wrong with a type, whatever lies within it: the closure of Check.
-/
import Derived.Test.YtmahoppjefhnjaaDoorSh8
namespace Go.Proofs.YtmahoppjefhnjaaDoor.sh
open Go.RowKit Go.Sort Go.Proofs.YtmahoppjefhnjaaDoor.mem

/-- the first that is wrong -/
def firstC (l : List Ty) (g : Ty → Int) : Int := match l with | [] => 0 | T :: r => if g T ≠ 0 then g T else firstC r g

/-- what is wrong with a type, so many deep at most -/
def faultC (ss : List St) : Nat → Ty → Int
  | 0, T => wrongC ss T 5
  | f + 1, T => if wrongC ss T (4 - (f : Int)) ≠ 0 then wrongC ss T (4 - (f : Int)) else firstC (withinL ss T) (faultC ss f)

theorem firstC_step {l : List Ty} {g : Ty → Int} {k : Nat} (hk : k < l.length) : firstC (l.drop k) g = if g l[k] ≠ 0 then g l[k] else firstC (l.drop (k + 1)) g := by
  rw [List.drop_eq_getElem_cons hk]
  rfl

/-- what a closure of Check has captured, in memory -/
structure CE (w : World) (n : Nat) (A : Option Addr) (cap : Nat) (ss : List St) (g1 g2 : Nat) : Prop where
  b1 : Box w g1 55 #[.slice A ss.length cap]
  b2 : Box w g2 106 #[.func (.func 75) #[] #[.pointer (some ⟨g1, 0, none⟩), .pointer (some ⟨g2, 0, none⟩)]]
  at_ : SsAt w n A ss

theorem CE.kept {w w' : World} {n : Nat} {A : Option Addr} {cap : Nat} {ss : List St} {g1 g2 : Nat} (h : CE w n A cap ss g1 g2) (hb : Below w.heap.size w w') : CE w' n A cap ss g1 g2 :=
  ⟨h.b1.kept (Fr.of_below hb []) (by simp), h.b2.kept (Fr.of_below hb []) (by simp), h.at_.kept hb⟩

/-- between two rounds -/
structure CR (w wr : World) (n : Nat) (A : Option Addr) (cap : Nat) (ss : List St) (g1 g2 : Nat) (B : Option Addr) (L : List Ty) (k : Nat) (R : Int) (g : Ty → Int) : Prop where
  on : Below w.heap.size w wr
  ce : CE wr n A cap ss g1 g2
  ty : TysAt wr n B L
  eq : firstC (L.drop k) g = R

set_option maxRecDepth 100000 in
set_option maxHeartbeats 1000000 in
theorem fault_any (n : Nat) (A : Option Addr) (cap : Nat) (ss : List St) (hm : ss.length ≤ 9223372036854775807) (hfew : ∀ st ∈ ss, st.2.length ≤ 1000) (g1 g2 : Nat) : ∀ (f : Nat), f ≤ 4 → ∀ (T : Ty) (q : Nat) (v0 v1 v2 v3 : Value) (w : World), q ≤ n → TyAt w q T v0 v1 v2 v3 → CE w n A cap ss g1 g2 →
    Calls Tryd.prog 75 #[.agg #[v0, v1, v2, v3], .int .i64 (5 - (f : Int)), .pointer (some ⟨g1, 0, none⟩), .pointer (some ⟨g2, 0, none⟩)] w (WrPost (faultC ss f T) w) := by
  intro f
  induction f with
  | zero =>
    intro _ T q v0 v1 v2 v3 w hq ht hce
    have e5 : (5 : Int) - ((0 : Nat) : Int) = 5 := rfl
    rw [e5]
    have KW := Lib.hid (fun w' (hb : Below w.heap.size w w') => wrong_any w' n q A cap ss (hce.at_.kept hb) hm T v0 v1 v2 v3 (ht.kept hb) 5)
    have B0 := Lib.hid (fun o => (Below.refl w.heap.size w).alloc (Nat.le_refl _) o)
    have c1 : ∀ o, (w.alloc o).cell? ⟨g1, 0, none⟩ = some (.slice A ss.length cap) := fun o => (hce.kept (B0.out o)).b1.cell 0
    have hv : faultC ss 0 T = 10 := by unfold faultC wrongC; rw [if_pos (by decide)]
    have hv2 : wrongC ss T 5 = 10 := by unfold wrongC; rw [if_pos (by decide)]
    rw [hv]
    rw [hv2] at KW
    clear hce hv hv2
    cases q with
    | zero => exact ht.elim
    | succ q =>
    obtain ⟨rfl, _, rfl, _, rfl, _, A2, cap2, rfl, _, _, _⟩ := ht
    have c1' := c1 (.cells #[.int .i64 T.kind, .string T.name, .int .i64 T.num, .slice A2 T.of.length cap2] 51)
    clear c1
    unfold WrPost at KW ⊢
    go_enter Tryd.func75, Tryd.ntmps75
    go_wp2_with fail
    refine (KW.out _ (B0.out _)).mono ?_
    rintro e w2 ⟨rfl, b2⟩
    have HB := Lib.hid ((B0.out _).trans (b2.mono (B0.out _).size))
    clear b2
    go_wp2_with fail
    go_ret
    exact ⟨rfl, HB.out⟩
  | succ f ih =>
    intro hf T q v0 v1 v2 v3 w hq ht hce
    obtain ⟨D, hD⟩ : ∃ D : Int, D = 4 - (f : Int) := ⟨_, rfl⟩
    have e5 : (5 : Int) - ((f + 1 : Nat) : Int) = D := by omega
    rw [e5]
    have hD1 : D + 1 = 5 - (f : Int) := by omega
    have hDb : 0 ≤ D ∧ D ≤ 4 := by omega
    have KI : Hid (∀ (T : Ty) (v0 v1 v2 v3 : Value) (w : World), TyAt w n T v0 v1 v2 v3 → CE w n A cap ss g1 g2 →
        Calls Tryd.prog 75 #[.agg #[v0, v1, v2, v3], .int .i64 (D + 1), .pointer (some ⟨g1, 0, none⟩), .pointer (some ⟨g2, 0, none⟩)] w (WrPost (faultC ss f T) w)) :=
      Lib.hid (fun T v0 v1 v2 v3 w ht hce => by rw [hD1]; exact ih (by omega) T n v0 v1 v2 v3 w (Nat.le_refl _) ht hce)
    have hw1 : IntKind.i64.wrap (D + 1) = D + 1 := IntWalk.i64_in _ (by omega)
    have KW := Lib.hid (fun w' (hb : Below w.heap.size w w') => wrong_any w' n q A cap ss (hce.at_.kept hb) hm T v0 v1 v2 v3 (ht.kept hb) D)
    have KN := Lib.hid (fun w' (hb : Below w.heap.size w w') => within_any w' n q A cap ss (hce.at_.kept hb) hm T v0 v1 v2 v3 (ht.kept hb) hq hfew)
    have B0 := Lib.hid (fun o => (Below.refl w.heap.size w).alloc (Nat.le_refl _) o)
    have HC := Lib.hid (fun w' (hb : Below w.heap.size w w') => hce.kept hb)
    obtain ⟨R, hR⟩ : ∃ R, faultC ss (f + 1) T = R := ⟨_, rfl⟩
    rw [hR]
    rw [faultC, ← hD] at hR
    have HR := Lib.hid hR
    clear hR ih hce hD hD1 e5
    generalize wrongC ss T D = d at *
    cases q with
    | zero => exact ht.elim
    | succ q =>
    obtain ⟨rfl, _, rfl, _, rfl, _, A2, cap2, rfl, _, _, _⟩ := ht
    have c1 := (HC.out _ (B0.out (.cells #[.int .i64 T.kind, .string T.name, .int .i64 T.num, .slice A2 T.of.length cap2] 51))).b1.cell 0
    have zl : w.heap.size < (w.alloc (.cells #[.int .i64 T.kind, .string T.name, .int .i64 T.num, .slice A2 T.of.length cap2] 51)).heap.size := by simp
    have BX : Hid (Box (w.alloc (.cells #[.int .i64 T.kind, .string T.name, .int .i64 T.num, .slice A2 T.of.length cap2] 51)) w.heap.size 51 #[.int .i64 T.kind, .string T.name, .int .i64 T.num, .slice A2 T.of.length cap2]) := Lib.hid (Box.new w _ _)
    have c1 : (w.alloc (.cells #[.int .i64 T.kind, .string T.name, .int .i64 T.num, .slice A2 T.of.length cap2] 51)).cell? ⟨g1, 0, none⟩ = some (.slice A ss.length cap) := c1
    unfold WrPost at KW KI ⊢
    go_enter Tryd.func75, Tryd.ntmps75
    go_wp2_with fail
    refine (KW.out _ (B0.out _)).mono ?_
    rintro e w2 ⟨rfl, b2⟩
    have HB2 := Lib.hid ((B0.out _).trans (b2.mono (B0.out _).size))
    have BX2 := Lib.hid (BX.out.kept (Fr.of_below b2 []) (by simp))
    clear b2 c1 BX KW
    by_cases hd : d = 0
    · subst hd
      have HR := Lib.hid ((if_neg (by simp)).symm.trans HR.out)
      have c1 : w2.cell? ⟨g1, 0, none⟩ = some (.slice A ss.length cap) := (HC.out _ HB2.out).b1.cell 0
      have t0 : w2.cell? ⟨w.heap.size, 0, none⟩ = some (.int .i64 T.kind) := BX2.out.cell 0
      have t1 : w2.cell? ⟨w.heap.size, 1, none⟩ = some (.string T.name) := BX2.out.cell 1
      have t2 : w2.cell? ⟨w.heap.size, 2, none⟩ = some (.int .i64 T.num) := BX2.out.cell 2
      have t3 : w2.cell? ⟨w.heap.size, 3, none⟩ = some (.slice A2 T.of.length cap2) := BX2.out.cell 3
      go_wp2_with fail
      refine (KN.out _ HB2.out).mono ?_
      rintro e w3 ⟨B, cb, rfl, b3, hty, hLm⟩
      have HB3 := Lib.hid (HB2.out.trans (b3.mono HB2.out.size))
      have C0 : Hid (CR w w3 n A cap ss g1 g2 B (withinL ss T) 0 R (faultC ss f)) := Lib.hid ⟨HB3.out, HC.out _ HB3.out, hty, HR.out⟩
      clear b3 hty c1 t0 t1 t2 t3 HB2 HB3 BX2 HR KN
      generalize withinL ss T = L at *
      generalize faultC ss f = g at *
      go_wp2_with fail
      go_loopw [22] (fun i wr => ∃ k : Nat, k ≤ L.length ∧ i = .int .i64 k ∧ Hid (CR w wr n A cap ss g1 g2 B L k R g)) (fun i _ => L.length - (intOf i).toNat)
      case atStart => exact ⟨0, by omega, rfl, C0⟩
      case round =>
        obtain ⟨k, hk, rfl, hc⟩ := hrel
        rename_i wr _
        by_cases hkl : k < L.length
        · have e1 : decide ((k : Int) < (L.length : Int)) = true := decide_eq_true (by omega)
          obtain ⟨b, off, rfl, hbl⟩ := hc.out.ty.1 (by omega)
          obtain ⟨c0, c1, c2, c3, k0, k1, k2, k3, hT⟩ := hc.out.ty.2 k hkl b off rfl
          have hT2 := hT
          have FS := Lib.hid (firstC_step (g := g) hkl)
          have HT := Lib.hid (fun o => TyAt.kept ((Below.refl wr.heap.size wr).alloc (Nat.le_refl _) o) _ _ _ _ _ _ hT)
          have HCE := Lib.hid (fun o => hc.out.ce.kept ((Below.refl wr.heap.size wr).alloc (Nat.le_refl _) o))
          have BA := Lib.hid (fun o => (Below.refl wr.heap.size wr).alloc (Nat.le_refl _) o)
          generalize L[k] = E at *
          cases n with
          | zero => exact hT2.elim
          | succ n =>
          obtain ⟨rfl, _, rfl, _, rfl, _, A3, cap3, rfl, _, _, _⟩ := hT2
          have f2 := (HCE.out (.cells #[.int .i64 E.kind, .string E.name, .int .i64 E.num, .slice A3 E.of.length cap3] 51)).b2.cell 0
          have f2 : (wr.alloc (.cells #[.int .i64 E.kind, .string E.name, .int .i64 E.num, .slice A3 E.of.length cap3] 51)).cell? ⟨g2, 0, none⟩ = some (.func (.func 75) #[] #[.pointer (some ⟨g1, 0, none⟩), .pointer (some ⟨g2, 0, none⟩)]) := f2
          clear hT
          go_wp2_with fail
          refine (KI.out E _ _ _ _ _ (HT.out _) (HCE.out _)).mono ?_
          rintro e w4 ⟨rfl, b4⟩
          have hb4 := (BA.out _).trans (b4.mono (BA.out _).size)
          have HB4 := Lib.hid (hc.out.on.trans (hb4.mono hc.out.on.size))
          have HCE4 := Lib.hid (hc.out.ce.kept hb4)
          have HTY4 := Lib.hid (hc.out.ty.kept hb4)
          have HEQ := Lib.hid (FS.out.symm.trans hc.out.eq)
          clear hb4 b4 f2 k0 k1 k2 k3 hc FS HT HCE BA
          generalize hgE : g E = d2 at *
          by_cases hd2 : d2 = 0
          · subst hd2
            have HEQ := Lib.hid ((if_neg (by simp)).symm.trans HEQ.out)
            clear hgE
            go_wp2_with fail
            go_roundw
            case rel => exact ⟨k + 1, by omega, by go_num, Lib.hid ⟨HB4.out, HCE4.out, HTY4.out, HEQ.out⟩⟩
            case measure => simp [intOf]; omega
          · have hr := Lib.hid ((if_pos hd2).symm.trans HEQ.out)
            have x1 : (d2 != 0) = true := by simpa using hd2
            clear hgE
            go_wp2_with fail
            go_ret
            exact ⟨by rw [← hr.out]; rfl, HB4.out⟩
        · obtain rfl : k = L.length := by omega
          have e1 : decide ((L.length : Int) < (L.length : Int)) = false := decide_eq_false (by omega)
          have hr : Hid ((0 : Int) = R) := Lib.hid (by have := hc.out.eq; rw [List.drop_length] at this; exact this)
          go_wp2_with fail
          go_ret
          exact ⟨by rw [← hr.out]; rfl, hc.out.on⟩
    · have hr := Lib.hid ((if_pos hd).symm.trans HR.out)
      have x1 : (d != 0) = true := by simpa using hd
      clear KN HC
      go_wp2_with fail
      go_ret
      exact ⟨by rw [← hr.out]; rfl, HB2.out⟩
end Go.Proofs.YtmahoppjefhnjaaDoor.sh
