/-
  Shape: the reference's text of a type.
-/
import Derived.Test.YtmahoppjefhnjaaDoorSh3
import Derived.Lib.QuietBelow
import Derived.Deep.QuietTactic
namespace Go.Proofs.YtmahoppjefhnjaaDoor.sh
open Go.RowKit Go.Sort Go.Proofs.YtmahoppjefhnjaaDoor.mem Go.Proofs.YtmahoppjefhnjaaDoor.dt

theorem itoa_le (n : Int) (h0 : -9223372036854775808 ≤ n) (h1 : n ≤ 9223372036854775807) : (Lib.itoa n).length ≤ 21 := by
  rcases Int.lt_or_le n 0 with h | h
  · obtain ⟨u, rfl⟩ : ∃ u : Nat, n = -((u + 1 : Nat) : Int) := ⟨(-n - 1).toNat, by omega⟩
    rw [Lib.itoa_neg _ (by omega)]
    have := len_le (u + 1) (by omega)
    simp only [List.length_cons]
    omega
  · obtain ⟨u, rfl⟩ := Int.eq_ofNat_of_zero_le h
    rw [Lib.itoa_nonneg]
    have := len_le u (by omega)
    omega

/-- a text's call's answer, as one value -/
def TxPost (l : Nat) (T : Ty) (w : World) (e : Ending) (w' : World) : Prop := e = .returned (.string ⟨(txt l T).toArray⟩) ∧ Below w.heap.size w w'

theorem tx_of {l : Nat} {T : Ty} {w w' : World} {e : Ending} (h : TextPost l T w e w') : TxPost l T w e w' := by
  obtain ⟨s, rfl, hs, _, hb⟩ := h
  refine ⟨?_, hb⟩
  congr 2
  rw [← hs]

theorem wf64 {n : Int} (h : (Lit.int .i64 n).wf = true) : -9223372036854775808 ≤ n ∧ n ≤ 9223372036854775807 := by
  simpa [Lit.wf, IntKind.min, IntKind.max, IntKind.signed, IntKind.bits] using h

set_option maxRecDepth 100000 in
theorem rtext_array (l : Nat) (hl : l ≤ 10) (D : Int) (hD : D ≤ 4) (hD1 : 1 ≤ D) (name : ByteArray) (num : Int) (hw : -9223372036854775808 ≤ num ∧ num ≤ 9223372036854775807) (E : Ty) (w : World) (b off cap : Nat) (hb : b < w.heap.size)
    (c0 c1 c2 c3 : Value) (k0 : w.cell? ⟨b, off, none⟩ = some c0) (k1 : w.cell? ⟨b, off + 1, none⟩ = some c1) (k2 : w.cell? ⟨b, off + 2, none⟩ = some c2) (k3 : w.cell? ⟨b, off + 3, none⟩ = some c3) (n : Nat) (hE : TyAt w n E c0 c1 c2 c3) (hel : (txt l E).length ≤ 1000)
    (ih : ∀ w', Below w.heap.size w w' → Calls Tryd.prog 54 #[.agg #[c0, c1, c2, c3], .int .i64 (D + 1)] w' (TxPost l E w')) :
    Calls Tryd.prog 54 #[.agg #[.int .i64 4, .string name, .int .i64 num, .slice (some ⟨b, off, none⟩) 1 cap], .int .i64 D] w (TxPost (l + 1) (.mk 4 name num [E]) w) := by
  have e0 : decide ((4 : Int) < D) = false := decide_eq_false (by omega)
  have hv : txt (l + 1) (.mk 4 name num [E]) = [91] ++ Lib.itoa num ++ [93] ++ txt l E := by
    simp [txt, Ty.kind, Ty.of, Ty.num]
  have HV := Lib.hid hv
  clear hv
  cases n with
  | zero => exact hE.elim
  | succ n =>
  obtain ⟨rfl, _, rfl, _, rfl, _, A', cap', rfl, _, _, _⟩ := hE
  have B0 := below_box w (.cells #[.int .i64 4, .string name, .int .i64 num, .slice (some ⟨b, off, none⟩) 1 cap] 51)
  have p2 := cell_regrown (w := w.alloc (.cells #[.int .i64 4, .string name, .int .i64 num, .slice (some ⟨b, off, none⟩) 1 cap] 51)) (a := ⟨w.heap.size, 2, none⟩) (v := .int .i64 num) (by simp)
  have p3 := cell_regrown (w := w.alloc (.cells #[.int .i64 4, .string name, .int .i64 num, .slice (some ⟨b, off, none⟩) 1 cap] 51)) (a := ⟨w.heap.size, 3, none⟩) (v := .slice (some ⟨b, off, none⟩) 1 cap) (by simp)
  have q0 := cell_regrown ((B0.cell (p := ⟨b, off, none⟩) hb).trans k0)
  have q1 := cell_regrown ((B0.cell (p := ⟨b, off + 1, none⟩) hb).trans k1)
  have q2 := cell_regrown ((B0.cell (p := ⟨b, off + 2, none⟩) hb).trans k2)
  have q3 := cell_regrown ((B0.cell (p := ⟨b, off + 3, none⟩) hb).trans k3)
  have KA : Hid (∀ (W : World) (d : Nat) (os : Array Obj), Calls Tryd.prog 74 #[.int .i64 num] (grow (redrawn W d) os) fun e w'' => e = .returned (.string ⟨(Lib.itoa num).toArray⟩) ∧ ∃ p : Regrown, w'' = grow (redrawn W p.d) p.os) := Lib.hid (fun W d os => Calls.regrown_of (rtext_any num _ hw.1 hw.2))
  have KB : Hid (∀ (d : Nat) (os : Array Obj), Calls Tryd.prog 54 #[.agg #[.int .i64 E.kind, .string E.name, .int .i64 E.num, .slice A' E.of.length cap'], .int .i64 (D + 1)] (grow (redrawn (w.alloc (.cells #[.int .i64 4, .string name, .int .i64 num, .slice (some ⟨b, off, none⟩) 1 cap] 51)) d) os) fun e w'' => e = .returned (.string ⟨(txt l E).toArray⟩) ∧ ∃ p : Regrown, w'' = grow (redrawn (w.alloc (.cells #[.int .i64 4, .string name, .int .i64 num, .slice (some ⟨b, off, none⟩) 1 cap] 51)) p.d) p.os) :=
    Lib.hid (fun d os => Calls.regrown_of (ih _ (B0.trans ((below_regrown _ d os).mono B0.size))))
  have hil := itoa_le num hw.1 hw.2
  have FB : Hid (∀ (d : Nat) (os : Array Obj), Below w.heap.size w (grow (redrawn (w.alloc (.cells #[.int .i64 4, .string name, .int .i64 num, .slice (some ⟨b, off, none⟩) 1 cap] 51)) d) os)) := Lib.hid (fun d os => B0.trans ((below_regrown _ d os).mono B0.size))
  unfold TxPost
  rw [HV.out]
  clear ih hw hb k0 k1 k2 k3 B0 HV
  generalize txt l E = X at *
  generalize Lib.itoa num = I at *
  have z1 : ¬ 9223372036854775807 < (ByteArray.mk #[91]).size + I.length := by show ¬ _ < 1 + I.length; omega
  have z2 : ¬ 9223372036854775807 < 1 + I.length := by omega
  have s1 : (ByteArray.mk #[91] ++ ByteArray.mk I.toArray) = ByteArray.mk ([91] ++ I).toArray := ByteArray.mk_append_mk [91] I
  have s2 : (ByteArray.mk ([91] ++ I).toArray ++ ByteArray.mk #[93]) = ByteArray.mk ([91] ++ I ++ [93]).toArray := ByteArray.mk_append_mk _ [93]
  have s3 : (ByteArray.mk ([91] ++ I ++ [93]).toArray ++ ByteArray.mk X.toArray) = ByteArray.mk ([91] ++ I ++ [93] ++ X).toArray := ByteArray.mk_append_mk _ _
  have l1 : ([91] ++ I).length ≤ 30 := by rw [List.length_append]; simp; omega
  have l2 : ([91] ++ I ++ [93]).length ≤ 40 := by rw [List.length_append]; simp at l1 ⊢; omega
  have S1 := Lib.hid s1
  have S2 := Lib.hid s2
  have S3 := Lib.hid s3
  clear s1 s2 s3
  generalize [91] ++ I ++ [93] ++ X = R at *
  generalize [91] ++ I ++ [93] = J2 at *
  generalize [91] ++ I = J1 at *
  have s1 := S1.out
  have s2 := S2.out
  have s3 := S3.out
  have y1 : ¬ 9223372036854775807 < J1.length + 1 := by omega
  have y2 : ¬ 9223372036854775807 < J2.length + X.length := by omega
  have hwd : IntKind.i64.wrap (D + 1) = D + 1 := IntWalk.i64_in _ (by omega)
  have d1 : ((4 : Int) == 1) = false := by decide
  go_enter Tryd.func54, Tryd.ntmps54
  go_wp2_with fail
  refine wp_region_quiet_below (by kernel_rfl) (by kernel_rfl) ?_
  repeat (quiet_step (first | (with_reducible exact KA.out _ _ _) | (with_reducible exact KB.out _ _)))
  refine wpQuiet_nil ?_
  intro _ hw'
  obtain ⟨⟨dq, osq⟩, hw''⟩ := hw'
  subst hw''
  have hfin := FB.out dq osq
  go_wp2_with fail
  go_ret
  exact ⟨rfl, hfin⟩
end Go.Proofs.YtmahoppjefhnjaaDoor.sh
