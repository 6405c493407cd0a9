/-
  Shape: the reference's text of whatever type, and its tag.
-/
import Derived.Test.YtmahoppjefhnjaaDoorSh4
namespace Go.Proofs.YtmahoppjefhnjaaDoor.sh
open Go.RowKit Go.Sort Go.Proofs.YtmahoppjefhnjaaDoor.mem Go.Proofs.YtmahoppjefhnjaaDoor.dt

/-- an array's element, in memory -/
theorem elem_at {W : World} {n : Nat} {k : Int} {name : ByteArray} {num : Int} {E : Ty} {v0 v1 v2 v3 : Value} (h : TyAt W n (.mk k name num [E]) v0 v1 v2 v3) :
    ∃ m b off cap c0 c1 c2 c3, v0 = .int .i64 k ∧ v1 = .string name ∧ v2 = .int .i64 num ∧ v3 = .slice (some ⟨b, off, none⟩) 1 cap ∧ (-9223372036854775808 ≤ num ∧ num ≤ 9223372036854775807) ∧ b < W.heap.size ∧
      W.cell? ⟨b, off, none⟩ = some c0 ∧ W.cell? ⟨b, off + 1, none⟩ = some c1 ∧ W.cell? ⟨b, off + 2, none⟩ = some c2 ∧ W.cell? ⟨b, off + 3, none⟩ = some c3 ∧ TyAt W m E c0 c1 c2 c3 := by
  cases n with
  | zero => exact h.elim
  | succ n =>
  obtain ⟨rfl, _, rfl, _, rfl, hw, A, cap, rfl, h7, h8, h9⟩ := h
  obtain ⟨b, off, rfl, hb⟩ := h8 (by simp [Ty.of])
  obtain ⟨c0, c1, c2, c3, k0, k1, k2, k3, hE⟩ := h9 0 (by simp [Ty.of]) b off rfl
  rw [Nat.zero_mul, Nat.add_zero] at k0 k1 k2 k3
  exact ⟨n, b, off, cap, c0, c1, c2, c3, rfl, rfl, rfl, rfl, wf64 hw, hb, k0, k1, k2, k3, hE⟩

theorem ty_wf {W : World} {n : Nat} {T : Ty} {v0 v1 v2 v3 : Value} (h : TyAt W n T v0 v1 v2 v3) : -9223372036854775808 ≤ T.num ∧ T.num ≤ 9223372036854775807 := by
  cases n with
  | zero => exact h.elim
  | succ n =>
  obtain ⟨_, _, _, _, _, hw, _⟩ := h
  exact wf64 hw

theorem one_of {l : List Ty} (h : l.length = 1) : ∃ E, l = [E] := by
  match l, h with
  | [E], _ => exact ⟨E, rfl⟩

theorem txt_len : ∀ (l m : Nat) (T : Ty) (n : Nat) (v0 v1 v2 v3 : Value) (W : World), TyAt W n T v0 v1 v2 v3 → l < m → deepB m T = false → (txt l T).length ≤ 110 + 30 * l
  | 0, _, _, _, _, _, _, _, _, _, _, _ => by simp [txt]
  | l + 1, m, T, n, v0, v1, v2, v3, W, ht, hlm, hd => by
    obtain ⟨m, rfl⟩ : ∃ m', m = m' + 1 := ⟨m - 1, by omega⟩
    obtain ⟨hn, hof⟩ := deep_name hd
    unfold txt
    split
    · simp; omega
    · split
      · simp; omega
      · split
        · have : T.name.data.toList.length = T.name.size := by rw [Array.length_toList]; rfl
          rw [List.length_append, this]; simp; omega
        · split
          · simp; omega
          · rename_i h4
            have h4 : T.kind = 4 ∧ T.of.length = 1 := by
              refine ⟨?_, ?_⟩
              · exact Classical.byContradiction fun h => h4 (Or.inl h)
              · exact Classical.byContradiction fun h => h4 (Or.inr h)
            obtain ⟨E, hE⟩ := one_of h4.2
            obtain ⟨k, name, num, of⟩ := T
            simp only [Ty.of] at hE hof
            subst hE
            obtain ⟨q, b, off, cap, c0, c1, c2, c3, _, _, _, _, hw, _, _, _, _, _, hT⟩ := elem_at ht
            have ih := txt_len l m E q c0 c1 c2 c3 W hT (by omega) (hof E (by simp))
            have hi := itoa_le num hw.1 hw.2
            simp only [Ty.num, Ty.of, List.headD_cons, List.length_append, List.length_cons, List.length_nil]
            omega

theorem rtext_all : ∀ (l : Nat), l ≤ 4 → ∀ (m : Nat) (T : Ty) (n : Nat) (v0 v1 v2 v3 : Value) (w : World), TyAt w n T v0 v1 v2 v3 → l < m → deepB m T = false →
    Calls Tryd.prog 54 #[.agg #[v0, v1, v2, v3], .int .i64 (5 - (l : Int))] w (TxPost l T w) := by
  intro l
  induction l with
  | zero =>
    intro _ m T n v0 v1 v2 v3 w ht _ _
    exact (rtext_zero T n v0 v1 v2 v3 w ht).mono fun e w' h => tx_of h
  | succ l ih =>
    intro hl m T n v0 v1 v2 v3 w ht hlm hd
    obtain ⟨m, rfl⟩ : ∃ m', m = m' + 1 := ⟨m - 1, by omega⟩
    obtain ⟨hn, hof⟩ := deep_name hd
    by_cases hk : T.kind = 4 ∧ T.of.length = 1
    · obtain ⟨E, hE⟩ := one_of hk.2
      obtain ⟨k, name, num, of⟩ := T
      simp only [Ty.of, Ty.kind] at hE hof hk
      subst hE
      obtain ⟨rfl, _⟩ := hk
      obtain ⟨q, b, off, cap, c0, c1, c2, c3, rfl, rfl, rfl, rfl, hw, hb, k0, k1, k2, k3, hT⟩ := elem_at ht
      have hdE := hof E (by simp)
      have hlen := txt_len l m E q c0 c1 c2 c3 w hT (by omega) hdE
      have e1 : (5 : Int) - ((l + 1 : Nat) : Int) + 1 = 5 - (l : Int) := by omega
      exact rtext_array l (by omega) (5 - ((l + 1 : Nat) : Int)) (by omega) (by omega) name num hw E w b off cap hb c0 c1 c2 c3 k0 k1 k2 k3 q hT (by omega) (fun w' hb' => by
        rw [e1]
        exact (ih (by omega) m E q c0 c1 c2 c3 w' (hT.kept hb') (by omega) hdE).mono fun e w2 h => h)
    · exact (rtext_flat l (5 - ((l + 1 : Nat) : Int)) (by omega) (by omega) T n v0 v1 v2 v3 w ht hn hk).mono fun e w' h => tx_of h

set_option maxRecDepth 100000 in
theorem rText_any (T : Ty) (n : Nat) (v0 v1 v2 v3 : Value) (w : World) (ht : TyAt w n T v0 v1 v2 v3) (m : Nat) (hm : 4 < m) (hd : deepB m T = false) :
    Calls Tryd.prog 27 #[.agg #[v0, v1, v2, v3]] w (TxPost 4 T w) := by
  have K := Lib.hid (fun w' (hb : Below w.heap.size w w') => rtext_all 4 (by omega) m T n v0 v1 v2 v3 w' (ht.kept hb) hm hd)
  have e1 : (5 : Int) - ((4 : Nat) : Int) = 1 := rfl
  rw [e1] at K
  unfold TxPost at K ⊢
  cases n with
  | zero => exact ht.elim
  | succ n =>
  obtain ⟨rfl, _, rfl, _, rfl, _, A, cap, rfl, _, _, _⟩ := ht
  have B0 := Lib.hid (below_box w (.cells #[.int .i64 T.kind, .string T.name, .int .i64 T.num, .slice A T.of.length cap] 51))
  have K1 := Lib.hid (K.out _ B0.out)
  clear hd e1 K
  generalize txt 4 T = X at *
  go_enter Tryd.func27, Tryd.ntmps27
  go_wp2_with fail
  refine K1.out.mono ?_
  rintro e w1 ⟨rfl, b1⟩
  have HB := Lib.hid (B0.out.trans (b1.mono B0.out.size))
  clear b1
  go_wp2_with fail
  go_ret
  exact ⟨rfl, HB.out⟩

def TagPost (T : Ty) (w : World) (e : Ending) (w' : World) : Prop := e = .returned (.string ⟨([91, 93] ++ txt 4 T).toArray⟩) ∧ Below w.heap.size w w'

set_option maxRecDepth 100000 in
theorem rTag_any (T : Ty) (n : Nat) (v0 v1 v2 v3 : Value) (w : World) (ht : TyAt w n T v0 v1 v2 v3) (m : Nat) (hm : 4 < m) (hd : deepB m T = false) :
    Calls Tryd.prog 29 #[.agg #[v0, v1, v2, v3]] w (TagPost T w) := by
  have K := Lib.hid (fun w' (hb : Below w.heap.size w w') => rText_any T n v0 v1 v2 v3 w' (ht.kept hb) m hm hd)
  have hlen := txt_len 4 m T n v0 v1 v2 v3 w ht hm hd
  unfold TxPost at K
  unfold TagPost
  cases n with
  | zero => exact ht.elim
  | succ n =>
  obtain ⟨rfl, _, rfl, _, rfl, _, A, cap, rfl, _, _, _⟩ := ht
  have B0 := Lib.hid (below_box w (.cells #[.int .i64 T.kind, .string T.name, .int .i64 T.num, .slice A T.of.length cap] 51))
  have K1 := Lib.hid (K.out _ B0.out)
  clear hd K
  generalize txt 4 T = X at *
  have z1 : ¬ 9223372036854775807 < 2 + X.length := by omega
  have s1 : (ByteArray.mk #[91, 93] ++ ByteArray.mk X.toArray) = ByteArray.mk ([91, 93] ++ X).toArray := ByteArray.mk_append_mk [91, 93] X
  generalize [91, 93] ++ X = R at *
  go_enter Tryd.func29, Tryd.ntmps29
  go_wp2_with fail
  refine K1.out.mono ?_
  rintro e w1 ⟨rfl, b1⟩
  have HB := Lib.hid (B0.out.trans (b1.mono B0.out.size))
  clear b1
  go_wp2_with fail
  go_ret
  exact ⟨rfl, HB.out⟩
end Go.Proofs.YtmahoppjefhnjaaDoor.sh
