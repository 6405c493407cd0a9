/-
  Shape: the program's text of whatever type, and its tag.
-/
import Derived.Test.YtmahoppjefhnjaaDoorSh5
import Derived.WalkSmall
namespace Go.Proofs.YtmahoppjefhnjaaDoor.sh
open Go.RowKit Go.Sort Go.Proofs.YtmahoppjefhnjaaDoor.mem Go.Proofs.YtmahoppjefhnjaaDoor.dt

abbrev TabS (w : World) : Prop := Lib.TabIs Tryd.prog w "internal/strconv.uint64pow10" .u64 Lib.pow10Tab

theorem gTabS : Tryd.prog.globalNamed "internal/strconv.uint64pow10" = some 1 := by kernel_rfl

theorem tabS_below {w w' : World} (h : TabS w) (hb : Below w.heap.size w w') : TabS w' := by
  have h' : w.var? Tryd.prog "internal/strconv.uint64pow10" = _ := h
  have hlt : 1 < w.heap.size := by
    rcases Nat.lt_or_ge 1 w.heap.size with h1 | h1
    · exact h1
    · unfold World.var? at h'
      simp only [gTabS, Option.bind_some] at h'
      rw [Array.getElem?_eq_none h1] at h'
      cases h'
  exact var?_below hb gTabS hlt h'

/-- a type's box, laid anew -/
theorem box4 {w : World} {g : Nat} {t : TypeId} {c0 c1 c2 c3 : Value} (h : Box w g t #[c0, c1, c2, c3]) (d0 d1 d2 d3 : Value) :
    Box ((((w.setCell ⟨g, 0, none⟩ d0).setCell ⟨g, 1, none⟩ d1).setCell ⟨g, 2, none⟩ d2).setCell ⟨g, 3, none⟩ d3) g t #[d0, d1, d2, d3] := (((h.put 0 d0).put 1 d1).put 2 d2).put 3 d3

theorem fr4 {w : World} {g : Nat} (d0 d1 d2 d3 : Value) : Fr [g] w ((((w.setCell ⟨g, 0, none⟩ d0).setCell ⟨g, 1, none⟩ d1).setCell ⟨g, 2, none⟩ d2).setCell ⟨g, 3, none⟩ d3) :=
  (((((Fr.refl [g] w).setCell (p := ⟨g, 0, none⟩) (Or.inl (by simp)) d0).setCell (p := ⟨g, 1, none⟩) (Or.inl (by simp)) d1).setCell (p := ⟨g, 2, none⟩) (Or.inl (by simp)) d2).setCell (p := ⟨g, 3, none⟩) (Or.inl (by simp)) d3)

/-- between two rounds -/
structure TR (w wr : World) (T : Ty) (R P : List UInt8) (k m : Nat) (c0 c1 c2 c3 : Value) : Prop where
  on : Below w.heap.size w wr
  box : Box wr w.heap.size 51 #[c0, c1, c2, c3]
  ty : ∃ n, TyAt w n T c0 c1 c2 c3
  eq : P ++ txt (4 - k) T = R
  len : P.length ≤ 30 * k
  deep : deepB m T = false
  left : 4 < m + k

theorem txt_int {l : Nat} {T : Ty} (h : T.kind = 1) : txt (l + 1) T = [105, 110, 116] := by unfold txt; rw [if_pos h]
theorem txt_ptr {l : Nat} {T : Ty} (h : T.kind = 2) : txt (l + 1) T = [112, 116, 114] := by unfold txt; rw [if_neg (by omega), if_pos h]
theorem txt_rec {l : Nat} {T : Ty} (h : T.kind = 3) : txt (l + 1) T = [115, 116, 114, 117, 99, 116, 32] ++ T.name.data.toList := by unfold txt; rw [if_neg (by omega), if_neg (by omega), if_pos h]
theorem txt_bad {l : Nat} {T : Ty} (h1 : T.kind ≠ 1) (h2 : T.kind ≠ 2) (h3 : T.kind ≠ 3) (h : T.kind ≠ 4 ∨ T.of.length ≠ 1) : txt (l + 1) T = [63] := by unfold txt; rw [if_neg h1, if_neg h2, if_neg h3, if_pos h]
theorem txt_arr {l : Nat} {T E : Ty} (h : T.kind = 4) (hE : T.of = [E]) : txt (l + 1) T = [91] ++ Lib.itoa T.num ++ [93] ++ txt l E := by
  conv => lhs; unfold txt
  rw [if_neg (by omega), if_neg (by omega), if_neg (by omega), if_neg (by rw [hE]; simp [h]), hE, List.headD_cons]

set_option maxRecDepth 100000 in
set_option maxHeartbeats 1000000 in
theorem sText_any (T : Ty) (n : Nat) (v0 v1 v2 v3 : Value) (w : World) (ht : TyAt w n T v0 v1 v2 v3) (m : Nat) (hm : 4 < m) (hd : deepB m T = false) (htab : TabS w) :
    Calls Tryd.prog 26 #[.agg #[v0, v1, v2, v3]] w (TxPost 4 T w) := by
  have HT := Lib.hid (fun w' (hb : Below w.heap.size w w') => tabS_below htab hb)
  unfold TxPost
  obtain ⟨R, hR⟩ : ∃ R, txt 4 T = R := ⟨_, rfl⟩
  rw [hR]
  have T0 : Hid (TR w (w.alloc (.cells #[v0, v1, v2, v3] 51)) T R [] 0 m v0 v1 v2 v3) := Lib.hid ⟨(Below.refl _ _).alloc (Nat.le_refl _) _, Box.new w _ _, ⟨n, ht⟩, by simpa using hR, by simp, hd, by omega⟩
  clear hR htab
  cases n with
  | zero => exact ht.elim
  | succ n =>
  obtain ⟨rfl, _, rfl, _, rfl, _, A, cap, rfl, _, _, _⟩ := ht
  go_enter Tryd.func26, Tryd.ntmps26
  go_wp2_with fail
  go_loopw [3, 4] (fun s i wr => ∃ (k q : Nat) (P : List UInt8) (U : Ty) (c0 c1 c2 c3 : Value), k ≤ 4 ∧ s = .string ⟨P.toArray⟩ ∧ i = .int .i64 k ∧ Hid (TR w wr U R P k q c0 c1 c2 c3)) (fun _ i _ => 4 - (intOf i).toNat)
  case atStart => exact ⟨0, m, [], T, _, _, _, _, by omega, rfl, rfl, T0⟩
  case round =>
    obtain ⟨k, q, P, U, c0, c1, c2, c3, hk, rfl, rfl, ht⟩ := hrel
    rename_i wr _
    obtain ⟨n', hU⟩ := ht.out.ty
    have hPl := ht.out.len
    have K0 : wr.cell? ⟨w.heap.size, 0, none⟩ = some c0 := ht.out.box.cell 0
    have K1 : wr.cell? ⟨w.heap.size, 1, none⟩ = some c1 := ht.out.box.cell 1
    have K2 : wr.cell? ⟨w.heap.size, 2, none⟩ = some c2 := ht.out.box.cell 2
    have K3 : wr.cell? ⟨w.heap.size, 3, none⟩ = some c3 := ht.out.box.cell 3
    by_cases hk4 : k < 4
    · have hk4' : decide ((k : Int) < (4 : Int)) = true := decide_eq_true (by omega)
      obtain ⟨j, hj⟩ : ∃ j, 4 - k = j + 1 := ⟨4 - k - 1, by omega⟩
      have hj1 : 4 - (k + 1) = j := by omega
      have hE := ht.out.eq
      rw [hj] at hE
      have hdeep := ht.out.deep
      have hleft := ht.out.left
      obtain ⟨q, rfl⟩ : ∃ q', q = q' + 1 := ⟨q - 1, by omega⟩
      obtain ⟨hnm, hofd⟩ := deep_name hdeep
      have HON := Lib.hid ht.out.on
      have hofs : Hid (U.of.length = U.of.length) := Lib.hid rfl
      have hU2 := hU
      cases n' with
      | zero => exact hU.elim
      | succ n' =>
      obtain ⟨rfl, _, rfl, _, rfl, hw, A', cap', rfl, hl, h8, h9⟩ := hU
      by_cases h1 : U.kind = 1
      · have z1 : ¬ 9223372036854775807 < P.length + 3 := by omega
        have s1 : (ByteArray.mk P.toArray ++ ByteArray.mk #[105, 110, 116]) = ByteArray.mk R.toArray := by
          rw [← hE, txt_int h1]
          exact ByteArray.mk_append_mk P [105, 110, 116]
        have f1 : (U.kind == 1) = true := by simpa using h1
        clear h8 h9 hE hU2 ht hofd
        go_wp2_with fail
        go_ret
        exact ⟨rfl, HON.out⟩
      have f1 : (U.kind == 1) = false := by simpa using h1
      by_cases h2 : U.kind = 2
      · have z1 : ¬ 9223372036854775807 < P.length + 3 := by omega
        have s1 : (ByteArray.mk P.toArray ++ ByteArray.mk #[112, 116, 114]) = ByteArray.mk R.toArray := by
          rw [← hE, txt_ptr h2]
          exact ByteArray.mk_append_mk P [112, 116, 114]
        have f2 : (U.kind == 2) = true := by simpa using h2
        clear h8 h9 hE hU2 ht hofd
        go_wp2_with fail
        go_ret
        exact ⟨rfl, HON.out⟩
      have f2 : (U.kind == 2) = false := by simpa using h2
      by_cases h3 : U.kind = 3
      · have z1 : ¬ 9223372036854775807 < P.length + 7 := by omega
        have z2 : ¬ 9223372036854775807 < (P ++ [115, 116, 114, 117, 99, 116, 32]).length + U.name.size := by rw [List.length_append]; simp; omega
        have s1 : (ByteArray.mk P.toArray ++ ByteArray.mk #[115, 116, 114, 117, 99, 116, 32]) = ByteArray.mk (P ++ [115, 116, 114, 117, 99, 116, 32]).toArray := ByteArray.mk_append_mk P [115, 116, 114, 117, 99, 116, 32]
        have s2 : (ByteArray.mk (P ++ [115, 116, 114, 117, 99, 116, 32]).toArray ++ U.name) = ByteArray.mk R.toArray := by
          rw [← hE, txt_rec h3]
          have := ByteArray.mk_append_mk (P ++ [115, 116, 114, 117, 99, 116, 32]) U.name.data.toList
          simpa using this
        have S1 := Lib.hid s1
        have S2 := Lib.hid s2
        clear s1 s2
        generalize P ++ [115, 116, 114, 117, 99, 116, 32] = P1 at *
        have s1 := S1.out
        have s2 := S2.out
        have f3 : (U.kind == 3) = true := by simpa using h3
        clear h8 h9 hE hU2 ht hofd S1 S2
        go_wp2_with fail
        go_ret
        exact ⟨rfl, HON.out⟩
      have f3 : (U.kind == 3) = false := by simpa using h3
      by_cases h4 : U.kind = 4 ∧ U.of.length = 1
      · obtain ⟨E, hEo⟩ := one_of h4.2
        obtain ⟨b, off, rfl, hb⟩ := h8 (by omega)
        obtain ⟨d0, d1, d2, d3, j0, j1, j2, j3, hTE⟩ := h9 0 (by omega) b off rfl
        rw [Nat.zero_mul, Nat.add_zero] at j0 j1 j2 j3
        have hTE : TyAt w n' E d0 d1 d2 d3 := by
          have hEe : U.of[0]'(by rw [hEo]; simp) = E := by simp [hEo]
          rw [← hEe]
          exact hTE
        have hTE' := hTE
        cases n' with
        | zero => exact hTE'.elim
        | succ n' =>
        obtain ⟨rfl, _, rfl, _, rfl, _, A2, cap2, rfl, _, _, _⟩ := hTE'
        have hwn := wf64 hw
        have hil := itoa_le U.num hwn.1 hwn.2
        have KD := Lib.hid (text_any U.num wr hwn.1 hwn.2 (HT.out wr ht.out.on))
        unfold Text1 at KD
        have hR := hE
        rw [txt_arr h4.1 hEo] at hR
        have TRn : Hid (∀ w', Below w.heap.size w w' → Box w' w.heap.size 51 #[.int .i64 E.kind, .string E.name, .int .i64 E.num, .slice A2 E.of.length cap2] → TR w w' E R (P ++ ([91] ++ Lib.itoa U.num ++ [93])) (k + 1) q (.int .i64 E.kind) (.string E.name) (.int .i64 E.num) (.slice A2 E.of.length cap2)) := Lib.hid (fun w' hb hx =>
          ⟨hb, hx, ⟨n' + 1, hTE⟩, by rw [hj1, ← hR]; simp only [List.append_assoc], by simp only [List.length_append, List.length_cons, List.length_nil]; omega, hofd E (by rw [hEo]; simp), by omega⟩)
        have f4 : (U.kind == 4) = true := by simpa using h4.1
        have f5 : ((U.of.length : Int) == 1) = true := by simp; omega
        have hlo : U.of.length = 1 := h4.2
        have HBX := Lib.hid ht.out.box
        have keep : Hid (∀ w2, Below wr.heap.size wr w2 → Box w2 w.heap.size 51 #[.int .i64 U.kind, .string U.name, .int .i64 U.num, .slice (some ⟨b, off, none⟩) U.of.length cap'] ∧ Below w.heap.size w w2 ∧ w2.cell? ⟨b, off, none⟩ = some (.int .i64 E.kind) ∧ w2.cell? ⟨b, off + 1, none⟩ = some (.string E.name) ∧ w2.cell? ⟨b, off + 2, none⟩ = some (.int .i64 E.num) ∧ w2.cell? ⟨b, off + 3, none⟩ = some (.slice A2 E.of.length cap2)) := Lib.hid (fun w2 h => by
          have hon := HON.out.trans (h.mono HON.out.size)
          exact ⟨HBX.out.kept (Fr.of_below h []) (by simp), hon, (hon.cell (p := ⟨b, off, none⟩) hb).trans j0, (hon.cell (p := ⟨b, off + 1, none⟩) hb).trans j1, (hon.cell (p := ⟨b, off + 2, none⟩) hb).trans j2, (hon.cell (p := ⟨b, off + 3, none⟩) hb).trans j3⟩)
        clear h8 h9 hE hU2 ht hofd hR j0 j1 j2 j3 hTE hEo hw hwn hdeep hnm
        generalize Lib.itoa U.num = D at *
        have z1 : ¬ 9223372036854775807 < 1 + D.length := by omega
        have z2 : ¬ 9223372036854775807 < ([91] ++ D).length + 1 := by simp; omega
        have z3 : ¬ 9223372036854775807 < P.length + ([91] ++ D ++ [93]).length := by simp; omega
        have s1 : (ByteArray.mk #[91] ++ ByteArray.mk D.toArray) = ByteArray.mk ([91] ++ D).toArray := ByteArray.mk_append_mk [91] D
        have s2 : (ByteArray.mk ([91] ++ D).toArray ++ ByteArray.mk #[93]) = ByteArray.mk ([91] ++ D ++ [93]).toArray := ByteArray.mk_append_mk _ [93]
        have s3 : (ByteArray.mk P.toArray ++ ByteArray.mk ([91] ++ D ++ [93]).toArray) = ByteArray.mk (P ++ ([91] ++ D ++ [93])).toArray := ByteArray.mk_append_mk _ _
        have S1 := Lib.hid s1
        have S2 := Lib.hid s2
        have S3 := Lib.hid s3
        clear s1 s2 s3
        generalize P ++ ([91] ++ D ++ [93]) = P2 at *
        generalize [91] ++ D ++ [93] = D2 at *
        generalize [91] ++ D = D1 at *
        have s1 := S1.out
        have s2 := S2.out
        have s3 := S3.out
        go_wp2_with fail
        refine KD.out.mono ?_
        rintro e w2 ⟨rfl, b2⟩
        obtain ⟨hbx, hon2, j0, j1, j2, j3⟩ := keep.out w2 b2
        have HB2 := Lib.hid hbx
        have HO2 := Lib.hid hon2
        have x0 : w2.cell? ⟨w.heap.size, 0, none⟩ = some (.int .i64 U.kind) := hbx.cell 0
        have x1 : w2.cell? ⟨w.heap.size, 1, none⟩ = some (.string U.name) := hbx.cell 1
        have x2 : w2.cell? ⟨w.heap.size, 2, none⟩ = some (.int .i64 U.num) := hbx.cell 2
        have x3 : w2.cell? ⟨w.heap.size, 3, none⟩ = some (.slice (some ⟨b, off, none⟩) U.of.length cap') := hbx.cell 3
        have y0 : w2.frozen? ⟨w.heap.size, 0, none⟩ = false := hbx.free 0
        have y1 : w2.frozen? ⟨w.heap.size, 1, none⟩ = false := hbx.free 1
        have y2 : w2.frozen? ⟨w.heap.size, 2, none⟩ = false := hbx.free 2
        have y3 : w2.frozen? ⟨w.heap.size, 3, none⟩ = false := hbx.free 3
        have hz := HON.out.size
        have hz2 := b2.size
        clear hbx hon2 b2 K0 K1 K2 K3 KD
        go_wp2_with fail
        go_roundw
        case rel =>
          exact ⟨k + 1, q, P2, E, _, _, _, _, by omega, rfl, by go_num, Lib.hid (TRn.out _ (HO2.out.trans ((fr4 _ _ _ _).below (by simp) HO2.out.size)) (box4 HB2.out _ _ _ _))⟩
        case measure => simp [intOf]; omega
      · have h4' : U.kind ≠ 4 ∨ U.of.length ≠ 1 := by
          rcases Classical.em (U.kind = 4) with h | h
          · exact Or.inr (fun h' => h4 ⟨h, h'⟩)
          · exact Or.inl h
        have z1 : ¬ 9223372036854775807 < P.length + 1 := by omega
        have s1 : (ByteArray.mk P.toArray ++ ByteArray.mk #[63]) = ByteArray.mk R.toArray := by
          rw [← hE, txt_bad h1 h2 h3 h4']
          exact ByteArray.mk_append_mk P [63]
        clear h9 h8 hE hU2 ht hofd
        rcases Classical.em (U.kind = 4) with h | h
        · have f4 : (U.kind == 4) = true := by simpa using h
          have f5 : ((U.of.length : Int) == 1) = false := by simp; intro h'; exact h4 ⟨h, by omega⟩
          go_wp2_with fail
          go_ret
          exact ⟨rfl, HON.out⟩
        · have f4 : (U.kind == 4) = false := by simpa using h
          go_wp2_with fail
          go_ret
          exact ⟨rfl, HON.out⟩
    · obtain rfl : k = 4 := by omega
      have e1 : decide ((4 : Int) < (4 : Int)) = false := by decide
      have z1 : ¬ 9223372036854775807 < P.length + 1 := by omega
      have s1 : (ByteArray.mk P.toArray ++ ByteArray.mk #[63]) = ByteArray.mk R.toArray := by
        rw [← ht.out.eq]
        exact ByteArray.mk_append_mk P [63]
      clear hU
      go_wp2_with fail
      go_ret
      exact ⟨rfl, ht.out.on⟩

set_option maxRecDepth 100000 in
theorem sTag_any (T : Ty) (n : Nat) (v0 v1 v2 v3 : Value) (w : World) (ht : TyAt w n T v0 v1 v2 v3) (m : Nat) (hm : 4 < m) (hd : deepB m T = false) (htab : TabS w) :
    Calls Tryd.prog 28 #[.agg #[v0, v1, v2, v3]] w (TagPost T w) := by
  have K := Lib.hid (fun w' (hb : Below w.heap.size w w') => sText_any T n v0 v1 v2 v3 w' (ht.kept hb) m hm hd (tabS_below htab hb))
  have hlen := txt_len 4 m T n v0 v1 v2 v3 w ht hm hd
  unfold TxPost at K
  unfold TagPost
  cases n with
  | zero => exact ht.elim
  | succ n =>
  obtain ⟨rfl, _, rfl, _, rfl, _, A, cap, rfl, _, _, _⟩ := ht
  have B0 := Lib.hid (below_box w (.cells #[.int .i64 T.kind, .string T.name, .int .i64 T.num, .slice A T.of.length cap] 51))
  have K1 := Lib.hid (K.out _ B0.out)
  clear hd K htab
  generalize txt 4 T = X at *
  have z1 : ¬ 9223372036854775807 < 2 + X.length := by omega
  have s1 : (ByteArray.mk #[91, 93] ++ ByteArray.mk X.toArray) = ByteArray.mk ([91, 93] ++ X).toArray := ByteArray.mk_append_mk [91, 93] X
  generalize [91, 93] ++ X = R at *
  go_enter Tryd.func28, Tryd.ntmps28
  go_wp2_with fail
  refine K1.out.mono ?_
  rintro e w1 ⟨rfl, b1⟩
  have HB := Lib.hid (B0.out.trans (b1.mono B0.out.size))
  clear b1
  go_wp2_with fail
  go_ret
  exact ⟨rfl, HB.out⟩
end Go.Proofs.YtmahoppjefhnjaaDoor.sh
