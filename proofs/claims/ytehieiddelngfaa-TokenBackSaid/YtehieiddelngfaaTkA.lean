/-
  token: Join of whatever tokens, by their texts alone; the reference's.
-/
import Derived.Test.YtehieiddelngfaaTk8
namespace Go.Proofs.Ytehieiddelngfaa.tk
open Go.RowKit Go.Proofs.Ytehieiddelngfaa.dg Go.Proofs.Ytehieiddelngfaa.mem

/-- the texts of tokens in memory -/
def TV (w : World) (A : Option Addr) (xs : List (List UInt8)) : Prop := 0 < xs.length → ∃ b o, A = some ⟨b, o, none⟩ ∧ b < w.heap.size ∧ ∀ k (hk : k < xs.length), (∃ kd, w.cell? ⟨b, o + k * 3, none⟩ = some (.int .i64 kd)) ∧ w.cell? ⟨b, o + k * 3 + 1, none⟩ = some (.string (BA xs[k])) ∧ ∃ ln, w.cell? ⟨b, o + k * 3 + 2, none⟩ = some (.int .i64 ln)

theorem TV.below {w w' : World} {A : Option Addr} {xs : List (List UInt8)} (h : TV w A xs) (b : Below w.heap.size w w') : TV w' A xs := fun hz => by
  obtain ⟨g, o, rfl, hl, hc⟩ := h hz
  refine ⟨g, o, rfl, Nat.lt_of_lt_of_le hl b.size, fun k hk => ?_⟩
  obtain ⟨⟨kd, h1⟩, h2, ⟨ln, h3⟩⟩ := hc k hk
  exact ⟨⟨kd, (b.cell (p := ⟨g, _, none⟩) hl).trans h1⟩, (b.cell (p := ⟨g, _, none⟩) hl).trans h2, ⟨ln, (b.cell (p := ⟨g, _, none⟩) hl).trans h3⟩⟩

def textsX (ts : List (List UInt8)) : List Value := ts.map fun t => .string (BA t)

set_option maxRecDepth 100000 in
set_option maxHeartbeats 1000000 in
theorem joinx_any (w : World) (A : Option Addr) (c : Nat) (ts : List (List UInt8)) (hA : TV w A ts) (hm : ts.length ≤ 100000) (hj : (Lib.join ts [32]).length ≤ 140737488355328) :
    Calls Try.prog 30 #[.slice A ts.length c] w fun e w' => e = .returned (.string (BA (Lib.join ts [32]))) ∧ Below w.heap.size w w' := by
  have hmk := fun W => make_n W ts.length hm
  have H0 : Hid (JA w (w.alloc (.cells (madeCells #[.string ByteArray.empty] ts.length) 9)) ts.length []) := Lib.hid ⟨⟨Nat.zero_le _, by unfold maxLen; omega, fun h => (by cases h), fun a ha => by cases ha; exact ⟨rfl, _, heap_alloc_new w _, by rw [size_madeCells]; exact Nat.le_of_eq (by simp), fun j u h => by simp at h⟩⟩, (Below.refl w.heap.size w).alloc (Nat.le_refl _) _⟩
  have HA := Lib.hid hA
  clear hA
  go_enter Try.func30, Try.ntmps30
  go_wp2_with fail
  go_loopw [11] (fun i wr => ∃ k : Nat, k ≤ ts.length ∧ i = .int .i64 k ∧ Hid (JA w wr ts.length (textsX (ts.take k)))) (fun i _ => ts.length - (intOf i).toNat)
  case atStart => exact ⟨0, by omega, rfl, H0⟩
  case round =>
    obtain ⟨k, hk, rfl, hs⟩ := hrel
    rename_i wr
    by_cases hkl : k < ts.length
    · have e1 : decide ((k : Int) < (ts.length : Int)) = true := decide_eq_true (by omega)
      obtain ⟨b1, o1, rfl, hl1, h1⟩ := HA.out (by omega)
      obtain ⟨⟨kd, x1⟩, x2, ⟨ln, x3⟩⟩ := h1 k hkl
      have k1 : ∀ (j : Nat), wr.cell? ⟨b1, j, none⟩ = w.cell? ⟨b1, j, none⟩ := fun j => hs.out.on.cell (p := ⟨b1, j, none⟩) hl1
      rw [← k1] at x1 x2 x3
      have hb1 : b1 < wr.heap.size := Nat.lt_of_lt_of_le hl1 hs.out.on.size
      clear k1 h1
      obtain ⟨tx, hTx⟩ : ∃ tx, Hid (BA ts[k] = tx) := ⟨_, Lib.hid rfl⟩
      have htx : Hid (textsX (ts.take (k + 1)) = textsX (ts.take k) ++ [.string tx]) := Lib.hid (by rw [← hTx.out]; unfold textsX; rw [List.take_succ_eq_append_getElem hkl, List.map_append]; rfl)
      rw [hTx.out] at x2
      have hlt : (textsX (ts.take k)).length = k := by simp [textsX]; omega
      have HS := Lib.hid (hs.out.sg.alloc (.cells #[.int .i64 kd, .string tx, .int .i64 ln] 61))
      obtain ⟨v0, hv0⟩ := Seg.spare HS.out k hkl
      have fz : (wr.alloc (.cells #[.int .i64 kd, .string tx, .int .i64 ln] 61)).frozen? ⟨w.heap.size, k, none⟩ = false := HS.out.free k
      have HJ : Hid (JA w ((wr.alloc (.cells #[.int .i64 kd, .string tx, .int .i64 ln] 61)).setCell ⟨w.heap.size, k, none⟩ (.string tx)) ts.length (textsX (ts.take (k + 1)))) := Lib.hid (by
        refine ⟨?_, (hs.out.on.alloc hs.out.on.size _).setCell (p := ⟨w.heap.size, k, none⟩) (Nat.le_refl _) _⟩
        have := Seg.setNext HS.out (.string tx) (by omega)
        rw [hlt] at this
        rw [htx.out]
        exact this)
      clear hs HS
      go_wp2_with fail
      go_roundw
      case rel => exact ⟨k + 1, by omega, by go_num, HJ⟩
      case measure => simp [intOf]; omega
    · obtain rfl : k = ts.length := by omega
      have e1 : decide ((ts.length : Int) < (ts.length : Int)) = false := decide_eq_false (by omega)
      rw [List.take_length] at hs
      have KJ : Hid (Calls Try.prog 46 #[.slice (some ⟨w.heap.size, 0, none⟩) ts.length ts.length, .string ({ data := #[32] } : ByteArray)] wr fun e w' => e = .returned (.string (BA (Lib.join ts [32]))) ∧ Below wr.heap.size wr w') := Lib.hid (by
        have hl0 : (({ data := #[32] } : ByteArray)).data.toList = [32] := rfl
        rcases Nat.eq_zero_or_pos ts.length with hz | hz
        · have hj0 : Lib.join ts [32] = [] := by rw [List.eq_nil_of_length_eq_zero hz]; rfl
          rw [hj0, hz]
          refine (Try.strings_Join_none _ _ _ wr).mono ?_
          rintro e w' ⟨rfl, rfl⟩
          exact ⟨rfl, Below.refl _ _⟩
        · have hmap : (ts.map fun t => BA t).map (·.data.toList) = ts := by rw [List.map_map]; exact List.map_id' ts
          have := Try.strings_Join w.heap.size 0 ts.length (ts.map fun t => BA t) ({ data := #[32] } : ByteArray) wr (fun j x hx => ?_) ?_ (by simp; omega) (by simp) (by rw [hmap, hl0]; exact hj)
          · rw [hmap, hl0, List.length_map] at this
            exact this
          · rw [List.getElem?_map] at hx
            have hjl : j < ts.length := by
              rcases Nat.lt_or_ge j ts.length with h | h
              · exact h
              · rw [List.getElem?_eq_none h] at hx; cases hx
            rw [List.getElem?_eq_getElem hjl] at hx
            obtain ⟨g, off, he, _, hc⟩ := hs.out.sg.rd (by simp [textsX]; omega)
            cases he
            rw [hc j (by simp [textsX]; exact hjl)]
            have hx2 : x = BA ts[j] := (Option.some.inj hx).symm
            rw [hx2]
            simp [textsX]
          · exact hs.out.sg.lt _ (by simp [blk]))
      have HON := Lib.hid hs.out.on
      clear hs hmk
      go_wp2_with fail
      refine KJ.out.mono ?_
      rintro e w' ⟨rfl, b1⟩
      have HB := Lib.hid (HON.out.trans (b1.mono HON.out.size))
      clear b1
      go_wp2_with fail
      go_ret
      exact ⟨rfl, HB.out⟩

theorem join_snoc (xs : List (List UInt8)) (x : List UInt8) (h : xs ≠ []) : Lib.join (xs ++ [x]) [32] = Lib.join xs [32] ++ [32] ++ x := by
  unfold Lib.join
  induction xs with
  | nil => exact absurd rfl h
  | cons y ys ih =>
    cases ys with
    | nil => simp [List.intercalate]
    | cons z zs =>
      have := ih (by simp)
      simp only [List.intercalate, List.cons_append, List.intersperse_cons_cons, List.flatten_cons] at this ⊢
      rw [this]
      simp

theorem ba_app (a b : ByteArray) : (a ++ b).data.toList = a.data.toList ++ b.data.toList := by simp

set_option maxRecDepth 100000 in
theorem rjoinx_any (w : World) (A : Option Addr) (c : Nat) (ts : List (List UInt8)) (hA : TV w A ts) (hm : ts.length ≤ 100000) (hs : ∀ t ∈ ts, t.length ≤ 300) :
    Calls Try.prog 31 #[.slice A ts.length c] w fun e w' => e = .returned (.string (BA (Lib.join ts [32]))) ∧ w = w' := by
  have HA := Lib.hid hA
  have HS := Lib.hid hs
  clear hA hs
  go_enter Try.func31, Try.ntmps31
  go_wp2_with fail
  go_loopw [3, 4] (fun s0 i wr => ∃ (k : Nat) (z : ByteArray), k ≤ ts.length ∧ s0 = .string z ∧ i = .int .i64 k ∧ z.size ≤ 301 * k ∧ Hid (z.data.toList = Lib.join (ts.take k) [32]) ∧ w = wr) (fun _ i _ => ts.length - (intOf i).toNat)
  case atStart => exact ⟨0, ⟨#[]⟩, by omega, rfl, rfl, by decide, Lib.hid rfl, rfl⟩
  case round =>
    obtain ⟨k, z, hk, rfl, rfl, hz, hj, rfl⟩ := hrel
    by_cases hkl : k < ts.length
    · have e1 : decide ((k : Int) < (ts.length : Int)) = true := decide_eq_true (by omega)
      obtain ⟨b1, o1, rfl, hl1, h1⟩ := HA.out (by omega)
      obtain ⟨_, x2, _⟩ := h1 k hkl
      have htl := HS.out ts[k] (List.getElem_mem hkl)
      have hts : (BA ts[k]).size = ts[k].length := by simp [ByteArray.size]
      have hsz2 : (z ++ BA ts[k]).size = z.size + (BA ts[k]).size := ByteArray.size_append
      have hsz1 : (z ++ ({ data := #[32] } : ByteArray)).size = z.size + 1 := ByteArray.size_append
      have hsz3 : (z ++ ({ data := #[32] } : ByteArray) ++ BA ts[k]).size = z.size + 1 + (BA ts[k]).size := by rw [ByteArray.size_append, hsz1]
      clear h1
      rcases Nat.eq_zero_or_pos k with rfl | hk0
      · have d0 : decide ((0 : Int) < ((0 : Nat) : Int)) = false := by decide
        have hj2 : Hid ((z ++ BA ts[0]).data.toList = Lib.join (ts.take (0 + 1)) [32]) := Lib.hid (by
          rw [ba_app, hj.out, List.take_succ_eq_append_getElem hkl]
          simp [Lib.join, List.intercalate])
        have hz0 : z.size = 0 := by omega
        go_wp2_with fail
        go_roundw
        case rel => exact ⟨0 + 1, _, by omega, rfl, by go_num, by omega, hj2, trivial⟩
        case measure => simp [intOf]; omega
      · have d0 : decide ((0 : Int) < (k : Int)) = true := decide_eq_true (by omega)
        have hj2 : Hid ((z ++ ({ data := #[32] } : ByteArray) ++ BA ts[k]).data.toList = Lib.join (ts.take (k + 1)) [32]) := Lib.hid (by
          rw [ba_app, ba_app, hj.out, List.take_succ_eq_append_getElem hkl, join_snoc _ _ (by intro h; have := congrArg List.length h; rw [List.length_take, List.length_nil] at this; omega)])
        go_wp2_with fail
        go_roundw
        case rel => exact ⟨k + 1, _, by omega, rfl, by go_num, by omega, hj2, trivial⟩
        case measure => simp [intOf]; omega
    · obtain rfl : k = ts.length := by omega
      have e1 : decide ((ts.length : Int) < (ts.length : Int)) = false := decide_eq_false (by omega)
      have hj2 : Hid (BA (Lib.join ts [32]) = z) := Lib.hid (by rw [← ba_eq z, hj.out, List.take_length])
      go_wp2_with fail
      go_ret
      exact ⟨by rw [hj2.out]; rfl, rfl⟩
end Go.Proofs.Ytehieiddelngfaa.tk
