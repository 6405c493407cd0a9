/-
  token: Join.
-/
import Derived.Test.YtehieiddelngfaaTk3
namespace Go.Proofs.Ytehieiddelngfaa.tk
open Go.RowKit Go.Proofs.Ytehieiddelngfaa.dg Go.Proofs.Ytehieiddelngfaa.mem

theorem info_str : (Try.prog.info? 9).map (fun i => (i.zero, i.size, i.bytes)) = some (some (.string ByteArray.empty), 1, 16) := by kernel_rfl

theorem make_n (W : World) (n : Nat) (hn : n ≤ 100000) : (Instr.makeSlice 22 (.int .i64 (n : Int)) (.int .i64 (n : Int))).run Try.prog W = .ok (.slice (some ⟨W.heap.size, 0, none⟩) n n) (W.alloc (.cells (madeCells #[.string ByteArray.empty] n) 9)) := by
  obtain ⟨i0, hi, hz, hs, hb⟩ := info_parts info_str
  have := run_make (P := Try.prog) W 22 9 i0 (.string ByteArray.empty) Try.underlying22 hi hz .i64 .i64 n n (by omega) (by omega) (by rw [hb]; omega) (by omega)
  rw [hs, Nat.mul_one, Int.toNat_natCast] at this
  exact this

theorem Seg.setNext {w : World} {e : TypeId} {g cap : Nat} {xs : List Value} (h : Seg w e (some ⟨g, 0, none⟩) cap xs) (v : Value) (hl : xs.length < cap) : Seg (w.setCell ⟨g, xs.length, none⟩ v) e (some ⟨g, 0, none⟩) cap (xs ++ [v]) := by
  obtain ⟨_, cur, hc, hsz, hx⟩ := h.2.2.2 _ rfl
  have hsz : 0 + cap ≤ cur.size := hsz
  refine ⟨by simp; omega, h.2.1, fun hn => (by cases hn), fun a ha => ?_⟩
  cases ha
  refine ⟨rfl, cur.setIfInBounds xs.length v, ?_, by simpa using hsz, fun j u hu => ?_⟩
  · show ((w.setCell ⟨g, xs.length, none⟩ v).heap[g]?) = _
    simp [World.setCell, Array.getElem?_modify, show w.heap[g]? = _ from hc]
  · show (cur.setIfInBounds xs.length v)[0 + j]? = some u
    rw [Array.getElem?_setIfInBounds]
    rcases Nat.lt_or_ge j xs.length with hj | hj
    · rw [if_neg (by omega)]
      rw [List.getElem?_append_left hj] at hu
      exact hx j u hu
    · rw [List.getElem?_append_right hj] at hu
      have hj0 : j - xs.length = 0 := by
        have := (List.getElem?_eq_some_iff.1 hu).1
        simp at this; omega
      rw [hj0] at hu
      simp at hu
      subst hu
      rw [if_pos (by omega), if_pos (by omega)]

theorem Seg.spare {w : World} {e : TypeId} {g cap : Nat} {xs : List Value} (h : Seg w e (some ⟨g, 0, none⟩) cap xs) (k : Nat) (hk : k < cap) : ∃ v, w.cell? ⟨g, k, none⟩ = some v := by
  obtain ⟨_, cur, hc, hsz, hx⟩ := h.2.2.2 _ rfl
  have hsz : 0 + cap ≤ cur.size := hsz
  exact ⟨cur[k]'(by omega), by rw [cell_of_row w g k cur e (0, 0) hc]; exact Array.getElem?_eq_getElem (by omega)⟩

theorem rd_tok' {w : World} {A : Option Addr} {ts : List Tok} (h : Rd w A (cellsT ts)) (hz : 0 < ts.length) : ∃ b o, A = some ⟨b, o, none⟩ ∧ b < w.heap.size ∧ ∀ k (hk : k < ts.length), w.cell? ⟨b, o + k * 3, none⟩ = some (.int .i64 ts[k].1) ∧ w.cell? ⟨b, o + k * 3 + 1, none⟩ = some (.string (BA ts[k].2.1)) ∧ w.cell? ⟨b, o + k * 3 + 2, none⟩ = some (.int .i64 (ts[k].2.2 : Int)) := by
  have hl := cellsT_len ts
  obtain ⟨b, o, rfl, hlt, hc⟩ := h (by omega)
  refine ⟨b, o, rfl, hlt, fun k hk => ?_⟩
  obtain ⟨g1, g2, g3⟩ := cellsT_get ts k hk
  refine ⟨?_, ?_, ?_⟩
  · rw [hc (k * 3) (by omega)]; exact (List.getElem?_eq_getElem _).symm.trans g1
  · rw [Nat.add_assoc, hc (k * 3 + 1) (by omega)]; exact (List.getElem?_eq_getElem _).symm.trans g2
  · rw [Nat.add_assoc, hc (k * 3 + 2) (by omega)]; exact (List.getElem?_eq_getElem _).symm.trans g3

def texts (ts : List Tok) : List Value := ts.map fun t => .string (BA t.2.1)
def joinL (ts : List Tok) : List UInt8 := Lib.join (ts.map fun t => t.2.1) [32]

structure JA (w wr : World) (n : Nat) (xs : List Value) : Prop where
  sg : Seg wr 9 (some ⟨w.heap.size, 0, none⟩) n xs
  on : Below w.heap.size w wr

set_option maxRecDepth 100000 in
set_option maxHeartbeats 1000000 in
theorem join_any (w : World) (A : Option Addr) (c : Nat) (ts : List Tok) (hA : Rd w A (cellsT ts)) (hm : ts.length ≤ 100000) (hj : (joinL ts).length ≤ 140737488355328) :
    Calls Try.prog 30 #[.slice A ts.length c] w fun e w' => e = .returned (.string (BA (joinL ts))) ∧ Below w.heap.size w w' := by
  have hmk := fun W => make_n W ts.length hm
  have H0 : Hid (JA w (w.alloc (.cells (madeCells #[.string ByteArray.empty] ts.length) 9)) ts.length []) := Lib.hid ⟨⟨Nat.zero_le _, by unfold maxLen; omega, fun h => (by cases h), fun a ha => by cases ha; exact ⟨rfl, _, heap_alloc_new w _, by rw [size_madeCells]; exact Nat.le_of_eq (by simp), fun j u h => by simp at h⟩⟩, (Below.refl w.heap.size w).alloc (Nat.le_refl _) _⟩
  have HA := Lib.hid hA
  clear hA
  go_enter Try.func30, Try.ntmps30
  go_wp2_with fail
  go_loopw [11] (fun i wr => ∃ k : Nat, k ≤ ts.length ∧ i = .int .i64 k ∧ Hid (JA w wr ts.length (texts (ts.take k)))) (fun i _ => ts.length - (intOf i).toNat)
  case atStart => exact ⟨0, by omega, rfl, H0⟩
  case round =>
    obtain ⟨k, hk, rfl, hs⟩ := hrel
    rename_i wr
    by_cases hkl : k < ts.length
    · have e1 : decide ((k : Int) < (ts.length : Int)) = true := decide_eq_true (by omega)
      obtain ⟨b1, o1, rfl, hl1, h1⟩ := rd_tok' HA.out (by omega)
      obtain ⟨x1, x2, x3⟩ := h1 k hkl
      have k1 : ∀ (j : Nat), wr.cell? ⟨b1, j, none⟩ = w.cell? ⟨b1, j, none⟩ := fun j => hs.out.on.cell (p := ⟨b1, j, none⟩) hl1
      rw [← k1] at x1 x2 x3
      have hb1 : b1 < wr.heap.size := Nat.lt_of_lt_of_le hl1 hs.out.on.size
      clear k1 h1
      generalize ts[k].1 = kd at *
      generalize (ts[k].2.2 : Int) = ln at *
      obtain ⟨tx, hTx⟩ : ∃ tx, Hid (BA ts[k].2.1 = tx) := ⟨_, Lib.hid rfl⟩
      have htx : Hid (texts (ts.take (k + 1)) = texts (ts.take k) ++ [.string tx]) := Lib.hid (by rw [← hTx.out]; unfold texts; rw [List.take_succ_eq_append_getElem hkl, List.map_append]; rfl)
      rw [hTx.out] at x2
      have hlt : (texts (ts.take k)).length = k := by simp [texts]; omega
      have HS := Lib.hid (hs.out.sg.alloc (.cells #[.int .i64 kd, .string tx, .int .i64 ln] 61))
      obtain ⟨v0, hv0⟩ := Seg.spare HS.out k hkl
      have fz : (wr.alloc (.cells #[.int .i64 kd, .string tx, .int .i64 ln] 61)).frozen? ⟨w.heap.size, k, none⟩ = false := HS.out.free k
      have HJ : Hid (JA w ((wr.alloc (.cells #[.int .i64 kd, .string tx, .int .i64 ln] 61)).setCell ⟨w.heap.size, k, none⟩ (.string tx)) ts.length (texts (ts.take (k + 1)))) := Lib.hid (by
        refine ⟨?_, (hs.out.on.alloc hs.out.on.size _).setCell (p := ⟨w.heap.size, k, none⟩) (Nat.le_refl _) _⟩
        have := Seg.setNext HS.out (.string tx) (by omega)
        rw [hlt] at this
        rw [htx.out]
        exact this)
      clear hs HS
      go_wp2_with fail
      go_roundw
      case rel => exact ⟨k + 1, by omega, by go_num, HJ⟩
      case measure => simp [intOf]; omega
    · obtain rfl : k = ts.length := by omega
      have e1 : decide ((ts.length : Int) < (ts.length : Int)) = false := decide_eq_false (by omega)
      rw [List.take_length] at hs
      have KJ : Hid (Calls Try.prog 46 #[.slice (some ⟨w.heap.size, 0, none⟩) ts.length ts.length, .string ({ data := #[32] } : ByteArray)] wr fun e w' => e = .returned (.string (BA (joinL ts))) ∧ Below wr.heap.size wr w') := Lib.hid (by
        have hl0 : (({ data := #[32] } : ByteArray)).data.toList = [32] := rfl
        rcases Nat.eq_zero_or_pos ts.length with hz | hz
        · have hj0 : joinL ts = [] := by rw [List.eq_nil_of_length_eq_zero hz]; rfl
          rw [hj0, hz]
          refine (Try.strings_Join_none _ _ _ wr).mono ?_
          rintro e w' ⟨rfl, rfl⟩
          exact ⟨rfl, Below.refl _ _⟩
        · have hmap : (ts.map fun t => BA t.2.1).map (·.data.toList) = ts.map fun t => t.2.1 := by rw [List.map_map]; exact List.map_congr_left fun t _ => rfl
          have := Try.strings_Join w.heap.size 0 ts.length (ts.map fun t => BA t.2.1) ({ data := #[32] } : ByteArray) wr (fun j x hx => ?_) ?_ (by simp; omega) (by simp) (by rw [hmap, hl0]; exact hj)
          · rw [hmap, hl0, List.length_map] at this
            exact this
          · rw [List.getElem?_map] at hx
            have hjl : j < ts.length := by
              rcases Nat.lt_or_ge j ts.length with h | h
              · exact h
              · rw [List.getElem?_eq_none h] at hx; cases hx
            rw [List.getElem?_eq_getElem hjl] at hx
            obtain ⟨g, off, he, _, hc⟩ := hs.out.sg.rd (by simp [texts]; omega)
            cases he
            rw [hc j (by simp [texts]; exact hjl)]
            have hx2 : x = BA ts[j].2.1 := (Option.some.inj hx).symm
            rw [hx2]
            simp [texts]
          · exact hs.out.sg.lt _ (by simp [blk]))
      have HON := Lib.hid hs.out.on
      clear hs hmk
      go_wp2_with fail
      refine KJ.out.mono ?_
      rintro e w' ⟨rfl, b1⟩
      have HB := Lib.hid (HON.out.trans (b1.mono HON.out.size))
      clear b1
      go_wp2_with fail
      go_ret
      exact ⟨rfl, HB.out⟩
end Go.Proofs.Ytehieiddelngfaa.tk
