/-
  intern: the law on texts.
-/
import Derived.Test.YtehieiddelngfaaInM
namespace Go.Proofs.Ytehieiddelngfaa.ins
open Go.RowKit Go.Shelf Go.Proofs.Ytehieiddelngfaa.mem Go.Proofs.Ytehieiddelngfaa.inn

theorem texts_end {w w1 w2 w3 : World} (h1 : Below w.heap.size w w1) (h2 : Below w1.heap.size w1 w2) (h3 : Below w2.heap.size w2 w3) : Below w.heap.size w w3 := by
  have a := h1.size
  have b := h2.size
  exact (h1.trans (h2.mono a)).trans (h3.mono (by omega))

set_option maxRecDepth 100000 in
set_option maxHeartbeats 4000000 in
theorem law_texts (w : World) (A1 A2 : Option Addr) (c1 c2 : Nat) (l ask : List (List UInt8)) (n : Int) (h1 : Rd w A1 (l.map encStr)) (h2 : Rd w A2 (ask.map encStr)) (hl : l.length ≤ 9223372036854775807) (ha : ask.length ≤ 9223372036854775807) (hwl : ∀ x ∈ l, WF x) (hwa : ∀ x ∈ ask, WF x) :
    Calls Try.prog 3 #[.slice A1 l.length c1, .slice A2 ask.length c2, .int .i64 n] w (WorksPost w) := by
  have K1 := Lib.hid (great_any w A1 c1 l h1 hl)
  have K2 := Lib.hid (great_any w A2 c2 ask h2 ha)
  have H1 := Lib.hid h1
  have H2 := Lib.hid h2
  have HW := Lib.hid hwl
  have HV := Lib.hid hwa
  have T0 := Lib.hid (TM.new w)
  clear h1 h2 hwl hwa
  go_enter Try.func3, Try.ntmps3
  go_wp2_with fail
  refine K1.out.mono ?_
  rintro e w1 ⟨r, rfl, rfl, hr⟩
  cases r with
  | true =>
    clear hr
    go_wp2_with fail
    go_ret
    exact ⟨rfl, Below.refl _ _⟩
  | false =>
  have hl2 := hr rfl
  clear hr
  go_wp2_with fail
  refine K2.out.mono ?_
  rintro e w1 ⟨r, rfl, rfl, hr⟩
  cases r with
  | true =>
    clear hr
    go_wp2_with fail
    go_ret
    exact ⟨rfl, Below.refl _ _⟩
  | false =>
  have ha2 := hr rfl
  clear hr K1 K2
  go_wp2_with fail
  go_loopw [8, 9] (fun m i wr => ∃ (k : Nat) (B : Option Addr) (c : Nat), k ≤ l.length ∧ i = .int .i64 k ∧ m = .slice B (nub (l.take k)).length c ∧ Hid (TM w wr w.heap.size k (nub (l.take k)) (nub (l.take k)) B c)) (fun _ i _ => l.length - (intOf i).toNat)
  case atStart => exact ⟨0, none, 0, by omega, rfl, rfl, T0⟩
  case round =>
    obtain ⟨k, B, c, hk, rfl, rfl, ht⟩ := hrel
    rename_i wr _
    by_cases hkl : k < l.length
    · have e1 : decide ((k : Int) < (l.length : Int)) = true := decide_eq_true (by omega)
      obtain ⟨b, off, rfl, hlt, hcell⟩ := rd_str H1.out (by omega)
      have ck : wr.cell? ⟨b, off + k, none⟩ = some (encStr l[k]) := (ht.out.on.cell (p := ⟨b, off + k, none⟩) hlt).trans (hcell k hkl)
      have hx : WF l[k] := HW.out _ (List.getElem_mem hkl)
      have hns := nub_snoc l k hkl
      have hnl : (nub (l.take k)).length ≤ k := by have := nub_len (l.take k); rw [List.length_take] at this; omega
      have KN := Lib.hid (number_any wr B c (nub (l.take k)) l[k] ht.out.rd (by omega))
      have HNX := Lib.hid hns
      clear hns
      obtain ⟨M', hM⟩ : ∃ M', Hid (nub (l.take (k + 1)) = M') := ⟨_, Lib.hid rfl⟩
      rw [hM.out] at HNX
      generalize nub (l.take k) = M at *
      generalize l[k] = x at *
      by_cases hin : x ∈ M
      · obtain rfl : M' = M := by rw [HNX.out, if_pos hin]
        have KP := Lib.hid (tm_old ht.out x hx hin)
        obtain ⟨r, hr⟩ : ∃ r : Nat, numV M' x = r := ⟨noOf M' x, by unfold numV; rw [if_pos hin]⟩
        have hr2 : noOf M' x = r := by unfold numV at hr; rw [if_pos hin] at hr; omega
        rw [hr] at KN
        rw [hr2] at KP
        clear hin hr hr2 HNX hx hcell
        unfold encStr at ck KN KP
        generalize (ByteArray.mk x.toArray) = z at *
        go_wp2_with fail
        refine KN.out.mono ?_
        rintro e w1 ⟨rfl, rfl⟩
        go_wp2_with fail
        refine KP.out.mono ?_
        rintro e w3 ⟨rfl, t3⟩
        have T3 := Lib.hid t3
        have KL := Lib.hid (tm_len t3)
        have c3 : w3.cell? ⟨b, off + k, none⟩ = some (.string z) := by have := (t3.on.cell (p := ⟨b, off + k, none⟩) hlt).trans ((ht.out.on.cell (p := ⟨b, off + k, none⟩) hlt).symm.trans ck); exact this
        clear t3 ht
        go_wp2_with fail
        refine KL.out.mono ?_
        rintro e w4 ⟨rfl, rfl⟩
        go_wp2_with fail
        go_roundw
        case rel => exact ⟨k + 1, B, c, by omega, by go_num, by rw [hM.out], by rw [hM.out]; exact T3⟩
        case measure => simp [intOf]; omega
      · obtain rfl : M' = M ++ [x] := by rw [HNX.out, if_neg hin]
        have KP := Lib.hid (tm_new ht.out x hx hin (by omega))
        rw [numV_none hin] at KN
        obtain ⟨i0, hi0, hz0, hz1, hz2⟩ := info_parts info_str
        have Hi := Lib.hid hi0
        have Hz0 := Lib.hid hz0
        have Hz1 := Lib.hid hz1
        have Hz2 := Lib.hid hz2
        clear hin HNX hx hcell hi0 hz0 hz1 hz2
        have Hpush := Lib.hid (fun (w2 w3 : World) (A' : Option Addr) (cap' : Nat) (o : Obj) (h : TM w w2 w.heap.size (k + 1) (M ++ [x]) M B c) (hs3 : Seg w3 9 A' cap' (vals M ++ [encStr x])) (b3 : Fr (blk B) (w2.alloc o) w3) (hf3 : blk A' = blk B ∨ blk A' = [(w2.alloc o).heap.size]) => tm_push h x hs3 b3 hf3)
        have KL := Lib.hid (fun (w3 : World) (A' : Option Addr) (cap' : Nat) (h : TM w w3 w.heap.size (k + 1) (M ++ [x]) (M ++ [x]) A' cap') => tm_len h)
        have hlen2 : Hid ((M ++ [x]).length = M.length + 1) := Lib.hid (by simp)
        rw [hlen2.out] at KL
        have hex : encStr x = .string ⟨x.toArray⟩ := rfl
        rw [hex] at ck KN KP Hpush
        obtain ⟨z, hz⟩ : ∃ z, Hid (z = ByteArray.mk x.toArray) := ⟨_, Lib.hid rfl⟩
        rw [← hz.out] at ck KN KP Hpush
        clear hex hz
        go_wp2_with fail
        refine KN.out.mono ?_
        rintro e w1 ⟨rfl, rfl⟩
        go_wp2_with fail
        refine KP.out.mono ?_
        rintro e w3 ⟨rfl, t3⟩
        have T3 := Lib.hid t3
        have c3 : w3.cell? ⟨b, off + k, none⟩ = some (.string z) := by have := (t3.on.cell (p := ⟨b, off + k, none⟩) hlt).trans ((ht.out.on.cell (p := ⟨b, off + k, none⟩) hlt).symm.trans ck); exact this
        clear t3 ht
        go_wp2_with (at_builtin
                     refine wpList_push rfl _ _ _ rfl (T3.out.seg.alloc _) (vals_len M).symm Try.underlying22 Hi.out Hz0.out Hz1.out Hz2.out rfl rfl rfl (new_cell _ _ _) rfl (by omega) (by omega) ?_
                     intro A' cap' w5 hs5 b5 hf5)
        have T5 := Lib.hid (Hpush.out _ _ _ _ _ T3.out hs5 b5 hf5)
        clear hs5 b5 hf5
        refine (KL.out _ _ _ T5.out).mono ?_
        rintro e w6 ⟨rfl, rfl⟩
        go_wp2_with fail
        go_roundw
        case rel => exact ⟨k + 1, A', cap', by omega, by go_num, by rw [hM.out, hlen2.out], by rw [hM.out]; exact T5⟩
        case measure => simp [intOf]; omega
    · obtain rfl : k = l.length := by omega
      have e1 : decide ((l.length : Int) < (l.length : Int)) = false := decide_eq_false (by omega)
      rw [List.take_length] at ht ⊢
      have hml : (nub l).length ≤ 200 := by have := nub_len l; omega
      clear HW T0 H1
      generalize nub l = M at *
      go_wp2_with fail
      go_loopw [13] (fun i w2 => ∃ k : Nat, k ≤ ask.length ∧ i = .int .i64 k ∧ wr = w2) (fun i _ => ask.length - (intOf i).toNat)
      case atStart => exact ⟨0, by omega, rfl, rfl⟩
      case round =>
        obtain ⟨k, hk, rfl, rfl⟩ := hrel
        by_cases hkl : k < ask.length
        · have e2 : decide ((k : Int) < (ask.length : Int)) = true := decide_eq_true (by omega)
          obtain ⟨b, off, rfl, hlt, hcell⟩ := rd_str H2.out (by omega)
          have ck : wr.cell? ⟨b, off + k, none⟩ = some (encStr ask[k]) := (ht.out.on.cell (p := ⟨b, off + k, none⟩) hlt).trans (hcell k hkl)
          have hx : WF ask[k] := HV.out _ (List.getElem_mem hkl)
          have KN := Lib.hid (number_any wr B c M ask[k] ht.out.rd (by omega))
          have KF := Lib.hid (tm_find ht.out ask[k] hx)
          clear hcell
          generalize ask[k] = x at *
          by_cases hin : x ∈ M
          · obtain ⟨r, hr⟩ : ∃ r : Nat, numV M x = r := ⟨noOf M x, by unfold numV; rw [if_pos hin]⟩
            have hr2 : noOf M x = r := by unfold numV at hr; rw [if_pos hin] at hr; omega
            rw [hr] at KN
            rw [hr2, decide_eq_true hin] at KF
            clear hin hr hr2 hx
            unfold encStr at ck KN KF
            generalize (ByteArray.mk x.toArray) = z at *
            rcases Nat.eq_zero_or_pos r with rfl | hpos
            · go_wp2_with fail
              refine KF.out.mono ?_
              rintro e w3 ⟨rfl, rfl⟩
              go_wp2_with fail
              refine KN.out.mono ?_
              rintro e w3 ⟨rfl, rfl⟩
              go_wp2_with fail
              refine KN.out.mono ?_
              rintro e w3 ⟨rfl, rfl⟩
              go_wp2_with fail
              go_roundw
              case rel => exact ⟨k + 1, by omega, by go_num, trivial⟩
              case measure => simp [intOf]; omega
            · have d0 : decide ((0 : Int) < (r : Int)) = true := decide_eq_true (by omega)
              go_wp2_with fail
              refine KF.out.mono ?_
              rintro e w3 ⟨rfl, rfl⟩
              go_wp2_with fail
              refine KN.out.mono ?_
              rintro e w3 ⟨rfl, rfl⟩
              go_wp2_with fail
              refine KN.out.mono ?_
              rintro e w3 ⟨rfl, rfl⟩
              go_wp2_with fail
              go_roundw
              case rel => exact ⟨k + 1, by omega, by go_num, trivial⟩
              case measure => simp [intOf]; omega
          · have hr2 : noOf M x = 0 := by unfold noOf; rw [if_neg hin]
            rw [numV_none hin] at KN
            rw [hr2, decide_eq_false hin] at KF
            clear hin hr2 hx
            unfold encStr at ck KN KF
            generalize (ByteArray.mk x.toArray) = z at *
            go_wp2_with fail
            refine KF.out.mono ?_
            rintro e w3 ⟨rfl, rfl⟩
            go_wp2_with fail
            refine KN.out.mono ?_
            rintro e w3 ⟨rfl, rfl⟩
            go_wp2_with fail
            refine KN.out.mono ?_
            rintro e w3 ⟨rfl, rfl⟩
            go_wp2_with fail
            go_roundw
            case rel => exact ⟨k + 1, by omega, by go_num, trivial⟩
            case measure => simp [intOf]; omega
        · obtain rfl : k = ask.length := by omega
          have e2 : decide ((ask.length : Int) < (ask.length : Int)) = false := decide_eq_false (by omega)
          have KA := Lib.hid (tm_at ht.out n)
          have KR := Lib.hid (tm_rising ht.out (by omega))
          by_cases hn : 0 ≤ n ∧ n < (M.length : Int)
          · obtain ⟨q, rfl⟩ : ∃ q : Nat, n = q := ⟨n.toNat, by omega⟩
            have hq : q < M.length := by omega
            have hv : atV M q = .tuple #[encStr M[q], .bool true] := by unfold atV; rw [dif_pos (by omega)]; simp
            rw [hv] at KA
            obtain ⟨b, off, rfl, hlt, hcell⟩ := rd_str ht.out.rd (by omega)
            have cq := hcell q hq
            have d1 : decide ((q : Int) < (M.length : Int)) = true := decide_eq_true (by omega)
            have d2 : decide ((M.length : Int) ≤ (q : Int)) = false := decide_eq_false (by omega)
            have d3 : decide ((q : Int) < 0) = false := decide_eq_false (by omega)
            have HT := Lib.hid ht.out.on
            clear hcell hv ht hn
            generalize M[q] = x at *
            unfold encStr at cq KA
            generalize (ByteArray.mk x.toArray) = z at *
            have e4 : (z.toList == z.toList) = true := by simp
            go_wp2_with fail
            refine KA.out.mono ?_
            rintro e w3 ⟨rfl, rfl⟩
            go_wp2_with fail
            refine KR.out.mono ?_
            rintro e w4 ⟨rfl, b4⟩
            have B4 := Lib.hid b4
            clear b4
            go_wp2_with fail
            refine (works_any w4).mono ?_
            rintro e w5 ⟨rfl, b5⟩
            have B5 := Lib.hid b5
            clear b5
            go_wp2_with fail
            go_ret
            exact ⟨rfl, texts_end HT.out B4.out B5.out⟩
          · have hv : atV M n = .tuple #[.string ⟨#[]⟩, .bool false] := by unfold atV; rw [dif_neg hn]
            rw [hv] at KA
            have HT := Lib.hid ht.out.on
            clear hv ht
            rcases Int.lt_or_le n 0 with hn0 | hn0
            · have d1 : decide (n < 0) = true := decide_eq_true (by omega)
              have d2 : decide (0 ≤ n) = false := decide_eq_false (by omega)
              clear hn
              go_wp2_with fail
              refine KA.out.mono ?_
              rintro e w3 ⟨rfl, rfl⟩
              go_wp2_with fail
              refine KR.out.mono ?_
              rintro e w4 ⟨rfl, b4⟩
              have B4 := Lib.hid b4
              clear b4
              go_wp2_with fail
              refine (works_any w4).mono ?_
              rintro e w5 ⟨rfl, b5⟩
              have B5 := Lib.hid b5
              clear b5
              go_wp2_with fail
              go_ret
              exact ⟨rfl, texts_end HT.out B4.out B5.out⟩
            · have d1 : decide (n < 0) = false := decide_eq_false (by omega)
              have d2 : decide (0 ≤ n) = true := decide_eq_true (by omega)
              have d3 : decide (n < (M.length : Int)) = false := decide_eq_false (by omega)
              have d4 : decide ((M.length : Int) ≤ n) = true := decide_eq_true (by omega)
              clear hn
              go_wp2_with fail
              refine KA.out.mono ?_
              rintro e w3 ⟨rfl, rfl⟩
              go_wp2_with fail
              refine KR.out.mono ?_
              rintro e w4 ⟨rfl, b4⟩
              have B4 := Lib.hid b4
              clear b4
              go_wp2_with fail
              refine (works_any w4).mono ?_
              rintro e w5 ⟨rfl, b5⟩
              have B5 := Lib.hid b5
              clear b5
              go_wp2_with fail
              go_ret
              exact ⟨rfl, texts_end HT.out B4.out B5.out⟩
end Go.Proofs.Ytehieiddelngfaa.ins
