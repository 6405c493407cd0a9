/-
  token: the law: tokens that are joined are the same tokens.
-/
import Derived.Test.YtehieiddelngfaaTkD
namespace Go.Proofs.Ytehieiddelngfaa.tk
open Go.RowKit Go.Proofs.Ytehieiddelngfaa.dg Go.Proofs.Ytehieiddelngfaa.mem

/-- All of a text whose tokens are known -/
def EPost (w : World) (ts : List Tok) (e : Ending) (w' : World) : Prop :=
  Below w.heap.size w w' ∧ (e = .returned (.tuple #[.slice none 0 0, .int .i64 0, .int .i64 9]) ∨ ∃ A cap, e = .returned (.tuple #[.slice A ts.length cap, .int .i64 0, .int .i64 0]) ∧ Rd w' A (cellsT ts))

theorem all_either (w : World) (z : ByteArray) (hz : z.size ≤ maxLen) (hm : MaxAt w) (ts : List Tok) (h : go z.size z.data.toList 1 [] = .ok ts) : Calls Try.prog 26 #[.string z] w (EPost w ts) := by
  by_cases hl : z.size ≤ 20000
  · have K := all_any w z hl hm
    rw [h] at K
    refine K.mono ?_
    rintro e w' ⟨b, A, cap, rfl, r⟩
    exact ⟨b, Or.inr ⟨A, cap, rfl, r⟩⟩
  · refine (all_long w z (by omega) hz).mono ?_
    rintro e w' ⟨rfl, rfl⟩
    exact ⟨Below.refl _ _, Or.inl rfl⟩

theorem ten_in (s : ByteArray) (k : Nat) (h : k < s.size) : s.data.toList.take (k + 1) = s.data.toList.take k ++ [s[k]] := by
  have hl := size_list s
  rw [List.take_succ_eq_append_getElem (by omega : k < s.data.toList.length)]
  rfl

def pks (ts : List Tok) : List PK := ts.map fun t => (t.1, t.2.1)

theorem noted_snoc (n : List UInt8) (ps : List PK) (p : PK) : noted n (ps ++ [p]) = noted n ps ++ [9, 35] ++ n ++ [10, 32] ++ p.2 := by simp [noted]

/-- what the last loop looks at -/
structure Three (w : World) (bl ol ba oa bb ob : Nat) (ts : List Tok) : Prop where
  at_ : ∀ k (hk : k < ts.length), w.cell? ⟨bl, ol + k * 3, none⟩ = some (.int .i64 ts[k].1) ∧ w.cell? ⟨bl, ol + k * 3 + 1, none⟩ = some (.string (BA ts[k].2.1)) ∧
    w.cell? ⟨ba, oa + k * 3, none⟩ = some (.int .i64 ts[k].1) ∧ w.cell? ⟨ba, oa + k * 3 + 1, none⟩ = some (.string (BA ts[k].2.1)) ∧ w.cell? ⟨ba, oa + k * 3 + 2, none⟩ = some (.int .i64 1) ∧
    w.cell? ⟨bb, ob + k * 3, none⟩ = some (.int .i64 ts[k].1) ∧ w.cell? ⟨bb, ob + k * 3 + 1, none⟩ = some (.string (BA ts[k].2.1)) ∧ w.cell? ⟨bb, ob + k * 3 + 2, none⟩ = some (.int .i64 ((k : Int) + 2))

theorem three_of {w : World} {L A B : Option Addr} {ts : List Tok} (hz : 0 < ts.length) (hl : Rd w L (cellsT ts)) (ha : Rd w A (cellsT ((pks ts).map fun t => (t.1, t.2, 1)))) (hb : Rd w B (cellsT (lined (pks ts) 1))) :
    ∃ bl ol ba oa bb ob, L = some ⟨bl, ol, none⟩ ∧ A = some ⟨ba, oa, none⟩ ∧ B = some ⟨bb, ob, none⟩ ∧ Three w bl ol ba oa bb ob ts := by
  have pl : (pks ts).length = ts.length := by simp [pks]
  have ll : (lined (pks ts) 1).length = ts.length := by rw [lined_len, pl]
  obtain ⟨bl, ol, rfl, _, h1⟩ := rd_tok hl hz
  obtain ⟨ba, oa, rfl, _, h2⟩ := rd_tok ha (by rw [List.length_map, pl]; exact hz)
  obtain ⟨bb, ob, rfl, _, h3⟩ := rd_tok hb (by rw [ll]; exact hz)
  refine ⟨bl, ol, ba, oa, bb, ob, rfl, rfl, rfl, ⟨fun k hk => ?_⟩⟩
  obtain ⟨x1, x2, _⟩ := h1 k hk
  obtain ⟨y1, y2, y3⟩ := h2 k (by rw [List.length_map, pl]; exact hk)
  obtain ⟨z1, z2, z3⟩ := h3 k (by rw [ll]; exact hk)
  have e : (lined (pks ts) 1)[k]'(by rw [ll]; exact hk) = (ts[k].1, ts[k].2.1, 1 + k + 1) := by
    have := lined_get (pks ts) 1 k (by rw [pl]; exact hk)
    rw [List.getElem?_eq_getElem (by rw [ll]; exact hk)] at this
    have h := Option.some.inj this
    rw [h]
    simp [pks]
  rw [e] at z1 z2 z3
  refine ⟨x1, x2, ?_, ?_, ?_, z1, z2, ?_⟩
  · rw [y1]; simp [pks]
  · rw [y2]; simp [pks]
  · rw [y3]; simp [pks]
  · rw [z3]; simp; omega

theorem Three.below {w w' : World} {bl ol ba oa bb ob : Nat} {ts : List Tok} (h : Three w bl ol ba oa bb ob ts) (b : Below w.heap.size w w') : Three w' bl ol ba oa bb ob ts := by
  refine ⟨fun k hk => ?_⟩
  obtain ⟨h1, h2, h3, h4, h5, h6, h7, h8⟩ := h.at_ k hk
  have key : ∀ (p : Addr) (v : Value), w.cell? p = some v → w'.cell? p = some v := fun p v h => (b.cell (World.block_lt_of_cell? w _ h)).trans h
  exact ⟨key _ _ h1, key _ _ h2, key _ _ h3, key _ _ h4, key _ _ h5, key _ _ h6, key _ _ h7, key _ _ h8⟩

set_option maxRecDepth 100000 in
set_option maxHeartbeats 8000000 in
theorem law_back (w : World) (s n : ByteArray) (hs : s.size ≤ maxLen) (hn : n.size ≤ maxLen) (hm : MaxAt w) : Calls Try.prog 8 #[.string s, .string n] w (WorksPost w) := by
  have KW := Lib.hid (tworks_any w hm)
  have HM := Lib.hid hm
  unfold maxLen at hs hn
  clear hm
  go_enter Try.func8, Try.ntmps8
  go_wp2_with fail
  refine KW.out.mono ?_
  rintro e w1 ⟨rfl, b1⟩
  have B1 := Lib.hid b1
  have HM1 := Lib.hid (HM.out.below b1)
  clear b1 KW HM
  by_cases h1 : (2000 : Int) < (s.size : Int)
  · have d1 : decide ((2000 : Int) < (s.size : Int)) = true := decide_eq_true h1
    go_wp2_with fail
    go_ret
    exact ⟨rfl, B1.out⟩
  have d1 : decide ((2000 : Int) < (s.size : Int)) = false := decide_eq_false h1
  by_cases h2 : (20 : Int) < (n.size : Int)
  · have d2 : decide ((20 : Int) < (n.size : Int)) = true := decide_eq_true h2
    go_wp2_with fail
    go_ret
    exact ⟨rfl, B1.out⟩
  have d2 : decide ((20 : Int) < (n.size : Int)) = false := decide_eq_false h2
  have hs2 : s.size ≤ 2000 := by omega
  have hn2 : n.size ≤ 20 := by omega
  clear h1 h2
  go_wp2_with fail
  go_loopw [5] (fun i wr => ∃ k : Nat, k ≤ n.size ∧ i = .int .i64 (k : Int) ∧ Hid (∀ c ∈ n.data.toList.take k, c ≠ 10) ∧ w1 = wr) (fun i _ => n.size - (intOf i).toNat)
  case atStart => exact ⟨0, by omega, rfl, Lib.hid (by simp), rfl⟩
  case round =>
    obtain ⟨k, hk, rfl, hno, rfl⟩ := hrel
    by_cases hkl : k < n.size
    · have e1 : decide ((k : Int) < (n.size : Int)) = true := decide_eq_true (by omega)
      have b10 : ((n[k].toNat : Int) == 10) = decide (n[k] = 10) := eq_nat n[k] 10 (by omega)
      by_cases c10 : n[k] = 10
      · rw [decide_eq_true c10] at b10
        go_wp2_with fail
        go_ret
        exact ⟨rfl, B1.out⟩
      · rw [decide_eq_false c10] at b10
        have hno2 : Hid (∀ c ∈ n.data.toList.take (k + 1), c ≠ 10) := Lib.hid (by
          rw [ten_in n k hkl]
          intro c hc
          rcases List.mem_append.1 hc with hc | hc
          · exact hno.out c hc
          · rw [List.mem_singleton] at hc; rw [hc]; exact c10)
        clear c10
        go_wp2_with fail
        go_roundw
        case rel => exact ⟨k + 1, by omega, by go_num, hno2, trivial⟩
        case measure => simp [intOf]; omega
    · obtain rfl : k = n.size := by omega
      have e1 : decide ((n.size : Int) < (n.size : Int)) = false := decide_eq_false (by omega)
      have hnn : Hid (∀ c ∈ n.data.toList, c ≠ 10) := Lib.hid (by have := hno.out; rwa [List.take_of_length_le (by rw [size_list]; omega)] at this)
      clear hno
      have K1 := Lib.hid (all_any w1 s (by omega) HM1.out)
      rcases hR : go s.size s.data.toList 1 [] with ts | ⟨line, er⟩
      · rw [hR] at K1
        unfold APost at K1
        have hlen : ts.length ≤ 2000 := by have := go_len _ _ _ _ _ hR; rw [size_list] at this; simp only [List.length_nil] at this; omega
        have hgood := Lib.hid (go_good _ _ _ _ _ (by simp) hR)
        have hsm := Lib.hid (go_small 2000 _ _ _ _ _ (by rw [size_list]; omega) (by simp) hR)
        clear hR
        go_wp2_with fail
        refine K1.out.mono ?_
        rintro e w2 ⟨b2, L, cl, rfl, r2⟩
        have B2 := Lib.hid (B1.out.trans (b2.mono B1.out.size))
        have HM2 := Lib.hid (HM1.out.below b2)
        have RL := Lib.hid r2
        clear b2 r2 K1
        go_wp2_with fail
        go_loopw [9, 10] (fun s0 i wr => ∃ (k : Nat) (z : ByteArray), k ≤ ts.length ∧ s0 = .string z ∧ i = .int .i64 (k : Int) ∧ z.size ≤ 2024 * k ∧ Hid (z.data.toList = noted n.data.toList (pks (ts.take k))) ∧ w2 = wr) (fun _ i _ => ts.length - (intOf i).toNat)
        case atStart => exact ⟨0, ⟨#[]⟩, by omega, rfl, rfl, by decide, Lib.hid rfl, rfl⟩
        case round =>
          obtain ⟨k, z, hk, rfl, rfl, hz, hzl, rfl⟩ := hrel
          by_cases hkl : k < ts.length
          · have e2 : decide ((k : Int) < (ts.length : Int)) = true := decide_eq_true (by omega)
            obtain ⟨bl, ol, rfl, _, hc⟩ := rd_tok RL.out (by omega)
            have x2 := (hc k hkl).2.1
            have htl := hsm.out ts[k] (List.getElem_mem hkl)
            have hts : (BA ts[k].2.1).size = ts[k].2.1.length := by simp [ByteArray.size]
            have q1 : (z ++ ({ data := #[9, 35] } : ByteArray)).size = z.size + 2 := ByteArray.size_append
            have q2 : (z ++ ({ data := #[9, 35] } : ByteArray) ++ n).size = z.size + 2 + n.size := by rw [ByteArray.size_append, q1]
            have q3 : (z ++ ({ data := #[9, 35] } : ByteArray) ++ n ++ ({ data := #[10, 32] } : ByteArray)).size = z.size + 2 + n.size + 2 := by rw [ByteArray.size_append, q2]; rfl
            have q4 : (z ++ ({ data := #[9, 35] } : ByteArray) ++ n ++ ({ data := #[10, 32] } : ByteArray) ++ BA ts[k].2.1).size = z.size + 2 + n.size + 2 + (BA ts[k].2.1).size := by rw [ByteArray.size_append, q3]
            have hz2 : Hid ((z ++ ({ data := #[9, 35] } : ByteArray) ++ n ++ ({ data := #[10, 32] } : ByteArray) ++ BA ts[k].2.1).data.toList = noted n.data.toList (pks (ts.take (k + 1)))) := Lib.hid (by
              have e : pks (ts.take (k + 1)) = pks (ts.take k) ++ [(ts[k].1, ts[k].2.1)] := by unfold pks; rw [List.take_succ_eq_append_getElem hkl, List.map_append]; rfl
              rw [e, noted_snoc, ← hzl.out, ba_app, ba_app, ba_app, ba_app])
            clear hc
            go_wp2_with fail
            go_roundw
            case rel => exact ⟨k + 1, _, by omega, rfl, by go_num, by omega, hz2, trivial⟩
            case measure => simp [intOf]; omega
          · obtain rfl : k = ts.length := by omega
            have e2 : decide ((ts.length : Int) < (ts.length : Int)) = false := decide_eq_false (by omega)
            rw [List.take_length] at hzl
            have hgp : ∀ t ∈ pks ts, Good t.1 t.2 := by
              intro t ht
              obtain ⟨u, hu, rfl⟩ := List.mem_map.1 ht
              exact hgood.out u hu
            have hjm : (pks ts).map (·.2) = ts.map fun t => t.2.1 := by unfold pks; rw [List.map_map]; rfl
            have hjL : (joinL ts).length ≤ 2001 * 2000 := by
              have := join_lenM 2000 (ts.map fun t => t.2.1) (by intro t ht; obtain ⟨u, hu, rfl⟩ := List.mem_map.1 ht; exact hsm.out u hu)
              rw [List.length_map] at this
              have h2 : 2001 * ts.length ≤ 2001 * 2000 := Nat.mul_le_mul_left _ hlen
              exact Nat.le_trans this h2
            have KJ := Lib.hid (join_any w2 L cl ts RL.out (by omega) (by omega))
            have gj : go (BA (joinL ts)).size (BA (joinL ts)).data.toList 1 [] = .ok ((pks ts).map fun t => (t.1, t.2, 1)) := by
              have := go_joined (pks ts) (BA (joinL ts)).size 1 [] hgp (by rw [hjm, ← size_list (BA (joinL ts))]; exact Nat.le_refl _)
              rw [hjm] at this
              exact this
            have gz : go z.size z.data.toList 1 [] = .ok (lined (pks ts) 1) := by
              rw [hzl.out]
              exact go_noted n.data.toList hnn.out (pks ts) z.size 1 [] hgp (by rw [← hzl.out, size_list]; exact Nat.le_refl _)
            have pl : (pks ts).length = ts.length := by simp [pks]
            have al : ((pks ts).map fun t => ((t.1, t.2, 1) : Tok)).length = ts.length := by rw [List.length_map, pl]
            have ll : (lined (pks ts) 1).length = ts.length := by rw [lined_len, pl]
            have hjs : (BA (joinL ts)).size = (joinL ts).length := by simp [ByteArray.size]
            have KA := Lib.hid (fun w hm => all_either w (BA (joinL ts)) (by rw [hjs]; unfold maxLen; omega) hm _ gj)
            have KB := Lib.hid (fun w hm => all_either w z (by unfold maxLen; omega) hm _ gz)
            unfold EPost at KA KB
            rw [al] at KA
            rw [ll] at KB
            clear hgp hjm hjL gj gz pl al ll hjs hgood hsm hnn hzl
            generalize BA (joinL ts) = jz at *
            go_wp2_with fail
            refine KJ.out.mono ?_
            rintro e w3 ⟨rfl, b3⟩
            have B3 := Lib.hid (B2.out.trans (b3.mono B2.out.size))
            have HM3 := Lib.hid (HM2.out.below b3)
            have RL3 := Lib.hid (RL.out.below b3)
            clear b3 KJ RL
            go_wp2_with fail
            refine (KA.out w3 HM3.out).mono ?_
            rintro e w4 ⟨b4, ra⟩
            have B4 := Lib.hid (B3.out.trans (b4.mono B3.out.size))
            have HM4 := Lib.hid (HM3.out.below b4)
            have RL4 := Lib.hid (RL3.out.below b4)
            clear b4 KA RL3
            rcases ra with rfl | ⟨A, ca, rfl, ra⟩
            · go_wp2_with fail
              refine (KB.out w4 HM4.out).mono ?_
              rintro e w5 ⟨b5, rb⟩
              have B5 := Lib.hid (B4.out.trans (b5.mono B4.out.size))
              clear b5 KB
              rcases rb with rfl | ⟨B, cb, rfl, _⟩
              · go_wp2_with fail
                go_ret
                exact ⟨rfl, B5.out⟩
              · go_wp2_with fail
                go_ret
                exact ⟨rfl, B5.out⟩
            · have RA4 := Lib.hid ra
              clear ra
              go_wp2_with fail
              refine (KB.out w4 HM4.out).mono ?_
              rintro e w5 ⟨b5, rb⟩
              have B5 := Lib.hid (B4.out.trans (b5.mono B4.out.size))
              have RL5 := Lib.hid (RL4.out.below b5)
              have RA5 := Lib.hid (RA4.out.below b5)
              clear b5 KB RL4 RA4
              rcases rb with rfl | ⟨B, cb, rfl, rb⟩
              · go_wp2_with fail
                go_ret
                exact ⟨rfl, B5.out⟩
              have RB5 := Lib.hid rb
              have ne0 : ((ts.length : Int) != (ts.length : Int)) = false := by simp
              clear rb
              rcases Nat.eq_zero_or_pos ts.length with hz0 | hz0
              · have e3 : decide ((0 : Int) < (ts.length : Int)) = false := decide_eq_false (by omega)
                go_wp2_with fail
                go_loopw [17] (fun i wr => i = .int .i64 0 ∧ w5 = wr) (fun _ _ => 0)
                case atStart => exact ⟨rfl, rfl⟩
                case round =>
                  obtain ⟨rfl, rfl⟩ := hrel
                  go_wp2_with fail
                  go_ret
                  exact ⟨rfl, B5.out⟩
              obtain ⟨bl, ol, ba, oa, bb, ob, rfl, rfl, rfl, h3⟩ := three_of hz0 RL5.out RA5.out RB5.out
              have H3 := Lib.hid h3
              clear h3 RL5 RA5 RB5 hz0
              go_wp2_with fail
              go_loopw [17] (fun i wr => ∃ k : Nat, k ≤ ts.length ∧ i = .int .i64 (k : Int) ∧ Hid (Below w.heap.size w wr) ∧ Hid (Three wr bl ol ba oa bb ob ts)) (fun i _ => ts.length - (intOf i).toNat)
              case atStart => exact ⟨0, by omega, rfl, B5, H3⟩
              case round =>
                obtain ⟨k, hk, rfl, hb, h3⟩ := hrel
                rename_i wr
                by_cases hkl : k < ts.length
                · have e3 : decide ((k : Int) < (ts.length : Int)) = true := decide_eq_true (by omega)
                  obtain ⟨x1, x2, y1, y2, y3, z1, z2, z3⟩ := h3.out.at_ k hkl
                  have HB6 : Hid (Below w.heap.size w wr.drew) := Lib.hid (hb.out.trans ((below_one wr).mono hb.out.size))
                  have H36 : Hid (Three wr.drew bl ol ba oa bb ob ts) := Lib.hid (h3.out.below (below_one wr))
                  clear hb h3 H3 B5
                  generalize ts[k].1 = kd at *
                  generalize BA ts[k].2.1 = tx at *
                  have ee : (kd != kd) = false := by simp
                  have et : (tx.toList != tx.toList) = false := by simp
                  have e7 : IntKind.i64.wrap ((k : Int) + 2) = (k : Int) + 2 := IntWalk.i64_in _ (by omega)
                  have e8 : ((k : Int) + 2 != (k : Int) + 2) = false := by simp
                  go_wp2_with fail
                  refine wp_region_held_drew (S := fun w' => w'.cell? ⟨bl, ol + k * 3, none⟩ = some (.int .i64 kd) ∧ w'.cell? ⟨bl, ol + k * 3 + 1, none⟩ = some (.string tx) ∧ w'.cell? ⟨ba, oa + k * 3, none⟩ = some (.int .i64 kd) ∧ w'.cell? ⟨ba, oa + k * 3 + 1, none⟩ = some (.string tx) ∧ w'.cell? ⟨ba, oa + k * 3 + 2, none⟩ = some (.int .i64 1) ∧ w'.cell? ⟨bb, ob + k * 3, none⟩ = some (.int .i64 kd) ∧ w'.cell? ⟨bb, ob + k * 3 + 1, none⟩ = some (.string tx) ∧ w'.cell? ⟨bb, ob + k * 3 + 2, none⟩ = some (.int .i64 ((k : Int) + 2))) (by kernel_rfl) ⟨x1, x2, y1, y2, y3, z1, z2, z3⟩ (fun hS => ?_)
                  try simp only [List.append_eq, List.cons_append, List.nil_append]
                  refine wpAnyH_take (i := 0) (v := (.slice (some ⟨ba, oa, none⟩) ts.length ca)) rfl (by kernel_rfl) (by kernel_rfl) (by kernel_rfl) (fun _ _ _ h => h) (Or.inl ⟨by kernel_rfl, ?_⟩) hS ?_
                  · intro W' hSw
                    obtain ⟨q0, q1, q2, q3, q4, q5, q6, q7⟩ := hSw
                    go_simp
                  change wpAnyH _ _ _ _ _ _ _ (Act.put _ (some 120) _) _
                  try simp only [Act.put, List.setIfInBounds_toArray, List.set_cons_zero, List.set_cons_succ]
                  refine wpAnyH_take (i := 1) (v := (.int .i64 (k : Int))) rfl (by kernel_rfl) (by kernel_rfl) (by kernel_rfl) (fun _ _ _ h => h) (Or.inl ⟨by kernel_rfl, ?_⟩) hS ?_
                  · intro W' hSw
                    obtain ⟨q0, q1, q2, q3, q4, q5, q6, q7⟩ := hSw
                    go_simp
                  change wpAnyH _ _ _ _ _ _ _ (Act.put _ (some 121) _) _
                  try simp only [Act.put, List.setIfInBounds_toArray, List.set_cons_zero, List.set_cons_succ]
                  refine wpAnyH_take (i := 2) (v := (.pointer (some ⟨ba, oa + k * 3, none⟩))) rfl (by kernel_rfl) (by kernel_rfl) (by kernel_rfl) (fun _ _ _ h => h) (Or.inl ⟨by kernel_rfl, ?_⟩) hS ?_
                  · intro W' hSw
                    obtain ⟨q0, q1, q2, q3, q4, q5, q6, q7⟩ := hSw
                    go_simp
                  change wpAnyH _ _ _ _ _ _ _ (Act.put _ (some 122) _) _
                  try simp only [Act.put, List.setIfInBounds_toArray, List.set_cons_zero, List.set_cons_succ]
                  refine wpAnyH_take (i := 3) (v := (.pointer (some ⟨ba, oa + k * 3, none⟩))) rfl (by kernel_rfl) (by kernel_rfl) (by kernel_rfl) (fun _ _ _ h => h) (Or.inl ⟨by kernel_rfl, ?_⟩) hS ?_
                  · intro W' hSw
                    obtain ⟨q0, q1, q2, q3, q4, q5, q6, q7⟩ := hSw
                    go_simp
                  change wpAnyH _ _ _ _ _ _ _ (Act.put _ (some 123) _) _
                  try simp only [Act.put, List.setIfInBounds_toArray, List.set_cons_zero, List.set_cons_succ]
                  refine wpAnyH_take (i := 4) (v := (.int .i64 kd)) rfl (by kernel_rfl) (by kernel_rfl) (by kernel_rfl) (fun _ _ _ h => h) (Or.inl ⟨by kernel_rfl, ?_⟩) hS ?_
                  · intro W' hSw
                    obtain ⟨q0, q1, q2, q3, q4, q5, q6, q7⟩ := hSw
                    go_simp
                  change wpAnyH _ _ _ _ _ _ _ (Act.put _ (some 124) _) _
                  try simp only [Act.put, List.setIfInBounds_toArray, List.set_cons_zero, List.set_cons_succ]
                  refine wpAnyH_take (i := 5) (v := (.slice (some ⟨bl, ol, none⟩) ts.length cl)) rfl (by kernel_rfl) (by kernel_rfl) (by kernel_rfl) (fun _ _ _ h => h) (Or.inl ⟨by kernel_rfl, ?_⟩) hS ?_
                  · intro W' hSw
                    obtain ⟨q0, q1, q2, q3, q4, q5, q6, q7⟩ := hSw
                    go_simp
                  change wpAnyH _ _ _ _ _ _ _ (Act.put _ (some 125) _) _
                  try simp only [Act.put, List.setIfInBounds_toArray, List.set_cons_zero, List.set_cons_succ]
                  refine wpAnyH_take (i := 6) (v := (.int .i64 (k : Int))) rfl (by kernel_rfl) (by kernel_rfl) (by kernel_rfl) (fun _ _ _ h => h) (Or.inl ⟨by kernel_rfl, ?_⟩) hS ?_
                  · intro W' hSw
                    obtain ⟨q0, q1, q2, q3, q4, q5, q6, q7⟩ := hSw
                    go_simp
                  change wpAnyH _ _ _ _ _ _ _ (Act.put _ (some 126) _) _
                  try simp only [Act.put, List.setIfInBounds_toArray, List.set_cons_zero, List.set_cons_succ]
                  refine wpAnyH_take (i := 7) (v := (.pointer (some ⟨bl, ol + k * 3, none⟩))) rfl (by kernel_rfl) (by kernel_rfl) (by kernel_rfl) (fun _ _ _ h => h) (Or.inl ⟨by kernel_rfl, ?_⟩) hS ?_
                  · intro W' hSw
                    obtain ⟨q0, q1, q2, q3, q4, q5, q6, q7⟩ := hSw
                    go_simp
                  change wpAnyH _ _ _ _ _ _ _ (Act.put _ (some 127) _) _
                  try simp only [Act.put, List.setIfInBounds_toArray, List.set_cons_zero, List.set_cons_succ]
                  refine wpAnyH_take (i := 8) (v := (.pointer (some ⟨bl, ol + k * 3, none⟩))) rfl (by kernel_rfl) (by kernel_rfl) (by kernel_rfl) (fun _ _ _ h => h) (Or.inl ⟨by kernel_rfl, ?_⟩) hS ?_
                  · intro W' hSw
                    obtain ⟨q0, q1, q2, q3, q4, q5, q6, q7⟩ := hSw
                    go_simp
                  change wpAnyH _ _ _ _ _ _ _ (Act.put _ (some 128) _) _
                  try simp only [Act.put, List.setIfInBounds_toArray, List.set_cons_zero, List.set_cons_succ]
                  refine wpAnyH_take (i := 9) (v := (.int .i64 kd)) rfl (by kernel_rfl) (by kernel_rfl) (by kernel_rfl) (fun _ _ _ h => h) (Or.inl ⟨by kernel_rfl, ?_⟩) hS ?_
                  · intro W' hSw
                    obtain ⟨q0, q1, q2, q3, q4, q5, q6, q7⟩ := hSw
                    go_simp
                  change wpAnyH _ _ _ _ _ _ _ (Act.put _ (some 129) _) _
                  try simp only [Act.put, List.setIfInBounds_toArray, List.set_cons_zero, List.set_cons_succ]
                  refine wpAnyH_take (i := 10) (v := (.bool false)) rfl (by kernel_rfl) (by kernel_rfl) (by kernel_rfl) (fun _ _ _ h => h) (Or.inl ⟨by kernel_rfl, ?_⟩) hS ?_
                  · intro W' hSw
                    obtain ⟨q0, q1, q2, q3, q4, q5, q6, q7⟩ := hSw
                    go_simp
                  change wpAnyH _ _ _ _ _ _ _ (Act.put _ (some 130) _) _
                  try simp only [Act.put, List.setIfInBounds_toArray, List.set_cons_zero, List.set_cons_succ]
                  refine wpAnyH_take (i := 11) (v := (.bool false)) rfl (by kernel_rfl) (by kernel_rfl) (by kernel_rfl) (fun _ _ _ h => h) (Or.inl ⟨by kernel_rfl, ?_⟩) hS ?_
                  · intro W' hSw
                    obtain ⟨q0, q1, q2, q3, q4, q5, q6, q7⟩ := hSw
                    go_simp
                  change wpAnyH _ _ _ _ _ _ _ (Act.put _ (some 131) _) _
                  try simp only [Act.put, List.setIfInBounds_toArray, List.set_cons_zero, List.set_cons_succ]
                  refine wpAnyH_take (i := 12) (v := (.slice (some ⟨ba, oa, none⟩) ts.length ca)) rfl (by kernel_rfl) (by kernel_rfl) (by kernel_rfl) (fun _ _ _ h => h) (Or.inl ⟨by kernel_rfl, ?_⟩) hS ?_
                  · intro W' hSw
                    obtain ⟨q0, q1, q2, q3, q4, q5, q6, q7⟩ := hSw
                    go_simp
                  change wpAnyH _ _ _ _ _ _ _ (Act.put _ (some 132) _) _
                  try simp only [Act.put, List.setIfInBounds_toArray, List.set_cons_zero, List.set_cons_succ]
                  refine wpAnyH_take (i := 13) (v := (.int .i64 (k : Int))) rfl (by kernel_rfl) (by kernel_rfl) (by kernel_rfl) (fun _ _ _ h => h) (Or.inl ⟨by kernel_rfl, ?_⟩) hS ?_
                  · intro W' hSw
                    obtain ⟨q0, q1, q2, q3, q4, q5, q6, q7⟩ := hSw
                    go_simp
                  change wpAnyH _ _ _ _ _ _ _ (Act.put _ (some 133) _) _
                  try simp only [Act.put, List.setIfInBounds_toArray, List.set_cons_zero, List.set_cons_succ]
                  refine wpAnyH_take (i := 14) (v := (.pointer (some ⟨ba, oa + k * 3, none⟩))) rfl (by kernel_rfl) (by kernel_rfl) (by kernel_rfl) (fun _ _ _ h => h) (Or.inl ⟨by kernel_rfl, ?_⟩) hS ?_
                  · intro W' hSw
                    obtain ⟨q0, q1, q2, q3, q4, q5, q6, q7⟩ := hSw
                    go_simp
                  change wpAnyH _ _ _ _ _ _ _ (Act.put _ (some 134) _) _
                  try simp only [Act.put, List.setIfInBounds_toArray, List.set_cons_zero, List.set_cons_succ]
                  refine wpAnyH_take (i := 15) (v := (.pointer (some ⟨ba, oa + k * 3 + 1, none⟩))) rfl (by kernel_rfl) (by kernel_rfl) (by kernel_rfl) (fun _ _ _ h => h) (Or.inl ⟨by kernel_rfl, ?_⟩) hS ?_
                  · intro W' hSw
                    obtain ⟨q0, q1, q2, q3, q4, q5, q6, q7⟩ := hSw
                    go_simp
                  change wpAnyH _ _ _ _ _ _ _ (Act.put _ (some 135) _) _
                  try simp only [Act.put, List.setIfInBounds_toArray, List.set_cons_zero, List.set_cons_succ]
                  refine wpAnyH_take (i := 16) (v := (.string tx)) rfl (by kernel_rfl) (by kernel_rfl) (by kernel_rfl) (fun _ _ _ h => h) (Or.inl ⟨by kernel_rfl, ?_⟩) hS ?_
                  · intro W' hSw
                    obtain ⟨q0, q1, q2, q3, q4, q5, q6, q7⟩ := hSw
                    go_simp
                  change wpAnyH _ _ _ _ _ _ _ (Act.put _ (some 136) _) _
                  try simp only [Act.put, List.setIfInBounds_toArray, List.set_cons_zero, List.set_cons_succ]
                  refine wpAnyH_take (i := 17) (v := (.slice (some ⟨bl, ol, none⟩) ts.length cl)) rfl (by kernel_rfl) (by kernel_rfl) (by kernel_rfl) (fun _ _ _ h => h) (Or.inl ⟨by kernel_rfl, ?_⟩) hS ?_
                  · intro W' hSw
                    obtain ⟨q0, q1, q2, q3, q4, q5, q6, q7⟩ := hSw
                    go_simp
                  change wpAnyH _ _ _ _ _ _ _ (Act.put _ (some 137) _) _
                  try simp only [Act.put, List.setIfInBounds_toArray, List.set_cons_zero, List.set_cons_succ]
                  refine wpAnyH_take (i := 18) (v := (.int .i64 (k : Int))) rfl (by kernel_rfl) (by kernel_rfl) (by kernel_rfl) (fun _ _ _ h => h) (Or.inl ⟨by kernel_rfl, ?_⟩) hS ?_
                  · intro W' hSw
                    obtain ⟨q0, q1, q2, q3, q4, q5, q6, q7⟩ := hSw
                    go_simp
                  change wpAnyH _ _ _ _ _ _ _ (Act.put _ (some 138) _) _
                  try simp only [Act.put, List.setIfInBounds_toArray, List.set_cons_zero, List.set_cons_succ]
                  refine wpAnyH_take (i := 19) (v := (.pointer (some ⟨bl, ol + k * 3, none⟩))) rfl (by kernel_rfl) (by kernel_rfl) (by kernel_rfl) (fun _ _ _ h => h) (Or.inl ⟨by kernel_rfl, ?_⟩) hS ?_
                  · intro W' hSw
                    obtain ⟨q0, q1, q2, q3, q4, q5, q6, q7⟩ := hSw
                    go_simp
                  change wpAnyH _ _ _ _ _ _ _ (Act.put _ (some 139) _) _
                  try simp only [Act.put, List.setIfInBounds_toArray, List.set_cons_zero, List.set_cons_succ]
                  refine wpAnyH_take (i := 20) (v := (.pointer (some ⟨bl, ol + k * 3 + 1, none⟩))) rfl (by kernel_rfl) (by kernel_rfl) (by kernel_rfl) (fun _ _ _ h => h) (Or.inl ⟨by kernel_rfl, ?_⟩) hS ?_
                  · intro W' hSw
                    obtain ⟨q0, q1, q2, q3, q4, q5, q6, q7⟩ := hSw
                    go_simp
                  change wpAnyH _ _ _ _ _ _ _ (Act.put _ (some 140) _) _
                  try simp only [Act.put, List.setIfInBounds_toArray, List.set_cons_zero, List.set_cons_succ]
                  refine wpAnyH_take (i := 21) (v := (.string tx)) rfl (by kernel_rfl) (by kernel_rfl) (by kernel_rfl) (fun _ _ _ h => h) (Or.inl ⟨by kernel_rfl, ?_⟩) hS ?_
                  · intro W' hSw
                    obtain ⟨q0, q1, q2, q3, q4, q5, q6, q7⟩ := hSw
                    go_simp
                  change wpAnyH _ _ _ _ _ _ _ (Act.put _ (some 141) _) _
                  try simp only [Act.put, List.setIfInBounds_toArray, List.set_cons_zero, List.set_cons_succ]
                  refine wpAnyH_take (i := 22) (v := (.bool false)) rfl (by kernel_rfl) (by kernel_rfl) (by kernel_rfl) (fun _ _ _ h => h) (Or.inl ⟨by kernel_rfl, ?_⟩) hS ?_
                  · intro W' hSw
                    obtain ⟨q0, q1, q2, q3, q4, q5, q6, q7⟩ := hSw
                    go_simp
                  change wpAnyH _ _ _ _ _ _ _ (Act.put _ (some 142) _) _
                  try simp only [Act.put, List.setIfInBounds_toArray, List.set_cons_zero, List.set_cons_succ]
                  refine wpAnyH_take (i := 23) (v := (.bool false)) rfl (by kernel_rfl) (by kernel_rfl) (by kernel_rfl) (fun _ _ _ h => h) (Or.inl ⟨by kernel_rfl, ?_⟩) hS ?_
                  · intro W' hSw
                    obtain ⟨q0, q1, q2, q3, q4, q5, q6, q7⟩ := hSw
                    go_simp
                  change wpAnyH _ _ _ _ _ _ _ (Act.put _ (some 143) _) _
                  try simp only [Act.put, List.setIfInBounds_toArray, List.set_cons_zero, List.set_cons_succ]
                  refine wpAnyH_take (i := 24) (v := (.bool false)) rfl (by kernel_rfl) (by kernel_rfl) (by kernel_rfl) (fun _ _ _ h => h) (Or.inl ⟨by kernel_rfl, ?_⟩) hS ?_
                  · intro W' hSw
                    obtain ⟨q0, q1, q2, q3, q4, q5, q6, q7⟩ := hSw
                    go_simp
                  change wpAnyH _ _ _ _ _ _ _ (Act.put _ (some 144) _) _
                  try simp only [Act.put, List.setIfInBounds_toArray, List.set_cons_zero, List.set_cons_succ]
                  refine wpAnyH_take (i := 25) (v := (.slice (some ⟨ba, oa, none⟩) ts.length ca)) rfl (by kernel_rfl) (by kernel_rfl) (by kernel_rfl) (fun _ _ _ h => h) (Or.inl ⟨by kernel_rfl, ?_⟩) hS ?_
                  · intro W' hSw
                    obtain ⟨q0, q1, q2, q3, q4, q5, q6, q7⟩ := hSw
                    go_simp
                  change wpAnyH _ _ _ _ _ _ _ (Act.put _ (some 145) _) _
                  try simp only [Act.put, List.setIfInBounds_toArray, List.set_cons_zero, List.set_cons_succ]
                  refine wpAnyH_take (i := 26) (v := (.int .i64 (k : Int))) rfl (by kernel_rfl) (by kernel_rfl) (by kernel_rfl) (fun _ _ _ h => h) (Or.inl ⟨by kernel_rfl, ?_⟩) hS ?_
                  · intro W' hSw
                    obtain ⟨q0, q1, q2, q3, q4, q5, q6, q7⟩ := hSw
                    go_simp
                  change wpAnyH _ _ _ _ _ _ _ (Act.put _ (some 146) _) _
                  try simp only [Act.put, List.setIfInBounds_toArray, List.set_cons_zero, List.set_cons_succ]
                  refine wpAnyH_take (i := 27) (v := (.pointer (some ⟨ba, oa + k * 3, none⟩))) rfl (by kernel_rfl) (by kernel_rfl) (by kernel_rfl) (fun _ _ _ h => h) (Or.inl ⟨by kernel_rfl, ?_⟩) hS ?_
                  · intro W' hSw
                    obtain ⟨q0, q1, q2, q3, q4, q5, q6, q7⟩ := hSw
                    go_simp
                  change wpAnyH _ _ _ _ _ _ _ (Act.put _ (some 147) _) _
                  try simp only [Act.put, List.setIfInBounds_toArray, List.set_cons_zero, List.set_cons_succ]
                  refine wpAnyH_take (i := 28) (v := (.pointer (some ⟨ba, oa + k * 3 + 2, none⟩))) rfl (by kernel_rfl) (by kernel_rfl) (by kernel_rfl) (fun _ _ _ h => h) (Or.inl ⟨by kernel_rfl, ?_⟩) hS ?_
                  · intro W' hSw
                    obtain ⟨q0, q1, q2, q3, q4, q5, q6, q7⟩ := hSw
                    go_simp
                  change wpAnyH _ _ _ _ _ _ _ (Act.put _ (some 148) _) _
                  try simp only [Act.put, List.setIfInBounds_toArray, List.set_cons_zero, List.set_cons_succ]
                  refine wpAnyH_take (i := 29) (v := (.int .i64 1)) rfl (by kernel_rfl) (by kernel_rfl) (by kernel_rfl) (fun _ _ _ h => h) (Or.inl ⟨by kernel_rfl, ?_⟩) hS ?_
                  · intro W' hSw
                    obtain ⟨q0, q1, q2, q3, q4, q5, q6, q7⟩ := hSw
                    go_simp
                  change wpAnyH _ _ _ _ _ _ _ (Act.put _ (some 149) _) _
                  try simp only [Act.put, List.setIfInBounds_toArray, List.set_cons_zero, List.set_cons_succ]
                  refine wpAnyH_take (i := 30) (v := (.bool false)) rfl (by kernel_rfl) (by kernel_rfl) (by kernel_rfl) (fun _ _ _ h => h) (Or.inl ⟨by kernel_rfl, ?_⟩) hS ?_
                  · intro W' hSw
                    obtain ⟨q0, q1, q2, q3, q4, q5, q6, q7⟩ := hSw
                    go_simp
                  change wpAnyH _ _ _ _ _ _ _ (Act.put _ (some 150) _) _
                  try simp only [Act.put, List.setIfInBounds_toArray, List.set_cons_zero, List.set_cons_succ]
                  refine wpAnyH_take (i := 31) (v := (.bool false)) rfl (by kernel_rfl) (by kernel_rfl) (by kernel_rfl) (fun _ _ _ h => h) (Or.inl ⟨by kernel_rfl, ?_⟩) hS ?_
                  · intro W' hSw
                    obtain ⟨q0, q1, q2, q3, q4, q5, q6, q7⟩ := hSw
                    go_simp
                  change wpAnyH _ _ _ _ _ _ _ (Act.put _ (some 151) _) _
                  try simp only [Act.put, List.setIfInBounds_toArray, List.set_cons_zero, List.set_cons_succ]
                  refine wpAnyH_take (i := 32) (v := (.bool false)) rfl (by kernel_rfl) (by kernel_rfl) (by kernel_rfl) (fun _ _ _ h => h) (Or.inl ⟨by kernel_rfl, ?_⟩) hS ?_
                  · intro W' hSw
                    obtain ⟨q0, q1, q2, q3, q4, q5, q6, q7⟩ := hSw
                    go_simp
                  change wpAnyH _ _ _ _ _ _ _ (Act.put _ (some 152) _) _
                  try simp only [Act.put, List.setIfInBounds_toArray, List.set_cons_zero, List.set_cons_succ]
                  refine wpAnyH_take (i := 33) (v := (.slice (some ⟨bb, ob, none⟩) ts.length cb)) rfl (by kernel_rfl) (by kernel_rfl) (by kernel_rfl) (fun _ _ _ h => h) (Or.inl ⟨by kernel_rfl, ?_⟩) hS ?_
                  · intro W' hSw
                    obtain ⟨q0, q1, q2, q3, q4, q5, q6, q7⟩ := hSw
                    go_simp
                  change wpAnyH _ _ _ _ _ _ _ (Act.put _ (some 153) _) _
                  try simp only [Act.put, List.setIfInBounds_toArray, List.set_cons_zero, List.set_cons_succ]
                  refine wpAnyH_take (i := 34) (v := (.int .i64 (k : Int))) rfl (by kernel_rfl) (by kernel_rfl) (by kernel_rfl) (fun _ _ _ h => h) (Or.inl ⟨by kernel_rfl, ?_⟩) hS ?_
                  · intro W' hSw
                    obtain ⟨q0, q1, q2, q3, q4, q5, q6, q7⟩ := hSw
                    go_simp
                  change wpAnyH _ _ _ _ _ _ _ (Act.put _ (some 154) _) _
                  try simp only [Act.put, List.setIfInBounds_toArray, List.set_cons_zero, List.set_cons_succ]
                  refine wpAnyH_take (i := 35) (v := (.pointer (some ⟨bb, ob + k * 3, none⟩))) rfl (by kernel_rfl) (by kernel_rfl) (by kernel_rfl) (fun _ _ _ h => h) (Or.inl ⟨by kernel_rfl, ?_⟩) hS ?_
                  · intro W' hSw
                    obtain ⟨q0, q1, q2, q3, q4, q5, q6, q7⟩ := hSw
                    go_simp
                  change wpAnyH _ _ _ _ _ _ _ (Act.put _ (some 155) _) _
                  try simp only [Act.put, List.setIfInBounds_toArray, List.set_cons_zero, List.set_cons_succ]
                  refine wpAnyH_take (i := 36) (v := (.pointer (some ⟨bb, ob + k * 3, none⟩))) rfl (by kernel_rfl) (by kernel_rfl) (by kernel_rfl) (fun _ _ _ h => h) (Or.inl ⟨by kernel_rfl, ?_⟩) hS ?_
                  · intro W' hSw
                    obtain ⟨q0, q1, q2, q3, q4, q5, q6, q7⟩ := hSw
                    go_simp
                  change wpAnyH _ _ _ _ _ _ _ (Act.put _ (some 156) _) _
                  try simp only [Act.put, List.setIfInBounds_toArray, List.set_cons_zero, List.set_cons_succ]
                  refine wpAnyH_take (i := 37) (v := (.int .i64 kd)) rfl (by kernel_rfl) (by kernel_rfl) (by kernel_rfl) (fun _ _ _ h => h) (Or.inl ⟨by kernel_rfl, ?_⟩) hS ?_
                  · intro W' hSw
                    obtain ⟨q0, q1, q2, q3, q4, q5, q6, q7⟩ := hSw
                    go_simp
                  change wpAnyH _ _ _ _ _ _ _ (Act.put _ (some 157) _) _
                  try simp only [Act.put, List.setIfInBounds_toArray, List.set_cons_zero, List.set_cons_succ]
                  refine wpAnyH_take (i := 38) (v := (.slice (some ⟨bl, ol, none⟩) ts.length cl)) rfl (by kernel_rfl) (by kernel_rfl) (by kernel_rfl) (fun _ _ _ h => h) (Or.inl ⟨by kernel_rfl, ?_⟩) hS ?_
                  · intro W' hSw
                    obtain ⟨q0, q1, q2, q3, q4, q5, q6, q7⟩ := hSw
                    go_simp
                  change wpAnyH _ _ _ _ _ _ _ (Act.put _ (some 158) _) _
                  try simp only [Act.put, List.setIfInBounds_toArray, List.set_cons_zero, List.set_cons_succ]
                  refine wpAnyH_take (i := 39) (v := (.int .i64 (k : Int))) rfl (by kernel_rfl) (by kernel_rfl) (by kernel_rfl) (fun _ _ _ h => h) (Or.inl ⟨by kernel_rfl, ?_⟩) hS ?_
                  · intro W' hSw
                    obtain ⟨q0, q1, q2, q3, q4, q5, q6, q7⟩ := hSw
                    go_simp
                  change wpAnyH _ _ _ _ _ _ _ (Act.put _ (some 159) _) _
                  try simp only [Act.put, List.setIfInBounds_toArray, List.set_cons_zero, List.set_cons_succ]
                  refine wpAnyH_take (i := 40) (v := (.pointer (some ⟨bl, ol + k * 3, none⟩))) rfl (by kernel_rfl) (by kernel_rfl) (by kernel_rfl) (fun _ _ _ h => h) (Or.inl ⟨by kernel_rfl, ?_⟩) hS ?_
                  · intro W' hSw
                    obtain ⟨q0, q1, q2, q3, q4, q5, q6, q7⟩ := hSw
                    go_simp
                  change wpAnyH _ _ _ _ _ _ _ (Act.put _ (some 160) _) _
                  try simp only [Act.put, List.setIfInBounds_toArray, List.set_cons_zero, List.set_cons_succ]
                  refine wpAnyH_take (i := 41) (v := (.pointer (some ⟨bl, ol + k * 3, none⟩))) rfl (by kernel_rfl) (by kernel_rfl) (by kernel_rfl) (fun _ _ _ h => h) (Or.inl ⟨by kernel_rfl, ?_⟩) hS ?_
                  · intro W' hSw
                    obtain ⟨q0, q1, q2, q3, q4, q5, q6, q7⟩ := hSw
                    go_simp
                  change wpAnyH _ _ _ _ _ _ _ (Act.put _ (some 161) _) _
                  try simp only [Act.put, List.setIfInBounds_toArray, List.set_cons_zero, List.set_cons_succ]
                  refine wpAnyH_take (i := 42) (v := (.int .i64 kd)) rfl (by kernel_rfl) (by kernel_rfl) (by kernel_rfl) (fun _ _ _ h => h) (Or.inl ⟨by kernel_rfl, ?_⟩) hS ?_
                  · intro W' hSw
                    obtain ⟨q0, q1, q2, q3, q4, q5, q6, q7⟩ := hSw
                    go_simp
                  change wpAnyH _ _ _ _ _ _ _ (Act.put _ (some 162) _) _
                  try simp only [Act.put, List.setIfInBounds_toArray, List.set_cons_zero, List.set_cons_succ]
                  refine wpAnyH_take (i := 43) (v := (.bool false)) rfl (by kernel_rfl) (by kernel_rfl) (by kernel_rfl) (fun _ _ _ h => h) (Or.inl ⟨by kernel_rfl, ?_⟩) hS ?_
                  · intro W' hSw
                    obtain ⟨q0, q1, q2, q3, q4, q5, q6, q7⟩ := hSw
                    go_simp
                  change wpAnyH _ _ _ _ _ _ _ (Act.put _ (some 163) _) _
                  try simp only [Act.put, List.setIfInBounds_toArray, List.set_cons_zero, List.set_cons_succ]
                  refine wpAnyH_take (i := 44) (v := (.bool false)) rfl (by kernel_rfl) (by kernel_rfl) (by kernel_rfl) (fun _ _ _ h => h) (Or.inl ⟨by kernel_rfl, ?_⟩) hS ?_
                  · intro W' hSw
                    obtain ⟨q0, q1, q2, q3, q4, q5, q6, q7⟩ := hSw
                    go_simp
                  change wpAnyH _ _ _ _ _ _ _ (Act.put _ (some 164) _) _
                  try simp only [Act.put, List.setIfInBounds_toArray, List.set_cons_zero, List.set_cons_succ]
                  refine wpAnyH_take (i := 45) (v := (.bool false)) rfl (by kernel_rfl) (by kernel_rfl) (by kernel_rfl) (fun _ _ _ h => h) (Or.inl ⟨by kernel_rfl, ?_⟩) hS ?_
                  · intro W' hSw
                    obtain ⟨q0, q1, q2, q3, q4, q5, q6, q7⟩ := hSw
                    go_simp
                  change wpAnyH _ _ _ _ _ _ _ (Act.put _ (some 165) _) _
                  try simp only [Act.put, List.setIfInBounds_toArray, List.set_cons_zero, List.set_cons_succ]
                  refine wpAnyH_take (i := 46) (v := (.slice (some ⟨bb, ob, none⟩) ts.length cb)) rfl (by kernel_rfl) (by kernel_rfl) (by kernel_rfl) (fun _ _ _ h => h) (Or.inl ⟨by kernel_rfl, ?_⟩) hS ?_
                  · intro W' hSw
                    obtain ⟨q0, q1, q2, q3, q4, q5, q6, q7⟩ := hSw
                    go_simp
                  change wpAnyH _ _ _ _ _ _ _ (Act.put _ (some 166) _) _
                  try simp only [Act.put, List.setIfInBounds_toArray, List.set_cons_zero, List.set_cons_succ]
                  refine wpAnyH_take (i := 47) (v := (.int .i64 (k : Int))) rfl (by kernel_rfl) (by kernel_rfl) (by kernel_rfl) (fun _ _ _ h => h) (Or.inl ⟨by kernel_rfl, ?_⟩) hS ?_
                  · intro W' hSw
                    obtain ⟨q0, q1, q2, q3, q4, q5, q6, q7⟩ := hSw
                    go_simp
                  change wpAnyH _ _ _ _ _ _ _ (Act.put _ (some 167) _) _
                  try simp only [Act.put, List.setIfInBounds_toArray, List.set_cons_zero, List.set_cons_succ]
                  refine wpAnyH_take (i := 48) (v := (.pointer (some ⟨bb, ob + k * 3, none⟩))) rfl (by kernel_rfl) (by kernel_rfl) (by kernel_rfl) (fun _ _ _ h => h) (Or.inl ⟨by kernel_rfl, ?_⟩) hS ?_
                  · intro W' hSw
                    obtain ⟨q0, q1, q2, q3, q4, q5, q6, q7⟩ := hSw
                    go_simp
                  change wpAnyH _ _ _ _ _ _ _ (Act.put _ (some 168) _) _
                  try simp only [Act.put, List.setIfInBounds_toArray, List.set_cons_zero, List.set_cons_succ]
                  refine wpAnyH_take (i := 49) (v := (.pointer (some ⟨bb, ob + k * 3 + 1, none⟩))) rfl (by kernel_rfl) (by kernel_rfl) (by kernel_rfl) (fun _ _ _ h => h) (Or.inl ⟨by kernel_rfl, ?_⟩) hS ?_
                  · intro W' hSw
                    obtain ⟨q0, q1, q2, q3, q4, q5, q6, q7⟩ := hSw
                    go_simp
                  change wpAnyH _ _ _ _ _ _ _ (Act.put _ (some 169) _) _
                  try simp only [Act.put, List.setIfInBounds_toArray, List.set_cons_zero, List.set_cons_succ]
                  refine wpAnyH_take (i := 50) (v := (.string tx)) rfl (by kernel_rfl) (by kernel_rfl) (by kernel_rfl) (fun _ _ _ h => h) (Or.inl ⟨by kernel_rfl, ?_⟩) hS ?_
                  · intro W' hSw
                    obtain ⟨q0, q1, q2, q3, q4, q5, q6, q7⟩ := hSw
                    go_simp
                  change wpAnyH _ _ _ _ _ _ _ (Act.put _ (some 170) _) _
                  try simp only [Act.put, List.setIfInBounds_toArray, List.set_cons_zero, List.set_cons_succ]
                  refine wpAnyH_take (i := 51) (v := (.slice (some ⟨bl, ol, none⟩) ts.length cl)) rfl (by kernel_rfl) (by kernel_rfl) (by kernel_rfl) (fun _ _ _ h => h) (Or.inl ⟨by kernel_rfl, ?_⟩) hS ?_
                  · intro W' hSw
                    obtain ⟨q0, q1, q2, q3, q4, q5, q6, q7⟩ := hSw
                    go_simp
                  change wpAnyH _ _ _ _ _ _ _ (Act.put _ (some 171) _) _
                  try simp only [Act.put, List.setIfInBounds_toArray, List.set_cons_zero, List.set_cons_succ]
                  refine wpAnyH_take (i := 52) (v := (.int .i64 (k : Int))) rfl (by kernel_rfl) (by kernel_rfl) (by kernel_rfl) (fun _ _ _ h => h) (Or.inl ⟨by kernel_rfl, ?_⟩) hS ?_
                  · intro W' hSw
                    obtain ⟨q0, q1, q2, q3, q4, q5, q6, q7⟩ := hSw
                    go_simp
                  change wpAnyH _ _ _ _ _ _ _ (Act.put _ (some 172) _) _
                  try simp only [Act.put, List.setIfInBounds_toArray, List.set_cons_zero, List.set_cons_succ]
                  refine wpAnyH_take (i := 53) (v := (.pointer (some ⟨bl, ol + k * 3, none⟩))) rfl (by kernel_rfl) (by kernel_rfl) (by kernel_rfl) (fun _ _ _ h => h) (Or.inl ⟨by kernel_rfl, ?_⟩) hS ?_
                  · intro W' hSw
                    obtain ⟨q0, q1, q2, q3, q4, q5, q6, q7⟩ := hSw
                    go_simp
                  change wpAnyH _ _ _ _ _ _ _ (Act.put _ (some 173) _) _
                  try simp only [Act.put, List.setIfInBounds_toArray, List.set_cons_zero, List.set_cons_succ]
                  refine wpAnyH_take (i := 54) (v := (.pointer (some ⟨bl, ol + k * 3 + 1, none⟩))) rfl (by kernel_rfl) (by kernel_rfl) (by kernel_rfl) (fun _ _ _ h => h) (Or.inl ⟨by kernel_rfl, ?_⟩) hS ?_
                  · intro W' hSw
                    obtain ⟨q0, q1, q2, q3, q4, q5, q6, q7⟩ := hSw
                    go_simp
                  change wpAnyH _ _ _ _ _ _ _ (Act.put _ (some 174) _) _
                  try simp only [Act.put, List.setIfInBounds_toArray, List.set_cons_zero, List.set_cons_succ]
                  refine wpAnyH_take (i := 55) (v := (.string tx)) rfl (by kernel_rfl) (by kernel_rfl) (by kernel_rfl) (fun _ _ _ h => h) (Or.inl ⟨by kernel_rfl, ?_⟩) hS ?_
                  · intro W' hSw
                    obtain ⟨q0, q1, q2, q3, q4, q5, q6, q7⟩ := hSw
                    go_simp
                  change wpAnyH _ _ _ _ _ _ _ (Act.put _ (some 175) _) _
                  try simp only [Act.put, List.setIfInBounds_toArray, List.set_cons_zero, List.set_cons_succ]
                  refine wpAnyH_take (i := 56) (v := (.bool false)) rfl (by kernel_rfl) (by kernel_rfl) (by kernel_rfl) (fun _ _ _ h => h) (Or.inl ⟨by kernel_rfl, ?_⟩) hS ?_
                  · intro W' hSw
                    obtain ⟨q0, q1, q2, q3, q4, q5, q6, q7⟩ := hSw
                    go_simp
                  change wpAnyH _ _ _ _ _ _ _ (Act.put _ (some 176) _) _
                  try simp only [Act.put, List.setIfInBounds_toArray, List.set_cons_zero, List.set_cons_succ]
                  refine wpAnyH_take (i := 57) (v := (.bool false)) rfl (by kernel_rfl) (by kernel_rfl) (by kernel_rfl) (fun _ _ _ h => h) (Or.inl ⟨by kernel_rfl, ?_⟩) hS ?_
                  · intro W' hSw
                    obtain ⟨q0, q1, q2, q3, q4, q5, q6, q7⟩ := hSw
                    go_simp
                  change wpAnyH _ _ _ _ _ _ _ (Act.put _ (some 177) _) _
                  try simp only [Act.put, List.setIfInBounds_toArray, List.set_cons_zero, List.set_cons_succ]
                  refine wpAnyH_take (i := 58) (v := (.bool false)) rfl (by kernel_rfl) (by kernel_rfl) (by kernel_rfl) (fun _ _ _ h => h) (Or.inl ⟨by kernel_rfl, ?_⟩) hS ?_
                  · intro W' hSw
                    obtain ⟨q0, q1, q2, q3, q4, q5, q6, q7⟩ := hSw
                    go_simp
                  change wpAnyH _ _ _ _ _ _ _ (Act.put _ (some 178) _) _
                  try simp only [Act.put, List.setIfInBounds_toArray, List.set_cons_zero, List.set_cons_succ]
                  refine wpAnyH_take (i := 59) (v := (.slice (some ⟨bb, ob, none⟩) ts.length cb)) rfl (by kernel_rfl) (by kernel_rfl) (by kernel_rfl) (fun _ _ _ h => h) (Or.inl ⟨by kernel_rfl, ?_⟩) hS ?_
                  · intro W' hSw
                    obtain ⟨q0, q1, q2, q3, q4, q5, q6, q7⟩ := hSw
                    go_simp
                  change wpAnyH _ _ _ _ _ _ _ (Act.put _ (some 179) _) _
                  try simp only [Act.put, List.setIfInBounds_toArray, List.set_cons_zero, List.set_cons_succ]
                  refine wpAnyH_take (i := 60) (v := (.int .i64 (k : Int))) rfl (by kernel_rfl) (by kernel_rfl) (by kernel_rfl) (fun _ _ _ h => h) (Or.inl ⟨by kernel_rfl, ?_⟩) hS ?_
                  · intro W' hSw
                    obtain ⟨q0, q1, q2, q3, q4, q5, q6, q7⟩ := hSw
                    go_simp
                  change wpAnyH _ _ _ _ _ _ _ (Act.put _ (some 180) _) _
                  try simp only [Act.put, List.setIfInBounds_toArray, List.set_cons_zero, List.set_cons_succ]
                  refine wpAnyH_take (i := 61) (v := (.pointer (some ⟨bb, ob + k * 3, none⟩))) rfl (by kernel_rfl) (by kernel_rfl) (by kernel_rfl) (fun _ _ _ h => h) (Or.inl ⟨by kernel_rfl, ?_⟩) hS ?_
                  · intro W' hSw
                    obtain ⟨q0, q1, q2, q3, q4, q5, q6, q7⟩ := hSw
                    go_simp
                  change wpAnyH _ _ _ _ _ _ _ (Act.put _ (some 181) _) _
                  try simp only [Act.put, List.setIfInBounds_toArray, List.set_cons_zero, List.set_cons_succ]
                  refine wpAnyH_take (i := 62) (v := (.pointer (some ⟨bb, ob + k * 3 + 2, none⟩))) rfl (by kernel_rfl) (by kernel_rfl) (by kernel_rfl) (fun _ _ _ h => h) (Or.inl ⟨by kernel_rfl, ?_⟩) hS ?_
                  · intro W' hSw
                    obtain ⟨q0, q1, q2, q3, q4, q5, q6, q7⟩ := hSw
                    go_simp
                  change wpAnyH _ _ _ _ _ _ _ (Act.put _ (some 182) _) _
                  try simp only [Act.put, List.setIfInBounds_toArray, List.set_cons_zero, List.set_cons_succ]
                  refine wpAnyH_take (i := 63) (v := (.int .i64 ((k : Int) + 2))) rfl (by kernel_rfl) (by kernel_rfl) (by kernel_rfl) (fun _ _ _ h => h) (Or.inl ⟨by kernel_rfl, ?_⟩) hS ?_
                  · intro W' hSw
                    obtain ⟨q0, q1, q2, q3, q4, q5, q6, q7⟩ := hSw
                    go_simp
                  change wpAnyH _ _ _ _ _ _ _ (Act.put _ (some 183) _) _
                  try simp only [Act.put, List.setIfInBounds_toArray, List.set_cons_zero, List.set_cons_succ]
                  refine wpAnyH_take (i := 64) (v := (.int .i64 (k : Int))) rfl (by kernel_rfl) (by kernel_rfl) (by kernel_rfl) (fun _ _ _ h => h) (Or.inl ⟨by kernel_rfl, ?_⟩) hS ?_
                  · intro W' hSw
                    obtain ⟨q0, q1, q2, q3, q4, q5, q6, q7⟩ := hSw
                    go_simp
                  change wpAnyH _ _ _ _ _ _ _ (Act.put _ (some 184) _) _
                  try simp only [Act.put, List.setIfInBounds_toArray, List.set_cons_zero, List.set_cons_succ]
                  refine wpAnyH_take (i := 65) (v := (.int .i64 ((k : Int) + 2))) rfl (by kernel_rfl) (by kernel_rfl) (by kernel_rfl) (fun _ _ _ h => h) (Or.inl ⟨by kernel_rfl, ?_⟩) hS ?_
                  · intro W' hSw
                    obtain ⟨q0, q1, q2, q3, q4, q5, q6, q7⟩ := hSw
                    go_simp
                  change wpAnyH _ _ _ _ _ _ _ (Act.put _ (some 185) _) _
                  try simp only [Act.put, List.setIfInBounds_toArray, List.set_cons_zero, List.set_cons_succ]
                  refine wpAnyH_take (i := 66) (v := (.bool false)) rfl (by kernel_rfl) (by kernel_rfl) (by kernel_rfl) (fun _ _ _ h => h) (Or.inl ⟨by kernel_rfl, ?_⟩) hS ?_
                  · intro W' hSw
                    obtain ⟨q0, q1, q2, q3, q4, q5, q6, q7⟩ := hSw
                    go_simp
                  change wpAnyH _ _ _ _ _ _ _ (Act.put _ (some 186) _) _
                  try simp only [Act.put, List.setIfInBounds_toArray, List.set_cons_zero, List.set_cons_succ]
                  refine wpAnyH_take (i := 67) (v := (.bool false)) rfl (by kernel_rfl) (by kernel_rfl) (by kernel_rfl) (fun _ _ _ h => h) (Or.inl ⟨by kernel_rfl, ?_⟩) hS ?_
                  · intro W' hSw
                    obtain ⟨q0, q1, q2, q3, q4, q5, q6, q7⟩ := hSw
                    go_simp
                  change wpAnyH _ _ _ _ _ _ _ (Act.put _ (some 187) _) _
                  try simp only [Act.put, List.setIfInBounds_toArray, List.set_cons_zero, List.set_cons_succ]
                  refine wpAnyH_done (by kernel_rfl) ?_ _
                  go_wp2_with fail
                  go_roundw
                  case rel => exact ⟨k + 1, by omega, by go_num, HB6, H36⟩
                  case measure => simp [intOf]; omega
                · obtain rfl : k = ts.length := by omega
                  have e3 : decide ((ts.length : Int) < (ts.length : Int)) = false := decide_eq_false (by omega)
                  go_wp2_with fail
                  go_ret
                  exact ⟨rfl, hb.out⟩
      · rw [hR] at K1
        have hne := go_bad _ _ _ _ _ _ hR
        have her : (er != 0) = true := by simpa using hne
        unfold APost at K1
        clear hR hne
        go_wp2_with fail
        refine K1.out.mono ?_
        rintro e w2 ⟨b2, rfl⟩
        have B2 := Lib.hid (B1.out.trans (b2.mono B1.out.size))
        clear b2
        go_wp2_with fail
        go_ret
        exact ⟨rfl, B2.out⟩
end Go.Proofs.Ytehieiddelngfaa.tk
