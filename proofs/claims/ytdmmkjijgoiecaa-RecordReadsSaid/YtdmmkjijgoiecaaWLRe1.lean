import Derived.Test.YtdmmkjijgoiecaaWReY
import Derived.Test.YtdmmkjijgoiecaaWReC
import Derived.Deep.RegionWith
set_option linter.all false
/-
  record: RecordBytes: the law.
-/
namespace Go.Proofs.Ytdmmkjijgoiecaa.re
open Go.RowKit Go.Sort Go.Shelf Go.Proofs.Ytdmmkjijgoiecaa.mem Go.Proofs.Ytdmmkjijgoiecaa.sy Go.Proofs.Ytdmmkjijgoiecaa.vr Go.Proofs.Ytdmmkjijgoiecaa.po Go.Proofs.Ytdmmkjijgoiecaa.inn

set_option maxRecDepth 100000 in
theorem same_big (w : World) (A B : Option Addr) (c d : Nat) (l : List (List UInt8)) (hA : Rd w A (l.map encStr)) (hB : Rd w B (l.map encStr)) (hll : l.length ≤ 10000000) :
    Calls Try.prog 13 #[.slice A l.length c, .slice B l.length d] w fun e w' => e = .returned (.bool true) ∧ Below w.heap.size w w' := by
  rcases Nat.eq_zero_or_pos l.length with hz | hz
  · rw [hz]; exact inn.same_nil w A B c d
  obtain ⟨g1, o1, rfl, hl1, h1⟩ := rd_str hA hz
  obtain ⟨g2, o2, rfl, hl2, h2⟩ := rd_str hB hz
  have H1 := Lib.hid h1
  have H2 := Lib.hid h2
  have L1 := Lib.hid hl1
  have L2 := Lib.hid hl2
  clear h1 h2 hA hB hl1 hl2
  have d0 : (((l.length : Nat) : Int) != (l.length : Int)) = false := by simp
  go_enter Try.func13, Try.ntmps13
  go_wp2_with fail
  go_loopw [5] (fun i wr => ∃ k : Nat, k ≤ l.length ∧ i = .int .i64 k ∧ Hid (Below w.heap.size w wr)) (fun i _ => l.length - (intOf i).toNat)
  case atStart => exact ⟨0, by omega, rfl, Lib.hid (Below.refl _ _)⟩
  case round =>
    obtain ⟨k, hk, rfl, hb⟩ := hrel
    rename_i wr _
    by_cases hkl : k < l.length
    · have e1 : decide ((k : Int) < (l.length : Int)) = true := decide_eq_true (by omega)
      have ck : wr.cell? ⟨g1, o1 + k, none⟩ = some (encStr l[k]) := (hb.out.cell (p := ⟨g1, o1 + k, none⟩) L1.out).trans (H1.out k hkl)
      have cm : wr.cell? ⟨g2, o2 + k, none⟩ = some (encStr l[k]) := (hb.out.cell (p := ⟨g2, o2 + k, none⟩) L2.out).trans (H2.out k hkl)
      unfold encStr at ck cm
      generalize (ByteArray.mk l[k].toArray) = z at *
      have e2 : (z.data != z.data) = false := by simp
      have hb2 := Lib.hid hb.out.drew
      clear hb
      go_wp2_with fail
      go_region
      go_wp2_with fail
      go_roundw
      case rel => exact ⟨k + 1, by omega, by go_num, hb2⟩
      case measure => simp [intOf]; omega
    · obtain rfl : k = l.length := by omega
      have e1 : decide ((l.length : Int) < (l.length : Int)) = false := decide_eq_false (by omega)
      go_wp2_with fail
      go_ret
      exact ⟨rfl, hb.out⟩

theorem rsS_twice (l : List (List UInt8)) : rsS (rsS l) = rsS l :=
  inn.rises_ext inn.ordS (inn.intoAll_spec inn.ordS _).1 (inn.intoAll_spec inn.ordS l).1 (fun x => mem_rsS (rsS l) x)

theorem seg_fresh (w : World) (e : TypeId) : Seg (w.alloc (.cells #[] e)) e (some ⟨w.heap.size, 0, none⟩) 0 [] :=
  ⟨by simp, by unfold maxLen; decide, fun h => (by cases h), fun a ha => by
    cases ha
    exact ⟨rfl, #[], heap_alloc_new w _, by simp, fun j u hu => by simp at hu⟩⟩

theorem pof_s (w : World) (A : Option Addr) (c : Nat) (m : List (List UInt8)) (h : Rd w A ((rsS m).map encStr)) (hm : (rsS m).length ≤ 1000000) :
    Calls Try.prog 11 #[.slice A (rsS m).length c] w (OfPost w (rsS m)) := by
  have k := pof_any w A c (rsS m) h hm
  rw [rsS_twice] at k
  exact k

theorem below_app {w3 w4 : World} {o : Obj} (f : Fr (blk (some ⟨w3.heap.size, 0, none⟩)) (w3.alloc o) w4) : Below w3.heap.size w3 w4 :=
  ((Below.refl w3.heap.size w3).alloc (Nat.le_refl _) o).trans (f.below (fun g hg => by simp [blk] at hg; omega) (by show _ ≤ (w3.heap.push _).size; rw [Array.size_push]; omega))
theorem below_app2 {w3 w4 w5 : World} {o : Obj} {A1 : Option Addr} (b : Below w3.heap.size w3 w4) (h : blk A1 = blk (some ⟨w3.heap.size, 0, none⟩) ∨ blk A1 = [(w3.alloc o).heap.size]) (f : Fr (blk A1) w4 w5) : Below w3.heap.size w3 w5 :=
  b.trans (f.below (fun g hg => by
    have hz : (w3.alloc o).heap.size = w3.heap.size + 1 := Array.size_push _
    rcases h with e | e
    · rw [e] at hg; simp [blk] at hg; omega
    · rw [e] at hg; simp at hg; omega) b.size)

theorem enc_one' (l : List (List UInt8)) : ∀ u ∈ l.map encStr, u.oneCell' = true := fun u hu => by
  obtain ⟨x, _, rfl⟩ := List.mem_map.1 hu
  rfl

set_option maxRecDepth 100000 in
set_option maxHeartbeats 4000000 in
theorem law_bytes (u : MU) (A : Option Addr) (cap : Nat) (l : List (List UInt8)) (w : World) (hs : SumM w u) (hb : SumB RB u) (hl : Rd w A (l.map encStr)) (hm : l.length ≤ maxLen) :
    Calls Try.prog 3 #[u.val, .slice A l.length cap] w (WkP w) := by
  obtain ⟨W, hWe⟩ : ∃ W, Hid (W = w.alloc (.cells u.row 29)) := ⟨_, Lib.hid rfl⟩
  have B : Box W w.heap.size 29 u.row := by rw [hWe.out]; exact Box.new _ _ _
  have b0 : Below w.heap.size w W := by rw [hWe.out]; exact (Below.refl _ _).alloc (Nat.le_refl _) _
  have HB : Hid (∀ w2, Below W.heap.size W w2 → SumM w2 u ∧ Rd w2 A (l.map encStr)) := Lib.hid (fun w2 b => ⟨(hs.below b0).below b, (hl.below b0).below b⟩)
  have HC : Hid (∀ w2, Below W.heap.size W w2 → w2.cell? ⟨w.heap.size, 0, none⟩ = some (.string u.name) ∧ w2.cell? ⟨w.heap.size, 1, none⟩ = some (.slice u.gA u.gives.length u.gc) ∧ w2.cell? ⟨w.heap.size, 2, none⟩ = some (.slice u.wA u.wants.length u.wc) ∧ w2.cell? ⟨w.heap.size, 3, none⟩ = some (.slice u.kA u.keeps.length u.kc) ∧ w2.cell? ⟨w.heap.size, 4, none⟩ = some (.slice u.s.oA u.s.os.length u.s.oc) ∧ w2.cell? ⟨w.heap.size, 5, none⟩ = some (.slice u.s.fA u.s.fs.length u.s.fc) ∧ w2.cell? ⟨w.heap.size, 6, none⟩ = some (.slice u.s.cA u.s.cs.length u.s.cc)) := Lib.hid (fun w2 b => by
    have x := B.kept (Fr.of_below b []) (by simp)
    exact ⟨x.cell 0, x.cell 1, x.cell 2, x.cell 3, x.cell 4, x.cell 5, x.cell 6⟩)
  have HE : Hid (∀ w2, Below W.heap.size W w2 → Below w.heap.size w w2) := Lib.hid (fun w2 b => b0.trans (b.mono b0.size))
  have R0 := Lib.hid (Below.refl W.heap.size W)
  have KG := Lib.hid (great_su u W (HB.out W R0.out).1 hb)
  have KT := Lib.hid (fun (w2 : World) (b : Below W.heap.size W w2) => greatT_any w2 A cap l (HB.out w2 b).2 hm)
  have KX := Lib.hid (fun (w2 : World) (b : Below W.heap.size W w2) (h : SmlU u.su) => rtexts_any w2 u (HB.out w2 b).1 (Nat.le_trans (ev_small h) (by decide)))
  have KY := Lib.hid (fun (w2 : World) (b : Below W.heap.size W w2) (h : SmlU u.su) => texts_any w2 u (HB.out w2 b).1 (Nat.le_trans (ev_small h) (by decide)))
  have KBy := Lib.hid (fun (w2 : World) (b : Below W.heap.size W w2) (h : SmlU u.su) (pb : Nat) (pA : Option Addr) (pc : Nat) (m : List (List UInt8)) (hp : Pl w2 pb pA pc (rsS m)) (hm : (rsS m).length ≤ 1000000) => bytes_any w2 pb pA pc (rsS m) hp (rs_sorted m) hm u (HB.out w2 b).1 (Nat.le_trans (ev_small h) (by unfold MX; decide)))
  have KRy := Lib.hid (fun (w2 : World) (b : Below W.heap.size W w2) (h : SmlU u.su) (pA : Option Addr) (pc : Nat) (m : List (List UInt8)) (hp : Rd w2 pA (m.map encStr)) (hm : m.length ≤ 1000000) => rbytes_any w2 pA pc m hp hm u (HB.out w2 b).1 (Nat.le_trans (ev_small h) (by decide)))
  have hTl : Hid (SmlU u.su → (rsS ((txE (evSU u.su)).map tx)).length ≤ 999000) := Lib.hid (fun h => by
    have a1 := rs_len ((txE (evSU u.su)).map tx)
    have a2 := txE_len (evSU u.su)
    have a3 := ev_small h
    rw [List.length_map] at a1
    omega)
  obtain ⟨x0, x1, x2, x3, x4, x5, x6⟩ := HC.out W R0.out
  unfold MU.val MU.row at *
  clear hs hb hl B b0
  unfold GSP at KG
  generalize rsS ((txE (evSU u.su)).map tx) = T at *
  generalize evSU u.su = evs at *
  unfold WkP
  unfold TP at KX KY
  unfold RP at KBy KRy
  unfold GTPost at KT
  go_enter Try.func3, Try.ntmps3
  go_upto_region 1 with fail
  rw [← hWe.out]
  clear hWe
  generalize hbx : w.heap.size = bx at *
  replace hbx := Lib.hid hbx
  go_wp2_with fail
  refine KG.out.mono ?_
  rintro e w2 ⟨r1, rfl, b2, hr1⟩
  have B2 := Lib.hid (R0.out.trans b2)
  replace hr1 := Lib.hid hr1
  clear b2 KG
  rcases r1 with _ | _
  · have HSm := Lib.hid (hr1.out rfl)
    clear hr1
    have K := Lib.hid (KT.out w2 B2.out)
    go_wp2_with fail
    refine K.out.mono ?_
    rintro e w3 ⟨r2, rfl, rfl, hr2⟩
    replace hr2 := Lib.hid hr2
    clear K KT x0 x1 x2 x3 x4 x5 x6
    rcases r2 with _ | _
    · obtain ⟨hl60, _⟩ := hr2.out rfl
      clear hr2
      obtain ⟨x0, x1, x2, x3, x4, x5, x6⟩ := HC.out w2 B2.out
      have K := Lib.hid (KX.out w2 B2.out HSm.out)
      go_wp2_with fail
      refine K.out.mono ?_
      rintro e w3 ⟨tA, tc, rfl, rt, b3⟩
      have B3 := Lib.hid (B2.out.trans (b3.mono B2.out.size))
      have RT := Lib.hid (fun (w4 : World) (b : Below w3.heap.size w3 w4) => rt.below b)
      have hT9 := hTl.out HSm.out
      clear b3 rt K KX x0 x1 x2 x3 x4 x5 x6
      obtain ⟨i0, hi0, hz0, hz1, hz2⟩ := info_sp
      replace hi0 := Lib.hid hi0
      replace hz0 := Lib.hid hz0
      replace hz1 := Lib.hid hz1
      replace hz2 := Lib.hid hz2
      go_wp2_with (first
        | (at_builtin; refine wpList_app (n := 0) (m := T.length) rfl (.tmp 24) (.tmp 25) _ rfl (seg_fresh w3 _) (RT.out _ ((Below.refl _ _).alloc (Nat.le_refl _) _)) rfl (List.length_map _).symm Try.underlying22 hi0.out hz0.out hz1.out hz2.out rfl rfl rfl (enc_one' T) (by omega) (by omega) ?_; intro A1 c1 w4 hs4 f4 hb4; have B4l := Lib.hid (below_app f4); have B4 := Lib.hid (B3.out.trans (B4l.out.mono B3.out.size)); have S4 : Hid (Seg w4 9 A1 c1 (T.map encStr)) := Lib.hid hs4; replace hb4 := Lib.hid hb4; clear hs4 f4)
        | (at_builtin; refine wpList_app (n := T.length) (m := l.length) rfl (.tmp 26) (.tmp 27) _ rfl S4.out (HB.out w4 B4.out).2 (List.length_map _).symm (List.length_map _).symm Try.underlying22 hi0.out hz0.out hz1.out hz2.out rfl rfl rfl (enc_one' l) (by omega) (by omega) ?_; intro A2 c2 w5 hs5 f5 hb5; have B5l := Lib.hid (below_app2 B4l.out hb4.out f5); have B5 := Lib.hid (B3.out.trans (B5l.out.mono B3.out.size)); have S5 : Hid (Rd w5 A2 ((T ++ l).map encStr)) := Lib.hid (by rw [List.map_append]; exact hs5.rd); have KO := Lib.hid (rof_any w5 A2 c2 (T ++ l) S5.out (by rw [List.length_append]; omega)); rw [List.length_append] at KO; clear hs5 f5 hb5))
      unfold inn.IPost at KO
      refine KO.out.mono ?_
      rintro e w6 ⟨pA, pc, rfl, sp, b6⟩
      have B6 := Lib.hid (B5.out.trans (b6.mono B5.out.size))
      have B6l := Lib.hid (B5l.out.trans (b6.mono B5l.out.size))
      have hPl := Lib.hid (show (rsS (T ++ l)).length ≤ 1000000 by have := rs_len (T ++ l); rw [List.length_append] at this; omega)
      have hQl := Lib.hid (show (rsS l).length ≤ 1000000 by have := rs_len l; omega)
      have RP6 := Lib.hid (fun (w7 : World) (b : Below w6.heap.size w6 w7) => sp.rd.below b)
      clear sp b6 KO B5 B5l B4 B4l S4 S5 hb4
      have KQ := Lib.hid (rof_any w6 A cap l (HB.out w6 B6.out).2 (by omega))
      unfold inn.IPost at KQ
      go_wp2_with fail
      refine KQ.out.mono ?_
      rintro e w7 ⟨qA, qc, rfl, sq, b7⟩
      have B7 := Lib.hid (B6.out.trans (b7.mono B6.out.size))
      have B7l := Lib.hid (B6l.out.trans (b7.mono B6l.out.size))
      have RP7 := Lib.hid (fun (w8 : World) (b : Below w7.heap.size w7 w8) => RP6.out w8 (b7.trans (b.mono b7.size)))
      have RQ7 := Lib.hid (fun (w8 : World) (b : Below w7.heap.size w7 w8) => sq.rd.below b)
      clear sq b7 KQ RP6 B6 B6l
      have HT7 := Lib.hid (fun (w8 : World) (b : Below w7.heap.size w7 w8) => RT.out w8 (B7l.out.trans (b.mono B7l.out.size)))
      clear RT B7l B3
      generalize hm1 : T ++ l = m1 at *
      obtain ⟨v1, hv1⟩ : ∃ v, Hid (v = bs (doneS (foldE (rsS m1) evs))) := ⟨_, Lib.hid rfl⟩
      obtain ⟨e1, he1⟩ : ∃ e, Hid (e = (foldE (rsS m1) evs).2) := ⟨_, Lib.hid rfl⟩
      obtain ⟨v2, hv2⟩ : ∃ v, Hid (v = bs (doneS (foldE (rsS l) evs))) := ⟨_, Lib.hid rfl⟩
      obtain ⟨e2, he2⟩ : ∃ e, Hid (e = (foldE (rsS l) evs).2) := ⟨_, Lib.hid rfl⟩
      clear hm1
      have LB7 := Lib.hid (Below.refl w7.heap.size w7)
      go_upto_region 6 with fail
      go_cut [8, 9] from 32 to 38 (fun a b wx => a = .string v1 ∧ b = .int .i64 e1 ∧ Hid (Below w7.heap.size w7 wx))
      case first =>
        obtain ⟨x0, x1, x2, x3, x4, x5, x6⟩ := HC.out w7 B7.out
        have Bcd := Lib.hid B7.out.drew
        obtain ⟨y0, y1, y2, y3, y4, y5, y6⟩ := HC.out w7.drew Bcd.out
        have KO := Lib.hid (pof_s w7.drew pA pc m1 (RP7.out w7.drew LB7.out.drew) hPl.out)
        unfold OfPost at KO
        have LBd := Lib.hid LB7.out.drew
        go_region_with (first
          | (go_at_call 11; refine KO.out.mono ?_; rintro e wy ⟨pb, pA2, pc2, rfl, py, by_⟩; have Bl := Lib.hid (LBd.out.trans (by_.mono LBd.out.size)); have By := Lib.hid (Bcd.out.trans (by_.mono Bcd.out.size)); obtain ⟨z0, z1, z2, z3, z4, z5, z6⟩ := HC.out wy By.out; have KB0 := KBy.out wy By.out HSm.out pb pA2 pc2 m1 py hPl.out; rw [← hv1.out, ← he1.out] at KB0; have KB := Lib.hid KB0; clear py by_ KB0)
          | (go_at_call 10; refine KB.out.mono ?_; rintro e wz ⟨rfl, bz⟩; have Bz := Lib.hid (Bl.out.trans (bz.mono Bl.out.size)); clear bz))
        all_goals (go_wp2_with fail; go_meet; exact ⟨rfl, rfl, Bz⟩)
      obtain ⟨rfl, rfl, LBwa⟩ := hcut
      rename World => wa
      have Bwa := Lib.hid (B7.out.trans (LBwa.out.mono B7.out.size))
      obtain ⟨x0, x1, x2, x3, x4, x5, x6⟩ := HC.out wa Bwa.out
      have KR0 := KRy.out wa Bwa.out HSm.out pA pc (rsS m1) (RP7.out wa LBwa.out) hPl.out
      rw [← hv1.out, ← he1.out] at KR0
      have KR := Lib.hid KR0
      clear KR0
      go_wp2_with fail
      refine KR.out.mono ?_
      rintro e wb ⟨rfl, b7⟩
      have LBwb := Lib.hid (LBwa.out.trans (b7.mono LBwa.out.size))
      have Bwb := Lib.hid (B7.out.trans (LBwb.out.mono B7.out.size))
      clear b7 KR x0 x1 x2 x3 x4 x5 x6 LBwa Bwa
      go_upto_region 8 with fail
      go_cut [12, 13] from 45 to 51 (fun a b wx => a = .string v2 ∧ b = .int .i64 e2 ∧ Hid (Below w7.heap.size w7 wx))
      case first =>
        obtain ⟨x0, x1, x2, x3, x4, x5, x6⟩ := HC.out wb Bwb.out
        have Bcd := Lib.hid Bwb.out.drew
        obtain ⟨y0, y1, y2, y3, y4, y5, y6⟩ := HC.out wb.drew Bcd.out
        have KO := Lib.hid (pof_s wb.drew qA qc l (RQ7.out wb.drew LBwb.out.drew) hQl.out)
        unfold OfPost at KO
        have LBd := Lib.hid LBwb.out.drew
        go_region_with (first
          | (go_at_call 11; refine KO.out.mono ?_; rintro e wy ⟨pb, pA2, pc2, rfl, py, by_⟩; have Bl := Lib.hid (LBd.out.trans (by_.mono LBd.out.size)); have By := Lib.hid (Bcd.out.trans (by_.mono Bcd.out.size)); obtain ⟨z0, z1, z2, z3, z4, z5, z6⟩ := HC.out wy By.out; have KB0 := KBy.out wy By.out HSm.out pb pA2 pc2 l py hQl.out; rw [← hv2.out, ← he2.out] at KB0; have KB := Lib.hid KB0; clear py by_ KB0)
          | (go_at_call 10; refine KB.out.mono ?_; rintro e wz ⟨rfl, bz⟩; have Bz := Lib.hid (Bl.out.trans (bz.mono Bl.out.size)); clear bz))
        all_goals (go_wp2_with fail; go_meet; exact ⟨rfl, rfl, Bz⟩)
      obtain ⟨rfl, rfl, LBwc⟩ := hcut
      rename World => wc
      have Bwc := Lib.hid (B7.out.trans (LBwc.out.mono B7.out.size))
      obtain ⟨x0, x1, x2, x3, x4, x5, x6⟩ := HC.out wc Bwc.out
      have KR0 := KRy.out wc Bwc.out HSm.out qA qc (rsS l) (RQ7.out wc LBwc.out) hQl.out
      rw [← hv2.out, ← he2.out] at KR0
      have KR := Lib.hid KR0
      clear KR0
      go_wp2_with fail
      refine KR.out.mono ?_
      rintro e wd ⟨rfl, b7⟩
      have LBwd := Lib.hid (LBwc.out.trans (b7.mono LBwc.out.size))
      have Bwd := Lib.hid (B7.out.trans (LBwd.out.mono B7.out.size))
      clear b7 KR x0 x1 x2 x3 x4 x5 x6 LBwc Bwc
      obtain ⟨x0, x1, x2, x3, x4, x5, x6⟩ := HC.out wd Bwd.out
      have KE := Lib.hid (KY.out wd Bwd.out HSm.out)
      have s1 : (v1.data == v1.data) = true := by simp
      have s2 : (v2.data == v2.data) = true := by simp
      have s3 : (e1 == e1) = true := by simp
      have s4 : (e2 == e2) = true := by simp
      go_wp2_with fail
      refine KE.out.mono ?_
      rintro e we ⟨yA, yc, rfl, ry, be⟩
      have LBe := Lib.hid (LBwd.out.trans (be.mono LBwd.out.size))
      have Be := Lib.hid (B7.out.trans (LBe.out.mono B7.out.size))
      have KS := Lib.hid (same_big we yA tA yc tc T ry (HT7.out we LBe.out) (by omega))
      clear ry be KE x0 x1 x2 x3 x4 x5 x6 LBwd Bwd
      go_wp2_with fail
      refine KS.out.mono ?_
      rintro e wf ⟨rfl, bf⟩
      have Bf := Lib.hid (Be.out.trans (bf.mono Be.out.size))
      have KW := Lib.hid (works_any wf)
      unfold WkP at KW
      clear bf KS LBe Be
      go_wp2_with fail
      refine KW.out.mono ?_
      rintro e wg ⟨rfl, bg⟩
      have E := Lib.hid (HE.out wg (Bf.out.trans (bg.mono Bf.out.size)))
      clear bg KW
      go_wp2_with fail
      go_ret
      exact ⟨rfl, by rw [hbx.out]; exact E.out⟩
    · have E := Lib.hid (HE.out w2 B2.out)
      clear KX KY KBy KRy hTl HSm hr2
      go_wp2_with fail
      go_ret
      exact ⟨rfl, by rw [hbx.out]; exact E.out⟩
  · have E := Lib.hid (HE.out w2 B2.out)
    clear KT KX KY KBy KRy hTl hr1
    go_wp2_with fail
    go_ret
    exact ⟨rfl, by rw [hbx.out]; exact E.out⟩
end Go.Proofs.Ytdmmkjijgoiecaa.re
