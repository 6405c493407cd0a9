import Derived.Test.YtlkboeajkgbnaaaGreatDoorB31
set_option linter.all false
set_option maxHeartbeats 4000000
namespace Go.Proofs.YtlkboeajkgbnaaaGreatDoor.ym
open Go.RowKit Go.Proofs.YtlkboeajkgbnaaaGreatDoor.mem Go.Proofs.YtlkboeajkgbnaaaGreatDoor.sy
open Go.Proofs.YtlkboeajkgbnaaaGreatDoor.re (tx SU MU SumM)
open Go.Proofs.YtlkboeajkgbnaaaGreatDoor.sf (map_tx enc_tx)
open Go.Proofs.YtlkboeajkgbnaaaGreatDoor.inn (rsS)
set_option maxRecDepth 100000 in
set_option maxHeartbeats 16000000 in
theorem symbol_any (hf : HeldF) (hm : HeldM) (w : World) (nm : ByteArray) (A : Option Addr) (c : Nat) (l : List MUs) (h : UsL w A l) (hlm : l.length ≤ 900000) (hl0 : 0 < l.length) :
    Calls Tryz.prog 16 #[.string nm, .slice A l.length c] w (SymQ w nm (psT l l.length)) := by
  obtain ⟨W, hWe⟩ : ∃ W, Hid (W = ((w.alloc (.cells #[.string ⟨#[]⟩, .string ⟨#[]⟩, .slice none 0 0] 33)).alloc (.cells #[.string nm, .string ⟨#[]⟩, .slice none 0 0] 33)).alloc (.cells #[.bool false, .bool false, .bool false] 90)) := ⟨_, Lib.hid rfl⟩
  have hz1 : (w.alloc (.cells #[.string ⟨#[]⟩, .string ⟨#[]⟩, .slice none 0 0] 33)).heap.size = w.heap.size + 1 := Array.size_push _
  have hz2 : ((w.alloc (.cells #[.string ⟨#[]⟩, .string ⟨#[]⟩, .slice none 0 0] 33)).alloc (.cells #[.string nm, .string ⟨#[]⟩, .slice none 0 0] 33)).heap.size = w.heap.size + 2 := by rw [World.size_alloc, hz1]
  have S00 := sy_new w nm
  rw [← hWe.out] at S00
  have S0 := Lib.hid S00
  have HU := Lib.hid (fun (w2 : World) (b : Below w.heap.size w w2) => h.below b)
  have HF := Lib.hid hf
  have HM := Lib.hid hm
  obtain ⟨P, hP⟩ : ∃ P, Hid (P = psT l) := ⟨_, Lib.hid rfl⟩
  have hP0 : Hid (P 0 = ⟨⟨#[]⟩, [], false, false⟩) := Lib.hid (by rw [hP.out]; rfl)
  rw [← hP.out]
  obtain ⟨n, hN⟩ : ∃ n, Hid (n = l.length) := ⟨_, Lib.hid rfl⟩
  have hPs : Hid (∀ k (hk : k < l.length), P (k + 1) = psStep n l[0].u (P k) l[k].u) := Lib.hid (fun k hk => by
    rw [hN.out, hP.out, psT_succ l hk]
    cases l with
    | nil => cases hk
    | cons a t => rfl)
  rw [← hN.out] at hlm hl0 ⊢
  obtain ⟨Q, hQ⟩ : ∃ Q : Ending → World → Prop, Hid (Q = SymQ w nm (P n)) := ⟨_, Lib.hid rfl⟩
  rw [← hQ.out]
  obtain ⟨i0, hi0, hy0, hy1, hy2⟩ := info_parts inn.info_str
  have Hi := Lib.hid hi0
  have Hz0 := Lib.hid hy0
  have Hz1 := Lib.hid hy1
  have Hz2 := Lib.hid hy2
  clear hi0 hy0 hy1 hy2 S00 h hf hm hP
  go_enter Tryz.func16, Tryz.ntmps16
  go_upto_region 3 with fail
  rw [← hWe.out]
  try rw [hz2]
  try rw [hz1]
  try simp only [show w.heap.size + 1 + 1 = w.heap.size + 2 from rfl]
  clear hWe hz1 hz2
  go_wp2_with fail
  go_loopw [9, 16] (fun _ i wr => ∃ (k : Nat) (B : Option Addr) (cap : Nat) (giver : ByteArray) (wants : List ByteArray) (e0 e1 : Bool), k ≤ n ∧ wants.length ≤ k ∧ i = .int .i64 k ∧ Hid (P k = ⟨giver, wants, e0, e1⟩) ∧ Hid (SY w nm giver B cap wants e0 e1 wr)) (fun _ i _ => n - (intOf i).toNat)
  case atStart => exact ⟨0, none, 0, ⟨#[]⟩, [], false, false, by omega, by simp, rfl, hP0, S0⟩
  case round =>
    obtain ⟨k, B, cap, giver, wants, e0, e1, hk, hwk, rfl, hPk, hS⟩ := hrel
    rename World => wr
    clear S0 hP0
    by_cases hkl : k < n
    · have d1 : decide ((k : Int) < (n : Int)) = true := decide_eq_true (by omega)
      have hkx : k < l.length := by rw [← hN.out]; exact hkl
      have h0x : 0 < l.length := by omega
      obtain ⟨g, off, rfl, hg, hc⟩ := (HU.out wr hS.out.on).at_ hkx
      have HL0 : Hid (∀ w2, Below w.heap.size w w2 → ∀ i v, l[0].row[i]? = some v → w2.cell? ⟨g, off + i, none⟩ = some v) := Lib.hid (fun w2 b i v hv => by
        obtain ⟨g', off', e, _, hc'⟩ := (HU.out w2 b).at_ h0x
        cases e
        have := hc' i v hv
        rwa [Nat.zero_mul, Nat.add_zero] at this)
      have hok : Hid (∀ w2, Below w.heap.size w w2 → UOk w2 l[k]) := Lib.hid (fun w2 b => (HU.out w2 b).ok _ (List.getElem_mem hkx))
      have hok0 : Hid (∀ w2, Below w.heap.size w w2 → UOk w2 l[0]) := Lib.hid (fun w2 b => (HU.out w2 b).ok _ (List.getElem_mem h0x))
      have hst := hPs.out k hkx
      rw [hPk.out] at hst
      replace hst := Lib.hid hst
      generalize l[k] = x at *
      generalize l[0] = x0 at *
      clear hkx h0x hPk
      have HLK : Hid (∀ w2, Below w.heap.size w w2 → Calls Tryz.prog 44 #[x0.val, x.val] w2 (BPost (like x0.u x.u) w2)) := Lib.hid (fun w2 b => like_any HF.out HM.out w2 x0 x (hok0.out w2 b) (hok.out w2 b))
      have HAL : Hid (∀ w2, Calls Tryz.prog 43 #[x.val] w2 (BPost x.u.alone w2)) := Lib.hid (fun w2 => alone_any w2 x)
      clear hok hok0
      unfold psStep at hst
      generalize like x0.u x.u = lk at *
      generalize x.u.alone = al at *
      obtain ⟨⟨um, ug, uw, ⟨on, okd, oms⟩, ⟨fnm, fk, fr⟩⟩, uA, uc⟩ := x
      unfold MUs.val at HLK HAL
      unfold MUs.row at hc
      unfold BPost at HLK HAL
      dsimp only at *
      generalize oms.length = ml at *
      have c0 : wr.cell? ⟨g, off + k * 9, none⟩ = some (.string um) := hc 0 _ rfl
      have c1 : wr.cell? ⟨g, off + k * 9 + 1, none⟩ = some (.bool ug) := hc 1 _ rfl
      have c2 : wr.cell? ⟨g, off + k * 9 + 2, none⟩ = some (.bool uw) := hc 2 _ rfl
      have c3 : wr.cell? ⟨g, off + k * 9 + 3, none⟩ = some (.string on) := hc 3 _ rfl
      have c4 : wr.cell? ⟨g, off + k * 9 + 4, none⟩ = some (.string okd) := hc 4 _ rfl
      have c5 : wr.cell? ⟨g, off + k * 9 + 5, none⟩ = some (.slice uA ml uc) := hc 5 _ rfl
      have c6 : wr.cell? ⟨g, off + k * 9 + 6, none⟩ = some (.string fnm) := hc 6 _ rfl
      have c7 : wr.cell? ⟨g, off + k * 9 + 7, none⟩ = some (.string fk) := hc 7 _ rfl
      have c8 : wr.cell? ⟨g, off + k * 9 + 8, none⟩ = some (.string fr) := hc 8 _ rfl
      clear hc
      have hu2 : w.heap.size + 2 < wr.heap.size := hS.out.b2.lt
      obtain ⟨w1, hw1⟩ : ∃ w1, Hid (w1 = wr.alloc (.cells #[.string um, .bool ug, .bool uw, .string on, .string okd, .slice uA ml uc, .string fnm, .string fk, .string fr] 83)) := ⟨_, Lib.hid rfl⟩
      have BU : Box w1 wr.heap.size 83 #[.string um, .bool ug, .bool uw, .string on, .string okd, .slice uA ml uc, .string fnm, .string fk, .string fr] := by rw [hw1.out]; exact Box.new wr _ _
      have HS1 : Hid (SY w nm giver B cap wants e0 e1 w1) := by rw [hw1.out]; exact Lib.hid (hS.out.below ((Fr.refl [] wr).alloc _).all)
      have HBU := Lib.hid BU
      go_upto_region 6 with fail
      rw [← hw1.out]
      clear hw1 c0 c1 c2 c3 c4 c5 c6 c7 c8 hg hS
      generalize wr.heap.size = gu at *
      have y1 : w1.cell? ⟨gu, 1, none⟩ = some (.bool ug) := BU.cell 1
      clear BU
      go_upto_if 21 with fail
      clear y1
      go_cut [16] from 17 to 65 (fun i wx => i = .int .i64 (k : Int) ∧ Hid (SY w nm (if ug then um else giver) B cap wants (e0 || (ug && decide (giver.size ≠ 0))) e1 wx) ∧ Hid (Box wx gu 83 #[.string um, .bool ug, .bool uw, .string on, .string okd, .slice uA ml uc, .string fnm, .string fk, .string fr]))
      case first =>
        clear HLK HAL HL0 hst HU hPs
        have y0 : w1.cell? ⟨gu, 0, none⟩ = some (.string um) := HBU.out.cell 0
        have s0 : w1.cell? ⟨w.heap.size + 2, 0, none⟩ = some (.bool e0) := HS1.out.b2.cell 0
        have s1 : w1.cell? ⟨w.heap.size + 1, 1, none⟩ = some (.string giver) := HS1.out.b1.cell 1
        have v0 := HS1.out.b2.free 0
        have l0 := HS1.out.b2.lt
        rcases ug with _ | _
        · go_wp2_with fail
          go_meet
          exact ⟨rfl, by simpa using HS1, HBU⟩
        · have HQ : Hid (∀ q, SY w nm giver B cap wants q e1 (w1.setCell ⟨w.heap.size + 2, 0, none⟩ (.bool q)) ∧ Box (w1.setCell ⟨w.heap.size + 2, 0, none⟩ (.bool q)) gu 83 #[.string um, .bool true, .bool uw, .string on, .string okd, .slice uA ml uc, .string fnm, .string fk, .string fr]) := Lib.hid (fun q => ⟨HS1.out.set0 q, HBU.out.kept ((Fr.refl [w.heap.size + 2] w1).setCell (Or.inl (by simp)) _) (by simp; omega)⟩)
          obtain ⟨z, hz⟩ : ∃ z, Hid (z = decide (giver.size ≠ 0)) := ⟨_, Lib.hid rfl⟩
          have d2 : giver.toList.isEmpty = !z := by rw [hz.out, emp_isE]; simp
          rcases e0 with _ | _
          rotate_left
          · go_upto_region 8 with fail
            obtain ⟨k1, k2⟩ := HQ.out true
            generalize w1.setCell ⟨w.heap.size + 2, 0, none⟩ (.bool true) = w2 at *
            have y0 : w2.cell? ⟨gu, 0, none⟩ = some (.string um) := k2.cell 0
            have s1 : w2.cell? ⟨w.heap.size + 1, 1, none⟩ = some (.string giver) := k1.b1.cell 1
            have v1 := k1.b1.free 1
            have l1 := k1.b1.lt
            have hG := Lib.hid (k1.setG um)
            have hB := Lib.hid (k2.kept ((Fr.refl [w.heap.size + 1] w2).setCell (p := ⟨w.heap.size + 1, 1, none⟩) (Or.inl (by simp)) (.string um)) (by simp; omega))
            clear k1 k2 HQ d2
            go_wp2_with fail
            go_meet
            exact ⟨rfl, by simpa using hG, hB⟩
          · rcases z with _ | _
            all_goals
              go_upto_region 8 with fail
            · obtain ⟨k1, k2⟩ := HQ.out false
              generalize w1.setCell ⟨w.heap.size + 2, 0, none⟩ (.bool false) = w2 at *
              have y0 : w2.cell? ⟨gu, 0, none⟩ = some (.string um) := k2.cell 0
              have s1 : w2.cell? ⟨w.heap.size + 1, 1, none⟩ = some (.string giver) := k1.b1.cell 1
              have v1 := k1.b1.free 1
              have l1 := k1.b1.lt
              have hG := Lib.hid (k1.setG um)
              have hB := Lib.hid (k2.kept ((Fr.refl [w.heap.size + 1] w2).setCell (p := ⟨w.heap.size + 1, 1, none⟩) (Or.inl (by simp)) (.string um)) (by simp; omega))
              clear k1 k2 HQ d2
              go_wp2_with fail
              go_meet
              exact ⟨rfl, by rw [← hz.out]; exact hG, hB⟩
            · obtain ⟨k1, k2⟩ := HQ.out true
              generalize w1.setCell ⟨w.heap.size + 2, 0, none⟩ (.bool true) = w2 at *
              have y0 : w2.cell? ⟨gu, 0, none⟩ = some (.string um) := k2.cell 0
              have s1 : w2.cell? ⟨w.heap.size + 1, 1, none⟩ = some (.string giver) := k1.b1.cell 1
              have v1 := k1.b1.free 1
              have l1 := k1.b1.lt
              have hG := Lib.hid (k1.setG um)
              have hB := Lib.hid (k2.kept ((Fr.refl [w.heap.size + 1] w2).setCell (p := ⟨w.heap.size + 1, 1, none⟩) (Or.inl (by simp)) (.string um)) (by simp; omega))
              clear k1 k2 HQ d2
              go_wp2_with fail
              go_meet
              exact ⟨rfl, by rw [← hz.out]; exact hG, hB⟩
      case rest =>
        obtain ⟨rfl, HS2, HB2⟩ := hcut
        clear HS1 HBU
        rename World => w2
        obtain ⟨giver2, hg2⟩ : ∃ y, Hid (y = if ug then um else giver) := ⟨_, Lib.hid rfl⟩
        obtain ⟨e02, he2⟩ : ∃ y, Hid (y = (e0 || (ug && decide (giver.size ≠ 0)))) := ⟨_, Lib.hid rfl⟩
        rw [← hg2.out, ← he2.out] at HS2 hst
        clear hg2 he2
        have y2 : w2.cell? ⟨gu, 2, none⟩ = some (.bool uw) := HB2.out.cell 2
        go_upto_if 34 with fail
        clear y2
        go_cut [16] from 17 to 65 (fun i wx => i = .int .i64 (k : Int) ∧ ∃ (C : Option Addr) (cap2 : Nat), Hid (SY w nm giver2 C cap2 (if uw then wants ++ [um] else wants) e02 e1 wx) ∧ Hid (Box wx gu 83 #[.string um, .bool ug, .bool uw, .string on, .string okd, .slice uA ml uc, .string fnm, .string fk, .string fr]))
        case first =>
          clear HLK HAL HL0 hst HU hPs
          have y0 : w2.cell? ⟨gu, 0, none⟩ = some (.string um) := HB2.out.cell 0
          rcases uw with _ | _
          · go_wp2_with fail
            go_meet
            exact ⟨rfl, B, cap, by simpa using HS2, HB2⟩
          · have s2 : w2.cell? ⟨w.heap.size + 1, 2, none⟩ = some (.slice B wants.length cap) := HS2.out.b1.cell 2
            obtain ⟨nw, hnw⟩ : ∃ nw, Hid (nw = wants.length) := ⟨_, Lib.hid rfl⟩
            rw [← hnw.out] at s2 hwk
            have hgB : Hid (gu ∉ blk B) := Lib.hid (HS2.out.sg.ne_box HB2.out (by decide))
            go_wp2_with (at_builtin
                         refine wpList_push (n := nw) rfl _ _ _ rfl (HS2.out.sg.alloc _) (by rw [List.length_map]; exact hnw.out) Tryz.underlying31 Hi.out Hz0.out Hz1.out Hz2.out rfl rfl rfl (new_cell _ _ _) rfl (by omega) (by omega) ?_
                         intro A3 cap3 w3 hs3 f3 hf3
                         obtain ⟨⟨k1, k2, k3⟩, k4, k5⟩ := HS2.out.push hnw.out hs3 f3 hf3
                         have hG := Lib.hid k4
                         have hB := Lib.hid (show Box _ gu 83 #[.string um, .bool ug, .bool true, .string on, .string okd, .slice uA ml uc, .string fnm, .string fk, .string fr] from (k5 gu HB2.out.lt hgB.out (by omega)).trans HB2.out)
                         clear k4 k5 hs3 f3 hf3)
            go_meet
            exact ⟨rfl, A3, cap3, by simpa using hG, hB⟩
        case rest =>
          obtain ⟨rfl, C, cap2, HS3, HB3⟩ := hcut
          clear HS2 HB2
          rename World => w3
          obtain ⟨wants2, hg2⟩ : ∃ y, Hid (y = if uw then wants ++ [um] else wants) := ⟨_, Lib.hid rfl⟩
          have hst3 : Hid (P (k + 1) = ⟨giver2, wants2, e02 || (decide (1 < n) && al), e1 || !lk⟩) := Lib.hid (by rw [hst.out, hg2.out])
          have hwk2 : wants2.length ≤ k + 1 := by
            rw [hg2.out]
            split
            · simp only [List.length_append, List.length_singleton]; omega
            · omega
          rw [← hg2.out] at HS3
          clear hg2 hst
          go_upto_region 11 with fail
          go_cut [16] from 17 to 65 (fun i wx => i = .int .i64 (k : Int) ∧ Hid (SY w nm giver2 C cap2 wants2 (e02 || (decide (1 < n) && al)) e1 wx) ∧ Hid (Box wx gu 83 #[.string um, .bool ug, .bool uw, .string on, .string okd, .slice uA ml uc, .string fnm, .string fk, .string fr]))
          case first =>
            clear HLK HL0 hst3 HU hPs
            have s0 : w3.cell? ⟨w.heap.size + 2, 0, none⟩ = some (.bool e02) := HS3.out.b2.cell 0
            have v0 := HS3.out.b2.free 0
            have l0 := HS3.out.b2.lt
            have HQ : Hid (∀ w4, Below w3.heap.size w3 w4 → (w4.cell? ⟨w.heap.size + 2, 0, none⟩ = some (.bool e02) ∧ w4.frozen? ⟨w.heap.size + 2, 0, none⟩ = false ∧ w.heap.size + 2 < w4.heap.size) ∧ ∀ q, Hid (SY w nm giver2 C cap2 wants2 q e1 (w4.setCell ⟨w.heap.size + 2, 0, none⟩ (.bool q))) ∧ Hid (Box (w4.setCell ⟨w.heap.size + 2, 0, none⟩ (.bool q)) gu 83 #[.string um, .bool ug, .bool uw, .string on, .string okd, .slice uA ml uc, .string fnm, .string fk, .string fr])) := Lib.hid (fun w4 b => by
              have z := HS3.out.below b
              exact ⟨⟨z.b2.cell 0, z.b2.free 0, z.b2.lt⟩, fun q => ⟨Lib.hid (z.set0 q), Lib.hid ((HB3.out.kept (Fr.of_below b []) (by simp)).kept ((Fr.refl [w.heap.size + 2] w4).setCell (p := ⟨w.heap.size + 2, 0, none⟩) (Or.inl (by simp)) (.bool q)) (by simp; omega))⟩⟩)
            obtain ⟨_, hq3⟩ := HQ.out w3 (Below.refl _ _)
            rcases e02 with _ | _
            rotate_left
            · obtain ⟨t1, t2⟩ := hq3 true
              clear hq3 HQ HAL
              go_wp2_with fail
              go_meet
              exact ⟨rfl, by simpa using t1, t2⟩
            · by_cases hn1 : 1 < n
              rotate_left
              · have g1 : decide ((1 : Int) < (n : Int)) = false := decide_eq_false (by omega)
                have g2 : decide (1 < n) = false := decide_eq_false hn1
                obtain ⟨t1, t2⟩ := hq3 false
                clear hq3 HQ HAL
                go_wp2_with fail
                go_meet
                exact ⟨rfl, by simpa [g2] using t1, t2⟩
              · have g1 : decide ((1 : Int) < (n : Int)) = true := decide_eq_true (by omega)
                have g2 : decide (1 < n) = true := decide_eq_true hn1
                have g3 := Lib.hid g2
                clear hq3 s0 v0 l0
                have K := Lib.hid (HAL.out w3)
                have s0 : w3.cell? ⟨w.heap.size + 2, 0, none⟩ = some (.bool false) := HS3.out.b2.cell 0
                have y0 : w3.cell? ⟨gu, 0, none⟩ = some (.string um) := HB3.out.cell 0
                have y1 : w3.cell? ⟨gu, 1, none⟩ = some (.bool ug) := HB3.out.cell 1
                have y2 : w3.cell? ⟨gu, 2, none⟩ = some (.bool uw) := HB3.out.cell 2
                have y3 : w3.cell? ⟨gu, 3, none⟩ = some (.string on) := HB3.out.cell 3
                have y4 : w3.cell? ⟨gu, 4, none⟩ = some (.string okd) := HB3.out.cell 4
                have y5 : w3.cell? ⟨gu, 5, none⟩ = some (.slice uA ml uc) := HB3.out.cell 5
                have y6 : w3.cell? ⟨gu, 6, none⟩ = some (.string fnm) := HB3.out.cell 6
                have y7 : w3.cell? ⟨gu, 7, none⟩ = some (.string fk) := HB3.out.cell 7
                have y8 : w3.cell? ⟨gu, 8, none⟩ = some (.string fr) := HB3.out.cell 8
                clear HAL
                go_wp2_with fail
                refine K.out.mono ?_
                rintro e w4 ⟨rfl, b4⟩
                obtain ⟨⟨s0, v0, l0⟩, hq4⟩ := HQ.out w4 b4
                obtain ⟨t1, t2⟩ := hq4 al
                clear K HQ hq4 b4 y0 y1 y2 y3 y4 y5 y6 y7 y8
                rcases al with _ | _
                all_goals
                  go_wp2_with fail
                  go_meet
                  exact ⟨rfl, by simpa [g3.out] using t1, t2⟩
          case rest =>
            obtain ⟨rfl, HS4, HB4⟩ := hcut
            clear HS3 HB3 HAL
            rename World => w4
            obtain ⟨e04, hg2⟩ : ∃ y, Hid (y = (e02 || (decide (1 < n) && al))) := ⟨_, Lib.hid rfl⟩
            rw [← hg2.out] at HS4 hst3
            clear hg2
            go_upto_region 12 with fail
            obtain ⟨⟨xm, xg, xw, ⟨yon, yok, yms⟩, ⟨yfn, yfk, yfr⟩⟩, xA, xc⟩ := x0
            unfold MUs.row at HL0
            dsimp only at HL0 HLK
            generalize yms.length = yl at *
            have hS5 : Hid (SY w nm giver2 C cap2 wants2 e04 e1 w4.drew) := Lib.hid (HS4.out.below ((Fr.refl [] w4).drew.all))
            have hB5 : Hid (Box w4.drew gu 83 #[.string um, .bool ug, .bool uw, .string on, .string okd, .slice uA ml uc, .string fnm, .string fk, .string fr]) := Lib.hid HB4.out
            obtain ⟨S, hSd⟩ : ∃ S : World → Prop, Hid (∀ W', S W' ↔ ((∀ (i : Nat) (v : Value), ([.string xm, .bool xg, .bool xw, .string yon, .string yok, .slice xA yl xc, .string yfn, .string yfk, .string yfr] : List Value)[i]? = some v → W'.cell? ⟨g, off + i, none⟩ = some v) ∧ Box W' gu 83 #[.string um, .bool ug, .bool uw, .string on, .string okd, .slice uA ml uc, .string fnm, .string fk, .string fr])) := ⟨_, Lib.hid fun _ => Iff.rfl⟩
            have keepS : Hid (∀ W', Below w.heap.size w W' → Box W' gu 83 #[.string um, .bool ug, .bool uw, .string on, .string okd, .slice uA ml uc, .string fnm, .string fk, .string fr] → S W') := Lib.hid (fun W' b hb => (hSd.out _).2 ⟨HL0.out W' b, hb⟩)
            have hS1 : S w4.drew := keepS.out _ hS5.out.on hB5.out
            have HT : Hid (∀ w5, Below w4.drew.heap.size w4.drew w5 → (w5.cell? ⟨w.heap.size + 2, 1, none⟩ = some (.bool e1) ∧ w5.frozen? ⟨w.heap.size + 2, 1, none⟩ = false ∧ w.heap.size + 2 < w5.heap.size) ∧ S w5 ∧ Below w.heap.size w w5 ∧ ∀ q, S (w5.setCell ⟨w.heap.size + 2, 1, none⟩ (.bool q)) ∧ Hid (SY w nm giver2 C cap2 wants2 e04 q (w5.setCell ⟨w.heap.size + 2, 1, none⟩ (.bool q)))) := Lib.hid (fun w5 b => by
              have z := hS5.out.below b
              have zb := hB5.out.kept (Fr.of_below b []) (by simp)
              refine ⟨⟨z.b2.cell 1, z.b2.free 1, z.b2.lt⟩, keepS.out _ z.on zb, z.on, fun q => ⟨keepS.out _ (z.set1 q).on (zb.kept ((Fr.refl [w.heap.size + 2] w5).setCell (p := ⟨w.heap.size + 2, 1, none⟩) (Or.inl (by simp)) (.bool q)) (by simp; omega)), Lib.hid (z.set1 q)⟩⟩)
            clear HS4 HB4 hB5 HL0 keepS hS5 HU hPs
            rcases e1 with _ | _
            all_goals
              refine rng.wp_normal ?_
              refine wp_region_held_drew (S := S) (by kernel_rfl) hS1 (fun _ => ?_)
              generalize hwz : w4.drew = wz at *
              clear hwz
            · refine wpAnyH_take (i := 0) (v := .pointer (some ⟨w.heap.size + 2, 1, none⟩)) rfl (by kernel_rfl) (by kernel_rfl) (by kernel_rfl) (fun _ _ _ h => absurd h.1 (by simp)) (Or.inl ⟨by kernel_rfl, ?_⟩) hS1 ?_
              · intro W' hSw
                obtain ⟨s0, s2⟩ := (hSd.out _).1 hSw
                go_simp
              try change wpAnyH _ _ _ _ _ _ _ (Act.put _ (some 54) _) _
              try simp only [Act.put, List.setIfInBounds_toArray, List.set_cons_zero, List.set_cons_succ]
              refine wpAnyH_ready (rs := [1]) (by kernel_rfl) (by simp) ?_
              refine AllReadyH.cons rfl (fun K hK => ?_) AllReadyH.nil
              obtain ⟨⟨k1, k2, k3⟩, _, _, _⟩ := HT.out wz (Below.refl _ _)
              go_simp
              refine hK.out _ _ hS1 (fun _ => ?_)
              clear hK k1 k2 k3
              try simp only [Act.put, List.setIfInBounds_toArray, List.set_cons_zero, List.set_cons_succ]
              refine wpAnyH_take (i := 2) (v := .bool false) rfl (by kernel_rfl) (by kernel_rfl) (by kernel_rfl) (fun _ _ _ h => absurd h.1 (by simp)) (Or.inl ⟨by kernel_rfl, ?_⟩) hS1 ?_
              · intro W' hSw
                obtain ⟨s0, s2⟩ := (hSd.out _).1 hSw
                go_simp
              try change wpAnyH _ _ _ _ _ _ _ (Act.put _ (some 56) _) _
              try simp only [Act.put, List.setIfInBounds_toArray, List.set_cons_zero, List.set_cons_succ]
              refine wpAnyH_take (i := 3) (v := .slice (some ⟨g, off, none⟩) n c) rfl (by kernel_rfl) (by kernel_rfl) (by kernel_rfl) (fun _ _ _ h => absurd h.1 (by simp)) (Or.inl ⟨by kernel_rfl, ?_⟩) hS1 ?_
              · intro W' hSw
                obtain ⟨s0, s2⟩ := (hSd.out _).1 hSw
                go_simp
              try change wpAnyH _ _ _ _ _ _ _ (Act.put _ (some 57) _) _
              try simp only [Act.put, List.setIfInBounds_toArray, List.set_cons_zero, List.set_cons_succ]
              refine wpAnyH_take (i := 4) (v := .pointer (some ⟨g, off, none⟩)) rfl (by kernel_rfl) (by kernel_rfl) (by kernel_rfl) (fun _ _ _ h => absurd h.1 (by simp)) (Or.inl ⟨by kernel_rfl, ?_⟩) hS1 ?_
              · intro W' hSw
                obtain ⟨s0, s2⟩ := (hSd.out _).1 hSw
                go_simp
                try (intro hh; omega)
              try change wpAnyH _ _ _ _ _ _ _ (Act.put _ (some 58) _) _
              try simp only [Act.put, List.setIfInBounds_toArray, List.set_cons_zero, List.set_cons_succ]
              refine wpAnyH_take (i := 5) (v := .agg #[.string xm, .bool xg, .bool xw, .string yon, .string yok, .slice xA yl xc, .string yfn, .string yfk, .string yfr]) rfl (by kernel_rfl) (by kernel_rfl) (by kernel_rfl) (fun _ _ _ h => absurd h.1 (by simp)) (Or.inl ⟨by kernel_rfl, ?_⟩) hS1 ?_
              · intro W' hSw
                obtain ⟨s0, s2⟩ := (hSd.out _).1 hSw
                have q0 := s0 0 _ rfl
                have q1 := s0 1 _ rfl
                have q2 := s0 2 _ rfl
                have q3 := s0 3 _ rfl
                have q4 := s0 4 _ rfl
                have q5 := s0 5 _ rfl
                have q6 := s0 6 _ rfl
                have q7 := s0 7 _ rfl
                have q8 := s0 8 _ rfl
                simp only [Nat.add_zero] at q0
                go_simp
              try change wpAnyH _ _ _ _ _ _ _ (Act.put _ (some 59) _) _
              try simp only [Act.put, List.setIfInBounds_toArray, List.set_cons_zero, List.set_cons_succ]
              refine wpAnyH_take (i := 6) (v := .agg #[.string um, .bool ug, .bool uw, .string on, .string okd, .slice uA ml uc, .string fnm, .string fk, .string fr]) rfl (by kernel_rfl) (by kernel_rfl) (by kernel_rfl) (fun _ _ _ h => absurd h.1 (by simp)) (Or.inl ⟨by kernel_rfl, ?_⟩) hS1 ?_
              · intro W' hSw
                obtain ⟨s0, s2⟩ := (hSd.out _).1 hSw
                have q0 := s2.cell 0
                have q1 := s2.cell 1
                have q2 := s2.cell 2
                have q3 := s2.cell 3
                have q4 := s2.cell 4
                have q5 := s2.cell 5
                have q6 := s2.cell 6
                have q7 := s2.cell 7
                have q8 := s2.cell 8
                simp only [List.getElem?_toArray, List.getElem?_cons_zero, List.getElem?_cons_succ] at q0 q1 q2 q3 q4 q5 q6 q7 q8
                go_simp
              try change wpAnyH _ _ _ _ _ _ _ (Act.put _ (some 60) _) _
              try simp only [Act.put, List.setIfInBounds_toArray, List.set_cons_zero, List.set_cons_succ]
              refine wpAnyH_ready (rs := [7]) (by kernel_rfl) (by simp) ?_
              refine AllReadyH.cons rfl (fun K hK => ?_) AllReadyH.nil
              have KL := HLK.out wz (HT.out wz (Below.refl _ _)).2.2.1
              go_simp
              refine KL.mono ?_
              rintro e w5 ⟨rfl, b5⟩
              have T5 := Lib.hid (HT.out w5 b5)
              have hS2 := T5.out.2.1
              refine hK.out _ _ hS2 (fun _ => ?_)
              clear hK KL b5
              try simp only [Act.put, List.setIfInBounds_toArray, List.set_cons_zero, List.set_cons_succ]
              refine wpAnyH_take (i := 8) (v := .bool (!lk)) rfl (by kernel_rfl) (by kernel_rfl) (by kernel_rfl) (fun _ _ _ h => absurd h.1 (by simp)) (Or.inl ⟨by kernel_rfl, ?_⟩) hS2 ?_
              · intro W' hSw
                obtain ⟨s0, s2⟩ := (hSd.out _).1 hSw
                go_simp
              try change wpAnyH _ _ _ _ _ _ _ (Act.put _ (some 62) _) _
              try simp only [Act.put, List.setIfInBounds_toArray, List.set_cons_zero, List.set_cons_succ]
              refine wpAnyH_take (i := 9) (v := .bool !lk) rfl (by kernel_rfl) (by kernel_rfl) (by kernel_rfl) (fun _ _ _ h => absurd h.1 (by simp)) (Or.inl ⟨by kernel_rfl, ?_⟩) hS2 ?_
              · intro W' hSw
                obtain ⟨s0, s2⟩ := (hSd.out _).1 hSw
                go_simp
              try change wpAnyH _ _ _ _ _ _ _ (Act.put _ (some 63) _) _
              try simp only [Act.put, List.setIfInBounds_toArray, List.set_cons_zero, List.set_cons_succ]
              refine wpAnyH_take (i := 10) (v := .pointer (some ⟨w.heap.size + 2, 1, none⟩)) rfl (by kernel_rfl) (by kernel_rfl) (by kernel_rfl) (fun _ _ _ h => absurd h.1 (by simp)) (Or.inl ⟨by kernel_rfl, ?_⟩) hS2 ?_
              · intro W' hSw
                obtain ⟨s0, s2⟩ := (hSd.out _).1 hSw
                go_simp
              try change wpAnyH _ _ _ _ _ _ _ (Act.put _ (some 64) _) _
              try simp only [Act.put, List.setIfInBounds_toArray, List.set_cons_zero, List.set_cons_succ]
              refine wpAnyH_ready (rs := [11]) (by kernel_rfl) (by simp) ?_
              refine AllReadyH.cons rfl (fun K hK => ?_) AllReadyH.nil
              obtain ⟨⟨k1, k2, k3⟩, _, _, kq⟩ := T5.out
              obtain ⟨q1, q2⟩ := kq (!lk)
              clear kq
              go_simp
              refine hK.out _ _ q1 (fun _ => ?_)
              clear hK k1 k2 k3 q1 hS1
              try simp only [Act.put, List.setIfInBounds_toArray, List.set_cons_zero, List.set_cons_succ]
              refine wpAnyH_done (by kernel_rfl) ?_ _
              refine ⟨rfl, ?_⟩
              clear HT hSd HLK
              go_wp2_with fail
              go_roundw
              case rel => exact ⟨k + 1, C, cap2, giver2, wants2, e04, !lk, by omega, hwk2, by go_num, by simpa using hst3, q2⟩
              case measure => simp [intOf]; omega
            · refine wpAnyH_take (i := 0) (v := .pointer (some ⟨w.heap.size + 2, 1, none⟩)) rfl (by kernel_rfl) (by kernel_rfl) (by kernel_rfl) (fun _ _ _ h => absurd h.1 (by simp)) (Or.inl ⟨by kernel_rfl, ?_⟩) hS1 ?_
              · intro W' hSw
                obtain ⟨s0, s2⟩ := (hSd.out _).1 hSw
                go_simp
              try change wpAnyH _ _ _ _ _ _ _ (Act.put _ (some 54) _) _
              try simp only [Act.put, List.setIfInBounds_toArray, List.set_cons_zero, List.set_cons_succ]
              refine wpAnyH_ready (rs := [1]) (by kernel_rfl) (by simp) ?_
              refine AllReadyH.cons rfl (fun K hK => ?_) AllReadyH.nil
              obtain ⟨⟨k1, k2, k3⟩, _, _, _⟩ := HT.out wz (Below.refl _ _)
              go_simp
              refine hK.out _ _ hS1 (fun _ => ?_)
              clear hK k1 k2 k3
              try simp only [Act.put, List.setIfInBounds_toArray, List.set_cons_zero, List.set_cons_succ]
              refine wpAnyH_take (i := 2) (v := .bool true) rfl (by kernel_rfl) (by kernel_rfl) (by kernel_rfl) (fun _ _ _ h => absurd h.1 (by simp)) (Or.inl ⟨by kernel_rfl, ?_⟩) hS1 ?_
              · intro W' hSw
                obtain ⟨s0, s2⟩ := (hSd.out _).1 hSw
                go_simp
              try change wpAnyH _ _ _ _ _ _ _ (Act.put _ (some 56) _) _
              try simp only [Act.put, List.setIfInBounds_toArray, List.set_cons_zero, List.set_cons_succ]
              refine wpAnyH_take (i := 3) (v := undef) rfl (by kernel_rfl) (by kernel_rfl) (by kernel_rfl) (fun _ _ _ h => absurd h.1 (by simp)) (Or.inr ⟨by kernel_rfl, rfl⟩) hS1 ?_
              try change wpAnyH _ _ _ _ _ _ _ (Act.put _ (some 57) _) _
              try simp only [Act.put, List.setIfInBounds_toArray, List.set_cons_zero, List.set_cons_succ]
              refine wpAnyH_take (i := 4) (v := undef) rfl (by kernel_rfl) (by kernel_rfl) (by kernel_rfl) (fun _ _ _ h => absurd h.1 (by simp)) (Or.inr ⟨by kernel_rfl, rfl⟩) hS1 ?_
              try change wpAnyH _ _ _ _ _ _ _ (Act.put _ (some 58) _) _
              try simp only [Act.put, List.setIfInBounds_toArray, List.set_cons_zero, List.set_cons_succ]
              refine wpAnyH_take (i := 5) (v := undef) rfl (by kernel_rfl) (by kernel_rfl) (by kernel_rfl) (fun _ _ _ h => absurd h.1 (by simp)) (Or.inr ⟨by kernel_rfl, rfl⟩) hS1 ?_
              try change wpAnyH _ _ _ _ _ _ _ (Act.put _ (some 59) _) _
              try simp only [Act.put, List.setIfInBounds_toArray, List.set_cons_zero, List.set_cons_succ]
              refine wpAnyH_take (i := 6) (v := undef) rfl (by kernel_rfl) (by kernel_rfl) (by kernel_rfl) (fun _ _ _ h => absurd h.1 (by simp)) (Or.inr ⟨by kernel_rfl, rfl⟩) hS1 ?_
              try change wpAnyH _ _ _ _ _ _ _ (Act.put _ (some 60) _) _
              try simp only [Act.put, List.setIfInBounds_toArray, List.set_cons_zero, List.set_cons_succ]
              refine wpAnyH_take (i := 7) (v := undef) rfl (by kernel_rfl) (by kernel_rfl) (by kernel_rfl) (fun _ _ _ h => absurd h.1 (by simp)) (Or.inr ⟨by kernel_rfl, rfl⟩) hS1 ?_
              try change wpAnyH _ _ _ _ _ _ _ (Act.put _ (some 61) _) _
              try simp only [Act.put, List.setIfInBounds_toArray, List.set_cons_zero, List.set_cons_succ]
              refine wpAnyH_take (i := 8) (v := undef) rfl (by kernel_rfl) (by kernel_rfl) (by kernel_rfl) (fun _ _ _ h => absurd h.1 (by simp)) (Or.inr ⟨by kernel_rfl, rfl⟩) hS1 ?_
              try change wpAnyH _ _ _ _ _ _ _ (Act.put _ (some 62) _) _
              try simp only [Act.put, List.setIfInBounds_toArray, List.set_cons_zero, List.set_cons_succ]
              refine wpAnyH_take (i := 9) (v := .bool true) rfl (by kernel_rfl) (by kernel_rfl) (by kernel_rfl) (fun _ _ _ h => absurd h.1 (by simp)) (Or.inl ⟨by kernel_rfl, ?_⟩) hS1 ?_
              · intro W' hSw
                obtain ⟨s0, s2⟩ := (hSd.out _).1 hSw
                go_simp
              try change wpAnyH _ _ _ _ _ _ _ (Act.put _ (some 63) _) _
              try simp only [Act.put, List.setIfInBounds_toArray, List.set_cons_zero, List.set_cons_succ]
              refine wpAnyH_take (i := 10) (v := .pointer (some ⟨w.heap.size + 2, 1, none⟩)) rfl (by kernel_rfl) (by kernel_rfl) (by kernel_rfl) (fun _ _ _ h => absurd h.1 (by simp)) (Or.inl ⟨by kernel_rfl, ?_⟩) hS1 ?_
              · intro W' hSw
                obtain ⟨s0, s2⟩ := (hSd.out _).1 hSw
                go_simp
              try change wpAnyH _ _ _ _ _ _ _ (Act.put _ (some 64) _) _
              try simp only [Act.put, List.setIfInBounds_toArray, List.set_cons_zero, List.set_cons_succ]
              refine wpAnyH_ready (rs := [11]) (by kernel_rfl) (by simp) ?_
              refine AllReadyH.cons rfl (fun K hK => ?_) AllReadyH.nil
              obtain ⟨⟨k1, k2, k3⟩, _, _, kq⟩ := HT.out wz (Below.refl _ _)
              obtain ⟨q1, q2⟩ := kq (true)
              clear kq
              go_simp
              refine hK.out _ _ q1 (fun _ => ?_)
              clear hK k1 k2 k3 q1 hS1
              try simp only [Act.put, List.setIfInBounds_toArray, List.set_cons_zero, List.set_cons_succ]
              refine wpAnyH_done (by kernel_rfl) ?_ _
              refine ⟨rfl, ?_⟩
              clear HT hSd HLK
              go_wp2_with fail
              go_roundw
              case rel => exact ⟨k + 1, C, cap2, giver2, wants2, e04, true, by omega, hwk2, by go_num, by simpa using hst3, q2⟩
              case measure => simp [intOf]; omega
    · obtain rfl : k = n := by omega
      have d1 : decide ((k : Int) < (k : Int)) = false := decide_eq_false (by omega)
      have s1 : wr.cell? ⟨w.heap.size + 1, 1, none⟩ = some (.string giver) := hS.out.b1.cell 1
      have s2 : wr.cell? ⟨w.heap.size + 1, 2, none⟩ = some (.slice B wants.length cap) := hS.out.b1.cell 2
      have v3 := hS.out.b2.free 2
      have l3 := hS.out.b2.lt
      have s3 : wr.cell? ⟨w.heap.size + 2, 2, none⟩ = some (.bool false) := hS.out.b2.cell 2
      have hQ2 : Hid (Q = SymQ w nm ⟨giver, wants, e0, e1⟩) := Lib.hid (by rw [hQ.out, hPk.out])
      obtain ⟨z, hz⟩ : ∃ z, Hid (z = decide (giver.size = 0)) := ⟨_, Lib.hid rfl⟩
      have d2 : (giver.toList == []) = z := by rw [hz.out, emp_size]
      have d3 : giver.toList.isEmpty = z := by rw [hz.out, emp_isE]
      obtain ⟨nw, hnw⟩ : ∃ nw, Hid (nw = wants.length) := ⟨_, Lib.hid rfl⟩
      rw [← hnw.out] at s2 hwk
      obtain ⟨e2, he2⟩ : ∃ e2, Hid (e2 = (z && decide (0 < nw))) := ⟨_, Lib.hid rfl⟩
      have hC : Hid (symC ⟨giver, wants, e0, e1⟩ = if e0 then 8 else if e1 then 12 else if e2 then 7 else 0) := Lib.hid (by
        unfold symC
        dsimp only
        have e : (decide (giver.size = 0) && decide (wants ≠ [])) = e2 := by
          rw [he2.out, hz.out, hnw.out]
          congr 1
          rw [decide_eq_decide]
          rw [List.length_pos_iff]
        rw [e])
      clear hQ hPk HU hPs HF HM
      go_upto_region 14 with fail
      go_cut [74] (fun _ wx => Hid (wx = wr.setCell ⟨w.heap.size + 2, 2, none⟩ (.bool e2)))
      case first =>
        rcases z with _ | _
        · have he : Hid (e2 = false) := Lib.hid (by rw [he2.out]; rfl)
          go_wp2_with fail
          go_meet
          exact Lib.hid (by rw [he.out])
        · by_cases hw0 : 0 < nw
          · have g1 : decide ((0 : Int) < (nw : Int)) = true := decide_eq_true (by omega)
            have g2 : decide (0 < nw) = true := decide_eq_true hw0
            have he : Hid (e2 = true) := Lib.hid (by rw [he2.out, g2]; rfl)
            go_wp2_with fail
            go_meet
            exact Lib.hid (by rw [he.out])
          · have g1 : decide ((0 : Int) < (nw : Int)) = false := decide_eq_false (by omega)
            have g2 : decide (0 < nw) = false := decide_eq_false hw0
            have he : Hid (e2 = false) := Lib.hid (by rw [he2.out, g2]; rfl)
            go_wp2_with fail
            go_meet
            exact Lib.hid (by rw [he.out])
      case rest =>
        rename World => w6
        have f6 : Fr [w.heap.size + 2] wr w6 := by rw [hcut.out]; exact (Fr.refl _ wr).setCell (Or.inl (by simp)) _
        have b26 : Box w6 (w.heap.size + 2) 90 #[.bool e0, .bool e1, .bool e2] := by
          have := hS.out.b2.put 2 (.bool e2)
          rw [hcut.out]
          simpa using this
        have b16 := hS.out.b1.kept f6 (by simp)
        have b06 := hS.out.b0.kept f6 (by simp)
        have sg6 := hS.out.sg.kept f6 (fun g hg e => by rw [List.mem_singleton] at e; subst e; exact hS.out.n2 hg)
        have on6 : Below w.heap.size w w6 := hS.out.on.trans (f6.below (by simp) hS.out.on.size)
        obtain ⟨w7, hw7⟩ : ∃ w7, Hid (w7 = w6.alloc (.cells #[.int .i64 8, .int .i64 12, .int .i64 7] 25)) := ⟨_, Lib.hid rfl⟩
        have f7 : Below w6.heap.size w6 w7 := by rw [hw7.out]; exact ((Fr.refl [] w6).alloc _).all
        have b37 : Box w7 w6.heap.size 25 #[.int .i64 8, .int .i64 12, .int .i64 7] := by rw [hw7.out]; exact Box.new w6 _ _
        have q := Fr.of_below f7 []
        have HB2 := Lib.hid (b26.kept q (by simp))
        have HB1 := Lib.hid (b16.kept q (by simp))
        have HB0 := Lib.hid (b06.kept q (by simp))
        have HSG := Lib.hid (sg6.kept q (by simp))
        have HON := Lib.hid (on6.trans (f7.mono on6.size))
        have HB3 := Lib.hid b37
        have h7lt : Hid (w.heap.size + 2 < w7.heap.size) := Lib.hid HB2.out.lt
        clear hcut f6 b26 b16 b06 sg6 on6 f7 b37 q hS s1 s2 s3 v3 l3 d2 d3 hz
        go_wp2_with fail
        rw [← hw7.out]
        clear hw7
        go_loopw [10, 11, 78] (fun _ _ i w8 => ∃ j : Nat, j ≤ 3 ∧ i = .int .i64 j ∧ (0 < j → e0 = false) ∧ (1 < j → e1 = false) ∧ (2 < j → e2 = false) ∧ w7 = w8) (fun _ _ i _ => 3 - (intOf i).toNat)
        case atStart => exact ⟨0, by omega, rfl, fun h => absurd h (by omega), fun h => absurd h (by omega), fun h => absurd h (by omega), rfl⟩
        case round =>
          obtain ⟨j, hj, rfl, hj0, hj1, hj2, rfl⟩ := hrel
          rcases (by omega : j = 0 ∨ j = 1 ∨ j = 2 ∨ j = 3) with rfl | rfl | rfl | rfl
          · have e3 : decide ((0 : Int) < (3 : Int)) = true := by decide
            have r3 : w7.cell? ⟨w6.heap.size, 0, none⟩ = some (.int .i64 8) := HB3.out.cell 0
            have r2 : w7.cell? ⟨w.heap.size + 2, 0, none⟩ = some (.bool e0) := HB2.out.cell 0
            rcases he : e0 with _ | _
            · rw [he] at r2
              go_wp2_with fail
              go_roundw
              case rel => exact ⟨1, by omega, by go_num, fun _ => by first | exact he | trivial, fun h => absurd h (by omega), fun h => absurd h (by omega), trivial⟩
              case measure => simp [intOf]
            · rw [he] at r2
              have z0 : w7.cell? ⟨w.heap.size, 0, none⟩ = some (.string ⟨#[]⟩) := HB0.out.cell 0
              have z1 : w7.cell? ⟨w.heap.size, 1, none⟩ = some (.string ⟨#[]⟩) := HB0.out.cell 1
              have z2 : w7.cell? ⟨w.heap.size, 2, none⟩ = some (.slice none 0 0) := HB0.out.cell 2
              have u0 := HB0.out.free 0
              have u1 := HB0.out.free 1
              have u2 := HB0.out.free 2
              obtain ⟨q1, q2⟩ := three_put HB0.out (.string ⟨#[]⟩) (.string ⟨#[]⟩) (.slice none 0 0)
              have HX := Lib.hid q1
              have hfin : Hid (Q (.returned (.tuple #[.agg #[.string ⟨#[]⟩, .string ⟨#[]⟩, .slice none 0 0], .int .i64 8])) (((w7.setCell ⟨w.heap.size, 0, none⟩ (.string ⟨#[]⟩)).setCell ⟨w.heap.size, 1, none⟩ (.string ⟨#[]⟩)).setCell ⟨w.heap.size, 2, none⟩ (.slice none 0 0))) := Lib.hid (by
                rw [hQ2.out]
                refine symQ_bad (HON.out.trans (q2.below (by simp) HON.out.size)) ?_ (by decide)
                rw [hC.out]
                simp [he])
              clear q1 q2 HB3 HSG HB1 HB2 hC
              go_wp2_with fail
              (try simp only [Exit.inBlock, Exit.then])
              refine bodyPost_ret (results_cell_tmp rfl _ _ _ _ _ _ _ _ rfl rfl HX.out cSy rfl (by kernel_rfl)) rfl ?_
              exact hfin.out
          · have e3 : decide ((1 : Int) < (3 : Int)) = true := by decide
            have r3 : w7.cell? ⟨w6.heap.size, 1, none⟩ = some (.int .i64 12) := HB3.out.cell 1
            have r2 : w7.cell? ⟨w.heap.size + 2, 1, none⟩ = some (.bool e1) := HB2.out.cell 1
            rcases he : e1 with _ | _
            · rw [he] at r2
              go_wp2_with fail
              go_roundw
              case rel => exact ⟨2, by omega, by go_num, fun _ => hj0 (by omega), fun _ => by first | exact he | trivial, fun h => absurd h (by omega), trivial⟩
              case measure => simp [intOf]
            · rw [he] at r2
              have z0 : w7.cell? ⟨w.heap.size, 0, none⟩ = some (.string ⟨#[]⟩) := HB0.out.cell 0
              have z1 : w7.cell? ⟨w.heap.size, 1, none⟩ = some (.string ⟨#[]⟩) := HB0.out.cell 1
              have z2 : w7.cell? ⟨w.heap.size, 2, none⟩ = some (.slice none 0 0) := HB0.out.cell 2
              have u0 := HB0.out.free 0
              have u1 := HB0.out.free 1
              have u2 := HB0.out.free 2
              obtain ⟨q1, q2⟩ := three_put HB0.out (.string ⟨#[]⟩) (.string ⟨#[]⟩) (.slice none 0 0)
              have HX := Lib.hid q1
              have hfin : Hid (Q (.returned (.tuple #[.agg #[.string ⟨#[]⟩, .string ⟨#[]⟩, .slice none 0 0], .int .i64 12])) (((w7.setCell ⟨w.heap.size, 0, none⟩ (.string ⟨#[]⟩)).setCell ⟨w.heap.size, 1, none⟩ (.string ⟨#[]⟩)).setCell ⟨w.heap.size, 2, none⟩ (.slice none 0 0))) := Lib.hid (by
                rw [hQ2.out]
                refine symQ_bad (HON.out.trans (q2.below (by simp) HON.out.size)) ?_ (by decide)
                rw [hC.out]
                simp [he, hj0 (by omega)])
              clear q1 q2 HB3 HSG HB1 HB2 hC
              go_wp2_with fail
              (try simp only [Exit.inBlock, Exit.then])
              refine bodyPost_ret (results_cell_tmp rfl _ _ _ _ _ _ _ _ rfl rfl HX.out cSy rfl (by kernel_rfl)) rfl ?_
              exact hfin.out
          · have e3 : decide ((2 : Int) < (3 : Int)) = true := by decide
            have r3 : w7.cell? ⟨w6.heap.size, 2, none⟩ = some (.int .i64 7) := HB3.out.cell 2
            have r2 : w7.cell? ⟨w.heap.size + 2, 2, none⟩ = some (.bool e2) := HB2.out.cell 2
            rcases he : e2 with _ | _
            · rw [he] at r2
              go_wp2_with fail
              go_roundw
              case rel => exact ⟨3, by omega, by go_num, fun _ => hj0 (by omega), fun _ => hj1 (by omega), fun _ => by first | exact he | trivial, trivial⟩
              case measure => simp [intOf]
            · rw [he] at r2
              have z0 : w7.cell? ⟨w.heap.size, 0, none⟩ = some (.string ⟨#[]⟩) := HB0.out.cell 0
              have z1 : w7.cell? ⟨w.heap.size, 1, none⟩ = some (.string ⟨#[]⟩) := HB0.out.cell 1
              have z2 : w7.cell? ⟨w.heap.size, 2, none⟩ = some (.slice none 0 0) := HB0.out.cell 2
              have u0 := HB0.out.free 0
              have u1 := HB0.out.free 1
              have u2 := HB0.out.free 2
              obtain ⟨q1, q2⟩ := three_put HB0.out (.string ⟨#[]⟩) (.string ⟨#[]⟩) (.slice none 0 0)
              have HX := Lib.hid q1
              have hfin : Hid (Q (.returned (.tuple #[.agg #[.string ⟨#[]⟩, .string ⟨#[]⟩, .slice none 0 0], .int .i64 7])) (((w7.setCell ⟨w.heap.size, 0, none⟩ (.string ⟨#[]⟩)).setCell ⟨w.heap.size, 1, none⟩ (.string ⟨#[]⟩)).setCell ⟨w.heap.size, 2, none⟩ (.slice none 0 0))) := Lib.hid (by
                rw [hQ2.out]
                refine symQ_bad (HON.out.trans (q2.below (by simp) HON.out.size)) ?_ (by decide)
                rw [hC.out]
                simp [he, hj0 (by omega), hj1 (by omega)])
              clear q1 q2 HB3 HSG HB1 HB2 hC
              go_wp2_with fail
              (try simp only [Exit.inBlock, Exit.then])
              refine bodyPost_ret (results_cell_tmp rfl _ _ _ _ _ _ _ _ rfl rfl HX.out cSy rfl (by kernel_rfl)) rfl ?_
              exact hfin.out
          · have e3 : decide ((3 : Int) < (3 : Int)) = false := by decide
            obtain rfl : e0 = false := hj0 (by omega)
            obtain rfl : e1 = false := hj1 (by omega)
            obtain rfl : e2 = false := hj2 (by omega)
            have r2 : w7.cell? ⟨w.heap.size + 1, 2, none⟩ = some (.slice B nw cap) := by rw [hnw.out]; exact HB1.out.cell 2
            have KS : Hid (Calls Tryz.prog 45 #[.slice B nw cap] w7 (inn.SPostF w7 (wants.map tx))) := Lib.hid (by
              have q := inn.sorted_fresh w7 B cap (wants.map tx) (by rw [map_tx]; exact HSG.out.rd) (by rw [List.length_map, ← hnw.out]; omega)
              rwa [List.length_map, ← hnw.out] at q)
            unfold inn.SPostF at KS
            clear HB3 HB2 hj0 hj1 hj2
            go_wp2_with fail
            refine KS.out.mono ?_
            rintro e w8 ⟨SA, sc, rfl, b8, hr8, hf8⟩
            have q := Fr.of_below b8 []
            have c1 := HB1.out.kept q (by simp)
            have c0 := HB0.out.kept q (by simp)
            have y2 : w8.cell? ⟨w.heap.size + 1, 2, none⟩ = some (.slice B wants.length cap) := c1.cell 2
            have x2 := c1.free 2
            have m2 := c1.lt
            have f9 : Fr [w.heap.size + 1] w8 (w8.setCell ⟨w.heap.size + 1, 2, none⟩ (.slice SA (rsS (wants.map tx)).length sc)) := (Fr.refl _ w8).setCell (Or.inl (by simp)) _
            have c19 : Box (w8.setCell ⟨w.heap.size + 1, 2, none⟩ (.slice SA (rsS (wants.map tx)).length sc)) (w.heap.size + 1) 33 #[.string nm, .string giver, .slice SA (rsS (wants.map tx)).length sc] := by
              have := c1.put 2 (.slice SA (rsS (wants.map tx)).length sc)
              simpa using this
            have c09 := c0.kept f9 (by simp)
            have on8 : Below w.heap.size w w8 := HON.out.trans (b8.mono HON.out.size)
            have on9 := on8.trans (f9.below (by simp) on8.size)
            have hgs : Hid (∀ g ∈ blk SA, w.heap.size + 2 < g ∧ g < (w8.setCell ⟨w.heap.size + 1, 2, none⟩ (.slice SA (rsS (wants.map tx)).length sc)).heap.size) := Lib.hid (fun g hg => by
              have h1 := hf8 g hg
              have h2 := HB1.out.lt
              have h3 := h7lt.out
              have h4 := f9.size
              omega)
            have hr9 := hr8.kept f9 (fun g hg e => by have := hgs.out g hg; rw [List.mem_singleton] at e; omega)
            have H19 := Lib.hid c19
            have H09 := Lib.hid c09
            have HO9 := Lib.hid on9
            have HR9 := Lib.hid hr9
            clear c19 c09 on9 hr9 c1 c0 on8 b8 hr8 hf8 q f9 KS HSG HB1 HB0 HON r2
            go_upto_region 22 with fail
            generalize w8.setCell ⟨w.heap.size + 1, 2, none⟩ (.slice SA (rsS (wants.map tx)).length sc) = w9 at *
            clear y2 x2 m2
            have a0 : w9.cell? ⟨w.heap.size + 1, 0, none⟩ = some (.string nm) := H19.out.cell 0
            have a1 : w9.cell? ⟨w.heap.size + 1, 1, none⟩ = some (.string giver) := H19.out.cell 1
            have a2 : w9.cell? ⟨w.heap.size + 1, 2, none⟩ = some (.slice SA (rsS (wants.map tx)).length sc) := H19.out.cell 2
            have z0 : w9.cell? ⟨w.heap.size, 0, none⟩ = some (.string ⟨#[]⟩) := H09.out.cell 0
            have z1 : w9.cell? ⟨w.heap.size, 1, none⟩ = some (.string ⟨#[]⟩) := H09.out.cell 1
            have z2 : w9.cell? ⟨w.heap.size, 2, none⟩ = some (.slice none 0 0) := H09.out.cell 2
            have u0 := H09.out.free 0
            have u1 := H09.out.free 1
            have u2 := H09.out.free 2
            obtain ⟨q1, q2⟩ := three_put H09.out (.string nm) (.string giver) (.slice SA (rsS (wants.map tx)).length sc)
            have HX := Lib.hid q1
            have hfin : Hid (Q (.returned (.tuple #[.agg #[.string nm, .string giver, .slice SA (rsS (wants.map tx)).length sc], .int .i64 0])) (((w9.setCell ⟨w.heap.size, 0, none⟩ (.string nm)).setCell ⟨w.heap.size, 1, none⟩ (.string giver)).setCell ⟨w.heap.size, 2, none⟩ (.slice SA (rsS (wants.map tx)).length sc))) := Lib.hid (by
              rw [hQ2.out]
              refine ⟨HO9.out.trans (q2.below (by simp) HO9.out.size), Or.inl ⟨by rw [hC.out]; rfl, SA, sc, rfl, HR9.out.kept q2 (fun g hg e => by have := hgs.out g hg; rw [List.mem_singleton] at e; omega), fun g hg => by have := hgs.out g hg; have := q2.size; omega⟩⟩)
            clear q1 q2 hC HO9 HR9 hgs H19
            go_wp2_with fail
            (try simp only [Exit.inBlock, Exit.then])
            refine bodyPost_ret (results_cell_tmp rfl _ _ _ _ _ _ _ _ rfl rfl HX.out cSy rfl (by kernel_rfl)) rfl ?_
            exact hfin.out
end Go.Proofs.YtlkboeajkgbnaaaGreatDoor.ym
namespace Go.Proofs.YtlkboeajkgbnaaaGreatDoor.ym
open Go.RowKit Go.Sort Go.Shelf Go.Proofs.YtlkboeajkgbnaaaGreatDoor.mem Go.Proofs.YtlkboeajkgbnaaaGreatDoor.sy Go.Proofs.YtlkboeajkgbnaaaGreatDoor.rng
open Go.Proofs.YtlkboeajkgbnaaaGreatDoor.re (tx SU MU SumM)
open Go.Proofs.YtlkboeajkgbnaaaGreatDoor.sf (map_tx enc_tx SumK putL esC fst0 scheck_any wf_tx)
open Go.Proofs.YtlkboeajkgbnaaaGreatDoor.inn (rsS mem_rsS)
open Go.Proofs.YtlkboeajkgbnaaaGreatDoor.ins (noOf WF)
open Go.Proofs.YtlkboeajkgbnaaaGreatDoor.nm (Tab tab_below)
attribute [local go_sem] Oper.semAt_some
theorem run_loadVar_one {P : Program} (w : World) (g : Nat) (ty : TypeId) (v : Value) (hA : ∀ w, (isAgg ty).run P w = .ok false w) (hc : w.cell? ⟨g, 0, none⟩ = some v) : (loadVar ty ⟨g, 0, none⟩).run P w = .ok v w := by
  simp [loadVar, Sem.run_bind, hA, hc]
theorem results_cells3 {P : Program} {fn : Func} {p q r : Tmp} {tp tq tr : TypeId} (h : fn.results = #[.cell p tp, .cell q tq, .cell r tr]) (tmps : Array Value) (w : World) (gp gq gr : Nat) (vp vq vr : Value)
    (hp : tmps.getD p undef = .pointer (some ⟨gp, 0, none⟩)) (hq : tmps.getD q undef = .pointer (some ⟨gq, 0, none⟩)) (hr : tmps.getD r undef = .pointer (some ⟨gr, 0, none⟩))
    (ap : ∀ w, (isAgg tp).run P w = .ok false w) (aq : ∀ w, (isAgg tq).run P w = .ok false w) (ar : ∀ w, (isAgg tr).run P w = .ok false w)
    (cp : w.cell? ⟨gp, 0, none⟩ = some vp) (cq : w.cell? ⟨gq, 0, none⟩ = some vq) (cr : w.cell? ⟨gr, 0, none⟩ = some vr) :
    (results fn tmps).run P w = .ok (.tuple #[vp, vq, vr]) w := by
  have hp' : tmps[p]?.getD undef = .pointer (some ⟨gp, 0, none⟩) := by simpa using hp
  have hq' : tmps[q]?.getD undef = .pointer (some ⟨gq, 0, none⟩) := by simpa using hq
  have hr' : tmps[r]?.getD undef = .pointer (some ⟨gr, 0, none⟩) := by simpa using hr
  simp [results, h, hp', hq', hr', asAddr, run_loadVar_one w gp tp vp ap cp, run_loadVar_one w gq tq vq aq cq, run_loadVar_one w gr tr vr ar cr]
theorem agg24 : ∀ w, (isAgg 24).run Tryz.prog w = .ok false w := fun w => by kernel_rfl
theorem agg9 : ∀ w, (isAgg 9).run Tryz.prog w = .ok false w := fun w => by kernel_rfl
theorem agg25 : ∀ w, (isAgg 25).run Tryz.prog w = .ok false w := fun w => by kernel_rfl
structure R3 (w : World) (v : Value) (s : ByteArray) (e : Int) (W : World) : Prop where
  b0 : Box W w.heap.size 24 #[v]
  b1 : Box W (w.heap.size + 1) 9 #[.string s]
  b2 : Box W (w.heap.size + 2) 25 #[.int .i64 e]
theorem R3.same {w W W' : World} {v : Value} {s : ByteArray} {e : Int} (h : R3 w v s e W) (hs : ∀ q ∈ [w.heap.size, w.heap.size + 1, w.heap.size + 2], W'.heap[q]? = W.heap[q]?) : R3 w v s e W' :=
  ⟨box_same h.b0 (hs _ (by simp)), box_same h.b1 (hs _ (by simp)), box_same h.b2 (hs _ (by simp))⟩
theorem R3.kept {F : List Nat} {w W W' : World} {v : Value} {s : ByteArray} {e : Int} (h : R3 w v s e W) (hf : Fr F W W') (h0 : w.heap.size ∉ F) (h1 : w.heap.size + 1 ∉ F) (h2 : w.heap.size + 2 ∉ F) : R3 w v s e W' := ⟨h.b0.kept hf h0, h.b1.kept hf h1, h.b2.kept hf h2⟩
theorem R3.set {w W : World} {v : Value} {s : ByteArray} {e : Int} (h : R3 w v s e W) (v2 : Value) (s2 : ByteArray) (e2 : Int) :
    R3 w v2 s2 e2 (((W.setCell ⟨w.heap.size, 0, none⟩ v2).setCell ⟨w.heap.size + 1, 0, none⟩ (.string s2)).setCell ⟨w.heap.size + 2, 0, none⟩ (.int .i64 e2)) ∧
    Fr [w.heap.size, w.heap.size + 1, w.heap.size + 2] W (((W.setCell ⟨w.heap.size, 0, none⟩ v2).setCell ⟨w.heap.size + 1, 0, none⟩ (.string s2)).setCell ⟨w.heap.size + 2, 0, none⟩ (.int .i64 e2)) := by
  have f1 : Fr [w.heap.size] W (W.setCell ⟨w.heap.size, 0, none⟩ v2) := (Fr.refl _ W).setCell (Or.inl (by simp)) _
  have f2 : Fr [w.heap.size + 1] (W.setCell ⟨w.heap.size, 0, none⟩ v2) ((W.setCell ⟨w.heap.size, 0, none⟩ v2).setCell ⟨w.heap.size + 1, 0, none⟩ (.string s2)) := (Fr.refl _ _).setCell (Or.inl (by simp)) _
  have f3 : Fr [w.heap.size + 2] ((W.setCell ⟨w.heap.size, 0, none⟩ v2).setCell ⟨w.heap.size + 1, 0, none⟩ (.string s2)) (((W.setCell ⟨w.heap.size, 0, none⟩ v2).setCell ⟨w.heap.size + 1, 0, none⟩ (.string s2)).setCell ⟨w.heap.size + 2, 0, none⟩ (.int .i64 e2)) := (Fr.refl _ _).setCell (Or.inl (by simp)) _
  have c0 : Box (W.setCell ⟨w.heap.size, 0, none⟩ v2) w.heap.size 24 #[v2] := by have := h.b0.put 0 v2; simpa using this
  have c1 : Box ((W.setCell ⟨w.heap.size, 0, none⟩ v2).setCell ⟨w.heap.size + 1, 0, none⟩ (.string s2)) (w.heap.size + 1) 9 #[.string s2] := by have := (h.b1.kept f1 (by simp)).put 0 (.string s2); simpa using this
  have c2 : Box (((W.setCell ⟨w.heap.size, 0, none⟩ v2).setCell ⟨w.heap.size + 1, 0, none⟩ (.string s2)).setCell ⟨w.heap.size + 2, 0, none⟩ (.int .i64 e2)) (w.heap.size + 2) 25 #[.int .i64 e2] := by have := ((h.b2.kept f1 (by simp)).kept f2 (by simp)).put 0 (.int .i64 e2); simpa using this
  exact ⟨⟨(c0.kept f2 (by simp)).kept f3 (by simp), c1.kept f3 (by simp), c2⟩, (f1.trans f2 (G := [w.heap.size, w.heap.size + 1, w.heap.size + 2]) (by simp) (by simp)).trans f3 (fun g hg => Or.inl hg) (by simp)⟩
theorem r3_new (w : World) : R3 w (.slice none 0 0) ⟨#[]⟩ 0 (((w.alloc (.cells #[.slice none 0 0] 24)).alloc (.cells #[.string ⟨#[]⟩] 9)).alloc (.cells #[.int .i64 0] 25)) := by
  have z1 : (w.alloc (.cells #[.slice none 0 0] 24)).heap.size = w.heap.size + 1 := Array.size_push _
  have z2 : ((w.alloc (.cells #[.slice none 0 0] 24)).alloc (.cells #[.string ⟨#[]⟩] 9)).heap.size = w.heap.size + 2 := by rw [World.size_alloc, z1]
  have b0 := Box.new w 24 #[.slice none 0 0]
  have b1 := Box.new (w.alloc (.cells #[.slice none 0 0] 24)) 9 #[.string ⟨#[]⟩]
  have b2 := Box.new ((w.alloc (.cells #[.slice none 0 0] 24)).alloc (.cells #[.string ⟨#[]⟩] 9)) 25 #[.int .i64 0]
  rw [z1] at b1
  rw [z2] at b2
  exact ⟨(b0.kept ((Fr.refl [] _).alloc (.cells #[.string ⟨#[]⟩] 9)) (by simp)).kept ((Fr.refl [] _).alloc (.cells #[.int .i64 0] 25)) (by simp), b1.kept ((Fr.refl [] _).alloc (.cells #[.int .i64 0] 25)) (by simp), b2⟩
set_option maxRecDepth 100000 in
theorem resolve_full (w : World) (A : Option Addr) (c : Nat) (l : List MU) (h8 : 8 < l.length) (hl : l.length ≤ maxLen) :
    Calls Tryz.prog 6 #[.slice A l.length c] w (ResP 33 w (resP (l.map MU.su))) := by
  rw [res_full (by rw [List.length_map]; exact h8)]
  obtain ⟨n, hN⟩ : ∃ n, Hid (n = l.length) := ⟨_, Lib.hid rfl⟩
  rw [← hN.out] at h8 hl ⊢
  unfold maxLen at hl
  have d1 : decide ((8 : Int) < (n : Int)) = true := decide_eq_true (by omega)
  obtain ⟨W, hWe⟩ : ∃ W, Hid (W = ((w.alloc (.cells #[.slice none 0 0] 24)).alloc (.cells #[.string ⟨#[]⟩] 9)).alloc (.cells #[.int .i64 0] 25)) := ⟨_, Lib.hid rfl⟩
  have hz1 : (w.alloc (.cells #[.slice none 0 0] 24)).heap.size = w.heap.size + 1 := Array.size_push _
  have hz2 : ((w.alloc (.cells #[.slice none 0 0] 24)).alloc (.cells #[.string ⟨#[]⟩] 9)).heap.size = w.heap.size + 2 := by rw [World.size_alloc, hz1]
  have R0 := r3_new w
  rw [← hWe.out] at R0
  have b0 : Below w.heap.size w W := by rw [hWe.out]; exact ((((Fr.refl [] w).alloc _).alloc _).alloc _).all
  have z0 : W.cell? ⟨w.heap.size, 0, none⟩ = some (.slice none 0 0) := R0.b0.cell 0
  have z1 : W.cell? ⟨w.heap.size + 1, 0, none⟩ = some (.string ⟨#[]⟩) := R0.b1.cell 0
  have z2 : W.cell? ⟨w.heap.size + 2, 0, none⟩ = some (.int .i64 0) := R0.b2.cell 0
  have v0 := R0.b0.free 0
  have v1 := R0.b1.free 0
  have v2 := R0.b2.free 0
  obtain ⟨q1, q2⟩ := R0.set (.slice none 0 0) ⟨#[]⟩ 4
  have HX := Lib.hid q1
  have HY := Lib.hid (resP_nil (te := 33) (R := (([] : List Sym), ([] : List UInt8), (4 : Int))) rfl (b0.trans (q2.below (by simp) b0.size)))
  clear q1 q2 R0 b0
  go_enter Tryz.func6, Tryz.ntmps6
  go_upto_region 1 with fail
  rw [← hWe.out]
  try rw [hz2]
  try rw [hz1]
  try simp only [show w.heap.size + 1 + 1 = w.heap.size + 2 from rfl]
  clear hWe hz1 hz2
  go_wp2_with fail
  (try simp only [Exit.inBlock, Exit.then])
  refine bodyPost_ret (results_cells3 rfl _ _ _ _ _ _ _ _ rfl rfl rfl agg24 agg9 agg25 (HX.out.b0.cell 0) (HX.out.b1.cell 0) (HX.out.b2.cell 0)) rfl ?_
  exact HY.out
end Go.Proofs.YtlkboeajkgbnaaaGreatDoor.ym
namespace Go.Proofs.YtlkboeajkgbnaaaGreatDoor.ym
open Go.RowKit Go.Proofs.YtlkboeajkgbnaaaGreatDoor.sy
open Go.Proofs.YtlkboeajkgbnaaaGreatDoor.re (tx SU)
open Go.Proofs.YtlkboeajkgbnaaaGreatDoor.sf (namesL fst0 esC)
open Go.Proofs.YtlkboeajkgbnaaaGreatDoor.inn (rsS)
def toldP (S : List Sym) (n : List UInt8) (m : List UInt8) (g : Bool) : Bool :=
  match S.find? (fun s => decide (s.name = n)) with
  | none => false
  | some s => (g && decide (tx s.giver = m)) || (!g && decide (m ∈ s.wanted))
theorem chk_ne : ∀ (l : List SU) (seen : List (List UInt8)) (n : List UInt8) (e : Int), chkFrom seen l = some (n, e) → e ≠ 0 := by
  intro l
  induction l with
  | nil => intro seen n e h; simp [chkFrom] at h
  | cons u t ih =>
    intro seen n e h
    unfold chkFrom at h
    by_cases h0 : fst0 (esC u) = 0
    · rw [if_pos h0] at h
      split at h
      · injection h with h; injection h with _ h; omega
      · exact ih _ _ _ h
    · rw [if_neg h0] at h
      injection h with h; injection h with _ h
      rw [← h]; exact h0
theorem res_ok {l : List SU} (he : (resP l).2.2 = 0) : chkFrom [] l = none ∧ (∀ n ∈ rsS ((usesL l).map (·.1)), symE 12 (usesN (usesL l) n) = 0) ∧ (resP l).1 = ((rsS ((usesL l).map (·.1))).filter (fun n => decide (0 < gCount (usesN (usesL l) n)))).map (fun n => symOf n (usesN (usesL l) n)) := by
  unfold resP at *
  by_cases h8 : 8 < l.length
  · rw [if_pos h8] at he; exact absurd he (by decide)
  rw [if_neg h8] at *
  rcases hc : chkFrom [] l with _ | ⟨n, e⟩
  · rw [hc] at he
    dsimp only at he
    have hz := res_zero _ _ _ he
    refine ⟨rfl, hz, ?_⟩
    dsimp only
    rw [res_list _ _ _ hz]
    simp
  · rw [hc] at he
    exact absurd he (chk_ne _ _ _ _ hc)
theorem told_find {l : List SU} (he : (resP l).2.2 = 0) {n : List UInt8} (hm : n ∈ rsS ((usesL l).map (·.1))) (hg : 0 < gCount (usesN (usesL l) n)) : (resP l).1.find? (fun s => decide (s.name = n)) = some (symOf n (usesN (usesL l) n)) := by
  obtain ⟨_, _, e⟩ := res_ok he
  have hin : symOf n (usesN (usesL l) n) ∈ (resP l).1 := by
    rw [e]
    exact List.mem_map.2 ⟨n, List.mem_filter.2 ⟨hm, decide_eq_true hg⟩, rfl⟩
  rcases hf : (resP l).1.find? (fun s => decide (s.name = n)) with _ | s
  · have := List.find?_eq_none.1 hf _ hin
    exact absurd (decide_eq_true rfl) this
  · have h1 : s.name = n := by
      have := List.find?_some hf
      exact of_decide_eq_true this
    have h2 := List.mem_of_find?_eq_some hf
    rw [e] at h2
    obtain ⟨n2, _, h4⟩ := List.mem_map.1 h2
    subst h4
    have h5 : n2 = n := h1
    rw [hf, h5]
theorem told_ok {l : List SU} (he : (resP l).2.2 = 0) {u : SU} (hu : u ∈ l) : (∀ s ∈ u.gives, toldP (resP l).1 (tx s) (tx u.name) true = true) ∧ (∀ s ∈ u.wants, toldP (resP l).1 (tx s) (tx u.name) false = true) := by
  obtain ⟨hc, hz, _⟩ := res_ok he
  constructor
  · intro s hs
    obtain ⟨h1, h2, h3⟩ := told_gives hc hz hu hs
    unfold toldP
    rw [told_find he h1 h2]
    simp [symOf, h3]
  · intro s hs
    obtain ⟨h1, h2, h3⟩ := told_wants hc hz hu hs
    unfold toldP
    rw [told_find he h1 h2]
    simp only [symOf, Bool.false_and, Bool.not_false, Bool.true_and, Bool.false_or]
    exact decide_eq_true h3
theorem given_ok {l : List SU} (he : (resP l).2.2 = 0) : (l.map (fun u => u.gives.length)).sum = (resP l).1.length := by
  obtain ⟨hc, hz, e⟩ := res_ok he
  rw [gives_count l hc hz, e, List.length_map]
theorem res_bad {l : List SU} (h : chkFrom [] l ≠ none ∨ 8 < l.length) : (resP l).1 = [] ∧ (resP l).2.2 ≠ 0 := by
  unfold resP
  by_cases h8 : 8 < l.length
  · rw [if_pos h8]; exact ⟨rfl, by decide⟩
  · rw [if_neg h8]
    rcases hc : chkFrom [] l with _ | ⟨n, e⟩
    · rcases h with h | h
      · exact absurd hc h
      · exact absurd h h8
    · exact ⟨rfl, chk_ne _ _ _ _ hc⟩
theorem rev_all (l : List SU) : ((resP l).2.2 = 0 ↔ (resP l.reverse).2.2 = 0) ∧ (resP l).1.length = (resP l.reverse).1.length ∧ ((resP l).2.2 = 0 → resP l.reverse = resP l) := by
  by_cases hc : chkFrom [] l = none
  · rw [res_rev l hc]; exact ⟨Iff.rfl, rfl, fun _ => rfl⟩
  · have h1 := res_bad (Or.inl hc)
    have h2 := res_bad (l := l.reverse) (Or.inl (fun h => hc ((chk_rev l).1 h)))
    exact ⟨⟨fun h => absurd h h1.2, fun h => absurd h h2.2⟩, by rw [h1.1, h2.1], fun h => absurd h h1.2⟩
theorem sum_le_of {α : Type} (f : α → Nat) (b : Nat) : ∀ (l : List α), (∀ x ∈ l, f x ≤ b) → (l.map f).sum ≤ l.length * b
  | [], _ => by simp
  | a :: t, h => by
    have h1 := sum_le_of f b t (fun x hx => h x (List.mem_cons_of_mem _ hx))
    have h2 := h a List.mem_cons_self
    rw [List.map_cons, List.sum_cons, List.length_cons, Nat.succ_mul]
    omega
theorem uses_len (l : List SU) (b : Nat) (h : ∀ u ∈ l, u.sys.objs.length + u.sys.fns.length ≤ b) : (usesL l).length ≤ l.length * b := by
  unfold usesL
  rw [List.length_flatMap]
  refine sum_le_of _ b l (fun u hu => ?_)
  unfold usesOf
  rw [List.length_append, List.length_map, List.length_map]
  exact h u hu
theorem wanted_len {l : List SU} (he : (resP l).2.2 = 0) : ∀ s ∈ (resP l).1, s.wanted.length ≤ (usesL l).length := by
  obtain ⟨_, _, e⟩ := res_ok he
  intro s hs
  rw [e] at hs
  obtain ⟨n, _, rfl⟩ := List.mem_map.1 hs
  have h1 := inn.rs_len ((wantL (usesN (usesL l) n)).map tx)
  have h2 : (wantL (usesN (usesL l) n)).length ≤ (usesN (usesL l) n).length := by
    unfold wantL; rw [List.length_map]; exact List.length_filter_le _ _
  have h3 : (usesN (usesL l) n).length ≤ (usesL l).length := by
    unfold usesN; rw [List.length_map]; exact List.length_filter_le _ _
  rw [List.length_map] at h1
  exact Nat.le_trans h1 (Nat.le_trans h2 h3)
end Go.Proofs.YtlkboeajkgbnaaaGreatDoor.ym
