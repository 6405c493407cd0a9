import Derived.Test.YtlkboeajkgbnaaaGreatDoorB35
set_option linter.all false
set_option maxHeartbeats 4000000
namespace Go.Proofs.YtlkboeajkgbnaaaGreatDoor.ym
open Go.RowKit Go.Sort Go.Shelf Go.Proofs.YtlkboeajkgbnaaaGreatDoor.mem Go.Proofs.YtlkboeajkgbnaaaGreatDoor.sy Go.Proofs.YtlkboeajkgbnaaaGreatDoor.rng
open Go.Proofs.YtlkboeajkgbnaaaGreatDoor.nm (Tab tab_below)
attribute [local go_sem] Oper.semAt_some
def WKP (w : World) (e : Ending) (w' : World) : Prop := e = .returned (.bool true) ∧ Below w.heap.size w w'
theorem cell_keep {F : List Nat} {w w' : World} {g i : Nat} {v : Value} (h : w.cell? ⟨g, i, none⟩ = some v) (f : Fr F w w') (hl : g < w.heap.size) (hn : g ∉ F) : w'.cell? ⟨g, i, none⟩ = some v :=
  (World.cell?_of_block (w := w) (a := ⟨g, i, none⟩) (f.block g hl hn)).trans h
set_option maxRecDepth 100000 in
set_option maxHeartbeats 8000000 in
theorem worksY_any (hf : HeldF) (hm : HeldM) (w : World) (htab : Tab w) : Calls Tryz.prog 9 #[] w (WKP w) := by
  have HF := Lib.hid hf
  have HM := Lib.hid hm
  have HT : Hid (∀ w2, Below w.heap.size w w2 → Tab w2) := Lib.hid (fun w2 b => tab_below htab b)
  have X0 := Lib.hid (Box.new w 9 #[.string ⟨#[102, 40, 41]⟩])
  have B0 := Lib.hid (((Fr.refl [] w).alloc (.cells #[.string ⟨#[102, 40, 41]⟩] 9)).all)
  clear htab hf hm
  unfold WKP
  go_enter Tryz.func9, Tryz.ntmps9
  go_wp2_with fail
  generalize hw1 : w.alloc (.cells #[.string ⟨#[102, 40, 41]⟩] 9) = w1 at *
  clear hw1
  refine (sys_any w1 ⟨#[102, 40, 41]⟩).mono ?_
  rintro e w2 ⟨g1, rfl, hb1, b2⟩
  have Y2 : Hid (W2 w2 w.heap.size g1) := Lib.hid ⟨X0.out.kept (Fr.of_below b2 []) (by simp), hb1⟩
  have B2 := Lib.hid (B0.out.trans (b2.mono B0.out.size))
  clear hb1 b2 X0 B0
  have X3 := Lib.hid (Box.new w2 9 #[.string ⟨#[102, 40, 41]⟩])
  have B3 := Lib.hid (((Fr.refl [] w2).alloc (.cells #[.string ⟨#[102, 40, 41]⟩] 9)).all)
  go_wp2_with fail
  generalize hw3 : w2.alloc (.cells #[.string ⟨#[102, 40, 41]⟩] 9) = w3 at *
  clear hw3
  refine (sys_any w3 ⟨#[102, 40, 41]⟩).mono ?_
  rintro e w4 ⟨g2, rfl, hb1, b4⟩
  have B34 := Lib.hid (B3.out.trans (b4.mono B3.out.size))
  have Y4 : Hid (W2 w4 w2.heap.size g2) := Lib.hid ⟨X3.out.kept (Fr.of_below b4 []) (by simp), hb1⟩
  have Z4 := Lib.hid (Y2.out.on B34.out)
  have B4 := Lib.hid (B2.out.trans (B34.out.mono B2.out.size))
  clear hb1 b4 X3 B3 B34 Y2 B2
  obtain ⟨w5, hw5⟩ : ∃ w5, Hid (w5 = w4.alloc (.cells #[.string ⟨#[110]⟩, .slice none 0 0, .slice (some ⟨w.heap.size, 0, none⟩) 1 1, .slice none 0 0, .slice none 0 0, .slice (some ⟨g1, 0, none⟩) 1 1, .slice none 0 0, .string ⟨#[109]⟩, .slice (some ⟨w2.heap.size, 0, none⟩) 1 1, .slice none 0 0, .slice none 0 0, .slice none 0 0, .slice (some ⟨g2, 0, none⟩) 1 1, .slice none 0 0] 43)) := ⟨_, Lib.hid rfl⟩
  have b45 : Below w4.heap.size w4 w5 := by rw [hw5.out]; exact ((Fr.refl [] w4).alloc _).all
  have K2 : Hid (Calls Tryz.prog 6 #[.slice (some ⟨w4.heap.size, 0, none⟩) 2 2] w5 (WP2 w5)) := Lib.hid (w_call2 HF.out HM.out (Z4.out.on b45) (Y4.out.on b45) (HT.out _ (B4.out.trans (b45.mono B4.out.size))) (by rw [hw5.out]; exact Box.new w4 _ _))
  have B5 := Lib.hid (B4.out.trans (b45.mono B4.out.size))
  clear b45 Z4 Y4 B4
  unfold WP2 at K2
  go_wp2_with fail
  rw [← hw5.out]
  clear hw5
  refine K2.out.mono ?_
  rintro e w6 ⟨g, off, cap, B, c2, rfl, ⟨c0, c1, c3⟩, hg, hrd, b6⟩
  have C6 := Lib.hid c0
  have C7 := Lib.hid c1
  have C8 := Lib.hid c3
  have R6 := Lib.hid hrd
  have G6 := Lib.hid hg
  have B6 := Lib.hid (B5.out.trans (b6.mono B5.out.size))
  clear c0 c1 c3 hrd b6 K2 B5 hg
  have X7 := Lib.hid (Box.new w6 9 #[.string ⟨#[102, 40, 41]⟩])
  have B7 := Lib.hid (((Fr.refl [] w6).alloc (.cells #[.string ⟨#[102, 40, 41]⟩] 9)).all)
  go_wp2_with fail
  generalize hw7 : w6.alloc (.cells #[.string ⟨#[102, 40, 41]⟩] 9) = w7 at *
  clear hw7
  refine (sys_any w7 ⟨#[102, 40, 41]⟩).mono ?_
  rintro e w8 ⟨g3, rfl, hb1, b8⟩
  have B68 := Lib.hid (B7.out.trans (b8.mono B7.out.size))
  have Y8 : Hid (W2 w8 w6.heap.size g3) := Lib.hid ⟨X7.out.kept (Fr.of_below b8 []) (by simp), hb1⟩
  clear hb1 b8 X7 B7
  obtain ⟨w9, hw9⟩ : ∃ w9, Hid (w9 = w8.alloc (.cells #[.string ⟨#[110]⟩, .slice none 0 0, .slice (some ⟨w6.heap.size, 0, none⟩) 1 1, .slice none 0 0, .slice none 0 0, .slice (some ⟨g3, 0, none⟩) 1 1, .slice none 0 0] 43)) := ⟨_, Lib.hid rfl⟩
  have b89 : Below w8.heap.size w8 w9 := by rw [hw9.out]; exact ((Fr.refl [] w8).alloc _).all
  have B69 := Lib.hid (B68.out.trans (b89.mono B68.out.size))
  have K1 : Hid (Calls Tryz.prog 6 #[.slice (some ⟨w8.heap.size, 0, none⟩) 1 1] w9 (WP1 w9)) := Lib.hid (w_call1 HF.out HM.out (Y8.out.on b89) (HT.out _ (B6.out.trans (B69.out.mono B6.out.size))) (by rw [hw9.out]; exact Box.new w8 _ _))
  clear b89 Y8 B68
  unfold WP1 at K1
  go_wp2_with fail
  rw [← hw9.out]
  clear hw9
  refine K1.out.mono ?_
  rintro e w10 ⟨A, cap2, rfl, b10⟩
  have Bx := Lib.hid (B69.out.trans (b10.mono B69.out.size))
  have F10 := Fr.of_below Bx.out []
  have c0 : w10.cell? ⟨g, off, none⟩ = some (.string ⟨#[102, 40, 41]⟩) := cell_keep C6.out F10 G6.out (by simp)
  have c1 : w10.cell? ⟨g, off + 1, none⟩ = some (.string ⟨#[109]⟩) := cell_keep C7.out F10 G6.out (by simp)
  have c3 : w10.cell? ⟨g, off + 2, none⟩ = some (.slice B 1 c2) := cell_keep C8.out F10 G6.out (by simp)
  have r10 := Lib.hid (R6.out.below Bx.out)
  have B10 := Lib.hid (B6.out.trans (Bx.out.mono B6.out.size))
  clear F10 b10 Bx B69 K1 C6 C7 C8 R6 G6 B6 HF HM HT
  obtain ⟨w11, hw11⟩ : ∃ w11, Hid (w11 = w10.alloc (.cells #[.string ⟨#[110]⟩] 9)) := ⟨_, Lib.hid rfl⟩
  have bb : Below w10.heap.size w10 w11 := by rw [hw11.out]; exact ((Fr.refl [] w10).alloc _).all
  have R2 : Rd w11 (some ⟨w10.heap.size, 0, none⟩) ([[110]].map encStr) := by rw [hw11.out]; exact rd_one (Box.new w10 9 #[.string ⟨#[110]⟩])
  have KS := Lib.hid (inn.same_any w11 B (some ⟨w10.heap.size, 0, none⟩) c2 1 [[110]] (r10.out.below bb) R2 (by decide))
  have B11 := Lib.hid (B10.out.trans (bb.mono B10.out.size))
  clear r10 bb R2 B10
  go_wp2_with fail
  rw [← hw11.out]
  clear hw11 c0 c1 c3
  refine KS.out.mono ?_
  rintro e w12 ⟨rfl, b12⟩
  have B12 := Lib.hid (B11.out.trans (b12.mono B11.out.size))
  clear b12 KS B11
  go_wp2_with fail
  go_ret
  exact ⟨rfl, B12.out⟩
end Go.Proofs.YtlkboeajkgbnaaaGreatDoor.ym
namespace Go.Proofs.YtlkboeajkgbnaaaGreatDoor.ym
open Go.RowKit Go.Sort Go.Shelf Go.Proofs.YtlkboeajkgbnaaaGreatDoor.mem Go.Proofs.YtlkboeajkgbnaaaGreatDoor.sy Go.Proofs.YtlkboeajkgbnaaaGreatDoor.rng
open Go.Proofs.YtlkboeajkgbnaaaGreatDoor.re (tx SU MU)
open Go.Proofs.YtlkboeajkgbnaaaGreatDoor.sf (enc_tx)
attribute [local go_sem] Oper.semAt_some
structure Syms (w : World) (A : Option Addr) (rows : List SyR) : Prop where
  t : Tbl w A 3 (rows.map SyR.row)
  r : ∀ r ∈ rows, Rd w r.A (r.wanted.map encStr)
theorem Syms.below {w w' : World} {A : Option Addr} {rows : List SyR} (h : Syms w A rows) (hb : Below w.heap.size w w') : Syms w' A rows := ⟨h.t.below hb, fun r hr => (h.r r hr).below hb⟩
theorem Syms.at_ {w : World} {A : Option Addr} {rows : List SyR} (h : Syms w A rows) {k : Nat} (hk : k < rows.length) : ∃ g off, A = some ⟨g, off, none⟩ ∧ g < w.heap.size ∧ ∀ i v, (rows[k].row)[i]? = some v → w.cell? ⟨g, off + k * 3 + i, none⟩ = some v := by
  obtain ⟨b, off, e, hl, hc⟩ := h.t (by rw [List.length_map]; omega)
  exact ⟨b, off, e, hl, fun i v hv => hc k (by rw [List.length_map]; exact hk) i v (by rw [List.getElem_map]; exact hv)⟩
theorem told_hit {rows : List SyR} {n m : List UInt8} {g : Bool} {k : Nat} (hk : k < rows.length) (h1 : ∀ r ∈ rows.take k, tx r.nm ≠ n) (h2 : tx rows[k].nm = n) : toldP (rows.map SyR.sym) n m g = ((g && decide (tx rows[k].giver = m)) || (!g && decide (m ∈ rows[k].wanted))) := by
  have e : (rows.map SyR.sym).find? (fun s => decide (s.name = n)) = some (rows[k].sym) := by
    have e0 : rows.map SyR.sym = (rows.take k).map SyR.sym ++ rows[k].sym :: (rows.drop (k + 1)).map SyR.sym := by
      rw [← List.map_cons, ← List.drop_eq_getElem_cons hk, ← List.map_append, List.take_append_drop]
    rw [e0, List.find?_append, List.find?_eq_none.2 (fun s hs => by
      obtain ⟨r, hr, rfl⟩ := List.mem_map.1 hs
      have := h1 r hr
      rw [decide_eq_true_eq]
      exact this), Option.none_or]
    exact List.find?_cons_of_pos (decide_eq_true h2)
  unfold toldP
  rw [e]
  rfl
theorem told_miss {rows : List SyR} {n m : List UInt8} {g : Bool} (h1 : ∀ r ∈ rows, tx r.nm ≠ n) : toldP (rows.map SyR.sym) n m g = false := by
  unfold toldP
  rw [List.find?_eq_none.2 (fun s hs => by
      obtain ⟨r, hr, rfl⟩ := List.mem_map.1 hs
      have := h1 r hr
      rw [decide_eq_true_eq]
      exact this)]
theorem num_mem {xs : List (List UInt8)} {x : List UInt8} : (0 ≤ ins.numV xs x ↔ x ∈ xs) := by
  unfold ins.numV
  split
  · rename_i h
    exact ⟨fun _ => h, fun _ => by omega⟩
  · rename_i h
    exact ⟨fun h2 => absurd h2 (by decide), fun h2 => absurd h2 h⟩
theorem tx_eq {a b : ByteArray} (h : tx a = tx b) : a = b := ByteArray.ext (Array.ext' h)
theorem beq_no {a b : ByteArray} (h : a ≠ b) : (a.toList == b.toList) = false := by
  rw [beq_eq_false_iff_ne]
  intro e
  apply h
  rw [ByteArray.toList_eq, ByteArray.toList_eq] at e
  exact ByteArray.ext (Array.ext' e)
theorem beq_yes (a : ByteArray) : (a.toList == a.toList) = true := by simp
set_option maxRecDepth 100000 in
theorem told_any (w : World) (A : Option Addr) (c : Nat) (rows : List SyR) (n m : ByteArray) (g : Bool) (h : Syms w A rows) (hl : rows.length ≤ 1000000) (hw : ∀ r ∈ rows, r.wanted.length ≤ 1000000) :
    Calls Tryz.prog 10 #[.slice A rows.length c, .string n, .string m, .bool g] w (fun e w' => e = .returned (.bool (toldP (rows.map SyR.sym) (tx n) (tx m) g)) ∧ w = w') := by
  obtain ⟨V, hV⟩ : ∃ V, Hid (V = toldP (rows.map SyR.sym) (tx n) (tx m) g) := ⟨_, Lib.hid rfl⟩
  rw [← hV.out]
  have HS := Lib.hid h
  have HW := Lib.hid hw
  obtain ⟨N, hN⟩ : ∃ N, Hid (N = rows.length) := ⟨_, Lib.hid rfl⟩
  rw [← hN.out] at hl ⊢
  clear h hw
  go_enter Tryz.func10, Tryz.ntmps10
  go_wp2_with fail
  go_loopw [9] (fun i wr => ∃ k : Nat, k ≤ N ∧ i = .int .i64 k ∧ wr = w ∧ Hid (∀ r ∈ rows.take k, tx r.nm ≠ tx n)) (fun i _ => N - (intOf i).toNat)
  case atStart => exact ⟨0, by omega, rfl, rfl, Lib.hid (by simp)⟩
  case round =>
    obtain ⟨k, hk, rfl, rfl, HP⟩ := hrel
    by_cases hkl : k < N
    · have d2 : decide ((k : Int) < (N : Int)) = true := decide_eq_true (by omega)
      have hkx : k < rows.length := by rw [← hN.out]; exact hkl
      obtain ⟨b, off, rfl, hg, hc⟩ := HS.out.at_ hkx
      have HR := Lib.hid (HS.out.r rows[k] (List.getElem_mem hkx))
      have hwl := HW.out rows[k] (List.getElem_mem hkx)
      have HH : Hid (tx rows[k].nm = tx n → V = ((g && decide (tx rows[k].giver = tx m)) || (!g && decide (tx m ∈ rows[k].wanted)))) := Lib.hid (fun h2 => by rw [hV.out]; exact told_hit hkx HP.out h2)
      have HN : Hid (tx rows[k].nm ≠ tx n → ∀ r ∈ rows.take (k + 1), tx r.nm ≠ tx n) := Lib.hid (fun h2 r hr => by
        rw [List.take_succ_eq_append_getElem hkx] at hr
        rcases List.mem_append.1 hr with h | h
        · exact HP.out r h
        · rw [List.mem_singleton] at h; subst h; exact h2)
      generalize rows[k] = r at *
      clear HS HW hkx hV
      obtain ⟨nm, gv, B, c2, wl⟩ := r
      unfold SyR.row at hc
      dsimp only at *
      have c0 : wr.cell? ⟨b, off + k * 3, none⟩ = some (.string nm) := hc 0 _ rfl
      have c1 : wr.cell? ⟨b, off + k * 3 + 1, none⟩ = some (.string gv) := hc 1 _ rfl
      have c3 : wr.cell? ⟨b, off + k * 3 + 2, none⟩ = some (.slice B wl.length c2) := hc 2 _ rfl
      clear hc
      by_cases he : nm = n
      · subst he
        have HV := Lib.hid (HH.out rfl)
        clear HH HN
        have KN := ins.number_any wr B c2 wl (tx m) HR.out hwl
        rw [enc_tx] at KN
        replace KN := Lib.hid KN
        have s1 := beq_yes nm
        rcases g with _ | _
        · go_wp2_with fail
          refine KN.out.mono ?_
          rintro e w2 ⟨rfl, rfl⟩
          have hnm := num_mem (xs := wl) (x := tx m)
          by_cases hm : tx m ∈ wl
          · have d3 : decide ((0 : Int) ≤ ins.numV wl (tx m)) = true := decide_eq_true (hnm.2 hm)
            have HVT : Hid (V = true) := Lib.hid (by rw [HV.out]; simpa using hm)
            clear HV KN hnm
            generalize ins.numV wl (tx m) = v at *
            go_wp2_with fail
            go_ret
            rw [HVT.out]
            exact ⟨rfl, rfl⟩
          · have d3 : decide ((0 : Int) ≤ ins.numV wl (tx m)) = false := decide_eq_false (fun h => hm (hnm.1 h))
            have HVT : Hid (V = false) := Lib.hid (by rw [HV.out]; simpa using hm)
            clear HV KN hnm
            generalize ins.numV wl (tx m) = v at *
            go_wp2_with fail
            go_ret
            rw [HVT.out]
            exact ⟨rfl, rfl⟩
        · clear KN
          by_cases hgm : gv = m
          · subst hgm
            have s2 := beq_yes gv
            have HVT : Hid (V = true) := Lib.hid (by rw [HV.out]; simp)
            clear HV
            go_wp2_with fail
            go_ret
            rw [HVT.out]
            exact ⟨rfl, rfl⟩
          · have s2 := beq_no hgm
            have HVT : Hid (V = false) := Lib.hid (by
              rw [HV.out]
              have : tx gv ≠ tx m := fun e => hgm (tx_eq e)
              simpa using this)
            clear HV
            go_wp2_with fail
            go_ret
            rw [HVT.out]
            exact ⟨rfl, rfl⟩
      · have s1 := beq_no he
        have HN2 := Lib.hid (HN.out (fun e => he (tx_eq e)))
        clear HH HN HR
        go_wp2_with fail
        go_roundw
        case rel => exact ⟨k + 1, by omega, by go_num, trivial, HN2⟩
        case measure => simp [intOf]; omega
    · obtain rfl : k = N := by omega
      have d2 : decide ((k : Int) < (k : Int)) = false := decide_eq_false (by omega)
      have HM : Hid (V = false) := Lib.hid (by
        rw [hV.out]
        refine told_miss (fun r hr => HP.out r ?_)
        rwa [List.take_of_length_le (by rw [← hN.out]; exact Nat.le_refl _)])
      go_wp2_with fail
      go_ret
      rw [HM.out]
      exact ⟨rfl, rfl⟩
end Go.Proofs.YtlkboeajkgbnaaaGreatDoor.ym
namespace Go.Proofs.YtlkboeajkgbnaaaGreatDoor.ym
open Go.RowKit Go.Sort Go.Shelf Go.Proofs.YtlkboeajkgbnaaaGreatDoor.mem Go.Proofs.YtlkboeajkgbnaaaGreatDoor.sy Go.Proofs.YtlkboeajkgbnaaaGreatDoor.rng
open Go.Proofs.YtlkboeajkgbnaaaGreatDoor.re (tx SU MU SumM SumB SmlU RB GSP great_su)
open Go.Proofs.YtlkboeajkgbnaaaGreatDoor.nm (Tab tab_below)
attribute [local go_sem] Oper.semAt_some
theorem info_su : (Tryz.prog.info? 43).map (fun i => (i.zero, i.size, i.bytes)) = some (some (.agg #[.string ByteArray.empty, .slice none 0 0, .slice none 0 0, .slice none 0 0, .slice none 0 0, .slice none 0 0, .slice none 0 0]), 7, 160) := by kernel_rfl
theorem rowS_one (u : MU) : ∀ x ∈ rowS u, x.oneCell' = true := by
  intro x hx
  unfold rowS at hx
  simp only [List.mem_cons, List.not_mem_nil, or_false] at hx
  rcases hx with rfl | rfl | rfl | rfl | rfl | rfl | rfl <;> rfl
theorem box_cells (w : World) (t : TypeId) (xs : List Value) : ∀ (j : Nat) (v : Value), xs[j]? = some v → (w.alloc (.cells xs.toArray t)).cell? ((⟨w.heap.size, 0, none⟩ : Addr).add j) = some v := by
  intro j v h
  have e1 : (⟨w.heap.size, 0, none⟩ : Addr).add j = ⟨w.heap.size, j, none⟩ := by unfold Addr.add; split <;> simp_all
  rw [e1, (Box.new w t xs.toArray).cell j]
  simpa using h
structure TL (w1 : World) (l : List MU) (k : Nat) (A : Option Addr) (cap : Nat) (wr : World) : Prop where
  sg : Sg 7 wr 43 A cap k ((l.reverse.take k).flatMap rowS)
  ge : ∀ q ∈ blk A, w1.heap.size ≤ q
  on : Below w1.heap.size w1 wr
theorem TL.push {w1 : World} {l : List MU} {k cap cap' : Nat} {A A' : Option Addr} {wr w' : World} {ob : Obj} {us : List Value} (h : TL w1 l k A cap wr) {hk : k < l.reverse.length} (hu : us = rowS l.reverse[k]) (hs : Sg 7 w' 43 A' cap' (k + 1) ((l.reverse.take k).flatMap rowS ++ us)) (f : Fr (blk A) (wr.alloc ob) w') (hb : blk A' = blk A ∨ blk A' = [(wr.alloc ob).heap.size]) : TL w1 l (k + 1) A' cap' w' := by
  subst hu
  have hF : Fr (blk A) wr w' := ((Fr.refl [] wr).alloc ob).trans f (by simp) (fun g hg => Or.inl hg)
  refine ⟨?_, fun q hq => ?_, h.on.trans (hF.below (fun g hg => h.ge g hg) h.on.size)⟩
  · rw [List.take_succ_eq_append_getElem hk, List.flatMap_append]
    have : ([l.reverse[k]] : List MU).flatMap rowS = rowS l.reverse[k] := by simp
    rw [this]
    exact hs
  · rcases hb with e | e
    · exact h.ge q (e ▸ hq)
    · rw [e, List.mem_singleton] at hq
      subst hq
      have := h.on.size
      simp; omega
set_option maxRecDepth 100000 in
theorem law_turned (hf : HeldF) (hm : HeldM) (w : World) (A : Option Addr) (c : Nat) (l : List MU) (h : SusB w A l) (hl : l.length ≤ maxLen) (htab : Tab w) :
    Calls Tryz.prog 4 #[.slice A l.length c] w (WKP w) := by
  have HS := Lib.hid (fun (w2 : World) (b : Below w.heap.size w w2) => h.below b)
  have HT : Hid (∀ w2, Below w.heap.size w w2 → Tab w2) := Lib.hid (fun w2 b => tab_below htab b)
  have HF := Lib.hid hf
  have HM := Lib.hid hm
  have KW := Lib.hid (worksY_any hf hm w htab)
  have KG := Lib.hid (fun (w2 : World) (b : Below w.heap.size w w2) => greatAll_any w2 A c l (h.below b) hl)
  obtain ⟨i0, hi0, hy0, hy1, hy2⟩ := info_parts info_su
  have Hi := Lib.hid hi0
  have Hz0 := Lib.hid hy0
  have Hz1 := Lib.hid hy1
  have Hz2 := Lib.hid hy2
  obtain ⟨n, hN⟩ : ∃ n, Hid (n = l.length) := ⟨_, Lib.hid rfl⟩
  rw [← hN.out] at hl KG ⊢
  unfold maxLen at hl
  unfold WKP at KW ⊢
  unfold GAP at KG
  clear h htab hf hm hi0 hy0 hy1 hy2
  go_enter Tryz.func4, Tryz.ntmps4
  go_wp2_with fail
  refine KW.out.mono ?_
  rintro e w1 ⟨rfl, b1⟩
  have B1 := Lib.hid b1
  clear b1 KW
  go_wp2_with fail
  refine (KG.out w1 B1.out).mono ?_
  rintro e w2 ⟨r, rfl, b2, hr⟩
  have B2 := Lib.hid (B1.out.trans (b2.mono B1.out.size))
  clear b2 KG B1
  rcases r with _ | _
  rotate_left
  · clear hr
    go_wp2_with fail
    go_ret
    exact ⟨rfl, B2.out⟩
  obtain ⟨h12, hsm⟩ := hr rfl
  rw [← hN.out] at h12
  have HSM := Lib.hid hsm
  have TL0 : Hid (TL w2 l 0 none 0 w2) := Lib.hid ⟨Sg.new 7 _ _, (fun q hq => by cases hq), Below.refl _ _⟩
  clear hr hsm
  go_wp2_with fail
  go_loopw [3, 4] (fun t i wr => ∃ (j k : Nat) (At : Option Addr) (capt : Nat), j + k = n ∧ i = .int .i64 ((j : Int) - 1) ∧ t = .slice At k capt ∧ Hid (TL w2 l k At capt wr)) (fun _ i _ => (intOf i + 1).toNat)
  case atStart => exact ⟨n, 0, none, 0, by omega, rfl, rfl, TL0⟩
  case round =>
    obtain ⟨j, k, At, capt, hjk, rfl, rfl, HP⟩ := hrel
    rename World => wr
    clear TL0
    rcases j with _ | j
    · obtain rfl : k = n := by omega
      have d2 : decide ((0 : Int) ≤ (((0 : Nat) : Int) - 1)) = false := by decide
      have hon := B2.out.trans (HP.out.on.mono B2.out.size)
      have hSA := (HS.out wr hon).susM HSM.out
      have hsg := HP.out.sg
      rw [List.take_of_length_le (by rw [List.length_reverse, ← hN.out]; exact Nat.le_refl _)] at hsg
      have hkr : k = l.reverse.length := by rw [List.length_reverse]; exact hN.out
      have hSB : SusM wr At l.reverse := ⟨tbl_sg rowS (fun _ => rfl) (by decide) (by rw [← hkr]; exact hsg), fun u hu => hSA.k u (List.mem_reverse.1 hu), fun u hu => hSA.n u (List.mem_reverse.1 hu)⟩
      obtain ⟨L, hL⟩ : ∃ L, Hid (L = l.map MU.su) := ⟨_, Lib.hid rfl⟩
      have K1 : Hid (Calls Tryz.prog 6 #[.slice A k c] wr (ResP 33 wr (resP L))) := Lib.hid (by
        rw [hL.out]
        have := resolve_any HF.out HM.out wr A c l hSA (HT.out wr hon) (by rw [← hN.out]; omega)
        rwa [← hN.out] at this)
      have K2 : Hid (∀ w2, Below wr.heap.size wr w2 → Calls Tryz.prog 6 #[.slice At k capt] w2 (ResP 33 w2 (resP L.reverse))) := Lib.hid (fun w2 b => by
        rw [hL.out, ← List.map_reverse]
        have := resolve_any HF.out HM.out w2 At capt l.reverse (hSB.below b) (HT.out w2 (hon.trans (b.mono hon.size))) (by rw [← hkr]; omega)
        rwa [← hkr] at this)
      obtain ⟨rv1, rv2, rv3⟩ := rev_all L
      have HE := Lib.hid rv1
      have HLen := Lib.hid rv2
      have HEq := Lib.hid rv3
      have hul : (usesL L).length ≤ 1920 := by
        have := uses_len L 160 (fun u hu => by
          rw [hL.out] at hu
          obtain ⟨v, hv, rfl⟩ := List.mem_map.1 hu
          have h1 := (HSM.out v hv).s.o
          have h2 := (HSM.out v hv).s.f
          omega)
        have h2 : L.length ≤ 12 := by rw [hL.out, List.length_map, ← hN.out]; exact h12
        have h3 : L.length * 160 ≤ 12 * 160 := Nat.mul_le_mul_right _ h2
        omega
      have HWl : Hid ((resP L).2.2 = 0 → ∀ s ∈ (resP L).1, s.wanted.length ≤ 1000000) := Lib.hid (fun he s hs => Nat.le_trans (wanted_len he s hs) (by omega))
      have HGv : Hid ((resP L).2.2 = 0 → (l.map (fun u => u.gives.length)).sum = (resP L).1.length) := Lib.hid (fun he => by
        have := given_ok he
        rw [hL.out, List.map_map] at this
        rw [← hL.out] at this
        exact this)
      have HTo : Hid ((resP L).2.2 = 0 → ∀ u ∈ l, (∀ s ∈ u.gives, toldP (resP L).1 (tx s) (tx u.name) true = true) ∧ (∀ s ∈ u.wants, toldP (resP L).1 (tx s) (tx u.name) false = true)) := Lib.hid (fun he u hu => told_ok he (u := u.su) (by rw [hL.out]; exact List.mem_map.2 ⟨u, hu, rfl⟩))
      have HGl : Hid (∀ i (hi : i < l.length), l[i].gives.length ≤ 60 ∧ l[i].wants.length ≤ 60) := Lib.hid (fun i hi => ⟨(HSM.out _ (List.getElem_mem hi)).g.1, (HSM.out _ (List.getElem_mem hi)).w.1⟩)
      have BR := Lib.hid hon
      clear hSA hSB hsg hkr hon rv1 rv2 rv3 hul HSM HF HM HT HP hL Hi Hz0 Hz1 Hz2 B2
      generalize resP L.reverse = R2 at *
      generalize resP L = R at *
      clear L
      obtain ⟨RS, Rn, RE⟩ := R
      obtain ⟨RS2, Rn2, RE2⟩ := R2
      unfold ResP at K1 K2
      dsimp only at *
      go_wp2_with fail
      refine K1.out.mono ?_
      rintro e w3 ⟨Aa, capa, rows, rfl, hra, hta, hwa, b3⟩
      have SA := Lib.hid (⟨hta, hwa⟩ : Syms w3 Aa rows)
      have B3 := Lib.hid b3
      clear hta hwa b3 K1
      go_wp2_with fail
      refine (K2.out w3 B3.out).mono ?_
      rintro e w4 ⟨Ab, capb, rowsb, rfl, hrb, htb, hwb, b4⟩
      have SB := Lib.hid (⟨htb, hwb⟩ : Syms w4 Ab rowsb)
      have SA4 := Lib.hid (SA.out.below b4)
      have B4 := Lib.hid (BR.out.trans ((B3.out.trans (b4.mono B3.out.size)).mono BR.out.size))
      have hlab : rowsb.length = rows.length := by
        have h1 := congrArg List.length hra
        have h2 := congrArg List.length hrb
        rw [List.length_map] at h1 h2
        rw [h1, h2, HLen.out]
      clear htb hwb b4 K2 SA B3 BR HLen
      have HRA := Lib.hid hra
      have HRB := Lib.hid hrb
      clear hra hrb
      unfold encStr
      rw [hlab]
      obtain ⟨na, hNA⟩ : ∃ na, Hid (na = rows.length) := ⟨_, Lib.hid rfl⟩
      have hlab2 := Lib.hid hlab
      rw [← hNA.out]
      clear hlab
      have s3 : ((na : Int) != (na : Int)) = false := by simp
      by_cases hE : RE = 0
      rotate_left
      · have e1 : (RE == 0) = false := by simpa using hE
        have hE2 : RE2 ≠ 0 := fun h => hE (HE.out.2 h)
        have e2 : (RE2 == 0) = false := by simpa using hE2
        have e3 : (RE != 0) = true := by simpa using hE
        clear HTo HGv HWl HGl HEq HE HRA HRB hlab2 hNA SB SA4 HS
        go_wp2_with fail
        go_loopw [11, 12] (fun g i wr => g = .int .i64 0 ∧ i = .int .i64 0 ∧ Hid (Below w.heap.size w wr)) (fun _ _ _ => 0)
        case atStart => exact ⟨rfl, rfl, B4⟩
        case round =>
          obtain ⟨rfl, rfl, HB⟩ := hrel
          by_cases h0 : 0 < k
          · have d3 : decide ((0 : Int) < (k : Int)) = true := decide_eq_true (by omega)
            go_wp2_with fail
            go_ret
            exact ⟨rfl, HB.out⟩
          · have d3 : decide ((0 : Int) < (k : Int)) = false := decide_eq_false (by omega)
            go_wp2_with fail
            go_ret
            exact ⟨rfl, HB.out⟩
      · have hE2 : RE2 = 0 := HE.out.1 hE
        subst hE
        subst hE2
        have heq := HEq.out rfl
        injection heq with q1 _
        subst q1
        have HG := Lib.hid (HGv.out rfl)
        have HTl := HTo.out rfl
        have HWl2 := HWl.out rfl
        have hrl1 := congrArg List.length HRA.out
        rw [List.length_map, ← hNA.out] at hrl1
        have hsum : (l.map (fun u => u.gives.length)).sum ≤ l.length * 60 := sum_le_of _ 60 l (fun u hu => by
          obtain ⟨i, hi, rfl⟩ := List.getElem_of_mem hu
          exact (HGl.out i hi).1)
        have hna : na ≤ 720 := by
          have h1 : l.length * 60 ≤ 12 * 60 := Nat.mul_le_mul_right _ (by rw [← hN.out]; exact h12)
          have := HG.out
          omega
        have KT : Hid (∀ u ∈ l, ∀ (s : ByteArray) (g : Bool), (g = true ∧ s ∈ u.gives ∨ g = false ∧ s ∈ u.wants) → ∀ w2, Below w4.heap.size w4 w2 → Calls Tryz.prog 10 #[.slice Aa na capa, .string s, .string u.name, .bool g] w2 (fun e w' => e = .returned (.bool true) ∧ w2 = w') ∧ Calls Tryz.prog 10 #[.slice Ab na capb, .string s, .string u.name, .bool g] w2 (fun e w' => e = .returned (.bool true) ∧ w2 = w')) := Lib.hid (fun u hu s g hg w2 b => by
          have ht : toldP RS2 (tx s) (tx u.name) g = true := by
            rcases hg with ⟨rfl, hs⟩ | ⟨rfl, hs⟩
            · exact (HTl u hu).1 s hs
            · exact (HTl u hu).2 s hs
          have hw1 : ∀ r ∈ rows, r.wanted.length ≤ 1000000 := fun r hr => HWl2 r.sym (by rw [← HRA.out]; exact List.mem_map.2 ⟨r, hr, rfl⟩)
          have hw2 : ∀ r ∈ rowsb, r.wanted.length ≤ 1000000 := fun r hr => HWl2 r.sym (by rw [← HRB.out]; exact List.mem_map.2 ⟨r, hr, rfl⟩)
          have k1 := told_any w2 Aa capa rows s u.name g (SA4.out.below b) (by rw [← hNA.out]; omega) hw1
          have k2 := told_any w2 Ab capb rowsb s u.name g (SB.out.below b) (by rw [hlab2.out, ← hNA.out]; omega) hw2
          rw [HRA.out, ht, ← hNA.out] at k1
          rw [HRB.out, ht, hlab2.out, ← hNA.out] at k2
          exact ⟨k1, k2⟩)
        have HC0 : Hid (∀ k (hk : k < l.length), ∃ g off, A = some ⟨g, off, none⟩ ∧ ∀ w2, Below w4.heap.size w4 w2 → (w2.cell? ⟨g, off + k * 7, none⟩ = some (.string l[k].name) ∧ w2.cell? ⟨g, off + k * 7 + 1, none⟩ = some (.slice l[k].gA l[k].gives.length l[k].gc) ∧ w2.cell? ⟨g, off + k * 7 + 2, none⟩ = some (.slice l[k].wA l[k].wants.length l[k].wc)) ∧ Rd w2 l[k].gA (l[k].gives.map Value.string) ∧ Rd w2 l[k].wA (l[k].wants.map Value.string)) := Lib.hid (fun k hk => by
          obtain ⟨g, off, e, hg, hc⟩ := (HS.out w4 B4.out).at_ hk
          refine ⟨g, off, e, fun w2 b => ?_⟩
          have fk := Fr.of_below b []
          have hm2 := ((HS.out w4 B4.out).below b).k _ (List.getElem_mem hk)
          exact ⟨⟨cell_keep (hc 0 _ rfl) fk hg (by simp), cell_keep (hc 1 _ rfl) fk hg (by simp), cell_keep (hc 2 _ rfl) fk hg (by simp)⟩, hm2.gr, hm2.wr⟩)
        have e1 : ((0 : Int) == 0) = true := rfl
        have e3 : ((0 : Int) != 0) = false := rfl
        have R4 := Lib.hid (Below.refl w4.heap.size w4)
        have HG2 : Hid ((l.map (fun u => u.gives.length)).sum = na) := Lib.hid (by rw [hrl1]; exact HG.out)
        clear HTo HGv HWl HTl HWl2 HEq HE HRA HRB hlab2 hNA SB SA4 HS hrl1 HG
        go_wp2_with fail
        go_loopw [11, 12] (fun g i wr => ∃ m : Nat, m ≤ k ∧ i = .int .i64 m ∧ g = .int .i64 (((l.take m).map (fun u => u.gives.length)).sum : Nat) ∧ Hid (Below w4.heap.size w4 wr)) (fun _ i _ => k - (intOf i).toNat)
        case atStart => exact ⟨0, by omega, rfl, rfl, R4⟩
        case round =>
          obtain ⟨m, hmk, rfl, rfl, HB⟩ := hrel
          rename World => wq
          by_cases hm0 : m < k
          · have d3 : decide ((m : Int) < (k : Int)) = true := decide_eq_true (by omega)
            have hmx : m < l.length := by rw [← hN.out]; exact hm0
            obtain ⟨g, off, rfl, hcf⟩ := HC0.out m hmx
            have HC := Lib.hid hcf
            have HU : Hid (((l.take (m + 1)).map (fun u => u.gives.length)).sum = ((l.take m).map (fun u => u.gives.length)).sum + l[m].gives.length) := Lib.hid (by
              rw [List.take_succ_eq_append_getElem hmx, List.map_append, List.sum_append]
              simp)
            obtain ⟨hg60, hw60⟩ := HGl.out m hmx
            have hs60 : ((l.take m).map (fun u => u.gives.length)).sum ≤ 720 := by
              have h1 := sum_le_of (fun (u : MU) => u.gives.length) 60 (l.take m) (fun u hu => by
                obtain ⟨i, hi, rfl⟩ := List.getElem_of_mem (List.mem_of_mem_take hu)
                exact (HGl.out i hi).1)
              have h2 : (l.take m).length * 60 ≤ 12 * 60 := Nat.mul_le_mul_right _ (by rw [List.length_take]; omega)
              omega
            have KU := Lib.hid (KT.out l[m] (List.getElem_mem hmx))
            generalize hS : ((l.take m).map (fun u => u.gives.length)).sum = S at *
            generalize l[m] = u at *
            obtain ⟨nm, gA, gc, gs, wA, wc, ws, kA, kc, ks, ms⟩ := u
            dsimp only at *
            generalize hgl : gs.length = gl at *
            generalize hwl : ws.length = wl at *
            have hmi : (m : Int) < (k : Int) := by omega
            obtain ⟨⟨c0, c1, c2⟩, _, _⟩ := HC.out wq HB.out
            clear HC0 KT HGl hsum
            go_wp2_with fail
            clear c0 c1 c2
            go_loopw [13] (fun j wr => ∃ j0 : Nat, j0 ≤ gl + wl ∧ j = .int .i64 j0 ∧ Hid (Below w4.heap.size w4 wr)) (fun j _ => gl + wl - (intOf j).toNat)
            case atStart => exact ⟨0, by omega, rfl, HB⟩
            case round =>
              obtain ⟨j, hj, rfl, HB2⟩ := hrel
              rename World => wi
              obtain ⟨⟨c0, c1, c2⟩, _, _⟩ := HC.out wi HB2.out
              have hs1 : IntKind.i64.wrap ((gl : Int) + (wl : Int)) = (gl : Int) + (wl : Int) := IntWalk.i64_in _ (by omega)
              by_cases hjl : j < gl + wl
              · have d4 : decide ((j : Int) < (gl : Int) + (wl : Int)) = true := decide_eq_true (by omega)
                go_wp2_with fail
                go_quiet (fail)
                have HB3 := Lib.hid (sf.below_drewQ HB2.out HB2.out.size nq)
                clear c0 c1 c2 HB2 d4
                generalize wi.drewN nq = wx at *
                obtain ⟨⟨c0, c1, c2⟩, rg, rw2⟩ := HC.out wx HB3.out
                by_cases hjg : j < gl
                · have d5 : decide ((j : Int) < (gl : Int)) = true := decide_eq_true (by omega)
                  have hji : (j : Int) < (gl : Int) := by omega
                  obtain ⟨b, o, rfl, hb, hcg⟩ := rg (by rw [List.length_map, hgl]; omega)
                  have hjx : j < gs.length := by omega
                  have cg : wx.cell? ⟨b, o + j, none⟩ = some (.string gs[j]) := by
                    have := hcg j (by rw [List.length_map]; exact hjx)
                    rw [List.getElem_map] at this
                    exact this
                  have KQ := Lib.hid (fun nq => KU.out gs[j] true (Or.inl ⟨rfl, List.getElem_mem hjx⟩) (wx.drewN nq) (sf.below_drewQ HB3.out HB3.out.size nq))
                  generalize gs[j] = sx at *
                  clear rg rw2 hcg hb hjx KU HU
                  have KQ1 : Hid (∀ nq, Calls Tryz.prog 10 #[.slice Aa na capa, .string sx, .string nm, .bool true] (wx.drewN nq) (fun e w'' => e = .returned (.bool true) ∧ ∃ n, w'' = wx.drewN n)) := Lib.hid (fun nq => (KQ.out nq).1.mono (fun _ _ h => ⟨h.1, nq, h.2.symm⟩))
                  have KQ2 : Hid (∀ nq, Calls Tryz.prog 10 #[.slice Ab na capb, .string sx, .string nm, .bool true] (wx.drewN nq) (fun e w'' => e = .returned (.bool true) ∧ ∃ n, w'' = wx.drewN n)) := Lib.hid (fun nq => (KQ.out nq).2.mono (fun _ _ h => ⟨h.1, nq, h.2.symm⟩))
                  clear KQ
                  go_wp2_with fail
                  go_quiet (first
                    | with_reducible exact KQ1.out _
                    | with_reducible exact KQ2.out _)
                  have HB4 := Lib.hid (sf.below_drewQ HB3.out HB3.out.size nq)
                  clear KQ1 KQ2 HB3 c0 c1 c2
                  generalize wx.drewN nq = wy at *
                  go_wp2_with fail
                  go_roundw
                  case rel => exact ⟨j + 1, by omega, by go_num, HB4⟩
                  case measure => simp [intOf]; omega
                · have d5 : decide ((j : Int) < (gl : Int)) = false := decide_eq_false (by omega)
                  obtain ⟨q, hjq⟩ : ∃ q, j = gl + q := ⟨j - gl, by omega⟩
                  have hqi : (q : Int) < (wl : Int) := by omega
                  have hs2 : IntKind.i64.wrap ((j : Int) - (gl : Int)) = (q : Int) := by rw [show (j : Int) - (gl : Int) = (q : Int) by omega]; exact IntWalk.i64_in _ (by omega)
                  obtain ⟨b, o, rfl, hb, hcg⟩ := rw2 (by rw [List.length_map, hwl]; omega)
                  have hjx : q < ws.length := by omega
                  have cg : wx.cell? ⟨b, o + q, none⟩ = some (.string ws[q]) := by
                    have := hcg q (by rw [List.length_map]; exact hjx)
                    rw [List.getElem_map] at this
                    exact this
                  clear hjq
                  have KP := Lib.hid (fun (wz : World) (bz : Below w4.heap.size w4 wz) nq => KU.out ws[q] false (Or.inr ⟨rfl, List.getElem_mem hjx⟩) (wz.drewN nq) (sf.below_drewQ bz bz.size nq))
                  generalize ws[q] = sx at *
                  clear rg rw2 hcg hb hjx KU HU
                  go_wp2_with fail
                  go_quiet (fail)
                  have HB5 := Lib.hid (sf.below_drewQ HB3.out HB3.out.size nq)
                  clear HB3 c0 c1 c2 cg
                  generalize wx.drewN nq = wx2 at *
                  have HB3 := HB5
                  clear HB5
                  obtain ⟨⟨c0, c1, c2⟩, _, _⟩ := HC.out wx2 HB3.out
                  have KQ := Lib.hid (fun nq => KP.out wx2 HB3.out nq)
                  clear KP
                  have KQ1 : Hid (∀ nq, Calls Tryz.prog 10 #[.slice Aa na capa, .string sx, .string nm, .bool false] (wx2.drewN nq) (fun e w'' => e = .returned (.bool true) ∧ ∃ n, w'' = wx2.drewN n)) := Lib.hid (fun nq => (KQ.out nq).1.mono (fun _ _ h => ⟨h.1, nq, h.2.symm⟩))
                  have KQ2 : Hid (∀ nq, Calls Tryz.prog 10 #[.slice Ab na capb, .string sx, .string nm, .bool false] (wx2.drewN nq) (fun e w'' => e = .returned (.bool true) ∧ ∃ n, w'' = wx2.drewN n)) := Lib.hid (fun nq => (KQ.out nq).2.mono (fun _ _ h => ⟨h.1, nq, h.2.symm⟩))
                  clear KQ
                  go_wp2_with fail
                  go_quiet (first
                    | with_reducible exact KQ1.out _
                    | with_reducible exact KQ2.out _)
                  have HB4 := Lib.hid (sf.below_drewQ HB3.out HB3.out.size nq)
                  clear KQ1 KQ2 HB3 c0 c1 c2
                  generalize wx2.drewN nq = wy at *
                  go_wp2_with fail
                  go_roundw
                  case rel => exact ⟨j + 1, by omega, by go_num, HB4⟩
                  case measure => simp [intOf]; omega
              · have d4 : decide ((j : Int) < (gl : Int) + (wl : Int)) = false := decide_eq_false (by omega)
                go_wp2_with fail
                go_quiet (fail)
                have HB3 := Lib.hid (sf.below_drewQ HB2.out HB2.out.size nq)
                clear c0 c1 c2 HB2 d4
                generalize wi.drewN nq = wx at *
                go_wp2_with fail
                go_roundw
                case rel => exact ⟨m + 1, by omega, by go_num, by rw [HU.out]; go_num, HB3⟩
                case measure => simp [intOf]; omega
          · obtain rfl : m = k := by omega
            have d3 : decide ((m : Int) < (m : Int)) = false := decide_eq_false (by omega)
            have hT : ((l.take m).map (fun u => u.gives.length)).sum = na := by
              rw [List.take_of_length_le (by rw [← hN.out]; exact Nat.le_refl _)]
              exact HG2.out
            rw [hT]
            have s4 : ((na : Int) == (na : Int)) = true := by simp
            have BF := Lib.hid (B4.out.trans (HB.out.mono B4.out.size))
            go_wp2_with fail
            go_ret
            exact ⟨rfl, BF.out⟩
    · rw [show ((j + 1 : Nat) : Int) - 1 = (j : Int) by omega]
      have d2 : decide ((0 : Int) ≤ (j : Int)) = true := decide_eq_true (by omega)
      have hjx : j < l.length := by rw [← hN.out]; omega
      have hji : (j : Int) < (n : Int) := by omega
      have hkx : k < l.reverse.length := by rw [List.length_reverse, ← hN.out]; omega
      have hrv : l.reverse[k] = l[j] := by
        rw [List.getElem_reverse]
        congr 1
        rw [← hN.out]; omega
      have hon := B2.out.trans (HP.out.on.mono B2.out.size)
      obtain ⟨g, off, rfl, hg, hc⟩ := (HS.out wr hon).at_ hjx
      have HU : Hid (rowS l[j] = rowS l.reverse[k]) := Lib.hid (by rw [hrv])
      have HO := Lib.hid (rowS_one l[j])
      generalize l[j] = u at *
      clear hrv HSM hon hg HT HF HM hjx HS
      obtain ⟨nm, gA, gc, gs, wA, wc, ws, kA, kc, ks, ⟨oA, oc, os, fA, fc, fs, cA, cc, cs⟩⟩ := u
      unfold rowS at hc HU HO
      dsimp only at *
      generalize hgl : gs.length = gl at *
      generalize hwl : ws.length = wl at *
      generalize hkl2 : ks.length = kl at *
      generalize hol : os.length = ol at *
      generalize hfl : fs.length = fl at *
      generalize hcl : cs.length = cl at *
      clear hgl hwl hkl2 hol hfl hcl
      have c0 : wr.cell? ⟨g, off + j * 7, none⟩ = some (.string nm) := hc 0 _ rfl
      have c1 : wr.cell? ⟨g, off + j * 7 + 1, none⟩ = some (.slice gA gl gc) := hc 1 _ rfl
      have c2 : wr.cell? ⟨g, off + j * 7 + 2, none⟩ = some (.slice wA wl wc) := hc 2 _ rfl
      have c3 : wr.cell? ⟨g, off + j * 7 + 3, none⟩ = some (.slice kA kl kc) := hc 3 _ rfl
      have c4 : wr.cell? ⟨g, off + j * 7 + 4, none⟩ = some (.slice oA ol oc) := hc 4 _ rfl
      have c5 : wr.cell? ⟨g, off + j * 7 + 5, none⟩ = some (.slice fA fl fc) := hc 5 _ rfl
      have c6 : wr.cell? ⟨g, off + j * 7 + 6, none⟩ = some (.slice cA cl cc) := hc 6 _ rfl
      clear hc
      go_wp2_with (at_builtin
                   refine wpList_row (n := k) (us := [.string nm, .slice gA gl gc, .slice wA wl wc, .slice kA kl kc, .slice oA ol oc, .slice fA fl fc, .slice cA cl cc]) rfl _ _ _ rfl (HP.out.sg.alloc _) Tryz.underlying22 Hi.out Hz0.out Hz1.out Hz2.out rfl rfl rfl rfl (box_cells _ _ _) HO.out (by omega) (by omega) ?_
                   intro A3 cap3 w4 hs3 f3 hf3)
      have HP4 := Lib.hid (HP.out.push (hk := hkx) HU.out hs3 f3 hf3)
      clear hs3 f3 hf3 HP c0 c1 c2 c3 c4 c5 c6
      go_roundw
      case rel => exact ⟨j, k + 1, A3, cap3, by omega, by go_num, rfl, HP4⟩
      case measure => simp [intOf]
end Go.Proofs.YtlkboeajkgbnaaaGreatDoor.ym
namespace Go.Proofs.YtlkboeajkgbnaaaGreatDoor.ym
open Go.RowKit Go.ChangeShapes Go.WideShapes Go.Proofs.YtlkboeajkgbnaaaGreatDoor.mem Go.Proofs.YtlkboeajkgbnaaaGreatDoor.sy
open Go.Proofs.YtlkboeajkgbnaaaGreatDoor.re (MU SumM SumB RB cSu fSu str_elB txts_el sys_el)
open Go.Proofs.YtlkboeajkgbnaaaGreatDoor.nm (Tab)
set_option maxRecDepth 100000 in
theorem reach_RB : reachBytes = RB := of_decide_eq_true (by kernel_rfl)
section
variable {H : Type} {enc : TypeId × Value → H} {W : World} {B : Nat}
theorem su_el (n : Nat) (cs : List Value) (y : DataW H × List MemPlace) (h : DataW.trod enc Tryz.prog W 0 (fun _ => true) true n 43 cs = some y) (hl : cs.length = 7) (hw : ∀ m ∈ y.1.weights Tryz.prog 43, m ≤ B) :
    ∃ u : MU, cs = rowS u ∧ SumM W u ∧ SumB B u := by
  match cs, hl with
  | [c0, c1, c2, c3, c4, c5, c6], _ =>
    obtain ⟨ys, m, _, hx, _, hl2, hf⟩ := DataW.trod_struct re.uSu h
    rw [hx] at hw
    obtain ⟨y0, h0, w0⟩ := fld fSu hl2 hf re.uSu hw 0 9 0 rfl
    obtain ⟨y1, h1, w1⟩ := fld fSu hl2 hf re.uSu hw 1 31 1 rfl
    obtain ⟨y2, h2, w2⟩ := fld fSu hl2 hf re.uSu hw 2 31 2 rfl
    obtain ⟨y3, h3, w3⟩ := fld fSu hl2 hf re.uSu hw 3 31 3 rfl
    obtain ⟨y4, h4, w4⟩ := fld fSu hl2 hf re.uSu hw 4 41 4 rfl
    rw [cStr] at h0
    rw [cSs] at h1 h2 h3
    rw [sy.cSy] at h4
    obtain ⟨a0, rfl, s0, b0⟩ := str_elB (u := c0) h0 w0
    obtain ⟨gA, gc, gl, rfl, gr, g1, _, g2, g3⟩ := txts_el (c := c1) h1 w1
    obtain ⟨wA, wc, wl, rfl, wr, ww1, _, ww2, ww3⟩ := txts_el (c := c2) h2 w2
    obtain ⟨kA, kc, kl, rfl, kr, k1, _, k2, k3⟩ := txts_el (c := c3) h3 w3
    obtain ⟨s, hs, hm, so, sf, sc⟩ := sys_el (c0 := c4) (c1 := c5) (c2 := c6) h4 w4
    simp only [List.cons.injEq, and_true] at hs
    obtain ⟨rfl, rfl, rfl⟩ := hs
    exact ⟨⟨a0, gA, gc, gl, wA, wc, wl, kA, kc, kl, s⟩, rfl, ⟨gr, wr, kr, hm⟩, ⟨b0, ⟨g1, fun s hs => (g2 s hs).2, g3⟩, ⟨ww1, fun s hs => (ww2 s hs).2, ww3⟩, ⟨k1, fun s hs => (k2 s hs).2, k3⟩, so, sf, sc⟩⟩
set_option maxRecDepth 100000 in
theorem sus_of {base : Nat} (v : Value) (d : DataW H) (p : List MemPlace) (k : DataW.Trod enc Tryz.prog W 0 (fun _ => true) true 22 v d p) (o : Value.okWide Tryz.prog W .any base 22 v) (hw : ∀ m ∈ d.weights Tryz.prog 22, m ≤ reachBytes) :
    ∃ (A : Option Addr) (cap : Nat) (l : List MU), v = .slice A l.length cap ∧ SusB W A l ∧ l.length ≤ maxLen := by
  obtain ⟨a0, len, cap, rfl⟩ := okWide_slice Tryz.underlying22 o
  obtain ⟨fuel, hk⟩ := k
  have i0 : Inhabited MU := ⟨⟨⟨#[]⟩, none, 0, [], none, 0, [], none, 0, [], ⟨none, 0, [], none, 0, [], none, 0, []⟩⟩⟩
  obtain ⟨A, c, l, e, ht, hq, hle, hm, _⟩ := wide_of (u := .slice a0 len cap) (x := (d, p)) (B := reachBytes) rowS (fun u => SumM W u ∧ SumB reachBytes u) Tryz.underlying22 cSu (by decide) (fun _ => rfl) (fun n cs y => su_el n cs y) hk hw
  exact ⟨A, c, l, e, ⟨ht, fun u hu => (hq u hu).1, fun u hu => by rw [← reach_RB]; exact (hq u hu).2⟩, Nat.le_trans hle hm⟩
end
set_option maxRecDepth 100000 in
theorem pf_turned (H : Type) (enc : TypeId × Value → H) (W : World) {base : Nat} (v : Value) (d : DataW H) (p : List MemPlace) (k : DataW.Trod enc Tryz.prog W 0 (fun _ => true) true 22 v d p) (o : Value.okWide Tryz.prog W .any base 22 v) (hw : ∀ n ∈ d.weights Tryz.prog 22, n ≤ reachBytes) (htab : Tab W) :
    Calls Tryz.prog 4 #[v] W (WKP W) := by
  obtain ⟨A, cap, l, rfl, hs, hl⟩ := sus_of v d p k o hw
  exact law_turned held_sf held_mk W A cap l hs hl htab
end Go.Proofs.YtlkboeajkgbnaaaGreatDoor.ym
