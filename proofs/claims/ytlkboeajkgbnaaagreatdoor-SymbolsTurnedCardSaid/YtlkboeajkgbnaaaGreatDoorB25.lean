import Derived.Test.YtlkboeajkgbnaaaGreatDoorB14
import Derived.Test.YtlkboeajkgbnaaaGreatDoorB27
set_option linter.all false
set_option maxHeartbeats 4000000
namespace Go.Proofs.YtlkboeajkgbnaaaGreatDoor.sf
open Go.RowKit Go.Sort Go.Proofs.YtlkboeajkgbnaaaGreatDoor.mem Go.Proofs.YtlkboeajkgbnaaaGreatDoor.sy Go.Proofs.YtlkboeajkgbnaaaGreatDoor.dg
open Go.Proofs.YtlkboeajkgbnaaaGreatDoor.re (tx SumM MU SU)
open Go.Proofs.YtlkboeajkgbnaaaGreatDoor.nm (Tab tab_below)
def namesL (u : SU) : List (List UInt8) := u.sys.objs.map (fun o => tx o.name) ++ u.sys.fns.map (fun f => tx f.name)
def inD (u : SU) (s : ByteArray) : Bool := decide (tx s ∈ namesL u)
def inW (u : SU) (s : ByteArray) : Bool := decide (tx s ∈ u.wants.map tx)
def orE (b : Bool) (c : Int) : Int := if b then 0 else c
noncomputable def esC (u : SU) : List Int := [orE (nameB u.name) 11, checkE u.sys, orE (risB (u.gives.map tx)) 13, orE (u.gives.all (inD u)) 7, orE (risB (u.wants.map tx)) 13, orE (u.wants.all (inD u)) 7, orE (u.gives.all (fun s => !inW u s)) 8, orE (decide (u.keeps.length ≤ 6000)) 4, orE (risB (u.keeps.map tx)) 13, orE (u.keeps.all nodeB) 11]
structure SumK (w : World) (u : MU) : Prop where
  m : SumM w u
  n : u.name.size ≤ maxLen
  gl : u.gives.length ≤ 1000000
  wl : u.wants.length ≤ 900000
  kl : u.keeps.length ≤ 1000000
  ol : u.s.os.length + u.s.fs.length ≤ 900000
  gs : ∀ s ∈ u.gives, s.size ≤ maxLen
  ws : ∀ s ∈ u.wants, s.size ≤ maxLen
  ks : ∀ s ∈ u.keeps, s.size ≤ maxLen
theorem SumK.below {w w' : World} {u : MU} (h : SumK w u) (hb : Below w.heap.size w w') : SumK w' u := ⟨h.m.below hb, h.n, h.gl, h.wl, h.kl, h.ol, h.gs, h.ws, h.ks⟩
theorem wf_tx {s : ByteArray} (h : s.size ≤ maxLen) : ins.WF (tx s) := h
theorem foldl_take {α β : Type} (f : β → α → β) (l : List α) (b : β) {k : Nat} (hk : k < l.length) : (l.take (k + 1)).foldl f b = f ((l.take k).foldl f b) l[k] := by
  rw [List.take_succ_eq_append_getElem hk, List.foldl_append]
  rfl
theorem t2_new (W1 : World) : T2 W1 W1.heap.size (W1.heap.size + 1) 0 0 [] [] ((W1.alloc (.cells #[.map none, .slice none 0 0] 48)).alloc (.cells #[.map none, .slice none 0 0] 48)) := by
  have hz : (W1.alloc (.cells #[.map none, .slice none 0 0] 48)).heap.size = W1.heap.size + 1 := Array.size_push _
  have t1 := (ins.ts_new W1).kept ((Fr.refl [] _).alloc (.cells #[.map none, .slice none 0 0] 48)) (by simp)
  have t2 := ins.ts_new (W1.alloc (.cells #[.map none, .slice none 0 0] 48))
  rw [hz] at t2
  have hs : ((W1.alloc (.cells #[.map none, .slice none 0 0] 48)).alloc (.cells #[.map none, .slice none 0 0] 48)).heap.size = W1.heap.size + 2 := by
    show (Array.push _ _).size = _
    rw [Array.size_push, hz]
  refine ⟨none, 0, none, none, 0, none, t1, t2, fun g hg => ?_, fun g hg => ?_, (((Fr.refl [] W1).alloc _).alloc _).all⟩
  · have : g = W1.heap.size := by simpa [ins.foot, blk] using hg
    subst this
    refine ⟨Nat.le_refl _, by omega, fun h => ?_⟩
    have : W1.heap.size = W1.heap.size + 1 := by simpa [ins.foot, blk] using h
    omega
  · have : g = W1.heap.size + 1 := by simpa [ins.foot, blk] using hg
    subst this
    exact ⟨by omega, by omega⟩
theorem T2.be {W w : World} {b1 b2 n1 n2 : Nat} {d e : List (List UInt8)} (h : T2 W b1 b2 n1 n2 d e w) : Below W.heap.size W w := by
  obtain ⟨_, _, _, _, _, _, _, _, _, _, b⟩ := h
  exact b
set_option maxRecDepth 100000 in
theorem scheck_any (w : World) (u : MU) (hu : SumK w u) (htab : Tab w) : Calls Tryz.prog 12 #[u.val] w (IPost (fst0 (esC u.su)) w) := by
  obtain ⟨W1, hW1⟩ : ∃ W1, Hid (W1 = w.alloc (.cells u.row 43)) := ⟨_, Lib.hid rfl⟩
  have hz : (w.alloc (.cells u.row 43)).heap.size = w.heap.size + 1 := Array.size_push _
  have bW : Below w.heap.size w W1 := by rw [hW1.out]; exact (Below.refl _ _).alloc (Nat.le_refl _) _
  have B0 : Box W1 w.heap.size 43 u.row := by rw [hW1.out]; exact Box.new w _ _
  have hz1 : Hid (W1.heap.size = w.heap.size + 1) := Lib.hid (by rw [hW1.out]; exact hz)
  have T00 := t2_new W1
  rw [hz1.out] at T00
  have T0 := Lib.hid T00
  clear T00
  have HB := Lib.hid (fun w2 (b : Below W1.heap.size W1 w2) => B0.kept (Fr.of_below b []) (by simp))
  have HU := Lib.hid (fun w2 (b : Below W1.heap.size W1 w2) => (hu.below bW).below b)
  have HT := Lib.hid (fun w2 (b : Below W1.heap.size W1 w2) => tab_below (tab_below htab bW) b)
  have HP := Lib.hid (fun (w2 : World) (b : Below W1.heap.size W1 w2) => bW.trans (b.mono bW.size))
  have HD : Hid (∀ s, inD u.su s = decide (tx s ∈ ((u.s.os.map (fun o => tx o.o.name)) ++ u.s.fs.map (fun f => tx f.name)).foldl putL [])) := Lib.hid (fun s => by
    unfold inD namesL MU.su MS.sys
    rw [decide_eq_decide, mem_puts]
    simp [List.map_map])
  have HWn : Hid (∀ s, inW u.su s = decide (tx s ∈ (u.wants.map tx).foldl putL [])) := Lib.hid (fun s => by
    unfold inW MU.su
    rw [decide_eq_decide, mem_puts]
    simp)
  obtain ⟨V, hV⟩ : ∃ V, Hid (V = fst0 (esC u.su)) := ⟨_, Lib.hid rfl⟩
  obtain ⟨ON, hON⟩ : ∃ ON, Hid (ON = u.s.os.map (fun o => tx o.o.name)) := ⟨_, Lib.hid rfl⟩
  obtain ⟨FN, hFN⟩ : ∃ FN, Hid (FN = u.s.fs.map (fun f => tx f.name)) := ⟨_, Lib.hid rfl⟩
  obtain ⟨WN, hWN⟩ : ∃ WN, Hid (WN = u.wants.map tx) := ⟨_, Lib.hid rfl⟩
  rw [← hON.out, ← hFN.out] at HD
  rw [← hWN.out] at HWn
  rw [← hV.out]
  have hol := hu.ol
  have hwl := hu.wl
  clear hu htab bW B0
  obtain ⟨nm, gA, gc, gs, wA, wc, ws, kA, kc, ks, ⟨oA, oc, os, fA, fc, fs, cA, cc, cs⟩⟩ := u
  dsimp only at hol hwl hON hFN hWN
  have y4 := fun w2 b => (HB.out w2 b).cell 4
  have y5 := fun w2 b => (HB.out w2 b).cell 5
  have y2 := fun w2 b => (HB.out w2 b).cell 2
  unfold MU.val MU.row at *
  dsimp only at *
  simp only [List.getElem?_toArray, List.getElem?_cons_zero, List.getElem?_cons_succ] at y4 y5 y2
  have Y4 := Lib.hid y4
  have Y5 := Lib.hid y5
  have Y2 := Lib.hid y2
  clear y4 y5 y2
  have hzz : (W1.alloc (.cells #[.map none, .slice none 0 0] 48)).heap.size = W1.heap.size + 1 := Array.size_push _
  go_enter Tryz.func12, Tryz.ntmps12
  go_upto_region 2 with fail
  rw [← hW1.out]
  try rw [hzz]
  generalize (W1.alloc (.cells #[.map none, .slice none 0 0] 48)).alloc (.cells #[.map none, .slice none 0 0] 48) = W3 at *
  clear hzz hz hW1
  have z4 := Y4.out W3 T0.out.be
  have hONl : Hid (ON.length = os.length) := Lib.hid (by rw [hON.out, List.length_map])
  have hFNl : Hid (FN.length = fs.length) := Lib.hid (by rw [hFN.out, List.length_map])
  have hWNl : Hid (WN.length = ws.length) := Lib.hid (by rw [hWN.out, List.length_map])
  have T0' : Hid (T2 W1 (w.heap.size + 1) (w.heap.size + 1 + 1) 0 0 ((ON.take 0).foldl putL []) [] W3) := T0
  obtain ⟨no, hno⟩ : ∃ no, Hid (no = os.length) := ⟨_, Lib.hid rfl⟩
  obtain ⟨nf, hnf⟩ : ∃ nf, Hid (nf = fs.length) := ⟨_, Lib.hid rfl⟩
  obtain ⟨nw, hnw⟩ : ∃ nw, Hid (nw = ws.length) := ⟨_, Lib.hid rfl⟩
  rw [← hno.out] at z4 Y4 hol
  rw [← hnf.out] at Y5 hol
  rw [← hnw.out] at Y2 hwl
  try rw [← hno.out]
  clear T0
  go_wp2_with fail
  go_loopw [17] (fun i wr => ∃ k : Nat, k ≤ no ∧ i = .int .i64 k ∧ Hid (T2 W1 (w.heap.size + 1) (w.heap.size + 1 + 1) k 0 ((ON.take k).foldl putL []) [] wr)) (fun i _ => no - (intOf i).toNat)
  case atStart => exact ⟨0, by omega, rfl, T0'⟩
  case round =>
    obtain ⟨k, hk, rfl, HTk⟩ := hrel
    rename World => wr
    clear T0'
    by_cases hkl : k < no
    · have e1 : decide ((k : Int) < (no : Int)) = true := decide_eq_true (by omega)
      have hkx : k < os.length := by rw [← hno.out]; exact hkl
      have hkN : k < ON.length := by rw [hONl.out]; exact hkx
      have hU := HU.out wr HTk.out.be
      obtain ⟨g, off, rfl, hg, c0, c1, c2⟩ := tbl_obj hU.m.sr.o hkx
      have hx : ins.WF (tx os[k].o.name) := wf_tx (hU.m.sr.ok os[k] (List.getElem_mem hkx)).n
      have hnx := Lib.hid (foldl_take putL ON [] hkN)
      have hNk : Hid (ON[k] = tx os[k].o.name) := Lib.hid (by simp [hON.out])
      rw [hNk.out] at hnx
      have HT1 := HTk.out.below (w' := wr.alloc (.cells #[.string os[k].o.name, .string os[k].o.kinds, .slice os[k].mA os[k].o.marks.length os[k].mc] 70)) ((Fr.refl [] wr).alloc _).all
      have KP := Lib.hid (t2_put HT1 (tx os[k].o.name) hx (by omega))
      rw [enc_tx, ← hnx.out] at KP
      clear HT1 hNk hnx hx hU hg
      generalize os[k] = x at *
      obtain ⟨⟨xn, xk, xm⟩, xA, xc⟩ := x
      dsimp only at c0 c1 c2 KP
      generalize xm.length = xl at *
      go_wp2_with fail
      refine KP.out.mono ?_
      rintro e w2 ⟨⟨v, rfl⟩, ht⟩
      have HT2 := Lib.hid ht
      clear ht KP HTk c0 c1 c2
      go_wp2_with fail
      go_roundw
      case rel => exact ⟨k + 1, by omega, by go_num, HT2⟩
      case measure => simp [intOf]; omega
    · obtain rfl : k = no := by omega
      have e1 : decide ((k : Int) < (k : Int)) = false := decide_eq_false (by omega)
      have HT3 : Hid (T2 W1 (w.heap.size + 1) (w.heap.size + 1 + 1) k 0 ((ON ++ FN.take 0).foldl putL []) [] wr) := Lib.hid (by
        have h := HTk.out
        rw [List.take_of_length_le (by rw [hONl.out, ← hno.out]; exact Nat.le_refl _)] at h
        rw [List.take_zero, List.append_nil]
        exact h)
      have z5 := Y5.out wr HT3.out.be
      clear HTk
      go_wp2_with fail
      obtain ⟨kO, hkO⟩ : ∃ kO, Hid (kO = k) := ⟨_, Lib.hid rfl⟩
      rw [← hkO.out] at HT3
      go_loopw [29] (fun i wr => ∃ j : Nat, j ≤ nf ∧ i = .int .i64 j ∧ Hid (T2 W1 (w.heap.size + 1) (w.heap.size + 1 + 1) (kO + j) 0 ((ON ++ FN.take j).foldl putL []) [] wr)) (fun i _ => nf - (intOf i).toNat)
      case atStart => exact ⟨0, by omega, rfl, HT3⟩
      case round =>
        obtain ⟨j, hj, rfl, HTj⟩ := hrel
        clear HT3 z4 z5
        rename World => wr2
        by_cases hjl : j < nf
        · have e1 : decide ((j : Int) < (nf : Int)) = true := decide_eq_true (by omega)
          have hjx : j < fs.length := by rw [← hnf.out]; exact hjl
          have hjN : j < FN.length := by rw [hFNl.out]; exact hjx
          have hU := HU.out wr2 HTj.out.be
          obtain ⟨g, off, rfl, hg, c0, c1, c2⟩ := tbl_fn hU.m.sr.f hjx
          have hx : ins.WF (tx fs[j].name) := wf_tx (hU.m.sr.fk fs[j] (List.getElem_mem hjx)).n
          have hnx : Hid ((ON ++ FN.take (j + 1)).foldl putL [] = putL ((ON ++ FN.take j).foldl putL []) FN[j]) := Lib.hid (by
            rw [List.take_succ_eq_append_getElem hjN, ← List.append_assoc, List.foldl_append]
            rfl)
          have hNk : Hid (FN[j] = tx fs[j].name) := Lib.hid (by simp [hFN.out])
          rw [hNk.out] at hnx
          have HT1 := HTj.out.below (w' := wr2.alloc (.cells #[.string fs[j].name, .string fs[j].kinds, .string fs[j].ret] 72)) ((Fr.refl [] wr2).alloc _).all
          have KP := Lib.hid (t2_put HT1 (tx fs[j].name) hx (by have := hkO.out; omega))
          rw [enc_tx, ← hnx.out] at KP
          clear HT1 hNk hnx hx hU hg
          generalize fs[j] = x at *
          obtain ⟨xn, xk, xr⟩ := x
          dsimp only at c0 c1 c2 KP
          go_wp2_with fail
          refine KP.out.mono ?_
          rintro e w2 ⟨⟨v, rfl⟩, ht⟩
          have HT2 := Lib.hid ht
          clear ht KP HTj c0 c1 c2
          go_wp2_with fail
          go_roundw
          case rel => exact ⟨j + 1, by omega, by go_num, HT2⟩
          case measure => simp [intOf]; omega
        · obtain rfl : j = nf := by omega
          have e1 : decide ((j : Int) < (j : Int)) = false := decide_eq_false (by omega)
          obtain ⟨D, hD⟩ : ∃ D, Hid (D = (ON ++ FN).foldl putL []) := ⟨_, Lib.hid rfl⟩
          rw [← hD.out] at HD
          have HT4 : Hid (T2 W1 (w.heap.size + 1 + 1) (w.heap.size + 1) 0 (kO + j) ((WN.take 0).foldl putL []) D wr2) := Lib.hid (by
            have h := HTj.out
            rw [List.take_of_length_le (by rw [hFNl.out, ← hnf.out]; exact Nat.le_refl _), ← hD.out] at h
            exact h.swap)
          have z2 := Y2.out wr2 HT4.out.be
          clear HTj
          go_wp2_with fail
          obtain ⟨nD, hnD⟩ : ∃ nD, Hid (nD = kO + j) := ⟨_, Lib.hid rfl⟩
          rw [← hnD.out] at HT4
          go_loopw [40] (fun i wr => ∃ q : Nat, q ≤ nw ∧ i = .int .i64 q ∧ Hid (T2 W1 (w.heap.size + 1 + 1) (w.heap.size + 1) q nD ((WN.take q).foldl putL []) D wr)) (fun i _ => nw - (intOf i).toNat)
          case atStart => exact ⟨0, by omega, rfl, HT4⟩
          case round =>
            obtain ⟨q, hq, rfl, HTq⟩ := hrel
            clear HT4 z2
            rename World => wr3
            by_cases hql : q < nw
            · have e1 : decide ((q : Int) < (nw : Int)) = true := decide_eq_true (by omega)
              have hqx : q < ws.length := by rw [← hnw.out]; exact hql
              have hqN : q < WN.length := by rw [hWNl.out]; exact hqx
              have hU := HU.out wr3 HTq.out.be
              obtain ⟨g, off, rfl, hgl, hc⟩ := hU.m.wr (by rw [List.length_map]; exact Nat.lt_of_le_of_lt (Nat.zero_le _) hqx)
              have c0 := hc q (by rw [List.length_map]; exact hqx)
              rw [List.getElem_map] at c0
              have hx : ins.WF (tx ws[q]) := wf_tx (hU.ws ws[q] (List.getElem_mem hqx))
              have hnx := Lib.hid (foldl_take putL WN [] hqN)
              have hNk : Hid (WN[q] = tx ws[q]) := Lib.hid (by simp [hWN.out])
              rw [hNk.out] at hnx
              have KP := Lib.hid (t2_put HTq.out (tx ws[q]) hx (by omega))
              rw [enc_tx, ← hnx.out] at KP
              clear hNk hnx hx hU hgl hc
              generalize ws[q] = x at *
              go_wp2_with fail
              refine KP.out.mono ?_
              rintro e w2 ⟨⟨v, rfl⟩, ht⟩
              have HT2 := Lib.hid ht
              clear ht KP HTq c0
              go_wp2_with fail
              go_roundw
              case rel => exact ⟨q + 1, by omega, by go_num, HT2⟩
              case measure => simp [intOf]; omega
            · obtain rfl : q = nw := by omega
              have e1 : decide ((q : Int) < (q : Int)) = false := decide_eq_false (by omega)
              obtain ⟨E, hE⟩ : ∃ E, Hid (E = WN.foldl putL []) := ⟨_, Lib.hid rfl⟩
              rw [← hE.out] at HWn
              have HT5 : Hid (T2 W1 (w.heap.size + 1) (w.heap.size + 1 + 1) nD q D E wr3) := Lib.hid (by
                have h := HTq.out
                rw [List.take_of_length_le (by rw [hWNl.out, ← hnw.out]; exact Nat.le_refl _), ← hE.out] at h
                exact h.swap)
              clear HTq hON hFN hWN hONl hFNl hWNl hD hE
              go_wp2_with fail
              rename_i K0 hK
              have hU := HU.out wr3 HT5.out.be
              have hBx := HB.out wr3 HT5.out.be
              have hTb := HT.out wr3 HT5.out.be
              have HP3 := Lib.hid (HP.out wr3 HT5.out.be)
              have hF49 := check3_any wr3 w.heap.size ⟨nm, gA, gc, gs, wA, wc, ws, kA, kc, ks, ⟨oA, oc, os, fA, fc, fs, cA, cc, cs⟩⟩ hBx hU.n
              have hF51 := check4_any wr3 w.heap.size ⟨nm, gA, gc, gs, wA, wc, ws, kA, kc, ks, ⟨oA, oc, os, fA, fc, fs, cA, cc, cs⟩⟩ hBx hU.m.sr hTb
              have hF73 := check5_any wr3 w.heap.size ⟨nm, gA, gc, gs, wA, wc, ws, kA, kc, ks, ⟨oA, oc, os, fA, fc, fs, cA, cc, cs⟩⟩ hBx
              have hIsG := check1_any W1 wr3 _ _ _ _ D E HT5.out gs (fun s hs => wf_tx (hU.gs s hs))
              have hIsW := check1_any W1 wr3 _ _ _ _ D E HT5.out ws (fun s hs => wf_tx (hU.ws s hs))
              have hAlG := check2_any W1 wr3 _ _ _ _ E D HT5.out.swap gs (fun s hs => wf_tx (hU.gs s hs))
              have hNdK := node_f1 wr3 hTb ks hU.ks
              have HrG := Lib.hid (fun w2 (b : Below wr3.heap.size wr3 w2) => rising_any w2 gA gc gs (hU.m.gr.below b) hU.gl)
              have HrW := Lib.hid (fun w2 (b : Below wr3.heap.size wr3 w2) => rising_any w2 wA wc ws (hU.m.wr.below b) (Nat.le_trans hU.wl (by decide)))
              have HrK := Lib.hid (fun w2 (b : Below wr3.heap.size wr3 w2) => rising_any w2 kA kc ks (hU.m.kr.below b) hU.kl)
              have HaG := Lib.hid (fun w2 (b : Below wr3.heap.size wr3 w2) => all_any w2 gA gc _ gs _ (hIsG.below b) (hU.m.gr.below b) (Nat.le_trans hU.gl (by decide)))
              have HaW := Lib.hid (fun w2 (b : Below wr3.heap.size wr3 w2) => all_any w2 wA wc _ ws _ (hIsW.below b) (hU.m.wr.below b) (Nat.le_trans hU.wl (by decide)))
              have HaL := Lib.hid (fun w2 (b : Below wr3.heap.size wr3 w2) => all_any w2 gA gc _ gs _ (hAlG.below b) (hU.m.gr.below b) (Nat.le_trans hU.gl (by decide)))
              have HaK := Lib.hid (fun w2 (b : Below wr3.heap.size wr3 w2) => all_any w2 kA kc _ ks _ (hNdK.below b) (hU.m.kr.below b) (Nat.le_trans hU.kl (by decide)))
              have HY := Lib.hid (fun w2 (b : Below wr3.heap.size wr3 w2) => hBx.kept (Fr.of_below b []) (by simp))
              have H49 := Lib.hid hF49
              have H51 := Lib.hid hF51
              have H73 := Lib.hid hF73
              have hVe := hV.out
              rw [show esC _ = [orE (nameB nm) 11, checkE _, orE (risB (gs.map tx)) 13, orE (gs.all (inD _)) 7, orE (risB (ws.map tx)) 13, orE (ws.all (inD _)) 7, orE (gs.all (fun s => !inW _ s)) 8, orE (decide (ks.length ≤ 6000)) 4, orE (risB (ks.map tx)) 13, orE (ks.all nodeB) 11] from rfl, show inD _ = (fun s => decide (tx s ∈ D)) from funext HD.out, show (fun s => !inW _ s) = (fun s => !decide (tx s ∈ E)) from funext (fun s => by rw [HWn.out s])] at hVe
              have HV := Lib.hid hVe
              clear hVe hV hU hBx hTb hF49 hF51 hF73 hIsG hIsW hAlG hNdK HD HWn HU HB HT HP HT5 Y4 Y5 Y2
              dsimp only [MU.su, MS.sys] at HV H49 H51 H73
              generalize nameB nm = nB at *
              generalize checkE _ = ce at *
              generalize risB (gs.map tx) = rg at *
              generalize risB (ws.map tx) = rw at *
              generalize risB (ks.map tx) = rk at *
              generalize (gs.all fun s => decide (tx s ∈ D)) = ga at *
              generalize (ws.all fun s => decide (tx s ∈ D)) = wa at *
              generalize (gs.all fun s => !decide (tx s ∈ E)) = gl at *
              generalize decide (ks.length ≤ 6000) = kn at *
              generalize ks.all nodeB = kl at *
              obtain ⟨es, hes⟩ : ∃ es, Hid (es = [orE nB 11, ce, orE rg 13, orE ga 7, orE rw 13, orE wa 7, orE gl 8, orE kn 4, orE rk 13, orE kl 11]) := ⟨_, Lib.hid rfl⟩
              rw [← hes.out] at HV
              refine region_tb [(49, sF (.bool nB)), (50, sF (.int .i64 (orE nB 11))), (51, sF (.int .i64 ce)), (52, sEq (Value.pointer (some ⟨w.heap.size, 1, none⟩))), (53, sEq (Value.slice gA gs.length gc)), (54, sF (.int .i64 (orE rg 13))), (55, sEq (Value.pointer (some ⟨w.heap.size, 1, none⟩))), (56, sEq (Value.slice gA gs.length gc)), (57, sEq (Value.func (Fn.func 25) #[] #[Value.pointer (some ⟨w.heap.size + 1, 0, none⟩)])), (58, sF (.bool ga)), (59, sF (.int .i64 (orE ga 7))), (60, sEq (Value.pointer (some ⟨w.heap.size, 2, none⟩))), (61, sEq (Value.slice wA ws.length wc)), (62, sF (.int .i64 (orE rw 13))), (63, sEq (Value.pointer (some ⟨w.heap.size, 2, none⟩))), (64, sEq (Value.slice wA ws.length wc)), (65, sEq (Value.func (Fn.func 25) #[] #[Value.pointer (some ⟨w.heap.size + 1, 0, none⟩)])), (66, sF (.bool wa)), (67, sF (.int .i64 (orE wa 7))), (68, sEq (Value.pointer (some ⟨w.heap.size, 1, none⟩))), (69, sEq (Value.slice gA gs.length gc)), (70, sEq (Value.func (Fn.func 27) #[] #[Value.pointer (some ⟨w.heap.size + 1 + 1, 0, none⟩)])), (71, sF (.bool gl)), (72, sF (.int .i64 (orE gl 8))), (73, sF (.bool kn)), (74, sF (.int .i64 (orE kn 4))), (75, sEq (Value.pointer (some ⟨w.heap.size, 3, none⟩))), (76, sEq (Value.slice kA ks.length kc)), (77, sF (.int .i64 (orE rk 13))), (78, sEq (Value.pointer (some ⟨w.heap.size, 3, none⟩))), (79, sEq (Value.slice kA ks.length kc)), (80, sF (.bool kl)), (81, sF (.int .i64 (orE kl 11))), (82, sL es), (83, sEq (.int .i64 (fst0 es))), (2, sEq (.int .i64 (fst0 es)))] [0, 1, 2, 3, 4, 5, 6, 7, 8, 9, 10, 11, 12, 13, 14, 15, 16, 17, 18, 19, 20, 21, 22, 23, 24, 25, 26, 27, 28, 29, 30, 31, 32, 33, 34, 35] rfl ?_ (by kernel_rfl) (by kernel_rfl) (by kernel_rfl) ⟨?_, ?_, ?_, ?_, ?_, ?_, ?_, ?_, ?_, ?_, ?_, ?_, ?_, ?_, ?_, ?_, ?_, ?_, ?_, ?_, ?_, ?_, ?_, ?_, ?_, ?_, ?_, ?_, ?_, ?_, ?_, ?_, ?_, ?_, ?_, ?_, trivial⟩ ?_
              · intro x hx
                simp only [List.mem_cons, List.mem_nil_iff, or_false] at hx
                rcases hx with rfl | rfl | rfl | rfl | rfl | rfl | rfl | rfl | rfl | rfl | rfl | rfl | rfl | rfl | rfl | rfl | rfl | rfl | rfl | rfl | rfl | rfl | rfl | rfl | rfl | rfl | rfl | rfl | rfl | rfl | rfl | rfl | rfl | rfl | rfl | rfl <;> first | exact sEq_stab _ | exact sF_stab _ | exact sL_stab _
              · intro a w2 hL b hw
                have e1 : a.eval (.tmp 1) = Value.pointer (some ⟨w.heap.size, 0, none⟩) := hL.e 1 (by kernel_rfl)
                exact op_fn (Value.func (Fn.func 30) #[] #[Value.pointer (some ⟨w.heap.size, 0, none⟩)]) (.bool nB) rfl rfl rfl rfl (x_fn rfl e1) (H49.out.below b)
              · intro a w2 hL b hw
                have hf : F0 w2 (a.eval (.tmp 49)) (.bool nB) := hw 49 (by kernel_rfl)
                exact op_np rfl rfl rfl rfl rfl (fun args w => by go_simp) (vs := #[a.eval (.tmp 49), .int .i64 11]) (by simp only [List.map_toArray, List.map_cons, List.map_nil]; first | done | rfl) rfl (need_any w2 _ nB 11 hf)
              · intro a w2 hL b hw
                have e1 : a.eval (.tmp 1) = Value.pointer (some ⟨w.heap.size, 0, none⟩) := hL.e 1 (by kernel_rfl)
                exact op_fn (Value.func (Fn.func 32) #[] #[Value.pointer (some ⟨w.heap.size, 0, none⟩)]) (.int .i64 ce) rfl rfl rfl rfl (x_fn rfl e1) (H51.out.below b)
              · intro a w2 hL b hw
                have e1 : a.eval (.tmp 1) = Value.pointer (some ⟨w.heap.size, 0, none⟩) := hL.e 1 (by kernel_rfl)
                exact op_eq (Value.pointer (some ⟨w.heap.size, 1, none⟩)) rfl rfl rfl rfl (x_fld rfl e1 (by go_simp))
              · intro a w2 hL b hw
                have h52 : a.eval (.tmp 52) = Value.pointer (some ⟨w.heap.size, 1, none⟩) := hw 52 (by kernel_rfl)
                have y : w2.cell? ⟨w.heap.size, 1, none⟩ = some (Value.slice gA gs.length gc) := (HY.out w2 b).cell 1
                exact op_eq (Value.slice gA gs.length gc) rfl rfl rfl rfl (x_ld rfl h52 (by clear hw; go_simp))
              · intro a w2 hL b hw
                have h53 : a.eval (.tmp 53) = Value.slice gA gs.length gc := hw 53 (by kernel_rfl)
                exact op_np rfl rfl rfl rfl rfl (fun args w => by go_simp) (vs := #[Value.slice gA gs.length gc]) (by simp only [List.map_toArray, List.map_cons, List.map_nil, h53]; first | done | rfl) rfl (HrG.out w2 b)
              · intro a w2 hL b hw
                have e1 : a.eval (.tmp 1) = Value.pointer (some ⟨w.heap.size, 0, none⟩) := hL.e 1 (by kernel_rfl)
                exact op_eq (Value.pointer (some ⟨w.heap.size, 1, none⟩)) rfl rfl rfl rfl (x_fld rfl e1 (by go_simp))
              · intro a w2 hL b hw
                have h55 : a.eval (.tmp 55) = Value.pointer (some ⟨w.heap.size, 1, none⟩) := hw 55 (by kernel_rfl)
                have y : w2.cell? ⟨w.heap.size, 1, none⟩ = some (Value.slice gA gs.length gc) := (HY.out w2 b).cell 1
                exact op_eq (Value.slice gA gs.length gc) rfl rfl rfl rfl (x_ld rfl h55 (by clear hw; go_simp))
              · intro a w2 hL b hw
                have e1 : a.eval (.tmp 11) = Value.func (Fn.func 25) #[] #[Value.pointer (some ⟨w.heap.size + 1, 0, none⟩)] := hL.e 11 (by kernel_rfl)
                exact op_eq (Value.func (Fn.func 25) #[] #[Value.pointer (some ⟨w.heap.size + 1, 0, none⟩)]) rfl rfl rfl rfl (x_mv rfl e1)
              · intro a w2 hL b hw
                have h56 : a.eval (.tmp 56) = Value.slice gA gs.length gc := hw 56 (by kernel_rfl)
                have h57 : a.eval (.tmp 57) = Value.func (Fn.func 25) #[] #[Value.pointer (some ⟨w.heap.size + 1, 0, none⟩)] := hw 57 (by kernel_rfl)
                exact op_np rfl rfl rfl rfl rfl (fun args w => by go_simp) (vs := #[Value.slice gA gs.length gc, Value.func (Fn.func 25) #[] #[Value.pointer (some ⟨w.heap.size + 1, 0, none⟩)]]) (by simp only [List.map_toArray, List.map_cons, List.map_nil, h56, h57]; first | done | rfl) rfl (HaG.out w2 b)
              · intro a w2 hL b hw
                have hf : F0 w2 (a.eval (.tmp 58)) (.bool ga) := hw 58 (by kernel_rfl)
                exact op_np rfl rfl rfl rfl rfl (fun args w => by go_simp) (vs := #[a.eval (.tmp 58), .int .i64 7]) (by simp only [List.map_toArray, List.map_cons, List.map_nil]; first | done | rfl) rfl (need_any w2 _ ga 7 hf)
              · intro a w2 hL b hw
                have e1 : a.eval (.tmp 1) = Value.pointer (some ⟨w.heap.size, 0, none⟩) := hL.e 1 (by kernel_rfl)
                exact op_eq (Value.pointer (some ⟨w.heap.size, 2, none⟩)) rfl rfl rfl rfl (x_fld rfl e1 (by go_simp))
              · intro a w2 hL b hw
                have h60 : a.eval (.tmp 60) = Value.pointer (some ⟨w.heap.size, 2, none⟩) := hw 60 (by kernel_rfl)
                have y : w2.cell? ⟨w.heap.size, 2, none⟩ = some (Value.slice wA ws.length wc) := (HY.out w2 b).cell 2
                exact op_eq (Value.slice wA ws.length wc) rfl rfl rfl rfl (x_ld rfl h60 (by clear hw; go_simp))
              · intro a w2 hL b hw
                have h61 : a.eval (.tmp 61) = Value.slice wA ws.length wc := hw 61 (by kernel_rfl)
                exact op_np rfl rfl rfl rfl rfl (fun args w => by go_simp) (vs := #[Value.slice wA ws.length wc]) (by simp only [List.map_toArray, List.map_cons, List.map_nil, h61]; first | done | rfl) rfl (HrW.out w2 b)
              · intro a w2 hL b hw
                have e1 : a.eval (.tmp 1) = Value.pointer (some ⟨w.heap.size, 0, none⟩) := hL.e 1 (by kernel_rfl)
                exact op_eq (Value.pointer (some ⟨w.heap.size, 2, none⟩)) rfl rfl rfl rfl (x_fld rfl e1 (by go_simp))
              · intro a w2 hL b hw
                have h63 : a.eval (.tmp 63) = Value.pointer (some ⟨w.heap.size, 2, none⟩) := hw 63 (by kernel_rfl)
                have y : w2.cell? ⟨w.heap.size, 2, none⟩ = some (Value.slice wA ws.length wc) := (HY.out w2 b).cell 2
                exact op_eq (Value.slice wA ws.length wc) rfl rfl rfl rfl (x_ld rfl h63 (by clear hw; go_simp))
              · intro a w2 hL b hw
                have e1 : a.eval (.tmp 11) = Value.func (Fn.func 25) #[] #[Value.pointer (some ⟨w.heap.size + 1, 0, none⟩)] := hL.e 11 (by kernel_rfl)
                exact op_eq (Value.func (Fn.func 25) #[] #[Value.pointer (some ⟨w.heap.size + 1, 0, none⟩)]) rfl rfl rfl rfl (x_mv rfl e1)
              · intro a w2 hL b hw
                have h64 : a.eval (.tmp 64) = Value.slice wA ws.length wc := hw 64 (by kernel_rfl)
                have h65 : a.eval (.tmp 65) = Value.func (Fn.func 25) #[] #[Value.pointer (some ⟨w.heap.size + 1, 0, none⟩)] := hw 65 (by kernel_rfl)
                exact op_np rfl rfl rfl rfl rfl (fun args w => by go_simp) (vs := #[Value.slice wA ws.length wc, Value.func (Fn.func 25) #[] #[Value.pointer (some ⟨w.heap.size + 1, 0, none⟩)]]) (by simp only [List.map_toArray, List.map_cons, List.map_nil, h64, h65]; first | done | rfl) rfl (HaW.out w2 b)
              · intro a w2 hL b hw
                have hf : F0 w2 (a.eval (.tmp 66)) (.bool wa) := hw 66 (by kernel_rfl)
                exact op_np rfl rfl rfl rfl rfl (fun args w => by go_simp) (vs := #[a.eval (.tmp 66), .int .i64 7]) (by simp only [List.map_toArray, List.map_cons, List.map_nil]; first | done | rfl) rfl (need_any w2 _ wa 7 hf)
              · intro a w2 hL b hw
                have e1 : a.eval (.tmp 1) = Value.pointer (some ⟨w.heap.size, 0, none⟩) := hL.e 1 (by kernel_rfl)
                exact op_eq (Value.pointer (some ⟨w.heap.size, 1, none⟩)) rfl rfl rfl rfl (x_fld rfl e1 (by go_simp))
              · intro a w2 hL b hw
                have h68 : a.eval (.tmp 68) = Value.pointer (some ⟨w.heap.size, 1, none⟩) := hw 68 (by kernel_rfl)
                have y : w2.cell? ⟨w.heap.size, 1, none⟩ = some (Value.slice gA gs.length gc) := (HY.out w2 b).cell 1
                exact op_eq (Value.slice gA gs.length gc) rfl rfl rfl rfl (x_ld rfl h68 (by clear hw; go_simp))
              · intro a w2 hL b hw
                have e1 : a.eval (.tmp 12) = Value.func (Fn.func 27) #[] #[Value.pointer (some ⟨w.heap.size + 1 + 1, 0, none⟩)] := hL.e 12 (by kernel_rfl)
                exact op_eq (Value.func (Fn.func 27) #[] #[Value.pointer (some ⟨w.heap.size + 1 + 1, 0, none⟩)]) rfl rfl rfl rfl (x_mv rfl e1)
              · intro a w2 hL b hw
                have h69 : a.eval (.tmp 69) = Value.slice gA gs.length gc := hw 69 (by kernel_rfl)
                have h70 : a.eval (.tmp 70) = Value.func (Fn.func 27) #[] #[Value.pointer (some ⟨w.heap.size + 1 + 1, 0, none⟩)] := hw 70 (by kernel_rfl)
                exact op_np rfl rfl rfl rfl rfl (fun args w => by go_simp) (vs := #[Value.slice gA gs.length gc, Value.func (Fn.func 27) #[] #[Value.pointer (some ⟨w.heap.size + 1 + 1, 0, none⟩)]]) (by simp only [List.map_toArray, List.map_cons, List.map_nil, h69, h70]; first | done | rfl) rfl (HaL.out w2 b)
              · intro a w2 hL b hw
                have hf : F0 w2 (a.eval (.tmp 71)) (.bool gl) := hw 71 (by kernel_rfl)
                exact op_np rfl rfl rfl rfl rfl (fun args w => by go_simp) (vs := #[a.eval (.tmp 71), .int .i64 8]) (by simp only [List.map_toArray, List.map_cons, List.map_nil]; first | done | rfl) rfl (need_any w2 _ gl 8 hf)
              · intro a w2 hL b hw
                have e1 : a.eval (.tmp 1) = Value.pointer (some ⟨w.heap.size, 0, none⟩) := hL.e 1 (by kernel_rfl)
                exact op_fn (Value.func (Fn.func 36) #[] #[Value.pointer (some ⟨w.heap.size, 0, none⟩)]) (.bool kn) rfl rfl rfl rfl (x_fn rfl e1) (H73.out.below b)
              · intro a w2 hL b hw
                have hf : F0 w2 (a.eval (.tmp 73)) (.bool kn) := hw 73 (by kernel_rfl)
                exact op_np rfl rfl rfl rfl rfl (fun args w => by go_simp) (vs := #[a.eval (.tmp 73), .int .i64 4]) (by simp only [List.map_toArray, List.map_cons, List.map_nil]; first | done | rfl) rfl (need_any w2 _ kn 4 hf)
              · intro a w2 hL b hw
                have e1 : a.eval (.tmp 1) = Value.pointer (some ⟨w.heap.size, 0, none⟩) := hL.e 1 (by kernel_rfl)
                exact op_eq (Value.pointer (some ⟨w.heap.size, 3, none⟩)) rfl rfl rfl rfl (x_fld rfl e1 (by go_simp))
              · intro a w2 hL b hw
                have h75 : a.eval (.tmp 75) = Value.pointer (some ⟨w.heap.size, 3, none⟩) := hw 75 (by kernel_rfl)
                have y : w2.cell? ⟨w.heap.size, 3, none⟩ = some (Value.slice kA ks.length kc) := (HY.out w2 b).cell 3
                exact op_eq (Value.slice kA ks.length kc) rfl rfl rfl rfl (x_ld rfl h75 (by clear hw; go_simp))
              · intro a w2 hL b hw
                have h76 : a.eval (.tmp 76) = Value.slice kA ks.length kc := hw 76 (by kernel_rfl)
                exact op_np rfl rfl rfl rfl rfl (fun args w => by go_simp) (vs := #[Value.slice kA ks.length kc]) (by simp only [List.map_toArray, List.map_cons, List.map_nil, h76]; first | done | rfl) rfl (HrK.out w2 b)
              · intro a w2 hL b hw
                have e1 : a.eval (.tmp 1) = Value.pointer (some ⟨w.heap.size, 0, none⟩) := hL.e 1 (by kernel_rfl)
                exact op_eq (Value.pointer (some ⟨w.heap.size, 3, none⟩)) rfl rfl rfl rfl (x_fld rfl e1 (by go_simp))
              · intro a w2 hL b hw
                have h78 : a.eval (.tmp 78) = Value.pointer (some ⟨w.heap.size, 3, none⟩) := hw 78 (by kernel_rfl)
                have y : w2.cell? ⟨w.heap.size, 3, none⟩ = some (Value.slice kA ks.length kc) := (HY.out w2 b).cell 3
                exact op_eq (Value.slice kA ks.length kc) rfl rfl rfl rfl (x_ld rfl h78 (by clear hw; go_simp))
              · intro a w2 hL b hw
                have h79 : a.eval (.tmp 79) = Value.slice kA ks.length kc := hw 79 (by kernel_rfl)
                exact op_np rfl rfl rfl rfl rfl (fun args w => by go_simp) (vs := #[Value.slice kA ks.length kc, Value.func (Fn.func 37) #[] #[]]) (by simp only [List.map_toArray, List.map_cons, List.map_nil, h79]; first | done | rfl) rfl (HaK.out w2 b)
              · intro a w2 hL b hw
                have hf : F0 w2 (a.eval (.tmp 80)) (.bool kl) := hw 80 (by kernel_rfl)
                exact op_np rfl rfl rfl rfl rfl (fun args w => by go_simp) (vs := #[a.eval (.tmp 80), .int .i64 11]) (by simp only [List.map_toArray, List.map_cons, List.map_nil]; first | done | rfl) rfl (need_any w2 _ kl 11 hf)
              · intro a w2 hL b hw
                have g50 : F0 w2 (a.eval (.tmp 50)) (.int .i64 (orE nB 11)) := hw 50 (by kernel_rfl)
                obtain ⟨f50, p50, e50, _⟩ := id g50
                rw [e50] at g50
                have g51 : F0 w2 (a.eval (.tmp 51)) (.int .i64 ce) := hw 51 (by kernel_rfl)
                obtain ⟨f51, p51, e51, _⟩ := id g51
                rw [e51] at g51
                have g54 : F0 w2 (a.eval (.tmp 54)) (.int .i64 (orE rg 13)) := hw 54 (by kernel_rfl)
                obtain ⟨f54, p54, e54, _⟩ := id g54
                rw [e54] at g54
                have g59 : F0 w2 (a.eval (.tmp 59)) (.int .i64 (orE ga 7)) := hw 59 (by kernel_rfl)
                obtain ⟨f59, p59, e59, _⟩ := id g59
                rw [e59] at g59
                have g62 : F0 w2 (a.eval (.tmp 62)) (.int .i64 (orE rw 13)) := hw 62 (by kernel_rfl)
                obtain ⟨f62, p62, e62, _⟩ := id g62
                rw [e62] at g62
                have g67 : F0 w2 (a.eval (.tmp 67)) (.int .i64 (orE wa 7)) := hw 67 (by kernel_rfl)
                obtain ⟨f67, p67, e67, _⟩ := id g67
                rw [e67] at g67
                have g72 : F0 w2 (a.eval (.tmp 72)) (.int .i64 (orE gl 8)) := hw 72 (by kernel_rfl)
                obtain ⟨f72, p72, e72, _⟩ := id g72
                rw [e72] at g72
                have g74 : F0 w2 (a.eval (.tmp 74)) (.int .i64 (orE kn 4)) := hw 74 (by kernel_rfl)
                obtain ⟨f74, p74, e74, _⟩ := id g74
                rw [e74] at g74
                have g77 : F0 w2 (a.eval (.tmp 77)) (.int .i64 (orE rk 13)) := hw 77 (by kernel_rfl)
                obtain ⟨f77, p77, e77, _⟩ := id g77
                rw [e77] at g77
                have g81 : F0 w2 (a.eval (.tmp 81)) (.int .i64 (orE kl 11)) := hw 81 (by kernel_rfl)
                obtain ⟨f81, p81, e81, _⟩ := id g81
                rw [e81] at g81
                have hes := hes.out
                have HB := Box.new w2 75 #[Value.func (.func f50) #[] p50, Value.func (.func f51) #[] p51, Value.func (.func f54) #[] p54, Value.func (.func f59) #[] p59, Value.func (.func f62) #[] p62, Value.func (.func f67) #[] p67, Value.func (.func f72) #[] p72, Value.func (.func f74) #[] p74, Value.func (.func f77) #[] p77, Value.func (.func f81) #[] p81]
                have hb : Below w2.heap.size w2 (w2.alloc (.cells #[Value.func (.func f50) #[] p50, Value.func (.func f51) #[] p51, Value.func (.func f54) #[] p54, Value.func (.func f59) #[] p59, Value.func (.func f62) #[] p62, Value.func (.func f67) #[] p67, Value.func (.func f72) #[] p72, Value.func (.func f74) #[] p74, Value.func (.func f77) #[] p77, Value.func (.func f81) #[] p81] 75)) := (Below.refl _ _).alloc (Nat.le_refl _) _
                have hr : (Instr.buildSlice 104 10 #[(0, Value.func (.func f50) #[] p50), (1, Value.func (.func f51) #[] p51), (2, Value.func (.func f54) #[] p54), (3, Value.func (.func f59) #[] p59), (4, Value.func (.func f62) #[] p62), (5, Value.func (.func f67) #[] p67), (6, Value.func (.func f72) #[] p72), (7, Value.func (.func f74) #[] p74), (8, Value.func (.func f77) #[] p77), (9, Value.func (.func f81) #[] p81)]).run Tryz.prog w2 = .ok (.slice (some ⟨w2.heap.size, 0, none⟩) 10 10) (w2.alloc (.cells #[Value.func (.func f50) #[] p50, Value.func (.func f51) #[] p51, Value.func (.func f54) #[] p54, Value.func (.func f59) #[] p59, Value.func (.func f62) #[] p62, Value.func (.func f67) #[] p67, Value.func (.func f72) #[] p72, Value.func (.func f74) #[] p74, Value.func (.func f77) #[] p77, Value.func (.func f81) #[] p81] 75)) := by
                  clear hw HB hb
                  go_simp
                refine wpOp_val (.slice (some ⟨w2.heap.size, 0, none⟩) 10 10) rfl rfl rfl (x_bs rfl (by simp only [List.map_toArray, List.map_cons, List.map_nil, e50, e51, e54, e59, e62, e67, e72, e74, e77, e81]) hr) ⟨_, rfl, ?_, hb⟩
                clear hw hr
                refine ⟨w2.heap.size, 10, [Value.func (.func f50) #[] p50, Value.func (.func f51) #[] p51, Value.func (.func f54) #[] p54, Value.func (.func f59) #[] p59, Value.func (.func f62) #[] p62, Value.func (.func f67) #[] p67, Value.func (.func f72) #[] p72, Value.func (.func f74) #[] p74, Value.func (.func f77) #[] p77, Value.func (.func f81) #[] p81], rfl, by rw [hes]; rfl, by simp, fun k hk => ?_, ?_⟩
                · rw [Nat.zero_add]
                  exact (HB.cell k).trans (by simp only [List.getElem?_toArray]; exact List.getElem?_eq_getElem hk)
                · subst hes
                  intro k hk he
                  have hk2 : k < 10 := hk
                  have hkk : k = 0 ∨ k = 1 ∨ k = 2 ∨ k = 3 ∨ k = 4 ∨ k = 5 ∨ k = 6 ∨ k = 7 ∨ k = 8 ∨ k = 9 := by omega
                  rcases hkk with rfl | rfl | rfl | rfl | rfl | rfl | rfl | rfl | rfl | rfl
                  · exact F0.below g50 hb
                  · exact F0.below g51 hb
                  · exact F0.below g54 hb
                  · exact F0.below g59 hb
                  · exact F0.below g62 hb
                  · exact F0.below g67 hb
                  · exact F0.below g72 hb
                  · exact F0.below g74 hb
                  · exact F0.below g77 hb
                  · exact F0.below g81 hb
              · intro a w2 hL b hw
                have h82 : sL es (a.eval (.tmp 82)) w2 := hw 82 (by kernel_rfl)
                obtain ⟨B, c, vs, e, hn, hl, hc, hf⟩ := h82
                exact op_ip rfl rfl rfl rfl rfl (fun args w => by go_simp) (vs := #[.slice (some ⟨B, 0, none⟩) vs.length c]) (by simp only [List.map_toArray, List.map_cons, List.map_nil, e]; first | done | rfl) rfl (steps_any w2 B 0 c vs es hn hc (fun k hk => hf k hk (by omega)) hl)
              · intro a w2 hL b hw
                have h83 : a.eval (.tmp 83) = Value.int .i64 (fst0 es) := hw 83 (by kernel_rfl)
                exact op_eq (.int .i64 (fst0 es)) rfl rfl rfl rfl (x_as rfl h83)
              · intro a w2 hL b hw
                have h2 : a.eval (.tmp 2) = .int .i64 (fst0 es) := hw 2 (by kernel_rfl)
                refine hK _ _ ?_
                refine wp_ret ?_
                refine bodyPost_ret (results_tmp rfl _ _ _) hL.d ?_
                exact ⟨by rw [HV.out]; exact congrArg Ending.returned h2, HP3.out.trans (b.mono HP3.out.size)⟩
end Go.Proofs.YtlkboeajkgbnaaaGreatDoor.sf
namespace Go.Proofs.YtlkboeajkgbnaaaGreatDoor.ym
open Go.RowKit Go.Proofs.YtlkboeajkgbnaaaGreatDoor.sy
open Go.Proofs.YtlkboeajkgbnaaaGreatDoor.re (tx SU)
open Go.Proofs.YtlkboeajkgbnaaaGreatDoor.sf (namesL)
def oZ : SO := ⟨⟨#[]⟩, ⟨#[]⟩, []⟩
def fZ : SF := ⟨⟨#[]⟩, ⟨#[]⟩, ⟨#[]⟩⟩
def mkUse (u : SU) (n : ByteArray) (o : SO) (f : SF) : Use := ⟨u.name, decide (tx n ∈ u.gives.map tx), decide (tx n ∈ u.wants.map tx), o, f⟩
def usesOf (u : SU) : List (List UInt8 × Use) := u.sys.objs.map (fun o => (tx o.name, mkUse u o.name o fZ)) ++ u.sys.fns.map (fun f => (tx f.name, mkUse u f.name oZ f))
def usesN (l : List (List UInt8 × Use)) (n : List UInt8) : List Use := (l.filter (fun p => decide (p.1 = n))).map (·.2)
def inU (u : SU) (n : List UInt8) : Option Use :=
  match u.sys.objs.find? (fun o => decide (tx o.name = n)) with
  | some o => some (mkUse u o.name o fZ)
  | none => (u.sys.fns.find? (fun f => decide (tx f.name = n))).map fun f => mkUse u f.name oZ f
theorem usesN_append (a b : List (List UInt8 × Use)) (n : List UInt8) : usesN (a ++ b) n = usesN a n ++ usesN b n := by unfold usesN; rw [List.filter_append, List.map_append]
theorem usesN_out (l : List (List UInt8 × Use)) (n : List UInt8) (h : n ∉ l.map (·.1)) : usesN l n = [] := by
  unfold usesN
  rw [List.filter_eq_nil_iff.2 (fun p hp => by simp only [decide_eq_true_eq]; intro e; exact h (List.mem_map.2 ⟨p, hp, e⟩))]
  rfl
theorem usesN_find : ∀ (l : List (List UInt8 × Use)) (n : List UInt8), (l.map (·.1)).Nodup → usesN l n = ((l.find? (fun p => decide (p.1 = n))).map (·.2)).toList := by
  intro l n
  induction l with
  | nil => intro _; rfl
  | cons p t ih =>
    intro h
    rw [List.map_cons, List.nodup_cons] at h
    by_cases e : p.1 = n
    · have hf : ((p :: t).find? (fun p => decide (p.1 = n))) = some p := by rw [List.find?_cons_of_pos]; simpa using e
      rw [hf]
      have ht : usesN t n = [] := usesN_out t n (by rw [← e]; exact h.1)
      show usesN ([p] ++ t) n = _
      rw [usesN_append, ht]
      unfold usesN
      simp [e]
    · have hf : ((p :: t).find? (fun p => decide (p.1 = n))) = t.find? (fun p => decide (p.1 = n)) := by rw [List.find?_cons_of_neg]; simpa using e
      rw [hf, ← ih h.2]
      show usesN ([p] ++ t) n = _
      rw [usesN_append]
      unfold usesN
      simp [e]
theorem usesOf_names (u : SU) : (usesOf u).map (·.1) = namesL u := by
  unfold usesOf namesL
  rw [List.map_append, List.map_map, List.map_map]; rfl
theorem uses_one (u : SU) (h : (namesL u).Nodup) (n : List UInt8) : usesN (usesOf u) n = (inU u n).toList := by
  rw [usesN_find _ _ (by rw [usesOf_names]; exact h)]
  congr 1
  unfold usesOf inU
  rw [List.find?_append, List.find?_map, List.find?_map]
  have g1 : u.sys.objs.find? ((fun p : List UInt8 × Use => decide (p.1 = n)) ∘ fun o => (tx o.name, mkUse u o.name o fZ)) = u.sys.objs.find? (fun o => decide (tx o.name = n)) := rfl
  have g2 : u.sys.fns.find? ((fun p : List UInt8 × Use => decide (p.1 = n)) ∘ fun f => (tx f.name, mkUse u f.name oZ f)) = u.sys.fns.find? (fun f => decide (tx f.name = n)) := rfl
  rw [g1, g2]
  cases h1 : u.sys.objs.find? (fun o => decide (tx o.name = n)) with
  | some o => simp
  | none => cases h2 : u.sys.fns.find? (fun f => decide (tx f.name = n)) <;> simp
def usesL (l : List SU) : List (List UInt8 × Use) := l.flatMap usesOf
theorem uses_all (n : List UInt8) : ∀ (l : List SU), (∀ u ∈ l, (namesL u).Nodup) → usesN (usesL l) n = l.filterMap (fun u => inU u n) := by
  intro l
  induction l with
  | nil => intro _; rfl
  | cons u t ih =>
    intro h
    show usesN (usesOf u ++ usesL t) n = _
    rw [usesN_append, ih (fun x hx => h x (List.mem_cons_of_mem _ hx)), uses_one u (h u (List.mem_cons_self)) n, List.filterMap_cons]
    cases inU u n <;> rfl
def putU (s : List (List UInt8) × List (List Use)) (p : List UInt8 × Use) : List (List UInt8) × List (List Use) :=
  if p.1 ∈ s.1 then (s.1, s.2.modify (s.1.idxOf p.1) (· ++ [p.2])) else (s.1 ++ [p.1], s.2 ++ [[p.2]])
def putAll (l : List (List UInt8 × Use)) : List (List UInt8) × List (List Use) := l.foldl putU ([], [])
theorem put_all (l : List (List UInt8 × Use)) : (putAll l).1.Nodup ∧ (∀ n, n ∈ (putAll l).1 ↔ n ∈ l.map (·.1)) ∧ (putAll l).2 = (putAll l).1.map (usesN l) := by
  have key : ∀ (t r : List (List UInt8 × Use)) (s : List (List UInt8) × List (List Use)), s.1.Nodup → (∀ n, n ∈ s.1 ↔ n ∈ r.map (·.1)) → s.2 = s.1.map (usesN r) →
      (t.foldl putU s).1.Nodup ∧ (∀ n, n ∈ (t.foldl putU s).1 ↔ n ∈ (r ++ t).map (·.1)) ∧ (t.foldl putU s).2 = (t.foldl putU s).1.map (usesN (r ++ t)) := by
    intro t
    induction t with
    | nil => intro r s h1 h2 h3; rw [List.append_nil]; exact ⟨h1, h2, h3⟩
    | cons p t ih =>
      intro r s h1 h2 h3
      have hr : r ++ p :: t = (r ++ [p]) ++ t := by simp
      rw [hr, List.foldl_cons]
      have hu : ∀ n, usesN (r ++ [p]) n = if p.1 = n then usesN r n ++ [p.2] else usesN r n := by
        intro n
        rw [usesN_append]
        by_cases e : p.1 = n
        · rw [if_pos e]; unfold usesN; simp [e]
        · rw [if_neg e]; unfold usesN; simp [e]
      apply ih
      · unfold putU
        by_cases hm : p.1 ∈ s.1
        · rw [if_pos hm]; exact h1
        · rw [if_neg hm]
          show (s.1 ++ [p.1]).Nodup
          rw [List.nodup_append]
          exact ⟨h1, by simp, fun a ha b hb => by rw [List.mem_singleton] at hb; subst hb; intro e; subst e; exact hm ha⟩
      · intro n
        unfold putU
        by_cases hm : p.1 ∈ s.1
        · rw [if_pos hm, List.map_append, List.mem_append, ← h2 n]
          simp only [List.map_cons, List.map_nil, List.mem_singleton]
          constructor
          · exact .inl
          · rintro (h | h)
            · exact h
            · rw [h]; exact hm
        · rw [if_neg hm, List.map_append]
          show n ∈ s.1 ++ [p.1] ↔ _
          rw [List.mem_append, List.mem_append, ← h2 n]
          simp only [List.map_cons, List.map_nil]
      · unfold putU
        by_cases hm : p.1 ∈ s.1
        · rw [if_pos hm]
          show s.2.modify _ _ = s.1.map _
          rw [h3]
          apply List.ext_getElem?
          intro i
          rw [List.getElem?_modify, List.getElem?_map, List.getElem?_map]
          cases hi : s.1[i]? with
          | none => rfl
          | some x =>
            have hlt : i < s.1.length := by rcases List.getElem?_eq_some_iff.1 hi with ⟨h, _⟩; exact h
            have hx : s.1[i] = x := by rcases List.getElem?_eq_some_iff.1 hi with ⟨_, h⟩; exact h
            simp only [Option.map_some]
            rw [hu x]
            by_cases e : s.1.idxOf p.1 = i
            · have : p.1 = x := by rw [← hx]; subst e; exact (List.getElem_idxOf hlt).symm
              rw [if_pos this]; show some (if _ then _ else _) = _; rw [if_pos e]
            · have : ¬ p.1 = x := by
                intro e2; apply e; subst e2; rw [← hx]; exact List.Nodup.idxOf_getElem h1 i hlt
              rw [if_neg this]; show some (if _ then _ else _) = _; rw [if_neg e]
        · rw [if_neg hm]
          show s.2 ++ [[p.2]] = (s.1 ++ [p.1]).map _
          rw [List.map_append, h3]
          congr 1
          · apply List.map_congr_left
            intro x hx
            rw [hu x, if_neg (fun e => hm (by rw [e]; exact hx))]
          · rw [List.map_cons, List.map_nil, hu, if_pos rfl, usesN_out r p.1 (fun hx => hm ((h2 _).2 hx))]; rfl
  have := key l [] ([], []) (by simp) (by simp) rfl
  simpa [putAll] using this
end Go.Proofs.YtlkboeajkgbnaaaGreatDoor.ym
namespace Go.Proofs.YtlkboeajkgbnaaaGreatDoor.ym
open Go.RowKit Go.Sort Go.Proofs.YtlkboeajkgbnaaaGreatDoor.sy Go.Proofs.YtlkboeajkgbnaaaGreatDoor.dg
open Go.Proofs.YtlkboeajkgbnaaaGreatDoor.re (tx SU)
open Go.Proofs.YtlkboeajkgbnaaaGreatDoor.sf (namesL esC fst0 orE risB)
open Go.Proofs.YtlkboeajkgbnaaaGreatDoor.nm (cand)
theorem fst0_zero : ∀ (l : List Int), fst0 l = 0 → ∀ x ∈ l, x = 0 := by
  intro l
  induction l with
  | nil => intro _ x hx; exact absurd hx (List.not_mem_nil)
  | cons a r ih =>
    intro h x hx
    unfold fst0 at h
    by_cases ha : a = 0
    · rw [if_pos ha] at h
      rcases List.mem_cons.1 hx with e | e
      · rw [e]; exact ha
      · exact ih h x e
    · rw [if_neg ha] at h; exact absurd h ha
theorem goE_pair {α : Type} {chk : α → Int} {bad : α → α → Bool} {R : α → α → Prop} (ht : ∀ a b c, R a b → R b c → R a c) (hb : ∀ a b, bad a b = false → R a b) :
    ∀ (xs : List α) (p : Option α), goE chk bad p xs = 0 → xs.Pairwise R ∧ (∀ q, p = some q → ∀ x ∈ xs, R q x) ∧ ∀ x ∈ xs, chk x = 0 := by
  intro xs
  induction xs with
  | nil => intro p _; exact ⟨List.Pairwise.nil, fun _ _ x hx => absurd hx (List.not_mem_nil), fun x hx => absurd hx (List.not_mem_nil)⟩
  | cons a r ih =>
    intro p h
    rw [goE] at h
    by_cases hc : chk a = 0
    · rw [if_pos hc] at h
      cases hbd : badP bad p a with
      | true => rw [hbd] at h; exact absurd (show (13 : Int) = 0 from h) (by decide)
      | false =>
        rw [hbd] at h
        obtain ⟨h1, h2, h3⟩ := ih (some a) h
        have hq : ∀ q, p = some q → R q a := by
          intro q e; subst e; exact hb q a hbd
        refine ⟨List.Pairwise.cons (fun x hx => h2 a rfl x hx) h1, fun q e x hx => ?_, fun x hx => ?_⟩
        · rcases List.mem_cons.1 hx with e2 | e2
          · rw [e2]; exact hq q e
          · exact ht _ _ _ (hq q e) (h2 a rfl x e2)
        · rcases List.mem_cons.1 hx with e2 | e2
          · rw [e2]; exact hc
          · exact h3 x e2
    · rw [if_neg hc] at h; exact absurd h hc
theorem thenE_zero {a b : Int} (h : thenE a b = 0) : a = 0 ∧ b = 0 := by
  unfold thenE at h
  by_cases ha : a = 0
  · rw [if_pos ha] at h; exact ⟨ha, h⟩
  · rw [if_neg ha] at h; exact absurd h ha
theorem less_of {a b : ByteArray} (h : (!lessB a b) = false) : tx a < tx b := by
  have h2 : lessB a b = true := by cases hl : lessB a b <;> simp [hl] at h ⊢
  unfold lessB at h2
  rw [bytesLess_eq] at h2
  have h3 := of_decide_eq_true h2
  first
    | exact h3
    | (rw [ByteArray.toList_eq, ByteArray.toList_eq] at h3; exact h3)
theorem names_nodup (u : SU) (h : fst0 (esC u) = 0) : (namesL u).Nodup := by
  have hz := fst0_zero _ h
  have hc : checkE u.sys = 0 := hz _ (by unfold esC; simp)
  unfold checkE at hc
  by_cases hbig : 600 < u.sys.objs.length ∨ 600 < u.sys.fns.length ∨ 6000 < u.sys.cons.length
  · rw [if_pos hbig] at hc; exact absurd hc (by decide)
  rw [if_neg hbig] at hc
  obtain ⟨ho, hc2⟩ := thenE_zero hc
  obtain ⟨hf, _⟩ := thenE_zero hc2
  have tro : ∀ a b c : SO, tx a.name < tx b.name → tx b.name < tx c.name → tx a.name < tx c.name := fun _ _ _ h k => List.lt_trans h k
  have trf : ∀ a b c : SF, tx a.name < tx b.name → tx b.name < tx c.name → tx a.name < tx c.name := fun _ _ _ h k => List.lt_trans h k
  obtain ⟨po, _, ko⟩ := goE_pair (R := fun a b : SO => tx a.name < tx b.name) tro (fun a b e => less_of e) _ _ ho
  obtain ⟨pf, _, kf⟩ := goE_pair (R := fun a b : SF => tx a.name < tx b.name) trf (fun a b e => less_of e) _ _ hf
  unfold namesL
  rw [List.nodup_append]
  refine ⟨?_, ?_, ?_⟩
  · rw [List.nodup_iff_pairwise_ne, List.pairwise_map]
    exact po.imp fun {a b} hab e => by rw [e] at hab; exact List.lt_irrefl _ hab
  · rw [List.nodup_iff_pairwise_ne, List.pairwise_map]
    exact pf.imp fun {a b} hab e => by rw [e] at hab; exact List.lt_irrefl _ hab
  · intro x hx y hy e
    obtain ⟨o, ho1, ho2⟩ := List.mem_map.1 hx
    obtain ⟨f, hf1, hf2⟩ := List.mem_map.1 hy
    have k1 := ko o ho1
    have k2 := kf f hf1
    have b1 : objB o.name = true := by
      unfold objE at k1
      by_cases hb : objB o.name = false
      · rw [if_pos hb] at k1; exact absurd k1 (by decide)
      · simpa using hb
    have b2 : funcB f.name = true := by
      unfold fnE at k2
      by_cases hb : funcB f.name = false
      · rw [if_pos hb] at k2; exact absurd k2 (by decide)
      · simpa using hb
    have en : o.name = f.name := by
      have : tx o.name = tx f.name := by rw [ho2, hf2, e]
      apply ByteArray.ext
      apply Array.ext'
      exact this
    rw [en] at b1
    unfold objB at b1
    unfold funcB at b2
    simp only [Bool.and_eq_true, decide_eq_true_eq] at b1 b2
    have := b1.2.1
    have := b2.2
    omega
theorem name_size (u : SU) (h : fst0 (esC u) = 0) : nameB u.name = true := by
  have hz := fst0_zero _ h
  have hn : orE (nameB u.name) 11 = 0 := hz _ (by unfold esC; simp)
  unfold orE at hn
  cases hb : nameB u.name with
  | true => rfl
  | false => rw [hb] at hn; exact absurd hn (by decide)
end Go.Proofs.YtlkboeajkgbnaaaGreatDoor.ym
namespace Go.Proofs.YtlkboeajkgbnaaaGreatDoor.ym
open Go.RowKit Go.Sort Go.Proofs.YtlkboeajkgbnaaaGreatDoor.sy
open Go.Proofs.YtlkboeajkgbnaaaGreatDoor.re (tx SU)
open Go.Proofs.YtlkboeajkgbnaaaGreatDoor.sf (namesL esC fst0)
open Go.Proofs.YtlkboeajkgbnaaaGreatDoor.inn (rsS intoAll_spec ordS rises_ext)
structure Sym where
  name : List UInt8
  giver : ByteArray
  wanted : List (List UInt8)
def symOf (n : List UInt8) (l : List Use) : Sym := ⟨n, giverFrom ⟨#[]⟩ l, rsS ((wantL l).map tx)⟩
noncomputable def resFrom (U : List UInt8 → List Use) : List Sym → List (List UInt8) → List Sym × List UInt8 × Int
  | acc, [] => (acc, [], 0)
  | acc, n :: t => if symE 12 (U n) = 0 then resFrom U (if 0 < gCount (U n) then acc ++ [symOf n (U n)] else acc) t else ([], n, symE 12 (U n))
noncomputable def chkFrom : List (List UInt8) → List SU → Option (List UInt8 × Int)
  | _, [] => none
  | seen, u :: t => if fst0 (esC u) = 0 then (if tx u.name ∈ seen then some (tx u.name, 8) else chkFrom (seen ++ [tx u.name]) t) else some (tx u.name, fst0 (esC u))
noncomputable def resP (l : List SU) : List Sym × List UInt8 × Int :=
  if 8 < l.length then ([], [], 4) else match chkFrom [] l with
    | some (n, e) => ([], n, e)
    | none => resFrom (usesN (usesL l)) [] (rsS ((usesL l).map (·.1)))
theorem rsS_ext {a b : List (List UInt8)} (h : ∀ x, x ∈ a ↔ x ∈ b) : rsS a = rsS b := by
  obtain ⟨a1, a2⟩ := intoAll_spec ordS a
  obtain ⟨b1, b2⟩ := intoAll_spec ordS b
  exact rises_ext ordS a1 b1 (fun x => (a2 x).trans ((h x).trans (b2 x).symm))
theorem rsS_mem (a : List (List UInt8)) (x : List UInt8) : x ∈ rsS a ↔ x ∈ a := (intoAll_spec ordS a).2 x
theorem names_ref (l : List SU) : (usesL l).map (·.1) = l.flatMap namesL := by
  unfold usesL
  induction l with
  | nil => rfl
  | cons u t ih => rw [List.flatMap_cons, List.map_append, ih, usesOf_names, List.flatMap_cons]
theorem chk_none : ∀ (l : List SU) (seen : List (List UInt8)), chkFrom seen l = none → (∀ u ∈ l, fst0 (esC u) = 0) ∧ (l.map (fun u => tx u.name)).Nodup ∧ ∀ u ∈ l, tx u.name ∉ seen := by
  intro l
  induction l with
  | nil => intro seen _; exact ⟨fun u hu => absurd hu (List.not_mem_nil), by simp, fun u hu => absurd hu (List.not_mem_nil)⟩
  | cons u t ih =>
    intro seen h
    unfold chkFrom at h
    by_cases hc : fst0 (esC u) = 0
    · rw [if_pos hc] at h
      by_cases hs : tx u.name ∈ seen
      · rw [if_pos hs] at h; exact absurd h (by simp)
      · rw [if_neg hs] at h
        obtain ⟨h1, h2, h3⟩ := ih _ h
        refine ⟨fun x hx => ?_, ?_, fun x hx => ?_⟩
        · rcases List.mem_cons.1 hx with e | e
          · rw [e]; exact hc
          · exact h1 x e
        · rw [List.map_cons, List.nodup_cons]
          refine ⟨fun hm => ?_, h2⟩
          obtain ⟨x, hx, e⟩ := List.mem_map.1 hm
          exact h3 x hx (by rw [e]; simp)
        · rcases List.mem_cons.1 hx with e | e
          · rw [e]; exact hs
          · intro hm; exact h3 x e (by rw [List.mem_append]; exact .inl hm)
    · rw [if_neg hc] at h; exact absurd h (by simp)
theorem uses_ref (l : List SU) (h : chkFrom [] l = none) (n : List UInt8) : usesN (usesL l) n = l.filterMap (fun u => inU u n) :=
  uses_all n l (fun u hu => names_nodup u ((chk_none l [] h).1 u hu))
theorem uses_m (l : List SU) (h : chkFrom [] l = none) (n : List UInt8) : ∀ x ∈ usesN (usesL l) n, x.m.size ≠ 0 := by
  intro x hx
  unfold usesN at hx
  obtain ⟨p, hp, rfl⟩ := List.mem_map.1 hx
  have hp2 := (List.mem_filter.1 hp).1
  unfold usesL at hp2
  obtain ⟨u, hu, hpu⟩ := List.mem_flatMap.1 hp2
  have hm : p.2.m = u.name := by
    unfold usesOf at hpu
    rcases List.mem_append.1 hpu with hq | hq
    · obtain ⟨o, _, rfl⟩ := List.mem_map.1 hq; rfl
    · obtain ⟨o, _, rfl⟩ := List.mem_map.1 hq; rfl
  rw [hm]
  have := name_size u ((chk_none l [] h).1 u hu)
  unfold dg.nameB at this
  simp only [Bool.and_eq_true, decide_eq_true_eq] at this
  exact this.1.1
end Go.Proofs.YtlkboeajkgbnaaaGreatDoor.ym
namespace Go.Proofs.YtlkboeajkgbnaaaGreatDoor.ym
open Go.RowKit Go.Sort Go.Proofs.YtlkboeajkgbnaaaGreatDoor.sy
open Go.Proofs.YtlkboeajkgbnaaaGreatDoor.re (tx SU)
open Go.Proofs.YtlkboeajkgbnaaaGreatDoor.sf (namesL esC fst0)
open Go.Proofs.YtlkboeajkgbnaaaGreatDoor.inn (rsS)
theorem gCount_rev (l : List Use) : gCount l.reverse = gCount l := by unfold gCount; rw [List.filter_reverse, List.length_reverse]
theorem alone_rev (l : List Use) : l.reverse.any Use.alone = l.any Use.alone := by rw [List.any_reverse]
theorem wantL_rev (l : List Use) : wantL l.reverse = (wantL l).reverse := by unfold wantL; rw [List.filter_reverse, List.map_reverse]
theorem same_iff (l : List Use) : sameFrom none l = true ↔ ∀ a ∈ l, ∀ b ∈ l, like a b = true := by
  cases l with
  | nil => simp [sameFrom]
  | cons f t =>
    rw [same_all, Bool.not_eq_true', List.any_eq_false]
    constructor
    · intro h a ha b hb
      have h1 := h a ha
      have h2 := h b hb
      simp only [Bool.not_eq_true', Bool.not_eq_false] at h1 h2
      rw [← like_trans h1 b]; exact h2
    · intro h x hx
      rw [h f (List.mem_cons_self) x hx]; simp
theorem same_rev (l : List Use) : sameFrom none l.reverse = sameFrom none l := by
  have h : sameFrom none l.reverse = true ↔ sameFrom none l = true := by rw [same_iff, same_iff]; simp
  cases h1 : sameFrom none l.reverse <;> cases h2 : sameFrom none l <;> simp [h1, h2] at h ⊢
theorem symE_rev (ty : Int) (l : List Use) : symE ty l.reverse = symE ty l := by
  unfold symE
  rw [gCount_rev, List.length_reverse, alone_rev, same_rev, wantL_rev]
  have : (wantL l).reverse ≠ [] ↔ wantL l ≠ [] := by simp
  simp only [this]
theorem giver_filter : ∀ (l : List Use) (a : ByteArray), giverFrom a l = giverFrom a (l.filter (·.g)) := by
  intro l
  induction l with
  | nil => intro a; rfl
  | cons u t ih =>
    intro a
    show giverFrom (if u.g then u.m else a) t = _
    rw [ih, List.filter_cons]
    cases hg : u.g
    · rfl
    · show _ = giverFrom (if u.g then u.m else a) (t.filter (·.g)); rw [hg]
theorem giver_rev (l : List Use) (a : ByteArray) (h : gCount l ≤ 1) : giverFrom a l.reverse = giverFrom a l := by
  rw [giver_filter l.reverse, giver_filter l, List.filter_reverse]
  unfold gCount at h
  generalize l.filter (·.g) = m at h
  match m, h with
  | [], _ => rfl
  | [u], _ => rfl
  | _ :: _ :: _, h => simp at h
theorem symOf_rev (n : List UInt8) (l : List Use) (h : gCount l ≤ 1) : symOf n l.reverse = symOf n l := by
  unfold symOf
  rw [giver_rev l _ h, wantL_rev, List.map_reverse]
  congr 1
  exact rsS_ext (fun x => by simp)
theorem symE_count {ty : Int} {l : List Use} (h : symE ty l = 0) : gCount l ≤ 1 := by
  unfold symE at h
  by_cases hc : 2 ≤ gCount l ∨ (1 < l.length ∧ l.any Use.alone = true)
  · rw [if_pos hc] at h; exact absurd h (by decide)
  · omega
theorem resFrom_rev (U V : List UInt8 → List Use) : ∀ (ns : List (List UInt8)) (acc : List Sym), (∀ n ∈ ns, V n = (U n).reverse) → resFrom V acc ns = resFrom U acc ns := by
  intro ns
  induction ns with
  | nil => intro acc _; rfl
  | cons n t ih =>
    intro acc h
    have hn := h n (List.mem_cons_self)
    unfold resFrom
    rw [hn, symE_rev]
    by_cases he : symE 12 (U n) = 0
    · rw [if_pos he, if_pos he, gCount_rev, symOf_rev _ _ (symE_count he)]
      exact ih _ (fun x hx => h x (List.mem_cons_of_mem _ hx))
    · rw [if_neg he, if_neg he]
theorem chk_of : ∀ (l : List SU) (seen : List (List UInt8)), (∀ u ∈ l, fst0 (esC u) = 0) → (l.map (fun u => tx u.name)).Nodup → (∀ u ∈ l, tx u.name ∉ seen) → chkFrom seen l = none := by
  intro l
  induction l with
  | nil => intro seen _ _ _; rfl
  | cons u t ih =>
    intro seen h1 h2 h3
    unfold chkFrom
    rw [if_pos (h1 u (List.mem_cons_self)), if_neg (h3 u (List.mem_cons_self))]
    rw [List.map_cons, List.nodup_cons] at h2
    refine ih _ (fun x hx => h1 x (List.mem_cons_of_mem _ hx)) h2.2 (fun x hx hm => ?_)
    rcases List.mem_append.1 hm with h | h
    · exact h3 x (List.mem_cons_of_mem _ hx) h
    · rw [List.mem_singleton] at h
      exact h2.1 (List.mem_map.2 ⟨x, hx, h⟩)
theorem nodup_rev {α : Type} (l : List α) : l.reverse.Nodup ↔ l.Nodup := by
  rw [List.nodup_iff_pairwise_ne, List.nodup_iff_pairwise_ne, List.pairwise_reverse]
  constructor <;> exact fun h => h.imp (fun {a b} k => k.symm)
theorem chk_rev (l : List SU) : chkFrom [] l.reverse = none ↔ chkFrom [] l = none := by
  constructor
  · intro h
    obtain ⟨h1, h2, _⟩ := chk_none _ _ h
    refine chk_of l [] (fun u hu => h1 u (List.mem_reverse.2 hu)) ?_ (fun _ _ => List.not_mem_nil)
    rw [List.map_reverse, nodup_rev] at h2
    exact h2
  · intro h
    obtain ⟨h1, h2, _⟩ := chk_none _ _ h
    refine chk_of l.reverse [] (fun u hu => h1 u (List.mem_reverse.1 hu)) ?_ (fun _ _ => List.not_mem_nil)
    rw [List.map_reverse, nodup_rev]
    exact h2
theorem res_rev (l : List SU) (h : chkFrom [] l = none) : resP l.reverse = resP l := by
  have hr := (chk_rev l).2 h
  unfold resP
  rw [List.length_reverse, h, hr]
  dsimp only
  by_cases h8 : 8 < l.length
  · rw [if_pos h8, if_pos h8]
  · rw [if_neg h8, if_neg h8]
    have hn : rsS ((usesL l.reverse).map (·.1)) = rsS ((usesL l).map (·.1)) := rsS_ext (fun x => by
      rw [names_ref, names_ref, List.mem_flatMap, List.mem_flatMap]; simp)
    rw [hn]
    refine resFrom_rev _ _ _ _ (fun n _ => ?_)
    rw [uses_ref _ hr, uses_ref _ h, List.filterMap_reverse]
end Go.Proofs.YtlkboeajkgbnaaaGreatDoor.ym
namespace Go.Proofs.YtlkboeajkgbnaaaGreatDoor.ym
open Go.RowKit Go.Sort Go.Proofs.YtlkboeajkgbnaaaGreatDoor.sy
open Go.Proofs.YtlkboeajkgbnaaaGreatDoor.re (tx SU)
open Go.Proofs.YtlkboeajkgbnaaaGreatDoor.sf (namesL esC fst0 orE risB inD)
open Go.Proofs.YtlkboeajkgbnaaaGreatDoor.inn (rsS intoAll_spec ordS)
theorem res_list (U : List UInt8 → List Use) : ∀ (ns : List (List UInt8)) (acc : List Sym), (∀ n ∈ ns, symE 12 (U n) = 0) → resFrom U acc ns = (acc ++ (ns.filter (fun n => decide (0 < gCount (U n)))).map (fun n => symOf n (U n)), [], 0) := by
  intro ns
  induction ns with
  | nil => intro acc _; simp [resFrom]
  | cons n t ih =>
    intro acc h
    unfold resFrom
    rw [if_pos (h n (List.mem_cons_self)), ih _ (fun x hx => h x (List.mem_cons_of_mem _ hx)), List.filter_cons]
    by_cases hg : 0 < gCount (U n)
    · simp [hg]
    · simp [hg]
theorem res_zero (U : List UInt8 → List Use) : ∀ (ns : List (List UInt8)) (acc : List Sym), (resFrom U acc ns).2.2 = 0 → ∀ n ∈ ns, symE 12 (U n) = 0 := by
  intro ns
  induction ns with
  | nil => intro acc _ n hn; exact absurd hn (List.not_mem_nil)
  | cons n t ih =>
    intro acc h x hx
    unfold resFrom at h
    by_cases he : symE 12 (U n) = 0
    · rw [if_pos he] at h
      rcases List.mem_cons.1 hx with e | e
      · rw [e]; exact he
      · exact ih _ h x e
    · rw [if_neg he] at h; exact absurd h he
theorem use_in {l : List SU} {u : SU} (hu : u ∈ l) {n : List UInt8} (hn : n ∈ namesL u) :
    ∃ x ∈ usesN (usesL l) n, x.m = u.name ∧ x.g = decide (n ∈ u.gives.map tx) ∧ x.w = decide (n ∈ u.wants.map tx) := by
  rw [← usesOf_names] at hn
  obtain ⟨p, hp, rfl⟩ := List.mem_map.1 hn
  refine ⟨p.2, ?_, ?_⟩
  · unfold usesN
    refine List.mem_map.2 ⟨p, List.mem_filter.2 ⟨?_, by simp⟩, rfl⟩
    unfold usesL
    exact List.mem_flatMap.2 ⟨u, hu, hp⟩
  · unfold usesOf at hp
    rcases List.mem_append.1 hp with hq | hq
    · obtain ⟨o, _, rfl⟩ := List.mem_map.1 hq; exact ⟨rfl, rfl, rfl⟩
    · obtain ⟨o, _, rfl⟩ := List.mem_map.1 hq; exact ⟨rfl, rfl, rfl⟩
theorem giver_one {l : List Use} (h : gCount l ≤ 1) {x : Use} (hx : x ∈ l) (hg : x.g = true) (a : ByteArray) : giverFrom a l = x.m := by
  rw [giver_filter]
  have hm : x ∈ l.filter (·.g) := List.mem_filter.2 ⟨hx, hg⟩
  unfold gCount at h
  generalize l.filter (·.g) = m at h hm
  match m, h, hm with
  | [], _, hm => exact absurd hm (List.not_mem_nil)
  | [u], _, hm =>
    rw [List.mem_singleton] at hm; subst hm
    show (if x.g then x.m else a) = x.m
    rw [if_pos hg]
  | _ :: _ :: _, h, _ => simp at h
theorem count_pos {l : List Use} {x : Use} (hx : x ∈ l) (hg : x.g = true) : 0 < gCount l := by
  unfold gCount
  exact List.length_pos_of_mem (List.mem_filter.2 ⟨hx, hg⟩)
theorem want_mem {l : List Use} {x : Use} (hx : x ∈ l) (hw : x.w = true) : x.m ∈ wantL l := by
  unfold wantL
  exact List.mem_map.2 ⟨x, List.mem_filter.2 ⟨hx, hw⟩, rfl⟩
theorem face_in (u : SU) (h : fst0 (esC u) = 0) : (∀ s ∈ u.gives, tx s ∈ namesL u) ∧ (∀ s ∈ u.wants, tx s ∈ namesL u) := by
  have hz := fst0_zero _ h
  have h1 : orE (u.gives.all (inD u)) 7 = 0 := hz _ (by unfold esC; simp)
  have h2 : orE (u.wants.all (inD u)) 7 = 0 := hz _ (by unfold esC; simp)
  have key : ∀ l : List ByteArray, orE (l.all (inD u)) 7 = 0 → ∀ s ∈ l, tx s ∈ namesL u := by
    intro l hl s hs
    unfold orE at hl
    cases hb : l.all (inD u) with
    | false => rw [hb] at hl; exact absurd hl (by decide)
    | true =>
      have := List.all_eq_true.1 hb s hs
      unfold inD at this
      exact of_decide_eq_true this
  exact ⟨key _ h1, key _ h2⟩
theorem told_gives {l : List SU} (h : chkFrom [] l = none) (hs : ∀ n ∈ rsS ((usesL l).map (·.1)), symE 12 (usesN (usesL l) n) = 0) {u : SU} (hu : u ∈ l) {s : ByteArray} (hg : s ∈ u.gives) :
    tx s ∈ rsS ((usesL l).map (·.1)) ∧ 0 < gCount (usesN (usesL l) (tx s)) ∧ giverFrom ⟨#[]⟩ (usesN (usesL l) (tx s)) = u.name := by
  have hn := (face_in u ((chk_none l [] h).1 u hu)).1 s hg
  have hm : tx s ∈ rsS ((usesL l).map (·.1)) := (rsS_mem _ _).2 (by rw [names_ref]; exact List.mem_flatMap.2 ⟨u, hu, hn⟩)
  obtain ⟨x, hx, e1, e2, _⟩ := use_in hu hn
  have hxg : x.g = true := by rw [e2]; exact decide_eq_true (List.mem_map.2 ⟨s, hg, rfl⟩)
  refine ⟨hm, count_pos hx hxg, ?_⟩
  rw [giver_one (symE_count (hs _ hm)) hx hxg, e1]
theorem told_wants {l : List SU} (h : chkFrom [] l = none) (hs : ∀ n ∈ rsS ((usesL l).map (·.1)), symE 12 (usesN (usesL l) n) = 0) {u : SU} (hu : u ∈ l) {s : ByteArray} (hg : s ∈ u.wants) :
    tx s ∈ rsS ((usesL l).map (·.1)) ∧ 0 < gCount (usesN (usesL l) (tx s)) ∧ tx u.name ∈ rsS ((wantL (usesN (usesL l) (tx s))).map tx) := by
  have hn := (face_in u ((chk_none l [] h).1 u hu)).2 s hg
  have hm : tx s ∈ rsS ((usesL l).map (·.1)) := (rsS_mem _ _).2 (by rw [names_ref]; exact List.mem_flatMap.2 ⟨u, hu, hn⟩)
  obtain ⟨x, hx, e1, _, e3⟩ := use_in hu hn
  have hxw : x.w = true := by rw [e3]; exact decide_eq_true (List.mem_map.2 ⟨s, hg, rfl⟩)
  have hw := want_mem hx hxw
  have he := hs _ hm
  refine ⟨hm, ?_, (rsS_mem _ _).2 (List.mem_map.2 ⟨x.m, hw, by rw [e1]⟩)⟩
  unfold symE at he
  by_cases c1 : 2 ≤ gCount (usesN (usesL l) (tx s)) ∨ (1 < (usesN (usesL l) (tx s)).length ∧ (usesN (usesL l) (tx s)).any Use.alone = true)
  · rw [if_pos c1] at he; exact absurd he (by decide)
  rw [if_neg c1] at he
  by_cases c2 : sameFrom none (usesN (usesL l) (tx s)) = false
  · rw [if_pos c2] at he; exact absurd he (by decide)
  rw [if_neg c2] at he
  by_cases c3 : gCount (usesN (usesL l) (tx s)) = 0 ∧ wantL (usesN (usesL l) (tx s)) ≠ []
  · rw [if_pos c3] at he; exact absurd he (by decide)
  · by_cases c4 : gCount (usesN (usesL l) (tx s)) = 0
    · exact absurd ⟨c4, fun e => by rw [e] at hw; exact absurd hw (List.not_mem_nil)⟩ c3
    · omega
end Go.Proofs.YtlkboeajkgbnaaaGreatDoor.ym
namespace Go.Proofs.YtlkboeajkgbnaaaGreatDoor.ym
open Go.RowKit Go.Proofs.YtlkboeajkgbnaaaGreatDoor.sy
def plainU (s : List (List UInt8) × List (List MUs)) : List (List UInt8) × List (List Use) := (s.1, s.2.map fun l => l.map MUs.u)
theorem putM_plain (s : List (List UInt8) × List (List MUs)) (p : List UInt8 × MUs) : plainU (putM s p) = putU (plainU s) (p.1, p.2.u) := by
  unfold putM putU plainU
  dsimp only
  by_cases h : p.1 ∈ s.1
  · rw [if_pos h, if_pos h]
    dsimp only
    congr 1
    apply List.ext_getElem?
    intro i
    rw [List.getElem?_map, List.getElem?_modify, List.getElem?_modify, List.getElem?_map]
    cases s.2[i]? with
    | none => rfl
    | some l => by_cases e : s.1.idxOf p.1 = i <;> simp [e]
  · rw [if_neg h, if_neg h]
    simp
end Go.Proofs.YtlkboeajkgbnaaaGreatDoor.ym
