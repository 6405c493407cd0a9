import Derived.Test.YtdmmkjijgoiecaaGreatDoorV28
import Derived.Test.YtdmmkjijgoiecaaGreatDoorV30
import Derived.Test.YtdmmkjijgoiecaaGreatDoorUSyR
import Derived.Deep.RegionHeld3
import Derived.Lib.QuietBelow
/-
  system: places: the reference's.
-/
set_option linter.all false
namespace Go.Proofs.YtdmmkjijgoiecaaGreatDoor.sy
open Go.RowKit Go.Proofs.YtdmmkjijgoiecaaGreatDoor.mem
open Go.Proofs.YtdmmkjijgoiecaaGreatDoor.tx (rsS)

set_option maxHeartbeats 8000000 in
set_option maxRecDepth 100000 in
theorem rplaces_any (hm : HeldM) (s : MS) (w : World) (hs : SysM w s) (hcl : ∀ x ∈ s.cs, x.c.args.length ≤ 8796093022208) : Calls Tryz.prog 67 #[s.val] w (NPost w (orNil (checkE s.sys) (placesL s.sys))) := by
  have HCK := Lib.hid (fun W (hb : Below w.heap.size w W) => rcheck_any s W (hs.below hb) hm hcl)
  have HCE : Hid (∀ W, Below w.heap.size w W → ∀ x ∈ s.os, ∀ kd : UInt8, x.o.kinds.size ≤ 64 → Calls Tryz.prog 126 #[.agg x.row.toArray, .int .u8 (kd.toNat : Int)] W (LPost W (cellsB x.o.name (ofB kd) 0 x.o.kinds.data.toList))) := Lib.hid (fun W hb x hx kd hk => rcells_any x kd W (hs.ok x hx).n hk)
  have HO := Lib.hid (fun W (hb : Below w.heap.size w W) => hs.o.below hb)
  have HF := Lib.hid (fun W (hb : Below w.heap.size w W) => hs.f.below hb)
  have HC := Lib.hid (fun W (hb : Below w.heap.size w W) => hs.c.below hb)
  have HG : Hid (∀ W, Below w.heap.size w W → ∀ x ∈ s.cs, Rd W x.aA (x.c.args.map Value.string)) := Lib.hid (fun W hb x hx => ((hs.ck x hx).below hb).g)
  have Hok := Lib.hid (fun h => check_ok (s := s.sys) h)
  have HOE := Lib.hid (fun h => check_objs (s := s.sys) h)
  have HJ : Hid (∀ wr A cap l x, RL w wr A cap l → l.length ≤ 1000000 → Calls Tryz.prog 68 #[.slice A (rsN l) cap, .string x] wr (JPost w wr (l ++ [x]))) := Lib.hid (fun wr A cap l x h hl => into_rl x h hl)
  unfold IPost at HCK
  unfold LPost at HCE
  unfold JPost at HJ
  clear hs hm hcl
  unfold NPost
  obtain ⟨V, hV⟩ : ∃ V, Hid (V = orNil (checkE s.sys) (placesL s.sys)) := ⟨_, Lib.hid rfl⟩
  rw [← hV.out]
  obtain ⟨oA, oc, os, fA, fc, fs, cA, cc, cs⟩ := s
  unfold MS.val MS.sys at *
  dsimp only at *
  obtain ⟨E, hE⟩ : ∃ E, Hid (E = checkE ⟨os.map (·.o), fs, cs.map (·.c)⟩) := ⟨_, Lib.hid rfl⟩
  rw [← hE.out] at hV HCK Hok HOE
  obtain ⟨no, hNo⟩ : ∃ n, Hid (n = os.length) := ⟨_, Lib.hid rfl⟩
  obtain ⟨nf, hNf⟩ : ∃ n, Hid (n = fs.length) := ⟨_, Lib.hid rfl⟩
  obtain ⟨nc, hNc⟩ : ∃ n, Hid (n = cs.length) := ⟨_, Lib.hid rfl⟩
  rw [← hNo.out, ← hNf.out, ← hNc.out] at HCK ⊢
  go_enter Tryz.func67, Tryz.ntmps67
  have X0 := Lib.hid (SR.new w #[.slice oA no oc, .slice fA nf fc, .slice cA nc cc])
  go_wp2_with fail
  refine (HCK.out _ X0.out.1).mono ?_
  rintro e w2 ⟨rfl, hb2⟩
  have X2 := Lib.hid (X0.out.on hb2)
  clear hb2 X0 HCK
  by_cases hEz : E = 0
  rotate_left
  · have d0 : (E != 0) = true := by simpa using hEz
    have hv : Hid (V = []) := Lib.hid (by rw [hV.out]; unfold orNil; rw [if_neg hEz])
    clear hEz
    go_wp2_with fail
    go_ret
    exact ⟨none, 0, by rw [hv.out]; rfl, fun hz => by rw [hv.out] at hz; simp at hz, X2.out.1⟩
  have d0 : (E != 0) = false := by simpa using hEz
  have hok := Lib.hid (Hok.out hEz)
  have hoe := Lib.hid (HOE.out hEz)
  have hV1 : Hid (V = rsS ((placesL ⟨os.map (·.o), fs, cs.map (·.c)⟩).map tb)) := Lib.hid (by rw [hV.out]; unfold orNil; rw [if_pos hEz])
  clear hEz Hok HOE hV
  have hno : no ≤ 600 := by have := hok.out.o; rw [List.length_map] at this; have := hNo.out; omega
  have hnf : nf ≤ 600 := by have := hok.out.f; dsimp only at this; have := hNf.out; omega
  have hnc : nc ≤ 6000 := by have := hok.out.c; rw [List.length_map] at this; have := hNc.out; omega
  have hkk : Hid (∀ x ∈ os, x.o.kinds.size ≤ 64) := Lib.hid (fun x hx => hok.out.k x.o (List.mem_map_of_mem hx))
  have hgg : Hid (∀ x ∈ cs, x.c.args.length ≤ 7) := Lib.hid (fun x hx => hok.out.g x.c (List.mem_map_of_mem hx))
  obtain ⟨L, hL⟩ : ∃ L, Hid (L = cs.map (·.c)) := ⟨_, Lib.hid rfl⟩
  have hLn : Hid (L.length = nc) := Lib.hid (by rw [hL.out, List.length_map]; exact hNc.out.symm)
  have hLg : Hid (∀ c ∈ L, c.args.length ≤ 7) := Lib.hid (fun c hc => by
    rw [hL.out] at hc
    obtain ⟨x, hx, rfl⟩ := List.mem_map.1 hc
    exact hgg.out x hx)
  obtain ⟨M, hM⟩ : ∃ M, Hid (M = os.map (·.o)) := ⟨_, Lib.hid rfl⟩
  have hMn : Hid (M.length = no) := Lib.hid (by rw [hM.out, List.length_map]; exact hNo.out.symm)
  have hMk : Hid (∀ o ∈ M, o.kinds.size ≤ 64) := Lib.hid (fun o ho => by
    rw [hM.out] at ho
    obtain ⟨x, hx, rfl⟩ := List.mem_map.1 ho
    exact hkk.out x hx)
  have hV2 : Hid (V = rsS (((cellsL (ofB 0) M ++ fs.map (·.name)) ++ adr L).map tb)) := Lib.hid (by rw [hV1.out, hL.out, hM.out]; unfold placesL; dsimp only; rw [cellsL_ip hoe.out]; rfl)
  clear hV1 hok hoe
  have s0 := X2.out.2.cell 0
  simp only [List.getElem?_toArray, List.getElem?_cons_zero, List.getElem?_cons_succ] at s0
  obtain ⟨ld, hld⟩ : ∃ ld : List ByteArray, Hid (ld = []) := ⟨_, Lib.hid rfl⟩
  have hz0 : Hid (0 = rsN ld) := Lib.hid (by rw [hld.out]; rfl)
  have HT : Hid (RL w w2 none 0 ld) := Lib.hid (by rw [hld.out]; exact RL.nil X2.out.1)
  have hlen2 : ld.length ≤ 0 := by rw [hld.out]; simp
  have HX := X2
  clear X2
  have hl0 : Hid (ld = ld ++ cellsL (ofB 0) (M.take 0)) := Lib.hid (by simp [cellsL])
  have hln : Hid (rsN ld = rsN (ld ++ cellsL (ofB 0) (M.take 0))) := Lib.hid (congrArg rsN hl0.out)
  have Ti : Hid (RL w w2 none 0 (ld ++ cellsL (ofB 0) (M.take 0))) := Lib.hid (by rw [← hl0.out]; exact HT.out)
  clear HT
  go_wp2_with fail
  clear s0 d0
  go_loopw [3, 4] (fun v i wx => ∃ (k : Nat) (A : Option Addr) (cap : Nat), k ≤ no ∧ i = .int .i64 k ∧ v = .slice A (rsN (ld ++ cellsL (ofB 0) (M.take k))) cap ∧ Hid (RL w wx A cap (ld ++ cellsL (ofB 0) (M.take k))) ∧ Hid (SR w wx #[.slice oA no oc, .slice fA nf fc, .slice cA nc cc])) (fun _ i _ => no - (intOf i).toNat)
  case atStart => exact ⟨0, none, 0, by omega, rfl, congrArg (fun z => Value.slice none z 0) (hz0.out.trans hln.out), Ti, HX⟩
  case round =>
    obtain ⟨k, A, cap, hk, rfl, rfl, HT, HX2⟩ := hrel
    clear Ti HX hln hl0
    rename World => wx
    have s0 := HX2.out.2.cell 0
    simp only [List.getElem?_toArray, List.getElem?_cons_zero, List.getElem?_cons_succ] at s0
    have hl6 : (ld ++ cellsL (ofB 0) (M.take k)).length ≤ 200000 := by
      have h1 := cellsL_len (p := ofB 0) (l := M.take k) (fun o ho => hMk.out o (List.mem_of_mem_take ho))
      rw [List.length_take, hMn.out] at h1
      rw [List.length_append]
      omega
    by_cases hkl : k < no
    · have e1 : decide ((k : Int) < (no : Int)) = true := decide_eq_true (by omega)
      have hkx : k < os.length := by rw [← hNo.out]; exact hkl
      have hkM : k < M.length := by rw [hMn.out]; exact hkl
      obtain ⟨g, off, rfl, hg, c0, c1, c2⟩ := tbl_obj (HO.out wx HT.out.fr) hkx
      have hLe : Hid (M[k] = os[k].o) := Lib.hid (by
        have e : M[k]? = some os[k].o := by rw [hM.out, List.getElem?_map, List.getElem?_eq_getElem hkx]; rfl
        rw [List.getElem?_eq_getElem hkM] at e
        exact Option.some.inj e)
      have hnext : Hid (ld ++ cellsL (ofB 0) (M.take (k + 1)) = (ld ++ cellsL (ofB 0) (M.take k)) ++ cellsB os[k].o.name (ofB 0) 0 os[k].o.kinds.data.toList) := Lib.hid (by rw [cellsL_take hkM, hLe.out, List.append_assoc])
      have hks := hkk.out os[k] (List.getElem_mem hkx)
      have CE := Lib.hid (HCE.out wx HT.out.fr os[k] (List.getElem_mem hkx) 0 hks)
      have hcb := cellsB_len os[k].o.name (ofB 0) os[k].o.kinds.data.toList 0
      rw [← Lib.size_eq] at hcb
      clear hLe
      obtain ⟨l2, hl2⟩ : ∃ l, Hid (l = ld ++ cellsL (ofB 0) (M.take (k + 1))) := ⟨_, Lib.hid rfl⟩
      rw [← hl2.out] at hnext
      generalize (ld ++ cellsL (ofB 0) (M.take k)) = l1 at *
      generalize cellsB os[k].o.name (ofB 0) 0 os[k].o.kinds.data.toList = lb at *
      unfold MO.row at CE
      generalize os[k] = x at *
      obtain ⟨⟨xn, xk, xm⟩, xA, xc⟩ := x
      dsimp only at *
      have hlb : lb.length ≤ 64 := by omega
      clear hcb hks
      go_wp2_with fail
      refine CE.out.mono ?_
      rintro e w5 ⟨A5, cap5, rfl, hT5⟩
      have HC5 := Lib.hid (hT5)
      have HT5 := Lib.hid (HT.out.on hT5.fr)
      have HX5 := Lib.hid (HX2.out.on hT5.fr)
      clear hT5 HT HX2 c0 c1 c2 s0 CE
      have hb50 : Hid (l1 = l1 ++ lb.take 0) := Lib.hid (by simp)
      have hbn : Hid (rsN l1 = rsN (l1 ++ lb.take 0)) := Lib.hid (congrArg rsN hb50.out)
      have Tj : Hid (RL w w5 A cap (l1 ++ lb.take 0)) := Lib.hid (by rw [← hb50.out]; exact HT5.out)
      have hB5 : Hid (Below w5.heap.size w5 w5) := Lib.hid (Below.refl _ _)
      go_wp2_with fail
      clear HT5
      go_loopw [3, 6] (fun v i wy => ∃ (j : Nat) (A : Option Addr) (cap : Nat), j ≤ lb.length ∧ i = .int .i64 j ∧ v = .slice A (rsN (l1 ++ lb.take j)) cap ∧ Hid (RL w wy A cap (l1 ++ lb.take j)) ∧ Hid (SR w wy #[.slice (some ⟨g, off, none⟩) no oc, .slice fA nf fc, .slice cA nc cc]) ∧ Hid (Below w5.heap.size w5 wy)) (fun _ i _ => lb.length - (intOf i).toNat)
      case atStart => exact ⟨0, A, cap, by omega, rfl, by rw [← hbn.out], Tj, HX5, hB5⟩
      case round =>
        obtain ⟨j, A, cap, hj, rfl, rfl, HT6, HX6, hB6⟩ := hrel
        clear Tj hbn hb50 HX5 hB5
        rename World => wy
        by_cases hjl : j < lb.length
        · have e2 : decide ((j : Int) < (lb.length : Int)) = true := decide_eq_true (by omega)
          obtain ⟨g6, o6, rfl, hg6, hc6⟩ := HC5.out.seg.rd (by rw [List.length_map]; omega)
          have c6 := (hB6.out.cell (p := ⟨g6, o6 + j, none⟩) hg6).trans (hc6 j (by rw [List.length_map]; exact hjl))
          rw [List.getElem_map] at c6
          clear hc6 hg6
          have hl7b : (l1 ++ lb.take j).length ≤ 300000 := by
            rw [List.length_append, List.length_take]
            omega
          have hnx : Hid (l1 ++ lb.take (j + 1) = (l1 ++ lb.take j) ++ [lb[j]]) := Lib.hid (by rw [List.take_succ_eq_append_getElem hjl, List.append_assoc])
          obtain ⟨l7, hl7⟩ : ∃ l, Hid (l = l1 ++ lb.take (j + 1)) := ⟨_, Lib.hid rfl⟩
          rw [← hl7.out] at hnx
          generalize (l1 ++ lb.take j) = l6 at *
          generalize lb[j] = aj at *
          go_wp2_with fail
          refine (HJ.out wy A cap l6 aj HT6.out (by omega)).mono ?_
          rintro e w9 ⟨A9, cap9, rfl, hT9, hb9⟩
          have HT9 := Lib.hid hT9
          have HX9 := Lib.hid (HX6.out.on hb9)
          have hB9 := Lib.hid (hB6.out.trans (hb9.mono hB6.out.size))
          rw [← hnx.out] at HT9
          have hlz : Hid (rsN (l6 ++ [aj]) = rsN l7) := Lib.hid (by rw [hnx.out])
          clear hT9 hb9 HT6 HX6 hB6 c6
          go_wp2_with fail
          go_roundw
          case rel => exact ⟨j + 1, A9, cap9, by omega, by go_num, by rw [hlz.out, hl7.out], by rw [hl7.out] at HT9; exact HT9, HX9, hB9⟩
          case measure => simp [intOf]; omega
        · obtain rfl : lb.length = j := by omega
          have e2 : decide ((lb.length : Int) < (lb.length : Int)) = false := decide_eq_false (by omega)
          have hfull : Hid (l1 ++ lb.take lb.length = l2) := Lib.hid (by rw [List.take_length, hnext.out])
          rw [hfull.out] at HT6
          have hlz : Hid (rsN (l1 ++ lb.take lb.length) = rsN l2) := Lib.hid (by rw [hfull.out])
          go_wp2_with fail
          go_roundw
          case rel => exact ⟨k + 1, A, cap, by omega, by go_num, by rw [hlz.out, hl2.out], by rw [hl2.out] at HT6; exact HT6, HX6⟩
          case measure => simp [intOf]; omega
    · obtain rfl : no = k := by omega
      have e1 : decide ((no : Int) < (no : Int)) = false := decide_eq_false (by omega)
      have hall : Hid (ld ++ cellsL (ofB 0) (M.take no) = cellsL (ofB 0) M) := Lib.hid (by rw [hld.out, List.nil_append, List.take_of_length_le (by rw [hMn.out]; exact Nat.le_refl _)])
      have hlq : Hid (rsN (ld ++ cellsL (ofB 0) (M.take no)) = rsN (cellsL (ofB 0) M)) := Lib.hid (by rw [hall.out])
      rw [hall.out] at HT hl6
      rw [hlq.out]
      clear hall hlq
      have HX := HX2
      generalize cellsL (ofB 0) M = lc at *
      have hl0 : Hid (lc = lc ++ (fs.take 0).map (·.name)) := Lib.hid (by simp)
      have hln : Hid (rsN lc = rsN (lc ++ (fs.take 0).map (·.name))) := Lib.hid (congrArg rsN hl0.out)
      have Ti : Hid (RL w wx A cap (lc ++ (fs.take 0).map (·.name))) := Lib.hid (by rw [← hl0.out]; exact HT.out)
      have s1 := HX.out.2.cell 1
      simp only [List.getElem?_toArray, List.getElem?_cons_zero, List.getElem?_cons_succ] at s1
      clear HT
      go_wp2_with fail
      clear s0 s1 HX2
      go_loopw [3, 7] (fun v i wr => ∃ (k : Nat) (A : Option Addr) (cap : Nat), k ≤ nf ∧ i = .int .i64 k ∧ v = .slice A (rsN (lc ++ (fs.take k).map (·.name))) cap ∧ Hid (RL w wr A cap (lc ++ (fs.take k).map (·.name))) ∧ Hid (SR w wr #[.slice oA no oc, .slice fA nf fc, .slice cA nc cc])) (fun _ i _ => nf - (intOf i).toNat)
      case atStart => exact ⟨0, A, cap, by omega, rfl, by rw [← hln.out], Ti, HX⟩
      case round =>
        obtain ⟨k, A, cap, hk, rfl, rfl, HT, HX2⟩ := hrel
        clear Ti HX hln hl0
        rename World => wr
        have s1 := HX2.out.2.cell 1
        simp only [List.getElem?_toArray, List.getElem?_cons_zero, List.getElem?_cons_succ] at s1
        have hl7 : (lc ++ (fs.take k).map (·.name)).length ≤ 300000 := by
          rw [List.length_append]
          rw [List.length_map, List.length_take]
          omega
        by_cases hkl : k < nf
        · have e1 : decide ((k : Int) < (nf : Int)) = true := decide_eq_true (by omega)
          have hkx : k < fs.length := by rw [← hNf.out]; exact hkl
          obtain ⟨g, off, rfl, hg, c0, c1, c2⟩ := tbl_fn (HF.out wr HT.out.fr) hkx
          have hnext : Hid (lc ++ (fs.take (k + 1)).map (·.name) = (lc ++ (fs.take k).map (·.name)) ++ [fs[k].name]) := Lib.hid (by rw [map_take_snoc _ hkx, List.append_assoc])
          obtain ⟨l2, hl2⟩ : ∃ l, Hid (l = lc ++ (fs.take (k + 1)).map (·.name)) := ⟨_, Lib.hid rfl⟩
          rw [← hl2.out] at hnext
          generalize (lc ++ (fs.take k).map (·.name)) = l1 at *
          generalize fs[k].name = xn at *
          go_wp2_with fail
          refine (HJ.out wr A cap l1 xn HT.out (by omega)).mono ?_
          rintro e w9 ⟨A9, cap9, rfl, hT9, hb9⟩
          have HT9 := Lib.hid hT9
          have HX9 := Lib.hid (HX2.out.on hb9)
          rw [← hnext.out] at HT9
          have hlz : Hid (rsN (l1 ++ [xn]) = rsN l2) := Lib.hid (by rw [hnext.out])
          clear hT9 hb9 HT HX2 c0 c1 c2 s1
          go_wp2_with fail
          go_roundw
          case rel => exact ⟨k + 1, A9, cap9, by omega, by go_num, by rw [hlz.out, hl2.out], by rw [hl2.out] at HT9; exact HT9, HX9⟩
          case measure => simp [intOf]; omega
        · obtain rfl : nf = k := by omega
          have e1 : decide ((nf : Int) < (nf : Int)) = false := decide_eq_false (by omega)
          have hfull : Hid (lc ++ (fs.take nf).map (·.name) = lc ++ fs.map (·.name)) := Lib.hid (by rw [List.take_of_length_le (by rw [← hNf.out]; exact Nat.le_refl _)])
          have hlq : Hid (rsN (lc ++ (fs.take nf).map (·.name)) = rsN (lc ++ fs.map (·.name))) := Lib.hid (by rw [hfull.out])
          rw [hfull.out] at HT hl7
          rw [hlq.out]
          clear hfull hlq hl6
          generalize (lc ++ fs.map (·.name)) = le at *
          have hl0 : Hid (le = le ++ adr (L.take 0)) := Lib.hid (by simp [adr])
          have hln : Hid (rsN le = rsN (le ++ adr (L.take 0))) := Lib.hid (congrArg rsN hl0.out)
          have Ti : Hid (RL w wr A cap (le ++ adr (L.take 0))) := Lib.hid (by rw [← hl0.out]; exact HT.out)
          have s2 := HX2.out.2.cell 2
          simp only [List.getElem?_toArray, List.getElem?_cons_zero, List.getElem?_cons_succ] at s2
          have HX := HX2
          clear HT
          go_wp2_with fail
          clear s1 s2 HX2
          go_loopw [3, 8] (fun v i wy => ∃ (k : Nat) (A : Option Addr) (cap : Nat), k ≤ nc ∧ i = .int .i64 k ∧ v = .slice A (rsN (le ++ adr (L.take k))) cap ∧ Hid (RL w wy A cap (le ++ adr (L.take k))) ∧ Hid (SR w wy #[.slice oA no oc, .slice fA nf fc, .slice cA nc cc])) (fun _ i _ => nc - (intOf i).toNat)
          case atStart => exact ⟨0, A, cap, by omega, rfl, by rw [← hln.out], Ti, HX⟩
          case round =>
            obtain ⟨k, A, cap, hk, rfl, rfl, HT, HX2⟩ := hrel
            clear Ti HX hln hl0
            rename World => wy
            have s2 := HX2.out.2.cell 2
            simp only [List.getElem?_toArray, List.getElem?_cons_zero, List.getElem?_cons_succ] at s2
            have hl8 : (le ++ adr (L.take k)).length ≤ 400000 := by
              have h1 := adr_len (L.take k)
              rw [List.length_take, hLn.out] at h1
              rw [List.length_append]
              omega
            by_cases hkl : k < nc
            · have e1 : decide ((k : Int) < (nc : Int)) = true := decide_eq_true (by omega)
              have hkx : k < cs.length := by rw [← hNc.out]; exact hkl
              have hkL : k < L.length := by rw [hLn.out]; exact hkl
              obtain ⟨g, off, rfl, hg, c0, c1, c2, c3, c4, c5⟩ := tbl_con (HC.out wy HT.out.fr) hkx
              have hLe : Hid (L[k] = cs[k].c) := Lib.hid (by
                have e : L[k]? = some cs[k].c := by rw [hL.out, List.getElem?_map, List.getElem?_eq_getElem hkx]; rfl
                rw [List.getElem?_eq_getElem hkL] at e
                exact Option.some.inj e)
              have hnext : Hid (le ++ adr (L.take (k + 1)) = (le ++ adr (L.take k)) ++ (if cs[k].c.op = 1 then [cs[k].c.b] else [])) := Lib.hid (by rw [adr_take hkL, List.append_assoc, hLe.out])
              clear hLe
              obtain ⟨l2, hl2⟩ : ∃ l, Hid (l = le ++ adr (L.take (k + 1))) := ⟨_, Lib.hid rfl⟩
              rw [← hl2.out] at hnext
              generalize (le ++ adr (L.take k)) = l1 at *
              generalize cs[k].c.op = xo at *
              generalize cs[k].c.b = xb at *
              by_cases hop : xo = 1
              · have dop : (xo == 1) = true := by simpa using hop
                have hnx2 : Hid (l2 = l1 ++ [xb]) := Lib.hid (by rw [hnext.out, if_pos hop])
                clear hop hnext
                go_wp2_with fail
                refine (HJ.out wy A cap l1 xb HT.out (by omega)).mono ?_
                rintro e w9 ⟨A9, cap9, rfl, hT9, hb9⟩
                have HT9 := Lib.hid hT9
                have HX9 := Lib.hid (HX2.out.on hb9)
                rw [← hnx2.out] at HT9
                have hlz : Hid (rsN (l1 ++ [xb]) = rsN l2) := Lib.hid (by rw [hnx2.out])
                clear hT9 hb9 HT HX2 c0 c1 c2 c3 c4 c5 s2
                go_wp2_with fail
                go_roundw
                case rel => exact ⟨k + 1, A9, cap9, by omega, by go_num, by rw [hlz.out, hl2.out], by rw [hl2.out] at HT9; exact HT9, HX9⟩
                case measure => simp [intOf]; omega
              · have dop : (xo == 1) = false := by simpa using hop
                have hnx2 : Hid (l2 = l1) := Lib.hid (by rw [hnext.out, if_neg hop, List.append_nil])
                clear hop hnext
                rw [← hnx2.out] at HT
                have hlz : Hid (rsN l1 = rsN l2) := Lib.hid (by rw [hnx2.out])
                go_wp2_with fail
                go_roundw
                case rel => exact ⟨k + 1, A, cap, by omega, by go_num, by rw [hlz.out, hl2.out], by rw [hl2.out] at HT; exact HT, HX2⟩
                case measure => simp [intOf]; omega
            · obtain rfl : nc = k := by omega
              have e1 : decide ((nc : Int) < (nc : Int)) = false := decide_eq_false (by omega)
              have hall : Hid (L.take nc = L) := Lib.hid (List.take_of_length_le (by rw [hLn.out]; exact Nat.le_refl _))
              have hlq : Hid (rsN (le ++ adr (L.take nc)) = V.length) := Lib.hid (by rw [hall.out, hV2.out]; rfl)
              rw [hall.out] at HT
              rw [hlq.out]
              have HS := Lib.hid HT.out.seg
              rw [← hV2.out] at HS
              go_wp2_with fail
              go_ret
              exact ⟨A, cap, rfl, HS.out.rd, HT.out.fr⟩
end Go.Proofs.YtdmmkjijgoiecaaGreatDoor.sy

/-
  system: what is wrong first, nodes and places: the law of them.
-/
set_option linter.all false
namespace Go.Proofs.YtdmmkjijgoiecaaGreatDoor.sy
open Go.RowKit Go.Sort Go.Proofs.YtdmmkjijgoiecaaGreatDoor.mem
open Go.Proofs.YtdmmkjijgoiecaaGreatDoor.nm (Tab tab_below)
open Go.Proofs.YtdmmkjijgoiecaaGreatDoor.tx

theorem orNil_len (s : SS) (l : List ByteArray) (h : checkE s = 0 → l.length ≤ 1000000) : (orNil (checkE s) l).length ≤ 1000000 := by
  unfold orNil
  split
  · have := rs_len (l.map tb)
    rw [List.length_map] at this
    have := h ‹_›
    omega
  · simp
theorem nodes_len (s : SS) : (orNil (checkE s) (nodesL s)).length ≤ 1000000 := orNil_len s _ fun h => by
  have c := check_ok h
  have h1 := flat_len c.g
  have h2 := cellsL_len (p := inB ⟨#[112]⟩) c.k
  have := c.o
  have := c.c
  unfold nodesL
  rw [List.length_append]
  omega
theorem places_len (s : SS) : (orNil (checkE s) (placesL s)).length ≤ 1000000 := orNil_len s _ fun h => by
  have c := check_ok h
  have h2 := cellsL_len (p := inB ⟨#[105, 112]⟩) c.k
  have h3 := List.length_filter_le (fun c : SC => c.op == 1) s.cons
  have := c.o
  have := c.f
  have := c.c
  unfold placesL
  rw [List.length_append, List.length_append, List.length_map, List.length_map]
  omega

theorem SR.three {w v : World} {a b c : Value} (h : SR w v #[a, b, c]) : v.cell? ⟨w.heap.size, 0, none⟩ = some a ∧ v.cell? ⟨w.heap.size, 1, none⟩ = some b ∧ v.cell? ⟨w.heap.size, 2, none⟩ = some c := ⟨h.2.cell 0, h.2.cell 1, h.2.cell 2⟩

end Go.Proofs.YtdmmkjijgoiecaaGreatDoor.sy
