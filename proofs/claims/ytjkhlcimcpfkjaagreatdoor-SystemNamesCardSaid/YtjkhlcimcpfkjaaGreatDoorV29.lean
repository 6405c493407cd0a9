import Derived.Test.YtjkhlcimcpfkjaaGreatDoorV25
import Derived.Test.YtjkhlcimcpfkjaaGreatDoorV24
/-
  system: places: the program's.
-/
set_option linter.all false
namespace Go.Proofs.YtjkhlcimcpfkjaaGreatDoor.sy
open Go.RowKit Go.Proofs.YtjkhlcimcpfkjaaGreatDoor.mem
open Go.Proofs.YtjkhlcimcpfkjaaGreatDoor.nm (Tab tab_below)
open Go.Proofs.YtjkhlcimcpfkjaaGreatDoor.tx (rsS)

theorem map_take_snoc {α β : Type} (f : α → β) {l : List α} {k : Nat} (hk : k < l.length) : (l.take (k + 1)).map f = (l.take k).map f ++ [f l[k]] := by
  rw [List.take_succ_eq_append_getElem hk, List.map_append]
  rfl
def adr (l : List SC) : List ByteArray := (l.filter fun c => c.op == 1).map (·.b)
theorem adr_take {l : List SC} {k : Nat} (hk : k < l.length) : adr (l.take (k + 1)) = adr (l.take k) ++ (if l[k].op = 1 then [l[k].b] else []) := by
  unfold adr
  rw [List.take_succ_eq_append_getElem hk, List.filter_append, List.map_append]
  congr 1
  by_cases h : l[k].op = 1 <;> simp [List.filter_cons, h]
theorem adr_len (l : List SC) : (adr l).length ≤ l.length := by
  unfold adr
  rw [List.length_map]
  exact List.length_filter_le _ _

set_option maxHeartbeats 8000000 in
set_option maxRecDepth 100000 in
theorem places_any (s : MS) (w : World) (hs : SysM w s) (htab : Tab w) : Calls Tryz.prog 14 #[s.val] w (NPost w (orNil (checkE s.sys) (placesL s.sys))) := by
  have HCK := Lib.hid (fun W (hb : Below w.heap.size w W) => check_any s W (hs.below hb) (tab_below htab hb))
  have HCE := Lib.hid (fun W (hb : Below w.heap.size w W) h1 h2 => cells_any s ⟨#[105, 112]⟩ W (hs.below hb) (tab_below htab hb) h1 h2)
  have HF := Lib.hid (fun W (hb : Below w.heap.size w W) => hs.f.below hb)
  have HC := Lib.hid (fun W (hb : Below w.heap.size w W) => hs.c.below hb)
  have Hok := Lib.hid (fun h => check_ok (s := s.sys) h)
  have HR := Lib.hid (fun W A cap l => rising_any W A cap l)
  unfold IPost at HCK
  unfold LPost at HCE
  unfold RPost at HR
  obtain ⟨i0, hi0, hz0, hz1, hz2⟩ := info_parts tx.info_str
  have Hi := Lib.hid hi0
  have Hz0 := Lib.hid hz0
  have Hz1 := Lib.hid hz1
  have Hz2 := Lib.hid hz2
  clear hs htab hi0 hz0 hz1 hz2
  unfold NPost
  obtain ⟨V, hV⟩ : ∃ V, Hid (V = orNil (checkE s.sys) (placesL s.sys)) := ⟨_, Lib.hid rfl⟩
  rw [← hV.out]
  obtain ⟨oA, oc, os, fA, fc, fs, cA, cc, cs⟩ := s
  unfold MS.val MS.sys at *
  dsimp only at *
  obtain ⟨E, hE⟩ : ∃ E, Hid (E = checkE ⟨os.map (·.o), fs, cs.map (·.c)⟩) := ⟨_, Lib.hid rfl⟩
  rw [← hE.out] at hV HCK Hok
  obtain ⟨no, hNo⟩ : ∃ n, Hid (n = os.length) := ⟨_, Lib.hid rfl⟩
  obtain ⟨nf, hNf⟩ : ∃ n, Hid (n = fs.length) := ⟨_, Lib.hid rfl⟩
  obtain ⟨nc, hNc⟩ : ∃ n, Hid (n = cs.length) := ⟨_, Lib.hid rfl⟩
  rw [← hNo.out, ← hNf.out, ← hNc.out] at HCK HCE ⊢
  go_enter Tryz.func14, Tryz.ntmps14
  have X0 := Lib.hid (SR.new w #[.slice oA no oc, .slice fA nf fc, .slice cA nc cc])
  go_wp2_with fail
  refine (HCK.out _ X0.out.1).mono ?_
  rintro e w2 ⟨rfl, hb2⟩
  have X2 := Lib.hid (X0.out.on hb2)
  clear hb2 X0 HCK
  by_cases hEz : E = 0
  rotate_left
  · have d0 : (E != 0) = true := by simpa using hEz
    have hv : Hid (V = []) := Lib.hid (by rw [hV.out]; unfold orNil; rw [if_neg hEz])
    clear hEz
    go_wp2_with fail
    go_ret
    exact ⟨none, 0, by rw [hv.out]; rfl, fun hz => by rw [hv.out] at hz; simp at hz, X2.out.1⟩
  have d0 : (E != 0) = false := by simpa using hEz
  have hok := Lib.hid (Hok.out hEz)
  have hV1 : Hid (V = rsS ((placesL ⟨os.map (·.o), fs, cs.map (·.c)⟩).map tb)) := Lib.hid (by rw [hV.out]; unfold orNil; rw [if_pos hEz])
  clear hEz Hok hV
  have hno : no ≤ 600 := by have := hok.out.o; rw [List.length_map] at this; have := hNo.out; omega
  have hnf : nf ≤ 600 := by have := hok.out.f; dsimp only at this; have := hNf.out; omega
  have hnc : nc ≤ 6000 := by have := hok.out.c; rw [List.length_map] at this; have := hNc.out; omega
  have hkk : Hid (∀ x ∈ os, x.o.kinds.size ≤ 64) := Lib.hid (fun x hx => hok.out.k x.o (List.mem_map_of_mem hx))
  have CE := Lib.hid (HCE.out w2 X2.out.1 hno hkk.out)
  have hlb := cellsL_len (p := inB ⟨#[105, 112]⟩) (l := os.map (·.o)) (fun o ho => by
    obtain ⟨x, hx, rfl⟩ := List.mem_map.1 ho
    exact hkk.out x hx)
  rw [List.length_map, ← hNo.out] at hlb
  obtain ⟨L, hL⟩ : ∃ L, Hid (L = cs.map (·.c)) := ⟨_, Lib.hid rfl⟩
  have hLn : Hid (L.length = nc) := Lib.hid (by rw [hL.out, List.length_map]; exact hNc.out.symm)
  have hV2 : Hid (V = rsS (((cellsL (inB ⟨#[105, 112]⟩) (os.map (·.o)) ++ fs.map (·.name)) ++ adr L).map tb)) := Lib.hid (by rw [hV1.out, hL.out]; rfl)
  clear HCE hV1 hkk hok
  generalize cellsL (inB ⟨#[105, 112]⟩) (os.map (·.o)) = lc at *
  have hlc2 : lc.length ≤ 40000 := by omega
  clear hlb
  have s0 := X2.out.2.cell 0
  have s1 := X2.out.2.cell 1
  have s2 := X2.out.2.cell 2
  simp only [List.getElem?_toArray, List.getElem?_cons_zero, List.getElem?_cons_succ] at s0 s1 s2
  go_wp2_with fail
  refine CE.out.mono ?_
  rintro e w3 ⟨A3, cap3, rfl, hT3⟩
  have X3 := Lib.hid (X2.out.on hT3.fr)
  have T3 := Lib.hid (hT3.fresh X2.out.1)
  clear hT3 CE s0 s1 s2 X2 d0
  have s1 := X3.out.2.cell 1
  simp only [List.getElem?_toArray, List.getElem?_cons_zero, List.getElem?_cons_succ] at s1
  have hl0 : Hid (lc = lc ++ (fs.take 0).map (·.name)) := Lib.hid (by simp)
  have hln : Hid (lc.length = (lc ++ (fs.take 0).map (·.name)).length) := Lib.hid (congrArg List.length hl0.out)
  have Ti : Hid (TL w w3 A3 cap3 (lc ++ (fs.take 0).map (·.name))) := Lib.hid (by rw [← hl0.out]; exact T3.out)
  go_wp2_with fail
  clear s1 T3
  go_loopw [3, 16] (fun v i wr => ∃ (k : Nat) (A : Option Addr) (cap : Nat), k ≤ nf ∧ i = .int .i64 k ∧ v = .slice A (lc ++ (fs.take k).map (·.name)).length cap ∧ Hid (TL w wr A cap (lc ++ (fs.take k).map (·.name))) ∧ Hid (SR w wr #[.slice oA no oc, .slice fA nf fc, .slice cA nc cc])) (fun _ i _ => nf - (intOf i).toNat)
  case atStart => exact ⟨0, A3, cap3, by omega, rfl, by rw [← hln.out], Ti, X3⟩
  case round =>
    obtain ⟨k, A, cap, hk, rfl, rfl, HT, HX⟩ := hrel
    clear Ti X3 hln hl0
    rename World => wr
    by_cases hkl : k < nf
    · have e1 : decide ((k : Int) < (nf : Int)) = true := decide_eq_true (by omega)
      have hkx : k < fs.length := by rw [← hNf.out]; exact hkl
      obtain ⟨g, off, rfl, hg, c0, c1, c2⟩ := tbl_fn (HF.out wr HT.out.fr) hkx
      have hnext : Hid (lc ++ (fs.take (k + 1)).map (·.name) = (lc ++ (fs.take k).map (·.name)) ++ [fs[k].name]) := Lib.hid (by rw [map_take_snoc _ hkx, List.append_assoc])
      have hl6 : (lc ++ (fs.take k).map (·.name)).length ≤ 41000 := by
        rw [List.length_append, List.length_map, List.length_take]
        omega
      obtain ⟨l2, hl2⟩ : ∃ l, Hid (l = lc ++ (fs.take (k + 1)).map (·.name)) := ⟨_, Lib.hid rfl⟩
      rw [← hl2.out] at hnext
      generalize (lc ++ (fs.take k).map (·.name)) = l1 at *
      generalize fs[k] = x at *
      obtain ⟨xn, xk, xr⟩ := x
      dsimp only at *
      have HT1 := Lib.hid (HT.out.on ((Fr.refl [] wr).alloc (.cells #[.string xn, .string xk, .string xr] 54)).all)
      have HX1 := Lib.hid (HX.out.alloc (.cells #[.string xn, .string xk, .string xr] 54))
      have HB1 := Lib.hid (Box.new wr 54 #[.string xn, .string xk, .string xr])
      have b0 := HB1.out.cell 0
      simp only [List.getElem?_toArray, List.getElem?_cons_zero, List.getElem?_cons_succ] at b0
      go_upto_region 7 with fail
      generalize hW : wr.alloc (.cells #[.string xn, .string xk, .string xr] 54) = W at *
      clear hW c0 c1 c2 HT HX
      generalize wr.heap.size = bm at *
      go_wp2_with (at_builtin; refine wpList_push rfl _ _ _ rfl (HT1.out.seg.alloc _) (by rw [List.length_map]) Tryz.underlying31 Hi.out Hz0.out Hz1.out Hz2.out rfl rfl rfl (new_cell _ _ _) rfl (by omega) (by omega) ?_; intro A4 cap4 w4 hs4 f4 hf4)
      have HT4 := Lib.hid (HT1.out.push hs4 f4 hf4)
      have HX4 := Lib.hid (HX1.out.push3 HT1.out f4)
      rw [← hnext.out] at HT4
      have hlz : Hid (l1.length + 1 = l2.length) := Lib.hid (by rw [hnext.out, List.length_append]; rfl)
      go_roundw
      case rel => exact ⟨k + 1, A4, cap4, by omega, by go_num, by rw [hlz.out, hl2.out], by rw [hl2.out] at HT4; exact HT4, HX4⟩
      case measure => simp [intOf]; omega
    · obtain rfl : nf = k := by omega
      have e1 : decide ((nf : Int) < (nf : Int)) = false := decide_eq_false (by omega)
      have hfull : Hid (lc ++ (fs.take nf).map (·.name) = lc ++ fs.map (·.name)) := Lib.hid (by rw [List.take_of_length_le (by rw [← hNf.out]; exact Nat.le_refl _)])
      have hlq : Hid ((lc ++ (fs.take nf).map (·.name)).length = (lc ++ fs.map (·.name)).length) := Lib.hid (congrArg List.length hfull.out)
      rw [hfull.out] at HT
      rw [hlq.out]
      have hld : (lc ++ fs.map (·.name)).length ≤ 41000 := by
        rw [List.length_append, List.length_map, ← hNf.out]
        omega
      clear hfull hlq
      generalize (lc ++ fs.map (·.name)) = ld at *
      have s2 := HX.out.2.cell 2
      simp only [List.getElem?_toArray, List.getElem?_cons_zero, List.getElem?_cons_succ] at s2
      have hl0 : Hid (ld = ld ++ adr (L.take 0)) := Lib.hid (by simp [adr])
      have hln : Hid (ld.length = (ld ++ adr (L.take 0)).length) := Lib.hid (congrArg List.length hl0.out)
      have Ti : Hid (TL w wr A cap (ld ++ adr (L.take 0))) := Lib.hid (by rw [← hl0.out]; exact HT.out)
      go_wp2_with fail
      clear s2 HT
      go_loopw [3, 29] (fun v i wx => ∃ (k : Nat) (A : Option Addr) (cap : Nat), k ≤ nc ∧ i = .int .i64 k ∧ v = .slice A (ld ++ adr (L.take k)).length cap ∧ Hid (TL w wx A cap (ld ++ adr (L.take k))) ∧ Hid (SR w wx #[.slice oA no oc, .slice fA nf fc, .slice cA nc cc])) (fun _ i _ => nc - (intOf i).toNat)
      case atStart => exact ⟨0, A, cap, by omega, rfl, by rw [← hln.out], Ti, HX⟩
      case round =>
        obtain ⟨k, A, cap, hk, rfl, rfl, HT, HX2⟩ := hrel
        clear Ti HX hln hl0
        rename World => wx
        have hl6 : (ld ++ adr (L.take k)).length ≤ 50000 := by
          have h1 := adr_len (L.take k)
          rw [List.length_take, hLn.out] at h1
          rw [List.length_append]
          omega
        by_cases hkl : k < nc
        · have e1 : decide ((k : Int) < (nc : Int)) = true := decide_eq_true (by omega)
          have hkx : k < cs.length := by rw [← hNc.out]; exact hkl
          have hkL : k < L.length := by rw [hLn.out]; exact hkl
          obtain ⟨g, off, rfl, hg, c0, c1, c2, c3, c4, c5⟩ := tbl_con (HC.out wx HT.out.fr) hkx
          have hLe : Hid (L[k] = cs[k].c) := Lib.hid (by
            have e : L[k]? = some cs[k].c := by rw [hL.out, List.getElem?_map, List.getElem?_eq_getElem hkx]; rfl
            rw [List.getElem?_eq_getElem hkL] at e
            exact Option.some.inj e)
          have hnext : Hid (ld ++ adr (L.take (k + 1)) = (ld ++ adr (L.take k)) ++ (if cs[k].c.op = 1 then [cs[k].c.b] else [])) := Lib.hid (by rw [adr_take hkL, List.append_assoc, hLe.out])
          clear hLe
          obtain ⟨l2, hl2⟩ : ∃ l, Hid (l = ld ++ adr (L.take (k + 1))) := ⟨_, Lib.hid rfl⟩
          rw [← hl2.out] at hnext
          generalize (ld ++ adr (L.take k)) = l1 at *
          generalize cs[k] = x at *
          obtain ⟨⟨xo, xa, xb, xk, xt, xg⟩, xA, xc⟩ := x
          dsimp only at *
          have HT1 := Lib.hid (HT.out.on ((Fr.refl [] wx).alloc (.cells #[.int .i64 xo, .string xa, .string xb, .int .i64 xk, .string xt, .slice xA xg.length xc] 36)).all)
          have HX1 := Lib.hid (HX2.out.alloc (.cells #[.int .i64 xo, .string xa, .string xb, .int .i64 xk, .string xt, .slice xA xg.length xc] 36))
          have HB1 := Lib.hid (Box.new wx 36 #[.int .i64 xo, .string xa, .string xb, .int .i64 xk, .string xt, .slice xA xg.length xc])
          have b0 := HB1.out.cell 0
          have b2 := HB1.out.cell 2
          simp only [List.getElem?_toArray, List.getElem?_cons_zero, List.getElem?_cons_succ] at b0 b2
          go_upto_region 12 with fail
          generalize hW : wx.alloc (.cells #[.int .i64 xo, .string xa, .string xb, .int .i64 xk, .string xt, .slice xA xg.length xc] 36) = W at *
          clear hW c0 c1 c2 c3 c4 c5 HT HX2
          generalize wx.heap.size = bm at *
          by_cases hop : xo = 1
          · have dop : (xo == 1) = true := by simpa using hop
            have hnx2 : Hid (l2 = l1 ++ [xb]) := Lib.hid (by rw [hnext.out, if_pos hop])
            clear hop hnext
            go_wp2_with (at_builtin; refine wpList_push rfl _ _ _ rfl (HT1.out.seg.alloc _) (by rw [List.length_map]) Tryz.underlying31 Hi.out Hz0.out Hz1.out Hz2.out rfl rfl rfl (new_cell _ _ _) rfl (by omega) (by omega) ?_; intro A4 cap4 w4 hs4 f4 hf4)
            have HT4 := Lib.hid (HT1.out.push hs4 f4 hf4)
            have HX4 := Lib.hid (HX1.out.push3 HT1.out f4)
            rw [← hnx2.out] at HT4
            have hlz : Hid (l1.length + 1 = l2.length) := Lib.hid (by rw [hnx2.out, List.length_append]; rfl)
            go_roundw
            case rel => exact ⟨k + 1, A4, cap4, by omega, by go_num, by rw [hlz.out, hl2.out], by rw [hl2.out] at HT4; exact HT4, HX4⟩
            case measure => simp [intOf]; omega
          · have dop : (xo == 1) = false := by simpa using hop
            have hnx2 : Hid (l2 = l1) := Lib.hid (by rw [hnext.out, if_neg hop, List.append_nil])
            clear hop hnext
            rw [← hnx2.out] at HT1
            have hlz : Hid (l1.length = l2.length) := Lib.hid (by rw [hnx2.out])
            go_wp2_with fail
            go_roundw
            case rel => exact ⟨k + 1, A, cap, by omega, by go_num, by rw [hlz.out, hl2.out], by rw [hl2.out] at HT1; exact HT1, HX1⟩
            case measure => simp [intOf]; omega
        · obtain rfl : nc = k := by omega
          have e1 : decide ((nc : Int) < (nc : Int)) = false := decide_eq_false (by omega)
          have hfull : Hid (L.take nc = L) := Lib.hid (List.take_of_length_le (by rw [hLn.out]; exact Nat.le_refl _))
          have hlq : Hid ((ld ++ adr (L.take nc)).length = (ld ++ adr L).length) := Lib.hid (by rw [hfull.out])
          rw [hfull.out] at HT hl6
          rw [hlq.out]
          have K6 := HR.out wx A cap (ld ++ adr L) HT.out.seg (by omega)
          rw [← hV2.out, List.length_append] at K6
          have H6 := Lib.hid K6
          clear K6 HR
          go_wp2_with fail
          refine H6.out.mono ?_
          rintro e w7 ⟨cap7, rfl, hr7, f7⟩
          have R7 := Lib.hid hr7
          have B7 := Lib.hid (HT.out.fr.trans (f7.below (fun g hg => HT.out.own g hg) HT.out.fr.size))
          clear hr7 f7 H6
          go_wp2_with fail
          go_ret
          exact ⟨A, cap7, rfl, R7.out, B7.out⟩
end Go.Proofs.YtjkhlcimcpfkjaaGreatDoor.sy

/-
  system: the answers to the law's own little system, by computation.
-/
set_option linter.all false
namespace Go.Proofs.YtjkhlcimcpfkjaaGreatDoor.sy
open Go.RowKit Go.Proofs.YtjkhlcimcpfkjaaGreatDoor.mem
open Go.Proofs.YtjkhlcimcpfkjaaGreatDoor.tx

/-- one object of two places, one constraint -/
def wO : SO := ⟨⟨#[103]⟩, ⟨#[105, 112]⟩, []⟩
def wC : SC := ⟨1, ⟨#[102, 46, 112]⟩, ⟨#[103, 43, 48]⟩, 0, ⟨#[]⟩, []⟩
def wS : SS := ⟨[wO], [], [wC]⟩

theorem wS_obj : objE wO = 0 := by
  unfold objE
  rw [if_neg (by rw [show objB wO.name = true from by kernel_rfl]; decide), if_neg (by rw [show kindsB wO.kinds 1 64 = true from by kernel_rfl]; decide), if_pos]
  intro i m hi
  exact absurd hi (Nat.not_lt_zero _)
theorem wS_con : conE wC = 0 := by kernel_rfl
theorem wS_check : checkE wS = 0 := by
  unfold checkE
  rw [if_neg (by decide)]
  have h1 : goE objE badO none wS.objs = 0 := by
    show goE objE badO none [wO] = 0
    rw [goE, if_pos wS_obj]
    rfl
  have h3 : goE conE badC none wS.cons = 0 := by
    show goE conE badC none [wC] = 0
    rw [goE, if_pos wS_con]
    rfl
  rw [h1, h3]
  rfl
theorem wS_nodes : nodesL wS = [⟨#[102, 46, 112]⟩, ⟨#[103, 43, 49]⟩] := by kernel_rfl
theorem wS_places : placesL wS = [⟨#[103, 43, 48]⟩, ⟨#[103, 43, 49]⟩, ⟨#[103, 43, 48]⟩] := by kernel_rfl
theorem wS_n : orNil (checkE wS) (nodesL wS) = [[102, 46, 112], [103, 43, 49]] := by
  rw [wS_check, wS_nodes]
  unfold orNil
  rw [if_pos rfl]
  kernel_rfl
theorem wS_p : orNil (checkE wS) (placesL wS) = [[103, 43, 48], [103, 43, 49]] := by
  rw [wS_check, wS_places]
  unfold orNil
  rw [if_pos rfl]
  kernel_rfl
end Go.Proofs.YtjkhlcimcpfkjaaGreatDoor.sy

/-
  system: what the law's works() answers.
-/
set_option linter.all false
namespace Go.Proofs.YtjkhlcimcpfkjaaGreatDoor.sy
open Go.RowKit Go.Proofs.YtjkhlcimcpfkjaaGreatDoor.mem
open Go.Proofs.YtjkhlcimcpfkjaaGreatDoor.nm (Tab tab_below)
open Go.Proofs.YtjkhlcimcpfkjaaGreatDoor.tx

def wM (g1 g2 : Nat) : MS := ⟨some ⟨g1, 0, none⟩, 1, [⟨wO, none, 0⟩], none, 0, [], some ⟨g2, 0, none⟩, 1, [⟨wC, none, 0⟩]⟩

theorem tbl_none {w : World} {A : Option Addr} {sz : Nat} : Tbl w A sz [] := fun h => absurd h (Nat.not_lt_zero _)
theorem tbl_one {w : World} {g sz : Nat} {t : TypeId} {row : List Value} (h : Box w g t row.toArray) : Tbl w (some ⟨g, 0, none⟩) sz [row] := fun _ => by
  refine ⟨g, 0, rfl, h.lt, fun j hj i v hv => ?_⟩
  obtain rfl : j = 0 := by simpa using hj
  have := h.cell i
  rw [List.getElem?_toArray] at this
  rw [show 0 + 0 * sz + i = i by omega, this]
  exact hv

theorem wM_ok {W : World} {g1 g2 : Nat} (h1 : Box W g1 50 #[.string ⟨#[103]⟩, .string ⟨#[105, 112]⟩, .slice none 0 0]) (h2 : Box W g2 36 #[.int .i64 1, .string ⟨#[102, 46, 112]⟩, .string ⟨#[103, 43, 48]⟩, .int .i64 0, .string ⟨#[]⟩, .slice none 0 0]) : SysM W (wM g1 g2) where
  o := tbl_one h1
  f := tbl_none
  c := tbl_one h2
  ok x hx := by
    obtain rfl : x = ⟨wO, none, 0⟩ := by simpa [wM] using hx
    exact ⟨by decide, by decide, tbl_none, by decide, fun m hm => absurd hm (by simp [wO]), fun m hm => absurd hm (by simp [wO]), by decide⟩
  fk x hx := absurd hx (by simp [wM])
  ck x hx := by
    obtain rfl : x = ⟨wC, none, 0⟩ := by simpa [wM] using hx
    exact ⟨by decide, by decide, by decide, fun h => absurd h (Nat.not_lt_zero _), by decide, by decide, fun s hs => absurd hs (by simp [wC])⟩
  ol := show 1 ≤ maxLen by decide
  fl := show 0 ≤ maxLen by decide
  cl := show 1 ≤ maxLen by decide

/-- the three blocks -/
structure WW (w W : World) (g1 g2 g3 : Nat) : Prop where
  fr : Below w.heap.size w W
  b1 : Box W g1 50 #[.string ⟨#[103]⟩, .string ⟨#[105, 112]⟩, .slice none 0 0]
  b2 : Box W g2 36 #[.int .i64 1, .string ⟨#[102, 46, 112]⟩, .string ⟨#[103, 43, 48]⟩, .int .i64 0, .string ⟨#[]⟩, .slice none 0 0]
  b3 : Box W g3 26 #[.slice (some ⟨g1, 0, none⟩) 1 1, .slice none 0 0, .slice (some ⟨g2, 0, none⟩) 1 1]
theorem WW.on {w W W2 : World} {g1 g2 g3 : Nat} (h : WW w W g1 g2 g3) (hb : Below W.heap.size W W2) : WW w W2 g1 g2 g3 :=
  ⟨h.fr.trans (hb.mono h.fr.size), h.b1.kept (Fr.of_below hb []) (by simp), h.b2.kept (Fr.of_below hb []) (by simp), h.b3.kept (Fr.of_below hb []) (by simp)⟩
theorem WW.alloc {w W : World} {g1 g2 g3 : Nat} (h : WW w W g1 g2 g3) (o : Obj) : WW w (W.alloc o) g1 g2 g3 := h.on ((Fr.refl [] W).alloc o).all
theorem alloc_size (w : World) (o : Obj) : (w.alloc o).heap.size = w.heap.size + 1 := by simp
theorem box_on {w W : World} {g : Nat} {t : TypeId} {xs : Array Value} (h : Box w g t xs) (hb : Below w.heap.size w W) : Box W g t xs := h.kept (Fr.of_below hb []) (by simp)
theorem all_one (w : World) (o : Obj) : Below w.heap.size w (w.alloc o) := ((Fr.refl [] w).alloc o).all
theorem WW.new (w : World) : WW w (((w.alloc (.cells #[.string ⟨#[103]⟩, .string ⟨#[105, 112]⟩, .slice none 0 0] 50)).alloc (.cells #[.int .i64 1, .string ⟨#[102, 46, 112]⟩, .string ⟨#[103, 43, 48]⟩, .int .i64 0, .string ⟨#[]⟩, .slice none 0 0] 36)).alloc (.cells #[.slice (some ⟨w.heap.size, 0, none⟩) 1 1, .slice none 0 0, .slice (some ⟨w.heap.size + 1, 0, none⟩) 1 1] 26)) w.heap.size (w.heap.size + 1) (w.heap.size + 1 + 1) := by
  refine ⟨(((Fr.refl [] w).alloc _).alloc _ |>.alloc _).all, box_on (box_on (Box.new w _ _) (all_one _ _)) (all_one _ _), ?_, ?_⟩
  · have := Box.new (w.alloc (.cells #[.string ⟨#[103]⟩, .string ⟨#[105, 112]⟩, .slice none 0 0] 50)) 36 #[.int .i64 1, .string ⟨#[102, 46, 112]⟩, .string ⟨#[103, 43, 48]⟩, .int .i64 0, .string ⟨#[]⟩, .slice none 0 0]
    rw [alloc_size] at this
    exact box_on this (all_one _ _)
  · have := Box.new ((w.alloc (.cells #[.string ⟨#[103]⟩, .string ⟨#[105, 112]⟩, .slice none 0 0] 50)).alloc (.cells #[.int .i64 1, .string ⟨#[102, 46, 112]⟩, .string ⟨#[103, 43, 48]⟩, .int .i64 0, .string ⟨#[]⟩, .slice none 0 0] 36)) 26 #[.slice (some ⟨w.heap.size, 0, none⟩) 1 1, .slice none 0 0, .slice (some ⟨w.heap.size + 1, 0, none⟩) 1 1]
    rw [alloc_size, alloc_size] at this
    exact this

theorem w_check (w W : World) (g1 g2 g3 : Nat) (htab : Tab w) (h : WW w W g1 g2 g3) : Calls Tryz.prog 9 #[.agg #[.slice (some ⟨g1, 0, none⟩) 1 1, .slice none 0 0, .slice (some ⟨g2, 0, none⟩) 1 1]] W fun e w' => e = .returned (.int .i64 0) ∧ Below W.heap.size W w' := by
  have := check_any (wM g1 g2) W (wM_ok h.b1 h.b2) (tab_below htab h.fr)
  rw [show checkE (wM g1 g2).sys = 0 from wS_check] at this
  exact this
theorem w_nodes (w W : World) (g1 g2 g3 : Nat) (htab : Tab w) (h : WW w W g1 g2 g3) : Calls Tryz.prog 12 #[.agg #[.slice (some ⟨g1, 0, none⟩) 1 1, .slice none 0 0, .slice (some ⟨g2, 0, none⟩) 1 1]] W fun e w' => ∃ A cap, e = .returned (.slice A 2 cap) ∧ Rd w' A ([[102, 46, 112], [103, 43, 49]].map encStr) ∧ Below W.heap.size W w' := by
  have := nodes_any (wM g1 g2) W (wM_ok h.b1 h.b2) (tab_below htab h.fr)
  rw [show orNil (checkE (wM g1 g2).sys) (nodesL (wM g1 g2).sys) = _ from wS_n] at this
  exact this
theorem w_places (w W : World) (g1 g2 g3 : Nat) (htab : Tab w) (h : WW w W g1 g2 g3) : Calls Tryz.prog 14 #[.agg #[.slice (some ⟨g1, 0, none⟩) 1 1, .slice none 0 0, .slice (some ⟨g2, 0, none⟩) 1 1]] W fun e w' => ∃ A cap, e = .returned (.slice A 2 cap) ∧ Rd w' A ([[103, 43, 48], [103, 43, 49]].map encStr) ∧ Below W.heap.size W w' := by
  have := places_any (wM g1 g2) W (wM_ok h.b1 h.b2) (tab_below htab h.fr)
  rw [show orNil (checkE (wM g1 g2).sys) (placesL (wM g1 g2).sys) = _ from wS_p] at this
  exact this
theorem rd_two (W : World) (a b : ByteArray) (x y : List UInt8) (ha : encStr x = .string a) (hb : encStr y = .string b) : Rd (W.alloc (.cells #[.string a, .string b] 9)) (some ⟨W.heap.size, 0, none⟩) ([x, y].map encStr) := fun _ => by
  have h := Box.new W 9 #[.string a, .string b]
  refine ⟨W.heap.size, 0, rfl, h.lt, fun j hj => ?_⟩
  have := h.cell j
  rw [Nat.zero_add, this]
  have hj2 : j < 2 := by simpa using hj
  rcases j with _ | _ | j
  · simp [ha]
  · simp [hb]
  · omega

set_option maxHeartbeats 4000000 in
set_option maxRecDepth 100000 in
theorem works_any (w : World) (htab : Tab w) : Calls Tryz.prog 16 #[] w (BPost true w) := by
  unfold BPost
  have Htab := Lib.hid htab
  have HC := Lib.hid (fun W g1 g2 g3 h => w_check w W g1 g2 g3 htab h)
  have HN := Lib.hid (fun W g1 g2 g3 h => w_nodes w W g1 g2 g3 htab h)
  have HP := Lib.hid (fun W g1 g2 g3 h => w_places w W g1 g2 g3 htab h)
  clear htab
  go_enter Tryz.func16, Tryz.ntmps16
  have X0 := Lib.hid (WW.new w)
  go_wp2_with fail
  generalize hW : World.alloc (World.alloc (World.alloc w _) _) _ = W at *
  clear hW
  have hg1 : Hid (w.heap.size + 1 = w.heap.size + 1) := Lib.hid rfl
  generalize h2 : w.heap.size + 1 = g2 at *
  generalize h3 : g2 + 1 = g3 at *
  generalize h1 : w.heap.size = g1 at *
  refine (HC.out W g1 g2 g3 X0.out).mono ?_
  rintro e w1 ⟨rfl, b1⟩
  have X1 := Lib.hid (X0.out.on b1)
  clear X0 HC b1
  have s0 := X1.out.b3.cell 0
  have s1 := X1.out.b3.cell 1
  have s2 := X1.out.b3.cell 2
  simp only [List.getElem?_toArray, List.getElem?_cons_zero, List.getElem?_cons_succ] at s0 s1 s2
  go_wp2_with fail
  refine (HN.out w1 g1 g2 g3 X1.out).mono ?_
  rintro e w2 ⟨A2, cap2, rfl, r2, b2⟩
  have X2 := Lib.hid (X1.out.on b2)
  have R2 := Lib.hid r2
  clear X1 HN b2 s0 s1 s2 r2
  go_wp2_with fail
  have X3 := Lib.hid (X2.out.alloc (.cells #[.string ⟨#[102, 46, 112]⟩, .string ⟨#[103, 43, 49]⟩] 9))
  have R3 := Lib.hid (R2.out.alloc (.cells #[.string ⟨#[102, 46, 112]⟩, .string ⟨#[103, 43, 49]⟩] 9))
  have R4 := Lib.hid (rd_two w2 ⟨#[102, 46, 112]⟩ ⟨#[103, 43, 49]⟩ [102, 46, 112] [103, 43, 49] rfl rfl)
  refine (same_any _ _ _ _ _ _ R3.out R4.out (by decide)).mono ?_
  rintro e w3 ⟨rfl, b3⟩
  have X5 := Lib.hid (X3.out.on b3)
  clear X2 X3 R2 R3 R4 b3
  have s0 := X5.out.b3.cell 0
  have s1 := X5.out.b3.cell 1
  have s2 := X5.out.b3.cell 2
  simp only [List.getElem?_toArray, List.getElem?_cons_zero, List.getElem?_cons_succ] at s0 s1 s2
  go_wp2_with fail
  refine (HP.out w3 g1 g2 g3 X5.out).mono ?_
  rintro e w4 ⟨A4, cap4, rfl, r4, b4⟩
  have X6 := Lib.hid (X5.out.on b4)
  have R6 := Lib.hid r4
  clear X5 HP b4 s0 s1 s2 r4
  go_wp2_with fail
  have X7 := Lib.hid (X6.out.alloc (.cells #[.string ⟨#[103, 43, 48]⟩, .string ⟨#[103, 43, 49]⟩] 9))
  have R7 := Lib.hid (R6.out.alloc (.cells #[.string ⟨#[103, 43, 48]⟩, .string ⟨#[103, 43, 49]⟩] 9))
  have R8 := Lib.hid (rd_two w4 ⟨#[103, 43, 48]⟩ ⟨#[103, 43, 49]⟩ [103, 43, 48] [103, 43, 49] rfl rfl)
  refine (same_any _ _ _ _ _ _ R7.out R8.out (by decide)).mono ?_
  rintro e w5 ⟨rfl, b5⟩
  have X9 := Lib.hid (X7.out.on b5)
  clear X6 X7 R6 R7 R8 b5
  go_wp2_with fail
  go_ret
  exact ⟨rfl, X9.out.fr⟩
end Go.Proofs.YtjkhlcimcpfkjaaGreatDoor.sy
