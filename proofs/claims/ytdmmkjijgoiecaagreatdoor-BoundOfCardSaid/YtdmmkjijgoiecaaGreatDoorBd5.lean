/-
  bound: a system's size: the program's.
-/
import Derived.Test.YtdmmkjijgoiecaaGreatDoorBd4
import Derived.Deep.RegionHeld3
import Derived.Deep.AppendSrc
import Derived.Deep.CutBlock
import Derived.Deep.DeepCutAuto
set_option linter.all false
namespace Go.Proofs.YtdmmkjijgoiecaaGreatDoor.bd
open Go.RowKit Go.Sort Go.Proofs.YtdmmkjijgoiecaaGreatDoor.mem Go.Proofs.YtdmmkjijgoiecaaGreatDoor.sy
open Go.Proofs.YtdmmkjijgoiecaaGreatDoor.nm (Tab tab_below)
open Go.Proofs.YtdmmkjijgoiecaaGreatDoor.tx (rsS)

def ZPost (n k : Nat) (w : World) (e : Ending) (w' : World) : Prop := e = .returned (szV n k) ∧ Below w.heap.size w w'

/-- the system's block, and the result's -/
structure SO2 (w wr : World) (xs : Array Value) (r : Nat) (ys : Array Value) : Prop where
  fr : Below w.heap.size w wr
  sb : Box wr w.heap.size 27 xs
  rb : Box wr r 48 ys
  ge : w.heap.size < r
theorem SO2.on {w wr w2 : World} {xs ys : Array Value} {r : Nat} (h : SO2 w wr xs r ys) (hb : Below wr.heap.size wr w2) : SO2 w w2 xs r ys :=
  ⟨h.fr.trans (hb.mono h.fr.size), h.sb.kept (Fr.of_below hb []) (by simp), h.rb.kept (Fr.of_below hb []) (by simp), h.ge⟩
theorem SO2.new (w : World) (xs ys : Array Value) : SO2 w ((w.alloc (.cells xs 27)).alloc (.cells ys 48)) xs (w.heap.size + 1) ys := by
  refine ⟨(((Fr.refl [] w).alloc _).alloc _).all, (Box.new w _ xs).kept ((Fr.refl [] _).alloc _) (by simp), ?_, by omega⟩
  have := Box.new (w.alloc (.cells xs 27)) 48 ys
  rwa [show (w.alloc (.cells xs 27)).heap.size = w.heap.size + 1 by simp] at this
theorem SO2.drew {w wr : World} {xs ys : Array Value} {r : Nat} (h : SO2 w wr xs r ys) : SO2 w wr.drew xs r ys := h.on (Fr.refl [] wr).drew.all
theorem SO2.three {w wr : World} {a b c : Value} {ys : Array Value} {r : Nat} (h : SO2 w wr #[a, b, c] r ys) : wr.cell? ⟨w.heap.size, 0, none⟩ = some a ∧ wr.cell? ⟨w.heap.size, 1, none⟩ = some b ∧ wr.cell? ⟨w.heap.size, 2, none⟩ = some c := ⟨h.sb.cell 0, h.sb.cell 1, h.sb.cell 2⟩

/-- two numbers stored into a block of two -/
theorem two_put {wr : World} {g : Nat} {a b c d : Value} (h : Box wr g 48 #[a, b]) : Box ((wr.setCell ⟨g, 0, none⟩ c).setCell ⟨g, 1, none⟩ d) g 48 #[c, d] := by
  have h1 := (h.put 0 c).put 1 d
  simpa using h1
theorem two_fr {wr : World} {g : Nat} (c d : Value) : Fr [g] wr ((wr.setCell ⟨g, 0, none⟩ c).setCell ⟨g, 1, none⟩ d) :=
  ((Fr.refl [g] wr).setCell (p := ⟨g, 0, none⟩) (Or.inl (by simp)) c).setCell (p := ⟨g, 1, none⟩) (Or.inl (by simp)) d
theorem SO2.app {w W W' : World} {xs ys : Array Value} {r : Nat} (h : SO2 w W xs r ys) {A : Option Addr} {cap : Nat} {l : List Value} (hs : Seg W 9 A cap l) (own : ∀ q ∈ blk A, w.heap.size ≤ q) (f : Fr (blk A) W W') : SO2 w W' xs r ys :=
  ⟨h.fr.trans (f.below own h.fr.size), h.sb.kept f (hs.ne_box h.sb (by decide)), h.rb.kept f (hs.ne_box h.rb (by decide)), h.ge⟩
theorem own_app {w W : World} {A A2 : Option Addr} (own : ∀ q ∈ blk A, w.heap.size ≤ q) (hb : blk A2 = blk A ∨ blk A2 = [W.heap.size]) (h : w.heap.size ≤ W.heap.size) : ∀ q ∈ blk A2, w.heap.size ≤ q := fun q hq => by
  rcases hb with e | e
  · exact own q (e ▸ hq)
  · rw [e, List.mem_singleton] at hq
    omega
theorem one_txt (m : List (List UInt8)) : ∀ u ∈ m.map encStr, u.oneCell' = true := by
  intro u hu
  obtain ⟨s, _, rfl⟩ := List.mem_map.1 hu
  rfl
theorem SO2.set {w W : World} {xs ys : Array Value} {r g i : Nat} {u : Value} (h : SO2 w W xs r ys) (hg : r < g) : SO2 w (W.setCell ⟨g, i, none⟩ u) xs r ys := by
  have f : Fr [g] W (W.setCell ⟨g, i, none⟩ u) := (Fr.refl [g] W).setCell (p := ⟨g, i, none⟩) (Or.inl (by simp)) u
  have hge := h.ge
  exact ⟨h.fr.trans (f.below (fun q hq => by rw [List.mem_singleton] at hq; omega) h.fr.size), h.sb.kept f (by rw [List.mem_singleton]; omega), h.rb.kept f (by rw [List.mem_singleton]; omega), h.ge⟩
theorem bz_put {W : World} {g : Nat} {a b : Value} {x y : Int} (h : Box W g 48 #[a, b]) (e : x = y) : Box (W.setCell ⟨g, 0, none⟩ (.int .i64 x)) g 48 #[.int .i64 y, b] := by
  subst e
  simpa using h.put 0 (.int .i64 x)
theorem bz_put1 {W : World} {g : Nat} {a b : Value} {x y : Int} (h : Box W g 48 #[a, b]) (e : x = y) : Box (W.setCell ⟨g, 1, none⟩ (.int .i64 x)) g 48 #[a, .int .i64 y] := by
  subst e
  simpa using h.put 1 (.int .i64 x)
theorem uZ : Tryz.prog.underlying 48 = some (.struct (Tryz.prog.fieldsOf 48)) := by kernel_rfl
theorem nodes_len4 (s : SS) : (orNil (checkE s) (nodesL s)).length ≤ 400000 := by
  unfold orNil
  split
  · have h1 := tx.rs_len ((nodesL s).map tb)
    rw [List.length_map] at h1
    have c := check_ok ‹_›
    have h2 := flat_len c.g
    have h3 := cellsL_len (p := inB ⟨#[112]⟩) c.k
    have := c.o
    have := c.c
    unfold nodesL at h1 ⊢
    rw [List.length_append] at h1
    omega
  · simp
theorem places_len4 (s : SS) : (orNil (checkE s) (placesL s)).length ≤ 400000 := by
  unfold orNil
  split
  · have h1 := tx.rs_len ((placesL s).map tb)
    rw [List.length_map] at h1
    have c := check_ok ‹_›
    have h2 := cellsL_len (p := inB ⟨#[105, 112]⟩) c.k
    have h3 := List.length_filter_le (fun c : SC => c.op == 1) s.cons
    have := c.o
    have := c.f
    have := c.c
    unfold placesL at h1 ⊢
    rw [List.length_append, List.length_append, List.length_map, List.length_map] at h1
    omega
  · simp
theorem bz_four {W : World} {g : Nat} {a b : Value} (h : Box W g 48 #[a, b]) : W.cell? ⟨g, 0, none⟩ = some a ∧ W.cell? ⟨g, 1, none⟩ = some b ∧ W.frozen? ⟨g, 0, none⟩ = false ∧ W.frozen? ⟨g, 1, none⟩ = false :=
  ⟨h.cell 0, h.cell 1, h.free 0, h.free 1⟩

set_option maxHeartbeats 16000000 in
set_option maxRecDepth 100000 in
theorem of_any (s : MS) (w : World) (hs : SysM w s) (htab : Tab w) : Calls Tryz.prog 19 #[s.val] w (ZPost (nodesZ s.sys) (consZ s.sys) w) := by
  have HCK := Lib.hid (fun W (hb : Below w.heap.size w W) => check_any s W (hs.below hb) (tab_below htab hb))
  have HN := Lib.hid (fun W (hb : Below w.heap.size w W) => nodes_seg s W (hs.below hb) (tab_below htab hb))
  have HP := Lib.hid (fun W (hb : Below w.heap.size w W) => places_any s W (hs.below hb) (tab_below htab hb))
  have HF := Lib.hid (fun W (hb : Below w.heap.size w W) => hs.f.below hb)
  have HC := Lib.hid (fun W (hb : Below w.heap.size w W) => hs.c.below hb)
  have Hok := Lib.hid (fun h => check_ok (s := s.sys) h)
  have Hof := Lib.hid (fun h => of_ok (s := s.sys) h)
  have hNl := Lib.hid (nodes_len4 s.sys)
  have hPl := Lib.hid (places_len4 s.sys)
  obtain ⟨i0, hi0, hz0, hz1, hz2⟩ := info_parts tx.info_str
  have Hi := Lib.hid hi0
  have Hz0 := Lib.hid hz0
  have Hz1 := Lib.hid hz1
  have Hz2 := Lib.hid hz2
  unfold IPost at HCK
  unfold NSPost at HN
  unfold NPost at HP
  clear hs htab hi0 hz0 hz1 hz2
  unfold ZPost szV
  obtain ⟨V1, hV1⟩ : ∃ V, Hid (V = nodesZ s.sys) := ⟨_, Lib.hid rfl⟩
  obtain ⟨V2, hV2⟩ : ∃ V, Hid (V = consZ s.sys) := ⟨_, Lib.hid rfl⟩
  rw [← hV1.out, ← hV2.out]
  obtain ⟨oA, oc, os, fA, fc, fs, cA, cc, cs⟩ := s
  unfold MS.val MS.sys at *
  dsimp only at *
  obtain ⟨E, hE⟩ : ∃ E, Hid (E = checkE ⟨os.map (·.o), fs, cs.map (·.c)⟩) := ⟨_, Lib.hid rfl⟩
  rw [← hE.out] at HCK Hok Hof HN HP hNl hPl
  obtain ⟨no, hNo⟩ : ∃ n, Hid (n = os.length) := ⟨_, Lib.hid rfl⟩
  obtain ⟨nf, hNf⟩ : ∃ n, Hid (n = fs.length) := ⟨_, Lib.hid rfl⟩
  obtain ⟨nc, hNc⟩ : ∃ n, Hid (n = cs.length) := ⟨_, Lib.hid rfl⟩
  rw [← hNo.out, ← hNf.out, ← hNc.out] at HCK HN HP ⊢
  have X0 := Lib.hid (SO2.new w #[.slice oA no oc, .slice fA nf fc, .slice cA nc cc] #[.int .i64 0, .int .i64 0])
  go_enter Tryz.func19, Tryz.ntmps19
  go_wp2_with fail
  refine (HCK.out _ X0.out.fr).mono ?_
  rintro e w2 ⟨rfl, hb2⟩
  have X2 := Lib.hid (X0.out.on hb2)
  clear hb2 X0 HCK
  by_cases hEz : E = 0
  rotate_left
  · have d0 : (E != 0) = true := by simpa using hEz
    have hv1 : Hid (V1 = 0) := Lib.hid (by rw [hV1.out]; unfold nodesZ; rw [if_neg (by rw [← hE.out]; exact hEz)])
    have hv2 : Hid (V2 = 0) := Lib.hid (by rw [hV2.out]; unfold consZ; rw [if_neg (by rw [← hE.out]; exact hEz)])
    have hfin : Hid (Below w.heap.size w ((w2.setCell ⟨w.heap.size + 1, 0, none⟩ (.int .i64 0)).setCell ⟨w.heap.size + 1, 1, none⟩ (.int .i64 0))) := Lib.hid (X2.out.fr.trans ((two_fr _ _).below (fun g hg => by rw [List.mem_singleton] at hg; omega) X2.out.fr.size))
    obtain ⟨q0, q1, q2, q3⟩ := bz_four X2.out.rb
    have hb5 := two_put X2.out.rb (c := .int .i64 0) (d := .int .i64 0)
    have HB5 := Lib.hid hb5
    clear hEz hb5 HN HP HF HC Hok Hof hNl hPl
    go_wp2_with fail
    (try simp only [Exit.inBlock, Exit.then])
    refine bodyPost_ret (results_cell_row rfl _ _ _ _ _ _ _ rfl HB5.out uZ rfl (by kernel_rfl)) rfl ?_
    exact ⟨by rw [hv1.out, hv2.out]; rfl, hfin.out⟩
  have d0 : (E != 0) = false := by simpa using hEz
  have hok := Lib.hid (Hok.out hEz)
  have hof := Lib.hid (Hof.out hEz)
  rw [hEz] at HN HP hNl hPl
  have hW1 : Hid (V1 = (allN (orNil 0 (nodesL ⟨os.map (·.o), fs, cs.map (·.c)⟩)) (orNil 0 (placesL ⟨os.map (·.o), fs, cs.map (·.c)⟩))).length + fnN fs) := Lib.hid (by rw [hV1.out]; unfold nodesZ; rw [if_pos (by rw [← hE.out]; exact hEz)])
  have hW2 : Hid (V2 = coN (cs.map (·.c))) := Lib.hid (by rw [hV2.out]; unfold consZ; rw [if_pos (by rw [← hE.out]; exact hEz)])
  clear hEz Hok Hof hV1 hV2 hE
  generalize orNil 0 (nodesL ⟨os.map (·.o), fs, cs.map (·.c)⟩) = Ns at *
  generalize orNil 0 (placesL ⟨os.map (·.o), fs, cs.map (·.c)⟩) = Ps at *
  have hnf : nf ≤ 600 := by have := hok.out.f; dsimp only at this; have := hNf.out; omega
  have hnc : nc ≤ 6000 := by have := hok.out.c; rw [List.length_map] at this; have := hNc.out; omega
  have hf6 : Hid (∀ x ∈ fs, x.kinds.size ≤ 6) := Lib.hid hof.out.f
  have hop6 : Hid (∀ x ∈ cs, 1 ≤ x.c.op ∧ x.c.op ≤ 6) := Lib.hid (fun x hx => hof.out.op x.c (List.mem_map_of_mem hx))
  obtain ⟨L, hL⟩ : ∃ L, Hid (L = cs.map (·.c)) := ⟨_, Lib.hid rfl⟩
  have hLn : Hid (L.length = nc) := Lib.hid (by rw [hL.out, List.length_map]; exact hNc.out.symm)
  rw [← hL.out] at hW2
  have hco := Lib.hid (fun k => coN_le L k)
  have hfn := Lib.hid (fun k => fnN_take_le (l := fs) hf6.out k)
  rw [hLn.out] at hco
  rw [← hNf.out] at hfn
  clear hok hof
  obtain ⟨np, hNP⟩ : ∃ z, Hid (z = Ps.length) := ⟨_, Lib.hid rfl⟩
  obtain ⟨nn, hNN⟩ : ∃ z, Hid (z = Ns.length) := ⟨_, Lib.hid rfl⟩
  have hnp : np ≤ 400000 := by rw [hNP.out]; exact hPl.out
  have hnn : nn ≤ 400000 := by rw [hNN.out]; exact hNl.out
  obtain ⟨M, hM⟩ : ∃ M, Hid (M = (allN Ns Ps).length) := ⟨_, Lib.hid rfl⟩
  have hMl : M ≤ 800000 := by have := allN_len Ns Ps; rw [← hM.out, ← hNP.out, ← hNN.out] at this; omega
  have HS : Hid (∀ W A c, Rd W A ((Ns ++ Ps).map encStr) → Calls Tryz.prog 63 #[.slice A (nn + np) c] W (fun e w' => ∃ A cap, e = .returned (.slice A M cap) ∧ Below W.heap.size W w')) := Lib.hid (fun W A c hA => by
    have hlen : (Ns ++ Ps).length = nn + np := by rw [List.length_append, hNN.out, hNP.out]
    have K := inn.sorted_any W A c (Ns ++ Ps) hA (by omega)
    rw [hlen] at K
    refine K.mono ?_
    rintro e w' ⟨A', cap', rfl, hb, _⟩
    exact ⟨A', cap', by rw [hM.out]; rfl, hb⟩)
  rw [← hM.out] at hW1
  rw [← hNN.out] at HN
  rw [← hNP.out] at HP
  clear hNl hPl hM
  go_upto_region 3 with fail
  go_cut [3] (fun s3 wx => ∃ bz, s3 = .pointer (some ⟨bz, 0, none⟩) ∧ w.heap.size + 1 < bz ∧ Hid (SO2 w wx #[.slice oA no oc, .slice fA nf fc, .slice cA nc cc] (w.heap.size + 1) #[.int .i64 0, .int .i64 0]) ∧ Hid (Box wx bz 48 #[.int .i64 M, .int .i64 0]))
  case first =>
    have X3 := Lib.hid X2.out.drew
    clear X2 HF HC hf6 hop6 hfn hco hW1 hW2 hLn hL
    obtain ⟨S, hSd⟩ : ∃ S : World → Prop, Hid (∀ W', S W' ↔ (W'.cell? ⟨w.heap.size, 0, none⟩ = some (.slice oA no oc) ∧ W'.cell? ⟨w.heap.size, 1, none⟩ = some (.slice fA nf fc) ∧ W'.cell? ⟨w.heap.size, 2, none⟩ = some (.slice cA nc cc))) := ⟨_, Lib.hid fun _ => Iff.rfl⟩
    have keepS : Hid (∀ W, SO2 w W #[.slice oA no oc, .slice fA nf fc, .slice cA nc cc] (w.heap.size + 1) #[.int .i64 0, .int .i64 0] → S W) := Lib.hid (fun W h => (hSd.out _).2 h.three)
    have hS3 : S w2.drew := keepS.out _ X3.out
    refine wp_region_held_drew (S := S) (by kernel_rfl) hS3 (fun _ => ?_)
    generalize w2.drew = w3 at *
    refine wpAnyH_take (i := 0) (v := (.agg #[.slice oA no oc, .slice fA nf fc, .slice cA nc cc])) rfl (by kernel_rfl) (by kernel_rfl) (by kernel_rfl) (fun _ _ _ h => h) (Or.inl ⟨by kernel_rfl, ?_⟩) hS3 ?_
    · intro W' hSw
      obtain ⟨s0, s1, s2⟩ := (hSd.out _).1 hSw
      go_simp
    try change wpAnyH _ _ _ _ _ _ _ (Act.put _ (some 12) _) _
    try simp only [Act.put, List.setIfInBounds_toArray, List.set_cons_zero, List.set_cons_succ]
    refine wpAnyH_take (i := 2) (v := (.agg #[.slice oA no oc, .slice fA nf fc, .slice cA nc cc])) rfl (by kernel_rfl) (by kernel_rfl) (by kernel_rfl) (fun _ _ _ h => h) (Or.inl ⟨by kernel_rfl, ?_⟩) hS3 ?_
    · intro W' hSw
      obtain ⟨s0, s1, s2⟩ := (hSd.out _).1 hSw
      go_simp
    try change wpAnyH _ _ _ _ _ _ _ (Act.put _ (some 14) _) _
    try simp only [Act.put, List.setIfInBounds_toArray, List.set_cons_zero, List.set_cons_succ]
    refine wpAnyH_ready (rs := [1, 8]) (by kernel_rfl) (by simp) ?_
    refine AllReadyH.cons rfl (fun K hK => ?_) (AllReadyH.cons rfl (fun K hK => ?_) AllReadyH.nil)
    · go_simp
      refine (HN.out _ X3.out.fr).mono ?_
      rintro e w4 ⟨A13, c13, rfl, q13, o13, b13⟩
      have X4 := Lib.hid (X3.out.on b13)
      have N4 := Lib.hid q13
      have O13 := Lib.hid (fun q hq => Nat.le_trans X3.out.fr.size (o13 q hq))
      have hS4 := keepS.out _ X4.out
      refine hK.out _ _ hS4 (fun _ => ?_)
      clear hK hS3 X3 q13 o13 b13
      try simp only [Act.put, List.setIfInBounds_toArray, List.set_cons_zero, List.set_cons_succ]
      refine wpAnyH_ready (rs := [3, 8]) (by kernel_rfl) (by simp) ?_
      refine AllReadyH.cons rfl (fun K hK => ?_) (AllReadyH.cons rfl (fun K hK => ?_) AllReadyH.nil)
      · go_simp
        refine (HP.out _ X4.out.fr).mono ?_
        rintro e w5 ⟨A15, c15, rfl, q15, b15⟩
        have X5 := Lib.hid (X4.out.on b15)
        have N5 := Lib.hid (N4.out.kept (Fr.of_below b15 []) (by simp))
        have P5 := Lib.hid q15
        have hS5 := keepS.out _ X5.out
        refine hK.out _ _ hS5 (fun _ => ?_)
        clear hK hS4 X4 q15 b15 N4
        try simp only [Act.put, List.setIfInBounds_toArray, List.set_cons_zero, List.set_cons_succ]
        refine wpAnyH_ready (rs := [4, 8]) (by kernel_rfl) (by simp) ?_
        refine AllReadyH.cons rfl (fun K hK => ?_) (AllReadyH.cons rfl (fun K hK => ?_) AllReadyH.nil)
        · refine step_app (n := nn) (m := np) (by rfl) (.tmp 13) (.tmp 15) _ (by rfl) N5.out P5.out (by rw [List.length_map]; exact hNN.out) (by rw [List.length_map]; exact hNP.out) Tryz.underlying22 Hi.out Hz0.out Hz1.out Hz2.out rfl (by rfl) (by rfl) (one_txt _) (by omega) (by omega) ?_
          intro A16 c16 w6 s16 f16 hb16
          have X6 := Lib.hid (X5.out.app N5.out O13.out f16)
          have N6 := Lib.hid s16
          have hS6 := keepS.out _ X6.out
          refine hK.out _ _ hS6 (fun _ => ?_)
          clear hK hS5 X5 s16 f16 hb16 N5 P5 O13
          try simp only [Act.put, List.setIfInBounds_toArray, List.set_cons_zero, List.set_cons_succ]
          refine wpAnyH_ready (rs := [5, 8]) (by kernel_rfl) (by simp) ?_
          refine AllReadyH.cons rfl (fun K hK => ?_) (AllReadyH.cons rfl (fun K hK => ?_) AllReadyH.nil)
          · go_simp
            refine (HS.out _ A16 c16 (by rw [List.map_append]; exact N6.out.rd)).mono ?_
            rintro e w7 ⟨A17, c17, rfl, b17⟩
            have X7 := Lib.hid (X6.out.on b17)
            have hS7 := keepS.out _ X7.out
            refine hK.out _ _ hS7 (fun _ => ?_)
            clear hK hS6 X6 b17 N6
            try simp only [Act.put, List.setIfInBounds_toArray, List.set_cons_zero, List.set_cons_succ]
            refine wpAnyH_take (i := 6) (v := (.int .i64 (M : Nat))) rfl (by kernel_rfl) (by kernel_rfl) (by kernel_rfl) (fun _ _ _ h => h) (Or.inl ⟨by kernel_rfl, ?_⟩) hS7 ?_
            · intro W' hSw
              obtain ⟨s0, s1, s2⟩ := (hSd.out _).1 hSw
              go_simp
            try change wpAnyH _ _ _ _ _ _ _ (Act.put _ (some 18) _) _
            try simp only [Act.put, List.setIfInBounds_toArray, List.set_cons_zero, List.set_cons_succ]
            refine wpAnyH_take (i := 7) (v := (.agg #[.int .i64 (M : Nat), .int .i64 0])) rfl (by kernel_rfl) (by kernel_rfl) (by kernel_rfl) (fun _ _ _ h => h) (Or.inl ⟨by kernel_rfl, ?_⟩) hS7 ?_
            · intro W' hSw
              obtain ⟨s0, s1, s2⟩ := (hSd.out _).1 hSw
              go_simp
            try change wpAnyH _ _ _ _ _ _ _ (Act.put _ (some 19) _) _
            try simp only [Act.put, List.setIfInBounds_toArray, List.set_cons_zero, List.set_cons_succ]
            refine wpAnyH_ready (rs := [8]) (by kernel_rfl) (by simp) ?_
            refine AllReadyH.cons rfl (fun K hK => ?_) AllReadyH.nil
            go_simp
            have f8 := (Fr.refl [] w7).alloc (.cells #[.int .i64 0, .int .i64 0] 48)
            have X8 := Lib.hid (X7.out.on f8.all)
            have Z8 := Lib.hid (Box.new w7 48 #[.int .i64 0, .int .i64 0])
            have hbz : w.heap.size + 1 < w7.heap.size := X7.out.rb.lt
            have hS8 := keepS.out _ X8.out
            refine hK.out _ _ hS8 (fun _ => ?_)
            clear hK hS7 X7 f8
            generalize hbze : w7.heap.size = bz at *
            generalize w7.alloc (.cells #[.int .i64 0, .int .i64 0] 48) = w8 at *
            clear hbze
            try simp only [Act.put, List.setIfInBounds_toArray, List.set_cons_zero, List.set_cons_succ]
            obtain ⟨z0, z1, z2, z3⟩ := bz_four Z8.out
            refine wpAnyH_ready (rs := [9]) (by kernel_rfl) (by simp) ?_
            refine AllReadyH.cons rfl (fun K hK => ?_) AllReadyH.nil
            go_simp
            have f9 : Fr [bz] w8 ((w8.setCell ⟨bz, 0, none⟩ (.int .i64 (M : Nat))).setCell ⟨bz, 1, none⟩ (.int .i64 0)) := two_fr _ _
            have X9 : Hid (SO2 w ((w8.setCell ⟨bz, 0, none⟩ (.int .i64 (M : Nat))).setCell ⟨bz, 1, none⟩ (.int .i64 0)) #[.slice oA no oc, .slice fA nf fc, .slice cA nc cc] (w.heap.size + 1) #[.int .i64 0, .int .i64 0]) := Lib.hid ⟨X8.out.fr.trans (f9.below (fun g hg => by rw [List.mem_singleton] at hg; omega) X8.out.fr.size), X8.out.sb.kept f9 (by rw [List.mem_singleton]; omega), X8.out.rb.kept f9 (by rw [List.mem_singleton]; omega), X8.out.ge⟩
            have Z9 := Lib.hid (two_put Z8.out (c := .int .i64 (M : Nat)) (d := .int .i64 0))
            refine hK.out _ _ (keepS.out _ X9.out) (fun _ => ?_)
            clear hK z0 z1 z2 z3
            try simp only [Act.put, List.setIfInBounds_toArray, List.set_cons_zero, List.set_cons_succ]
            refine wpAnyH_done (by kernel_rfl) ?_ _
            go_wp2_with fail
            go_meet
            exact ⟨bz, rfl, hbz, X9, Z9⟩
          · go_simp
            have f8 := (Fr.refl [] w6).alloc (.cells #[.int .i64 0, .int .i64 0] 48)
            have X7 := Lib.hid (X6.out.on f8.all)
            have Z7 := Lib.hid (Box.new w6 48 #[.int .i64 0, .int .i64 0])
            have hbz : w.heap.size + 1 < w6.heap.size := X6.out.rb.lt
            have N7 := Lib.hid (N6.out.alloc (.cells #[.int .i64 0, .int .i64 0] 48))
            have hS7 := keepS.out _ X7.out
            refine hK.out _ _ hS7 (fun _ => ?_)
            clear hK hS6 X6 f8 N6
            generalize hbze : w6.heap.size = bz at *
            generalize w6.alloc (.cells #[.int .i64 0, .int .i64 0] 48) = w7 at *
            clear hbze
            try simp only [Act.put, List.setIfInBounds_toArray, List.set_cons_zero, List.set_cons_succ]
            refine wpAnyH_ready (rs := [5]) (by kernel_rfl) (by simp) ?_
            refine AllReadyH.cons rfl (fun K hK => ?_) AllReadyH.nil
            go_simp
            refine (HS.out _ A16 c16 (by rw [List.map_append]; exact N7.out.rd)).mono ?_
            rintro e w8 ⟨A17, c17, rfl, b17⟩
            have X8 := Lib.hid (X7.out.on b17)
            have Z8 := Lib.hid (Z7.out.kept (Fr.of_below b17 []) (by simp))
            have hS8 := keepS.out _ X8.out
            refine hK.out _ _ hS8 (fun _ => ?_)
            clear hK hS7 X7 b17 N7 Z7
            try simp only [Act.put, List.setIfInBounds_toArray, List.set_cons_zero, List.set_cons_succ]
            refine wpAnyH_take (i := 6) (v := (.int .i64 (M : Nat))) rfl (by kernel_rfl) (by kernel_rfl) (by kernel_rfl) (fun _ _ _ h => h) (Or.inl ⟨by kernel_rfl, ?_⟩) hS8 ?_
            · intro W' hSw
              obtain ⟨s0, s1, s2⟩ := (hSd.out _).1 hSw
              go_simp
            try change wpAnyH _ _ _ _ _ _ _ (Act.put _ (some 18) _) _
            try simp only [Act.put, List.setIfInBounds_toArray, List.set_cons_zero, List.set_cons_succ]
            refine wpAnyH_take (i := 7) (v := (.agg #[.int .i64 (M : Nat), .int .i64 0])) rfl (by kernel_rfl) (by kernel_rfl) (by kernel_rfl) (fun _ _ _ h => h) (Or.inl ⟨by kernel_rfl, ?_⟩) hS8 ?_
            · intro W' hSw
              obtain ⟨s0, s1, s2⟩ := (hSd.out _).1 hSw
              go_simp
            try change wpAnyH _ _ _ _ _ _ _ (Act.put _ (some 19) _) _
            try simp only [Act.put, List.setIfInBounds_toArray, List.set_cons_zero, List.set_cons_succ]
            obtain ⟨z0, z1, z2, z3⟩ := bz_four Z8.out
            refine wpAnyH_ready (rs := [9]) (by kernel_rfl) (by simp) ?_
            refine AllReadyH.cons rfl (fun K hK => ?_) AllReadyH.nil
            go_simp
            have f9 : Fr [bz] w8 ((w8.setCell ⟨bz, 0, none⟩ (.int .i64 (M : Nat))).setCell ⟨bz, 1, none⟩ (.int .i64 0)) := two_fr _ _
            have X9 : Hid (SO2 w ((w8.setCell ⟨bz, 0, none⟩ (.int .i64 (M : Nat))).setCell ⟨bz, 1, none⟩ (.int .i64 0)) #[.slice oA no oc, .slice fA nf fc, .slice cA nc cc] (w.heap.size + 1) #[.int .i64 0, .int .i64 0]) := Lib.hid ⟨X8.out.fr.trans (f9.below (fun g hg => by rw [List.mem_singleton] at hg; omega) X8.out.fr.size), X8.out.sb.kept f9 (by rw [List.mem_singleton]; omega), X8.out.rb.kept f9 (by rw [List.mem_singleton]; omega), X8.out.ge⟩
            have Z9 := Lib.hid (two_put Z8.out (c := .int .i64 (M : Nat)) (d := .int .i64 0))
            refine hK.out _ _ (keepS.out _ X9.out) (fun _ => ?_)
            clear hK z0 z1 z2 z3
            try simp only [Act.put, List.setIfInBounds_toArray, List.set_cons_zero, List.set_cons_succ]
            refine wpAnyH_done (by kernel_rfl) ?_ _
            go_wp2_with fail
            go_meet
            exact ⟨bz, rfl, hbz, X9, Z9⟩
        · go_simp
          have f8 := (Fr.refl [] w5).alloc (.cells #[.int .i64 0, .int .i64 0] 48)
          have X6 := Lib.hid (X5.out.on f8.all)
          have Z6 := Lib.hid (Box.new w5 48 #[.int .i64 0, .int .i64 0])
          have hbz : w.heap.size + 1 < w5.heap.size := X5.out.rb.lt
          have N6 := Lib.hid (N5.out.alloc (.cells #[.int .i64 0, .int .i64 0] 48))
          have P6 := Lib.hid (P5.out.below f8.all)
          have hS6 := keepS.out _ X6.out
          refine hK.out _ _ hS6 (fun _ => ?_)
          clear hK hS5 X5 f8 N5 P5
          generalize hbze : w5.heap.size = bz at *
          generalize w5.alloc (.cells #[.int .i64 0, .int .i64 0] 48) = w6 at *
          clear hbze
          try simp only [Act.put, List.setIfInBounds_toArray, List.set_cons_zero, List.set_cons_succ]
          refine wpAnyH_ready (rs := [4]) (by kernel_rfl) (by simp) ?_
          refine AllReadyH.cons rfl (fun K hK => ?_) AllReadyH.nil
          refine step_app (n := nn) (m := np) (by rfl) (.tmp 13) (.tmp 15) _ (by rfl) N6.out P6.out (by rw [List.length_map]; exact hNN.out) (by rw [List.length_map]; exact hNP.out) Tryz.underlying22 Hi.out Hz0.out Hz1.out Hz2.out rfl (by rfl) (by rfl) (one_txt _) (by omega) (by omega) ?_
          intro A16 c16 w7 s16 f16 hb16
          have X7 := Lib.hid (X6.out.app N6.out O13.out f16)
          have N7 := Lib.hid s16
          have Z7 := Lib.hid (Z6.out.kept f16 (N6.out.ne_box Z6.out (by decide)))
          have hS7 := keepS.out _ X7.out
          refine hK.out _ _ hS7 (fun _ => ?_)
          clear hK hS6 X6 s16 f16 hb16 N6 P6 O13 Z6
          try simp only [Act.put, List.setIfInBounds_toArray, List.set_cons_zero, List.set_cons_succ]
          refine wpAnyH_ready (rs := [5]) (by kernel_rfl) (by simp) ?_
          refine AllReadyH.cons rfl (fun K hK => ?_) AllReadyH.nil
          go_simp
          refine (HS.out _ A16 c16 (by rw [List.map_append]; exact N7.out.rd)).mono ?_
          rintro e w8 ⟨A17, c17, rfl, b17⟩
          have X8 := Lib.hid (X7.out.on b17)
          have Z8 := Lib.hid (Z7.out.kept (Fr.of_below b17 []) (by simp))
          have hS8 := keepS.out _ X8.out
          refine hK.out _ _ hS8 (fun _ => ?_)
          clear hK hS7 X7 b17 N7 Z7
          try simp only [Act.put, List.setIfInBounds_toArray, List.set_cons_zero, List.set_cons_succ]
          refine wpAnyH_take (i := 6) (v := (.int .i64 (M : Nat))) rfl (by kernel_rfl) (by kernel_rfl) (by kernel_rfl) (fun _ _ _ h => h) (Or.inl ⟨by kernel_rfl, ?_⟩) hS8 ?_
          · intro W' hSw
            obtain ⟨s0, s1, s2⟩ := (hSd.out _).1 hSw
            go_simp
          try change wpAnyH _ _ _ _ _ _ _ (Act.put _ (some 18) _) _
          try simp only [Act.put, List.setIfInBounds_toArray, List.set_cons_zero, List.set_cons_succ]
          refine wpAnyH_take (i := 7) (v := (.agg #[.int .i64 (M : Nat), .int .i64 0])) rfl (by kernel_rfl) (by kernel_rfl) (by kernel_rfl) (fun _ _ _ h => h) (Or.inl ⟨by kernel_rfl, ?_⟩) hS8 ?_
          · intro W' hSw
            obtain ⟨s0, s1, s2⟩ := (hSd.out _).1 hSw
            go_simp
          try change wpAnyH _ _ _ _ _ _ _ (Act.put _ (some 19) _) _
          try simp only [Act.put, List.setIfInBounds_toArray, List.set_cons_zero, List.set_cons_succ]
          obtain ⟨z0, z1, z2, z3⟩ := bz_four Z8.out
          refine wpAnyH_ready (rs := [9]) (by kernel_rfl) (by simp) ?_
          refine AllReadyH.cons rfl (fun K hK => ?_) AllReadyH.nil
          go_simp
          have f9 : Fr [bz] w8 ((w8.setCell ⟨bz, 0, none⟩ (.int .i64 (M : Nat))).setCell ⟨bz, 1, none⟩ (.int .i64 0)) := two_fr _ _
          have X9 : Hid (SO2 w ((w8.setCell ⟨bz, 0, none⟩ (.int .i64 (M : Nat))).setCell ⟨bz, 1, none⟩ (.int .i64 0)) #[.slice oA no oc, .slice fA nf fc, .slice cA nc cc] (w.heap.size + 1) #[.int .i64 0, .int .i64 0]) := Lib.hid ⟨X8.out.fr.trans (f9.below (fun g hg => by rw [List.mem_singleton] at hg; omega) X8.out.fr.size), X8.out.sb.kept f9 (by rw [List.mem_singleton]; omega), X8.out.rb.kept f9 (by rw [List.mem_singleton]; omega), X8.out.ge⟩
          have Z9 := Lib.hid (two_put Z8.out (c := .int .i64 (M : Nat)) (d := .int .i64 0))
          refine hK.out _ _ (keepS.out _ X9.out) (fun _ => ?_)
          clear hK z0 z1 z2 z3
          try simp only [Act.put, List.setIfInBounds_toArray, List.set_cons_zero, List.set_cons_succ]
          refine wpAnyH_done (by kernel_rfl) ?_ _
          go_wp2_with fail
          go_meet
          exact ⟨bz, rfl, hbz, X9, Z9⟩
      · go_simp
        have f8 := (Fr.refl [] w4).alloc (.cells #[.int .i64 0, .int .i64 0] 48)
        have X5 := Lib.hid (X4.out.on f8.all)
        have Z5 := Lib.hid (Box.new w4 48 #[.int .i64 0, .int .i64 0])
        have hbz : w.heap.size + 1 < w4.heap.size := X4.out.rb.lt
        have N5 := Lib.hid (N4.out.alloc (.cells #[.int .i64 0, .int .i64 0] 48))
        have hS5 := keepS.out _ X5.out
        refine hK.out _ _ hS5 (fun _ => ?_)
        clear hK hS4 X4 f8 N4
        generalize hbze : w4.heap.size = bz at *
        generalize w4.alloc (.cells #[.int .i64 0, .int .i64 0] 48) = w5 at *
        clear hbze
        try simp only [Act.put, List.setIfInBounds_toArray, List.set_cons_zero, List.set_cons_succ]
        refine wpAnyH_ready (rs := [3]) (by kernel_rfl) (by simp) ?_
        refine AllReadyH.cons rfl (fun K hK => ?_) AllReadyH.nil
        go_simp
        refine (HP.out _ X5.out.fr).mono ?_
        rintro e w6 ⟨A15, c15, rfl, q15, b15⟩
        have X6 := Lib.hid (X5.out.on b15)
        have N6 := Lib.hid (N5.out.kept (Fr.of_below b15 []) (by simp))
        have P6 := Lib.hid q15
        have Z6 := Lib.hid (Z5.out.kept (Fr.of_below b15 []) (by simp))
        have hS6 := keepS.out _ X6.out
        refine hK.out _ _ hS6 (fun _ => ?_)
        clear hK hS5 X5 q15 b15 N5 Z5
        try simp only [Act.put, List.setIfInBounds_toArray, List.set_cons_zero, List.set_cons_succ]
        refine wpAnyH_ready (rs := [4]) (by kernel_rfl) (by simp) ?_
        refine AllReadyH.cons rfl (fun K hK => ?_) AllReadyH.nil
        refine step_app (n := nn) (m := np) (by rfl) (.tmp 13) (.tmp 15) _ (by rfl) N6.out P6.out (by rw [List.length_map]; exact hNN.out) (by rw [List.length_map]; exact hNP.out) Tryz.underlying22 Hi.out Hz0.out Hz1.out Hz2.out rfl (by rfl) (by rfl) (one_txt _) (by omega) (by omega) ?_
        intro A16 c16 w7 s16 f16 hb16
        have X7 := Lib.hid (X6.out.app N6.out O13.out f16)
        have N7 := Lib.hid s16
        have Z7 := Lib.hid (Z6.out.kept f16 (N6.out.ne_box Z6.out (by decide)))
        have hS7 := keepS.out _ X7.out
        refine hK.out _ _ hS7 (fun _ => ?_)
        clear hK hS6 X6 s16 f16 hb16 N6 P6 O13 Z6
        try simp only [Act.put, List.setIfInBounds_toArray, List.set_cons_zero, List.set_cons_succ]
        refine wpAnyH_ready (rs := [5]) (by kernel_rfl) (by simp) ?_
        refine AllReadyH.cons rfl (fun K hK => ?_) AllReadyH.nil
        go_simp
        refine (HS.out _ A16 c16 (by rw [List.map_append]; exact N7.out.rd)).mono ?_
        rintro e w8 ⟨A17, c17, rfl, b17⟩
        have X8 := Lib.hid (X7.out.on b17)
        have Z8 := Lib.hid (Z7.out.kept (Fr.of_below b17 []) (by simp))
        have hS8 := keepS.out _ X8.out
        refine hK.out _ _ hS8 (fun _ => ?_)
        clear hK hS7 X7 b17 N7 Z7
        try simp only [Act.put, List.setIfInBounds_toArray, List.set_cons_zero, List.set_cons_succ]
        refine wpAnyH_take (i := 6) (v := (.int .i64 (M : Nat))) rfl (by kernel_rfl) (by kernel_rfl) (by kernel_rfl) (fun _ _ _ h => h) (Or.inl ⟨by kernel_rfl, ?_⟩) hS8 ?_
        · intro W' hSw
          obtain ⟨s0, s1, s2⟩ := (hSd.out _).1 hSw
          go_simp
        try change wpAnyH _ _ _ _ _ _ _ (Act.put _ (some 18) _) _
        try simp only [Act.put, List.setIfInBounds_toArray, List.set_cons_zero, List.set_cons_succ]
        refine wpAnyH_take (i := 7) (v := (.agg #[.int .i64 (M : Nat), .int .i64 0])) rfl (by kernel_rfl) (by kernel_rfl) (by kernel_rfl) (fun _ _ _ h => h) (Or.inl ⟨by kernel_rfl, ?_⟩) hS8 ?_
        · intro W' hSw
          obtain ⟨s0, s1, s2⟩ := (hSd.out _).1 hSw
          go_simp
        try change wpAnyH _ _ _ _ _ _ _ (Act.put _ (some 19) _) _
        try simp only [Act.put, List.setIfInBounds_toArray, List.set_cons_zero, List.set_cons_succ]
        obtain ⟨z0, z1, z2, z3⟩ := bz_four Z8.out
        refine wpAnyH_ready (rs := [9]) (by kernel_rfl) (by simp) ?_
        refine AllReadyH.cons rfl (fun K hK => ?_) AllReadyH.nil
        go_simp
        have f9 : Fr [bz] w8 ((w8.setCell ⟨bz, 0, none⟩ (.int .i64 (M : Nat))).setCell ⟨bz, 1, none⟩ (.int .i64 0)) := two_fr _ _
        have X9 : Hid (SO2 w ((w8.setCell ⟨bz, 0, none⟩ (.int .i64 (M : Nat))).setCell ⟨bz, 1, none⟩ (.int .i64 0)) #[.slice oA no oc, .slice fA nf fc, .slice cA nc cc] (w.heap.size + 1) #[.int .i64 0, .int .i64 0]) := Lib.hid ⟨X8.out.fr.trans (f9.below (fun g hg => by rw [List.mem_singleton] at hg; omega) X8.out.fr.size), X8.out.sb.kept f9 (by rw [List.mem_singleton]; omega), X8.out.rb.kept f9 (by rw [List.mem_singleton]; omega), X8.out.ge⟩
        have Z9 := Lib.hid (two_put Z8.out (c := .int .i64 (M : Nat)) (d := .int .i64 0))
        refine hK.out _ _ (keepS.out _ X9.out) (fun _ => ?_)
        clear hK z0 z1 z2 z3
        try simp only [Act.put, List.setIfInBounds_toArray, List.set_cons_zero, List.set_cons_succ]
        refine wpAnyH_done (by kernel_rfl) ?_ _
        go_wp2_with fail
        go_meet
        exact ⟨bz, rfl, hbz, X9, Z9⟩
    · go_simp
      have f8 := (Fr.refl [] w3).alloc (.cells #[.int .i64 0, .int .i64 0] 48)
      have X4 := Lib.hid (X3.out.on f8.all)
      have Z4 := Lib.hid (Box.new w3 48 #[.int .i64 0, .int .i64 0])
      have hbz : w.heap.size + 1 < w3.heap.size := X3.out.rb.lt
      have hS4 := keepS.out _ X4.out
      refine hK.out _ _ hS4 (fun _ => ?_)
      clear hK hS3 X3 f8
      generalize hbze : w3.heap.size = bz at *
      generalize w3.alloc (.cells #[.int .i64 0, .int .i64 0] 48) = w4 at *
      clear hbze
      try simp only [Act.put, List.setIfInBounds_toArray, List.set_cons_zero, List.set_cons_succ]
      refine wpAnyH_ready (rs := [1]) (by kernel_rfl) (by simp) ?_
      refine AllReadyH.cons rfl (fun K hK => ?_) AllReadyH.nil
      go_simp
      refine (HN.out _ X4.out.fr).mono ?_
      rintro e w5 ⟨A13, c13, rfl, q13, o13, b13⟩
      have X5 := Lib.hid (X4.out.on b13)
      have N5 := Lib.hid q13
      have O13 := Lib.hid (fun q hq => Nat.le_trans X4.out.fr.size (o13 q hq))
      have Z5 := Lib.hid (Z4.out.kept (Fr.of_below b13 []) (by simp))
      have hS5 := keepS.out _ X5.out
      refine hK.out _ _ hS5 (fun _ => ?_)
      clear hK hS4 X4 q13 o13 b13 Z4
      try simp only [Act.put, List.setIfInBounds_toArray, List.set_cons_zero, List.set_cons_succ]
      refine wpAnyH_ready (rs := [3]) (by kernel_rfl) (by simp) ?_
      refine AllReadyH.cons rfl (fun K hK => ?_) AllReadyH.nil
      go_simp
      refine (HP.out _ X5.out.fr).mono ?_
      rintro e w6 ⟨A15, c15, rfl, q15, b15⟩
      have X6 := Lib.hid (X5.out.on b15)
      have N6 := Lib.hid (N5.out.kept (Fr.of_below b15 []) (by simp))
      have P6 := Lib.hid q15
      have Z6 := Lib.hid (Z5.out.kept (Fr.of_below b15 []) (by simp))
      have hS6 := keepS.out _ X6.out
      refine hK.out _ _ hS6 (fun _ => ?_)
      clear hK hS5 X5 q15 b15 N5 Z5
      try simp only [Act.put, List.setIfInBounds_toArray, List.set_cons_zero, List.set_cons_succ]
      refine wpAnyH_ready (rs := [4]) (by kernel_rfl) (by simp) ?_
      refine AllReadyH.cons rfl (fun K hK => ?_) AllReadyH.nil
      refine step_app (n := nn) (m := np) (by rfl) (.tmp 13) (.tmp 15) _ (by rfl) N6.out P6.out (by rw [List.length_map]; exact hNN.out) (by rw [List.length_map]; exact hNP.out) Tryz.underlying22 Hi.out Hz0.out Hz1.out Hz2.out rfl (by rfl) (by rfl) (one_txt _) (by omega) (by omega) ?_
      intro A16 c16 w7 s16 f16 hb16
      have X7 := Lib.hid (X6.out.app N6.out O13.out f16)
      have N7 := Lib.hid s16
      have Z7 := Lib.hid (Z6.out.kept f16 (N6.out.ne_box Z6.out (by decide)))
      have hS7 := keepS.out _ X7.out
      refine hK.out _ _ hS7 (fun _ => ?_)
      clear hK hS6 X6 s16 f16 hb16 N6 P6 O13 Z6
      try simp only [Act.put, List.setIfInBounds_toArray, List.set_cons_zero, List.set_cons_succ]
      refine wpAnyH_ready (rs := [5]) (by kernel_rfl) (by simp) ?_
      refine AllReadyH.cons rfl (fun K hK => ?_) AllReadyH.nil
      go_simp
      refine (HS.out _ A16 c16 (by rw [List.map_append]; exact N7.out.rd)).mono ?_
      rintro e w8 ⟨A17, c17, rfl, b17⟩
      have X8 := Lib.hid (X7.out.on b17)
      have Z8 := Lib.hid (Z7.out.kept (Fr.of_below b17 []) (by simp))
      have hS8 := keepS.out _ X8.out
      refine hK.out _ _ hS8 (fun _ => ?_)
      clear hK hS7 X7 b17 N7 Z7
      try simp only [Act.put, List.setIfInBounds_toArray, List.set_cons_zero, List.set_cons_succ]
      refine wpAnyH_take (i := 6) (v := (.int .i64 (M : Nat))) rfl (by kernel_rfl) (by kernel_rfl) (by kernel_rfl) (fun _ _ _ h => h) (Or.inl ⟨by kernel_rfl, ?_⟩) hS8 ?_
      · intro W' hSw
        obtain ⟨s0, s1, s2⟩ := (hSd.out _).1 hSw
        go_simp
      try change wpAnyH _ _ _ _ _ _ _ (Act.put _ (some 18) _) _
      try simp only [Act.put, List.setIfInBounds_toArray, List.set_cons_zero, List.set_cons_succ]
      refine wpAnyH_take (i := 7) (v := (.agg #[.int .i64 (M : Nat), .int .i64 0])) rfl (by kernel_rfl) (by kernel_rfl) (by kernel_rfl) (fun _ _ _ h => h) (Or.inl ⟨by kernel_rfl, ?_⟩) hS8 ?_
      · intro W' hSw
        obtain ⟨s0, s1, s2⟩ := (hSd.out _).1 hSw
        go_simp
      try change wpAnyH _ _ _ _ _ _ _ (Act.put _ (some 19) _) _
      try simp only [Act.put, List.setIfInBounds_toArray, List.set_cons_zero, List.set_cons_succ]
      obtain ⟨z0, z1, z2, z3⟩ := bz_four Z8.out
      refine wpAnyH_ready (rs := [9]) (by kernel_rfl) (by simp) ?_
      refine AllReadyH.cons rfl (fun K hK => ?_) AllReadyH.nil
      go_simp
      have f9 : Fr [bz] w8 ((w8.setCell ⟨bz, 0, none⟩ (.int .i64 (M : Nat))).setCell ⟨bz, 1, none⟩ (.int .i64 0)) := two_fr _ _
      have X9 : Hid (SO2 w ((w8.setCell ⟨bz, 0, none⟩ (.int .i64 (M : Nat))).setCell ⟨bz, 1, none⟩ (.int .i64 0)) #[.slice oA no oc, .slice fA nf fc, .slice cA nc cc] (w.heap.size + 1) #[.int .i64 0, .int .i64 0]) := Lib.hid ⟨X8.out.fr.trans (f9.below (fun g hg => by rw [List.mem_singleton] at hg; omega) X8.out.fr.size), X8.out.sb.kept f9 (by rw [List.mem_singleton]; omega), X8.out.rb.kept f9 (by rw [List.mem_singleton]; omega), X8.out.ge⟩
      have Z9 := Lib.hid (two_put Z8.out (c := .int .i64 (M : Nat)) (d := .int .i64 0))
      refine hK.out _ _ (keepS.out _ X9.out) (fun _ => ?_)
      clear hK z0 z1 z2 z3
      try simp only [Act.put, List.setIfInBounds_toArray, List.set_cons_zero, List.set_cons_succ]
      refine wpAnyH_done (by kernel_rfl) ?_ _
      go_wp2_with fail
      go_meet
      exact ⟨bz, rfl, hbz, X9, Z9⟩
  case rest =>
    obtain ⟨bz, rfl, hbz, X3, Z3⟩ := hcut
    clear HN HP HS X2 Hi Hz0 Hz1 Hz2 d0
    rename World => w9
    have hf0 : Hid (M = M + fnN (fs.take 0)) := Lib.hid (by simp [fnN])
    obtain ⟨t0, t1, t2⟩ := X3.out.three
    go_wp2_with fail
    clear t0 t1 t2
    go_loopw [23] (fun i wr => ∃ (j z : Nat), j ≤ nf ∧ i = .int .i64 j ∧ Hid (z = M + fnN (fs.take j)) ∧ z ≤ 2010000 ∧ Hid (SO2 w wr #[.slice oA no oc, .slice fA nf fc, .slice cA nc cc] (w.heap.size + 1) #[.int .i64 0, .int .i64 0]) ∧ Hid (Box wr bz 48 #[.int .i64 (z : Nat), .int .i64 0])) (fun i _ => nf - (intOf i).toNat)
    case atStart => exact ⟨0, M, by omega, rfl, hf0, by omega, X3, Z3⟩
    case round =>
      obtain ⟨j, z, hj, rfl, hz, hzl, HX, HZ⟩ := hrel
      clear X3 Z3 hf0
      rename World => wr
      by_cases hjl : j < nf
      · have e2 : decide ((j : Int) < (nf : Int)) = true := decide_eq_true (by omega)
        have hjI : (j : Int) < (nf : Int) := by omega
        have hjx : j < fs.length := by rw [← hNf.out]; exact hjl
        obtain ⟨g, o, rfl, hg, f0, f1, f2⟩ := tbl_fn (HF.out wr HX.out.fr) hjx
        have hks := hf6.out fs[j] (List.getElem_mem hjx)
        have hnx : Hid (z + (fs[j].kinds.size + 1) = M + fnN (fs.take (j + 1))) := Lib.hid (by rw [fnN_take hjx, hz.out]; omega)
        have hzb : z + (fs[j].kinds.size + 1) ≤ 2010000 := by
          have h1 := hfn.out (j + 1)
          have h2 := hnx.out
          omega
        clear hz
        generalize fs[j] = f at *
        obtain ⟨fn, fk, fr⟩ := f
        dsimp only at *
        have fa := (Fr.refl [] wr).alloc (.cells #[.string fn, .string fk, .string fr] 103)
        have HX1 := Lib.hid (HX.out.on fa.all)
        have HZ1 := Lib.hid (HZ.out.kept fa (by simp))
        have HB1 := Lib.hid (Box.new wr 103 #[.string fn, .string fk, .string fr])
        have b1 := HB1.out.cell 1
        simp only [List.getElem?_toArray, List.getElem?_cons_zero, List.getElem?_cons_succ] at b1
        obtain ⟨z0, z1, z2, z3⟩ := bz_four HZ1.out
        clear fa HX HZ
        generalize hkz : fk.size = kz at *
        go_upto_region 7 with fail
        generalize hW : wr.alloc (.cells #[.string fn, .string fk, .string fr] 103) = W at *
        clear hW f0 f1 f2
        generalize wr.heap.size = bm at *
        go_wp2_with fail
        go_roundw
        case rel => exact ⟨j + 1, z + (kz + 1), by omega, by go_num, hnx, hzb, Lib.hid (HX1.out.set (by omega)), Lib.hid (bz_put HZ1.out (by omega))⟩
        case measure => simp [intOf]; omega
      · obtain rfl : j = nf := by omega
        have e2 : decide ((j : Int) < (j : Int)) = false := decide_eq_false (by omega)
        have hV : Hid (V1 = z) := Lib.hid (by rw [hW1.out, hz.out, List.take_of_length_le (by rw [hNf.out]; exact Nat.le_refl _)])
        have hc0 : Hid (0 = coN (L.take 0)) := Lib.hid (by simp [coN])
        clear hz hW1
        obtain ⟨t0, t1, t2⟩ := HX.out.three
        go_wp2_with fail
        clear t0 t1 t2
        go_loopw [39] (fun i wr => ∃ (q y : Nat), q ≤ nc ∧ i = .int .i64 q ∧ Hid (y = coN (L.take q)) ∧ Hid (SO2 w wr #[.slice oA no oc, .slice fA j fc, .slice cA nc cc] (w.heap.size + 1) #[.int .i64 0, .int .i64 0]) ∧ Hid (Box wr bz 48 #[.int .i64 (z : Nat), .int .i64 (y : Nat)])) (fun i _ => nc - (intOf i).toNat)
        case atStart => exact ⟨0, 0, by omega, rfl, hc0, HX, HZ⟩
        case round =>
          obtain ⟨q, y, hq, rfl, hy, HX4, HZ4⟩ := hrel
          clear hc0 HX HZ
          rename World => wt
          have hyl : y ≤ 6000 := by have h1 := hco.out q; have h2 := hy.out; omega
          by_cases hql : q < nc
          · have e3 : decide ((q : Int) < (nc : Int)) = true := decide_eq_true (by omega)
            have hqI : (q : Int) < (nc : Int) := by omega
            have hqx : q < cs.length := by rw [← hNc.out]; exact hql
            have hqL : q < L.length := by rw [hLn.out]; exact hql
            have hLe : Hid (L[q] = cs[q].c) := Lib.hid (by
              have e : L[q]? = some cs[q].c := by rw [hL.out, List.getElem?_map, List.getElem?_eq_getElem hqx]; rfl
              rw [List.getElem?_eq_getElem hqL] at e
              exact Option.some.inj e)
            obtain ⟨g, o, rfl, hg, a0, a1, a2, a3, a4, a5⟩ := tbl_con (HC.out wt HX4.out.fr) hqx
            have hnx := Lib.hid (coN_take hqL)
            rw [hLe.out] at hnx
            have hop := hop6.out cs[q] (List.getElem_mem hqx)
            clear hLe
            generalize cs[q] = x at *
            obtain ⟨⟨xo, xa, xb, xk, xt, xg⟩, xA, xc⟩ := x
            dsimp only at *
            have fa := (Fr.refl [] wt).alloc (.cells #[.int .i64 xo, .string xa, .string xb, .int .i64 xk, .string xt, .slice xA xg.length xc] 105)
            have HX1 := Lib.hid (HX4.out.on fa.all)
            have HZ1 := Lib.hid (HZ4.out.kept fa (by simp))
            have HB1 := Lib.hid (Box.new wt 105 #[.int .i64 xo, .string xa, .string xb, .int .i64 xk, .string xt, .slice xA xg.length xc])
            have b0 := HB1.out.cell 0
            simp only [List.getElem?_toArray, List.getElem?_cons_zero, List.getElem?_cons_succ] at b0
            obtain ⟨z0, z1, z2, z3⟩ := bz_four HZ1.out
            clear fa HX4 HZ4 HB1
            go_upto_region 12 with fail
            generalize hW : wt.alloc (.cells #[.int .i64 xo, .string xa, .string xb, .int .i64 xk, .string xt, .slice xA xg.length xc] 105) = W at *
            clear hW a0 a1 a2 a3 a4 a5
            generalize wt.heap.size = bm at *
            have h6 : xo = 1 ∨ xo = 2 ∨ xo = 3 ∨ xo = 4 ∨ xo = 5 ∨ xo = 6 := by omega
            rcases h6 with rfl | rfl | rfl | rfl | rfl | rfl
            · have hn2 : Hid (y = coN (L.take (q + 1))) := Lib.hid (by rw [hnx.out, if_neg (by decide), hy.out]; rfl)
              clear hnx hy hop
              go_wp2_with fail
              go_roundw
              case rel => exact ⟨q + 1, y, by omega, by go_num, hn2, HX1, HZ1⟩
              case measure => simp [intOf]; omega
            · have hn2 : Hid (y = coN (L.take (q + 1))) := Lib.hid (by rw [hnx.out, if_neg (by decide), hy.out]; rfl)
              clear hnx hy hop
              go_wp2_with fail
              go_roundw
              case rel => exact ⟨q + 1, y, by omega, by go_num, hn2, HX1, HZ1⟩
              case measure => simp [intOf]; omega
            · have hn2 : Hid (y + 1 = coN (L.take (q + 1))) := Lib.hid (by rw [hnx.out, if_pos (by decide), hy.out])
              clear hnx hy hop
              go_wp2_with fail
              go_roundw
              case rel => exact ⟨q + 1, y + 1, by omega, by go_num, hn2, Lib.hid (HX1.out.set (by omega)), Lib.hid (bz_put1 HZ1.out (by omega))⟩
              case measure => simp [intOf]; omega
            · have hn2 : Hid (y + 1 = coN (L.take (q + 1))) := Lib.hid (by rw [hnx.out, if_pos (by decide), hy.out])
              clear hnx hy hop
              go_wp2_with fail
              go_roundw
              case rel => exact ⟨q + 1, y + 1, by omega, by go_num, hn2, Lib.hid (HX1.out.set (by omega)), Lib.hid (bz_put1 HZ1.out (by omega))⟩
              case measure => simp [intOf]; omega
            · have hn2 : Hid (y + 1 = coN (L.take (q + 1))) := Lib.hid (by rw [hnx.out, if_pos (by decide), hy.out])
              clear hnx hy hop
              go_wp2_with fail
              go_roundw
              case rel => exact ⟨q + 1, y + 1, by omega, by go_num, hn2, Lib.hid (HX1.out.set (by omega)), Lib.hid (bz_put1 HZ1.out (by omega))⟩
              case measure => simp [intOf]; omega
            · have hn2 : Hid (y + 1 = coN (L.take (q + 1))) := Lib.hid (by rw [hnx.out, if_pos (by decide), hy.out])
              clear hnx hy hop
              go_wp2_with fail
              go_roundw
              case rel => exact ⟨q + 1, y + 1, by omega, by go_num, hn2, Lib.hid (HX1.out.set (by omega)), Lib.hid (bz_put1 HZ1.out (by omega))⟩
              case measure => simp [intOf]; omega
          · obtain rfl : q = nc := by omega
            have e3 : decide ((q : Int) < (q : Int)) = false := decide_eq_false (by omega)
            have hv2 : Hid (V2 = y) := Lib.hid (by rw [hW2.out, hy.out, List.take_of_length_le (by rw [hLn.out]; exact Nat.le_refl _)])
            obtain ⟨z0, z1, z2, z3⟩ := bz_four HZ4.out
            obtain ⟨q0, q1, q2, q3⟩ := bz_four HX4.out.rb
            have hb5 := two_put HX4.out.rb (c := .int .i64 (z : Nat)) (d := .int .i64 (y : Nat))
            have HB5 := Lib.hid hb5
            have hfin : Hid (Below w.heap.size w ((wt.setCell ⟨w.heap.size + 1, 0, none⟩ (.int .i64 (z : Nat))).setCell ⟨w.heap.size + 1, 1, none⟩ (.int .i64 (y : Nat)))) := Lib.hid (HX4.out.fr.trans ((two_fr _ _).below (fun g hg => by rw [List.mem_singleton] at hg; omega) HX4.out.fr.size))
            clear hb5 HX4 HZ4 hy
            go_wp2_with fail
            (try simp only [Exit.inBlock, Exit.then])
            refine bodyPost_ret (results_cell_row rfl _ _ _ _ _ _ _ rfl HB5.out uZ rfl (by kernel_rfl)) rfl ?_
            exact ⟨by rw [hV.out, hv2.out], hfin.out⟩
end Go.Proofs.YtdmmkjijgoiecaaGreatDoor.bd
