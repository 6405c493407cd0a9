/-
  tarjan: Leads: the walks.
-/
import Derived.Test.YtpdidgacmikllaaTjA5
namespace Go.Proofs.Ytpdidgacmikllaa.tj
open Go.RowKit Go.Proofs.Ytpdidgacmikllaa.mem

def CmPost (w : World) (g : G) (o pt ps pa sb : Nat) (all : List Nat) (e : Ending) (W : World) : Prop := e = .returned (.tuple #[]) ∧ ∃ A c seen, LV w W g o pt ps pa sb A c all seen

set_option maxRecDepth 100000 in
theorem come_any (w W : World) (g : G) (hn : g.n ≤ 100) (n : Int) (hgn : g.n = n.toNat) (o pt ps pa sb : Nat) (A : Option Addr) (c : Nat) (all : List Nat) (seen : Nat → Bool) (h : LV w W g o pt ps pa sb A c all seen) (hal : all.length ≤ 1000) (m : Int) :
    Calls Try.prog 27 #[.int .i64 m, .pointer (some ⟨pt, 0, none⟩), .pointer (some ⟨ps, 0, none⟩), .pointer (some ⟨pa, 0, none⟩)] W (CmPost w g o pt ps pa sb (addI n all m)) := by
  have H := Lib.hid h
  obtain ⟨z, hz⟩ : ∃ z, Hid (g.n = z) := ⟨_, Lib.hid rfl⟩
  obtain ⟨q, hq⟩ : ∃ q, Hid (all.length = q) := ⟨_, Lib.hid rfl⟩
  have hz' : z ≤ 100 := by rw [← hz.out]; exact hn
  have hq' : q ≤ 1000 := by rw [← hq.out]; exact hal
  have b1 : W.cell? ⟨pt, 0, none⟩ = some (.slice (some ⟨o, 0, none⟩) z z) := by rw [← hz.out]; exact h.bt.cell 0
  have b2 : W.cell? ⟨ps, 0, none⟩ = some (.slice (some ⟨sb, 0, none⟩) z z) := by rw [← hz.out]; exact h.bs.cell 0
  have b3 : W.cell? ⟨pa, 0, none⟩ = some (.slice A q c) := by rw [← hq.out]; exact h.ba.cell 0
  have KM := Lib.hid (fun W => member_any (z : Int) m W)
  have hin : Hid (inG (z : Int) m = inG n m) := Lib.hid (by have h1 := hz.out; unfold inG; by_cases h : 0 ≤ m <;> simp [h]; omega)
  cases hm : inG n m with
  | false =>
    rw [hin.out, hm] at KM
    have fin : Hid (CmPost w g o pt ps pa sb (addI n all m) (.returned (.tuple #[])) W) := Lib.hid ⟨rfl, A, c, seen, by unfold addI; rw [hm]; exact h⟩
    clear h hn hgn hal hm hin
    go_enter Try.func27, Try.ntmps27
    go_wp2_with fail
    refine (KM.out _).mono ?_
    rintro e w2 ⟨rfl, rfl⟩
    clear KM
    go_wp2_with fail
    go_end0
    exact fin.out
  | true =>
    rw [hin.out, hm] at KM
    have hm2 := hm
    unfold inG at hm2
    simp only [Bool.and_eq_true, decide_eq_true_eq] at hm2
    obtain ⟨k, rfl⟩ : ∃ k : Nat, m = k := ⟨m.toNat, by omega⟩
    have hkz : k < z := by have := hz.out; omega
    have hkI : (k : Int) < (z : Int) := by omega
    have hkg : k < g.n := by rw [hz.out]; exact hkz
    have cs := (h.sn.cell k).trans (bv_at _ hkg)
    have cf := h.sn.free k
    have hse := h.se k hkg
    have hadd : Hid (addI n all (k : Int) = addN all k) := Lib.hid (addI_in hm2.2)
    rw [hadd.out]
    cases hs : seen k with
    | true =>
      rw [hs] at cs
      have fin : Hid (CmPost w g o pt ps pa sb (addN all k) (.returned (.tuple #[])) W) := Lib.hid ⟨rfl, A, c, seen, by unfold addN; rw [if_pos (hse.1 hs)]; exact h⟩
      clear h hn hgn hal hm hin hm2 hkg hse hs cf
      go_enter Try.func27, Try.ntmps27
      go_wp2_with fail
      refine (KM.out _).mono ?_
      rintro e w2 ⟨rfl, rfl⟩
      clear KM
      go_wp2_with fail
      go_end0
      exact fin.out
    | false =>
      rw [hs] at cs
      have hnm : Hid (k ∉ all) := Lib.hid (fun hh => by rw [hse.2 hh] at hs; cases hs)
      obtain ⟨q1, q2, q3, q4, q5, q6⟩ := h.mark k
      have hs1 : Hid ((W.setCell ⟨sb, k, none⟩ (.bool true)).heap.size = W.heap.size) := Lib.hid (by simp [World.setCell])
      have d3 : (W.setCell ⟨sb, k, none⟩ (.bool true)).cell? ⟨pa, 0, none⟩ = some (.slice A q c) := by rw [← hq.out]; exact q3.cell 0
      have Q3 := Lib.hid q3
      have Q5 := Lib.hid q5
      obtain ⟨i0, hi0, hz0, hz1, hz2⟩ := info_parts info_int
      have Hi := Lib.hid hi0
      have Hz0 := Lib.hid hz0
      have Hz1 := Lib.hid hz1
      have Hz2 := Lib.hid hz2
      have hsg := Lib.hid (q5.alloc (.cells #[.int .i64 (k : Nat)] 3))
      have hlen2 : Hid (q = (natI all).length) := Lib.hid (by rw [natI_len, hq.out])
      clear h hn hgn hal hm hin hm2 hkg hse hs q1 q2 q3 q4 q5 q6 hi0 hz0 hz1 hz2
      go_enter Try.func27, Try.ntmps27
      go_wp2_with fail
      refine (KM.out _).mono ?_
      rintro e w2 ⟨rfl, rfl⟩
      clear KM
      go_upto_region 2 with fail
      clear b1 b2 b3 cs cf
      generalize hW1 : W.setCell ⟨sb, k, none⟩ (.bool true) = W1 at *
      have HW1 := Lib.hid hW1
      clear hW1
      go_wp2_with (at_builtin
                   refine wpList_push (u := .int .i64 (k : Nat)) rfl (.tmp 19) (.tmp 21) _ rfl hsg.out hlen2.out Try.underlying32 Hi.out Hz0.out Hz1.out Hz2.out rfl rfl rfl (new_cell _ _ _) rfl (by omega) (by omega) ?_
                   intro A5 c5 w5 hs5 f5 b5
                   have f6 : Fr (blk A) W1 w5 := ((Fr.refl [] W1).alloc _).trans f5 (by simp) (fun g hg => Or.inl hg)
                   have Q := lv_put H.out hnm.out (k := q + 1) (by rw [hq.out]) hs5 (by rw [HW1.out]; exact f6) (fun g hg => by
                     rcases b5 with e | e
                     · exact Or.inl (e ▸ hg)
                     · rw [e, List.mem_singleton] at hg
                       subst hg
                       rw [← hs1.out]
                       exact Or.inr (by simp))
                   have hQ := Lib.hid Q
                   have p3 := Q3.out.kept f6 (Q5.out.ne_box Q3.out (by decide))
                   have q3 := p3.cell 0
                   have p4 := p3.free 0
                   clear Q hs5 f5 f6 b5 p3)
      go_end0
      exact ⟨rfl, A5, c5, _, hQ.out⟩

set_option maxRecDepth 100000 in
theorem leads_big (n : Int) (hn : 20000 < n) (v u : Value) (w : World) : Calls Try.prog 17 #[.int .i64 n, v, u] w fun e w' => e = .returned (.slice none 0 0) ∧ Below w.heap.size w w' := by
  have K := Lib.hid (outs_big n hn v w)
  go_enter Try.func17, Try.ntmps17
  go_wp2_with fail
  refine K.out.mono ?_
  rintro e w1 ⟨rfl, rfl⟩
  go_wp2_with fail
  go_ret
  exact ⟨rfl, (Below.refl _ _).alloc (Nat.le_refl _) _⟩

theorem lv_start (w : World) (g : G) (o : Nat) : LV w ((((w.alloc (.cells #[.slice (some ⟨o, 0, none⟩) g.n g.n] 25)).alloc (.cells (bv (fun _ => false) g.n) 4)).alloc (.cells #[.slice (some ⟨w.heap.size + 1, 0, none⟩) g.n g.n] 48)).alloc (.cells #[.slice none 0 0] 32)) g o w.heap.size (w.heap.size + 1 + 1) (w.heap.size + 1 + 1 + 1) (w.heap.size + 1) none 0 [] (fun _ => false) := by
  generalize h1 : w.alloc (.cells #[.slice (some ⟨o, 0, none⟩) g.n g.n] 25) = w1
  have s1 : w1.heap.size = w.heap.size + 1 := by rw [← h1]; exact World.size_alloc ..
  have b1 : Box w1 w.heap.size 25 #[.slice (some ⟨o, 0, none⟩) g.n g.n] := by rw [← h1]; exact Box.new _ _ _
  generalize h2 : w1.alloc (.cells (bv (fun _ => false) g.n) 4) = w2
  have s2 : w2.heap.size = w.heap.size + 1 + 1 := by rw [← h2, ← s1]; exact World.size_alloc ..
  have b2 : Box w2 (w.heap.size + 1) 4 (bv (fun _ => false) g.n) := by rw [← h2, ← s1]; exact Box.new _ _ _
  generalize h3 : w2.alloc (.cells #[.slice (some ⟨w.heap.size + 1, 0, none⟩) g.n g.n] 48) = w3
  have s3 : w3.heap.size = w.heap.size + 1 + 1 + 1 := by rw [← h3, ← s2]; exact World.size_alloc ..
  have b3 : Box w3 (w.heap.size + 1 + 1) 48 #[.slice (some ⟨w.heap.size + 1, 0, none⟩) g.n g.n] := by rw [← h3, ← s2]; exact Box.new _ _ _
  have b4 : Box (w3.alloc (.cells #[.slice none 0 0] 32)) (w.heap.size + 1 + 1 + 1) 32 #[.slice none 0 0] := by rw [← s3]; exact Box.new _ _ _
  have f1 : Fr [] w w1 := by rw [← h1]; exact (Fr.refl _ _).alloc _
  have f2 : Fr [] w1 w2 := by rw [← h2]; exact (Fr.refl _ _).alloc _
  have f3 : Fr [] w2 w3 := by rw [← h3]; exact (Fr.refl _ _).alloc _
  have f4 : Fr [] w3 (w3.alloc (.cells #[.slice none 0 0] 32)) := (Fr.refl _ _).alloc _
  have f12 := f1.trans f2 (G := []) (by simp) (by simp)
  have f34 := f3.trans f4 (G := []) (by simp) (by simp)
  exact ⟨((b1.kept f2 (by simp)).kept f34 (by simp)), b3.kept f4 (by simp), b4, b2.kept f34 (by simp), Seg.nil _ _, by omega, Nat.le_refl _, by omega, by omega, fun x hx => (by cases hx), (f12.trans f34 (G := []) (by simp) (by simp)).all, fun q _ => by simp⟩

def LdPost (w : World) (L : List Nat) (e : Ending) (W : World) : Prop := ∃ A c, e = .returned (.slice A (List.length L) c) ∧ Rd W A (natI L) ∧ Below w.heap.size w W

set_option maxRecDepth 100000 in
set_option maxHeartbeats 2000000 in
theorem leads_any (n : Int) (hn : n ≤ 100) (A : Option Addr) (cap : Nat) (l : List (Int × Int)) (hl : l.length ≤ 1000) (F : Option Addr) (fc : Nat) (fs : List Int) (hfl : fs.length ≤ 1000) (w : World) (h : Eds w A l) (hF : Rd w F (fs.map (Value.int .i64))) :
    Calls Try.prog 17 #[.int .i64 n, .slice A l.length cap, .slice F fs.length fc] w (LdPost w ((gof n l).leads n fs)) := by
  have KO := Lib.hid (outs_any n hn A cap l hl w h)
  obtain ⟨m, hm⟩ : ∃ m, Hid ((gof n l).n = m) := ⟨_, Lib.hid rfl⟩
  have hm2 : Hid (n.toNat = m) := Lib.hid hm.out
  have hgn : (gof n l).n ≤ 100 := by show n.toNat ≤ 100; omega
  have hgE : (gof n l).E.length ≤ 1000 := Nat.le_trans (gof_len n l) hl
  have hgo : ∀ u, ((gof n l).out u).length ≤ 1000 := fun u => Nat.le_trans (G.out_le _ u) hgE
  have hmb : m ≤ 100 := by rw [← hm.out]; exact hgn
  have HP := Lib.hid (And.intro hgn (And.intro (gof_ok n l) hgo))
  have hgnn : Hid ((gof n l).n = n.toNat) := Lib.hid rfl
  have HF := Lib.hid hF
  have hmk2 := run_make_row' (P := Try.prog) 48 4 (.bool false) 1 Try.underlying48 info_bool rfl .i64 .i64 m (by omega) (by omega)
  rw [made_bv] at hmk2
  obtain ⟨q, hq⟩ : ∃ q, Hid (fs.length = q) := ⟨_, Lib.hid rfl⟩
  have hqb : q ≤ 1000 := by rw [← hq.out]; exact hfl
  rw [hq.out]
  clear h hgn hgE hgo hF hfl
  go_enter Try.func17, Try.ntmps17
  go_wp2_with fail
  refine KO.out.mono ?_
  rintro e w1 ⟨o, rows, he, h1⟩
  rw [hm2.out] at he
  subst he
  have HOM := Lib.hid h1.om
  have HB := Lib.hid h1.on
  clear h1 KO
  generalize gof n l = g at *
  go_upto_region 7 with fail
  have hS := lv_start w1 g o
  rw [hm.out] at hS
  have hS : Hid (LV w1 _ g o w1.heap.size (w1.heap.size + 1 + 1) (w1.heap.size + 1 + 1 + 1) (w1.heap.size + 1) none 0 [] (fun _ => false)) := Lib.hid hS
  clear hmk2
  generalize ((((w1.alloc (.cells #[.slice (some ⟨o, 0, none⟩) m m] 25)).alloc (.cells (bv (fun _ => false) m) 4)).alloc (.cells #[.slice (some ⟨w1.heap.size + 1, 0, none⟩) m m] 48)).alloc (.cells #[.slice none 0 0] 32)) = w2 at *
  generalize w1.heap.size + 1 + 1 + 1 = pa at *
  generalize w1.heap.size + 1 + 1 = ps at *
  generalize w1.heap.size + 1 = sb at *
  generalize hpt : w1.heap.size = pt at *
  have HPT := Lib.hid hpt
  clear hpt
  go_wp2_with fail
  go_loopw [31] (fun i wr => ∃ (k : Nat) (A : Option Addr) (c : Nat) (all : List Nat) (seen : Nat → Bool), k ≤ q ∧ i = .int .i64 k ∧ Hid (LV w1 wr g o pt ps pa sb A c all seen) ∧ Hid (LI g n fs all ∧ ∀ x ∈ fs.take k, inG n x = true → x.toNat ∈ all)) (fun i _ => q - (intOf i).toNat)
  case atStart => exact ⟨0, _, _, _, _, by omega, rfl, hS, Lib.hid ⟨LI.nil _ _ _, by simp⟩⟩
  case round =>
    obtain ⟨k, A1, c1, all, seen, hk, rfl, hL, hI⟩ := hrel
    clear hS
    rename World => wr
    by_cases hkq : k < q
    · have d1 : decide ((k : Int) < (q : Int)) = true := decide_eq_true (by omega)
      have hkI : (k : Int) < (q : Int) := by omega
      have hkl : k < fs.length := by rw [hq.out]; exact hkq
      obtain ⟨fb, fo, rfl, hfb, hfc⟩ := HF.out (by rw [List.length_map]; omega)
      have ck0 := hfc k (by rw [List.length_map]; exact hkl)
      rw [List.getElem_map] at ck0
      have ck : wr.cell? ⟨fb, fo + k, none⟩ = some (.int .i64 fs[k]) := by
        rw [hL.out.on.cell (p := ⟨fb, fo + k, none⟩) (Nat.lt_of_lt_of_le hfb HB.out.size), HB.out.cell (p := ⟨fb, fo + k, none⟩) hfb]
        exact ck0
      have hts := Lib.hid (List.take_succ_eq_append_getElem hkl)
      have hmem := Lib.hid (List.getElem_mem hkl)
      clear hfc ck0 hfb
      generalize fs[k] = x at *
      clear hkl
      have KC := Lib.hid (come_any w1 wr g HP.out.1 n hgnn.out o pt ps pa sb A1 c1 all seen hL.out (by have := hI.out.1.len; have := hm.out; omega) x)
      have hI2 : Hid (LI g n fs (addI n all x) ∧ ∀ y ∈ fs.take (k + 1), inG n y = true → y.toNat ∈ addI n all x) := Lib.hid (by
        refine ⟨?_, fun y hy hin => ?_⟩
        · unfold addI
          cases hx : inG n x with
          | false => exact hI.out.1
          | true =>
            have h3 : x.toNat < g.n := by rw [hgnn.out]; unfold inG at hx; simp at hx; omega
            exact hI.out.1.add h3 ⟨x, hmem.out, hx, g.refl _⟩
        · rw [hts.out, List.mem_append, List.mem_singleton] at hy
          unfold addI
          rcases hy with hy | rfl
          · split
            · exact addN_mem.2 (Or.inl (hI.out.2 y hy hin))
            · exact hI.out.2 y hy hin
          · rw [if_pos hin]
            exact addN_mem.2 (Or.inr rfl))
      clear hL hI hts hmem
      go_wp2_with fail
      refine KC.out.mono ?_
      rintro e w3 ⟨rfl, A3, c3, seen3, h3⟩
      have H3 := Lib.hid h3
      clear h3 KC
      go_wp2_with fail
      go_roundw
      case rel => exact ⟨k + 1, A3, c3, _, seen3, by omega, by go_num, H3, hI2⟩
      case measure => simp [intOf]; omega
    · obtain rfl : k = q := by omega
      have d1 : decide ((k : Int) < (k : Int)) = false := decide_eq_false (by omega)
      have hI2 : Hid (LI g n fs all ∧ (∀ x ∈ fs, inG n x = true → x.toNat ∈ all) ∧ closedTo g all 0) := Lib.hid ⟨hI.out.1, by have := hI.out.2; rw [← hq.out, List.take_length] at this; exact this, fun _ _ h => by omega⟩
      clear hI HF
      go_wp2_with fail
      go_loopw [14] (fun s wr => ∃ (i : Nat) (A : Option Addr) (c : Nat) (all : List Nat) (seen : Nat → Bool), s = .int .i64 i ∧ i ≤ all.length ∧ Hid (LV w1 wr g o pt ps pa sb A c all seen) ∧ Hid (LI g n fs all ∧ (∀ x ∈ fs, inG n x = true → x.toNat ∈ all) ∧ closedTo g all i)) (fun s _ => m - (intOf s).toNat)
      case atStart => exact ⟨0, _, _, _, _, rfl, by omega, hL, hI2⟩
      case round =>
        obtain ⟨i, A2, c2, all2, seen2, rfl, hil, hL2, hI3⟩ := hrel
        clear hL hI2
        rename World => wx
        obtain ⟨na, hna⟩ : ∃ na, Hid (all2.length = na) := ⟨_, Lib.hid rfl⟩
        rw [hna.out] at hil
        have hnam : na ≤ m := by rw [← hna.out, ← hm.out]; exact hI3.out.1.len
        have c10 : wx.cell? ⟨pa, 0, none⟩ = some (.slice A2 na c2) := by rw [← hna.out]; exact hL2.out.ba.cell 0
        by_cases hin : i < na
        · have d2 : decide ((i : Int) < (na : Int)) = true := decide_eq_true (by omega)
          have hiI : (i : Int) < (na : Int) := by omega
          have c7 : wx.cell? ⟨pt, 0, none⟩ = some (.slice (some ⟨o, 0, none⟩) m m) := by rw [← hm.out]; exact hL2.out.bt.cell 0
          have hil2 : i < all2.length := by rw [hna.out]; exact hin
          obtain ⟨gb, go_, rfl, _, hca⟩ := rd_cells hL2.out.sq.rd (by omega)
          have cy := hca i hil2
          have hlt := hI3.out.1.lt _ (List.getElem_mem hil2)
          have hyI : Hid (all2[i]? = some all2[i]) := Lib.hid (List.getElem?_eq_getElem hil2)
          clear hca
          generalize all2[i] = y at *
          have hym : y < m := by rw [← hm.out]; exact hlt
          have hyJ : (y : Int) < (m : Int) := by omega
          obtain ⟨Ao, co, ko0, hro0, hbo0⟩ := HOM.out.row y hlt
          have hHO := HOM.out.lt
          have ko := (hL2.out.on.cell (p := ⟨o, y, none⟩) (by rw [HPT.out]; exact hHO)).trans ko0
          obtain ⟨z, hz⟩ : ∃ z, Hid ((g.out y).length = z) := ⟨_, Lib.hid rfl⟩
          rw [hz.out] at ko
          have hzb : z ≤ 1000 := by rw [← hz.out]; exact HP.out.2.2 y
          have HRO := Lib.hid (And.intro hro0 hbo0)
          have HLT := Lib.hid hlt
          have hL3 : Hid (∀ j, LV w1 (wx.drewN j) g o pt ps pa sb (some ⟨gb, go_, none⟩) c2 all2 seen2) := Lib.hid (fun j => hL2.out.on' (((Fr.refl [] wx).drewN j).all))
          clear ko0 hro0 hbo0 hHO hil2 hlt hL2
          go_wp2_with fail
          go_quiet (fail)
          rename Nat => nq
          have hL4 := Lib.hid (hL3.out nq)
          clear hL3 ko cy c7 c10
          generalize wx.drewN nq = wy at *
          go_wp2_with fail
          go_loopw [53] (fun s wr => ∃ (j : Nat) (A : Option Addr) (c : Nat) (all : List Nat) (seen : Nat → Bool), j ≤ z ∧ s = .int .i64 j ∧ Hid (LV w1 wr g o pt ps pa sb A c all seen) ∧ Hid (LI g n fs all ∧ all2 <+: all ∧ ∀ t ∈ (g.out y).take j, t ∈ all)) (fun s _ => z - (intOf s).toNat)
          case atStart => exact ⟨0, _, _, _, _, by omega, rfl, hL4, Lib.hid ⟨hI3.out.1, List.prefix_refl _, by simp⟩⟩
          case round =>
            obtain ⟨j, A4, c4, all4, seen4, hj, rfl, hL5, hI5⟩ := hrel
            clear hL4
            rename World => wz
            by_cases hjz : j < z
            · have d3 : decide ((j : Int) < (z : Int)) = true := decide_eq_true (by omega)
              have hjI : (j : Int) < (z : Int) := by omega
              have hjl : j < (g.out y).length := by rw [hz.out]; exact hjz
              obtain ⟨bo, oo, rfl, _, hco⟩ := rd_cells HRO.out.1 (by omega)
              have hbl := HRO.out.2 (by omega) bo (by simp [blk])
              have ct0 := hco j hjl
              have ct := (hL5.out.on.cell (p := ⟨bo, oo + j, none⟩) (by rw [HPT.out]; exact hbl)).trans ct0
              have hts := Lib.hid (List.take_succ_eq_append_getElem hjl)
              have hmem := Lib.hid (List.getElem_mem hjl)
              clear hco ct0 hbl
              generalize (g.out y)[j] = t at *
              clear hjl
              have KC := Lib.hid (come_any w1 wz g HP.out.1 n hgnn.out o pt ps pa sb A4 c4 all4 seen4 hL5.out (by have := hI5.out.1.len; have := hm.out; omega) (t : Int))
              have hedge := Lib.hid (g.mem_out.1 hmem.out)
              have htn := Lib.hid (HP.out.2.1 _ hedge.out).2
              have hadd : Hid (addI n all4 (t : Int) = addN all4 t) := Lib.hid (addI_in (by have := htn.out; have := hgnn.out; omega))
              rw [hadd.out] at KC
              have hI6 : Hid (LI g n fs (addN all4 t) ∧ all2 <+: addN all4 t ∧ ∀ u ∈ (g.out y).take (j + 1), u ∈ addN all4 t) := Lib.hid (by
                refine ⟨?_, hI5.out.2.1.trans (addN_prefix _ _), fun u hu => ?_⟩
                · obtain ⟨x, x1, x2, x3⟩ := hI3.out.1.fm y (List.mem_of_getElem? hyI.out)
                  exact hI5.out.1.add htn.out ⟨x, x1, x2, g.trans HLT.out x3 (g.edge hedge.out)⟩
                · rw [hts.out, List.mem_append, List.mem_singleton] at hu
                  rcases hu with hu | rfl
                  · exact addN_mem.2 (Or.inl (hI5.out.2.2 u hu))
                  · exact addN_mem.2 (Or.inr rfl))
              clear hL5 hI5 hts hmem hedge htn hadd
              go_wp2_with fail
              refine KC.out.mono ?_
              rintro e w3 ⟨rfl, A3, c3, seen3, h3⟩
              have H3 := Lib.hid h3
              clear h3 KC
              go_wp2_with fail
              go_roundw
              case rel => exact ⟨j + 1, A3, c3, _, seen3, by omega, by go_num, H3, hI6⟩
              case measure => simp [intOf]; omega
            · obtain rfl : j = z := by omega
              have d3 : decide ((j : Int) < (j : Int)) = false := decide_eq_false (by omega)
              have hle : i + 1 ≤ all4.length := by have := hI5.out.2.1.length_le; rw [hna.out] at this; omega
              have hI6 : Hid (LI g n fs all4 ∧ (∀ x ∈ fs, inG n x = true → x.toNat ∈ all4) ∧ closedTo g all4 (i + 1)) := Lib.hid (by
                have hpre := hI5.out.2.1
                refine ⟨hI5.out.1, fun x hx hin => hpre.subset (hI3.out.2.1 x hx hin), fun k' m' hk' hm' t ht => ?_⟩
                have hcl := closed_mono hI3.out.2.2 hpre (by rw [hna.out]; exact hil)
                by_cases e : k' = i
                · subst e
                  obtain ⟨s, rfl⟩ := hpre
                  rw [List.getElem?_append_left (by rw [hna.out]; exact hin), hyI.out] at hm'
                  cases hm'
                  refine hI5.out.2.2 t ?_
                  rw [List.take_of_length_le (by rw [hz.out]; exact Nat.le_refl _)]
                  exact ht
                · exact hcl k' m' (by omega) hm' t ht)
              clear hI5
              go_wp2_with fail
              go_roundw
              case rel => exact ⟨i + 1, A4, c4, all4, seen4, by go_num, hle, hL5, hI6⟩
              case measure => simp [intOf]; omega
        · obtain rfl : i = na := by omega
          have d2 : decide ((i : Int) < (i : Int)) = false := decide_eq_false (by omega)
          have hperm := leads_perm hgnn.out hI3.out.1 HP.out.2.1 hI3.out.2.1 (by rw [hna.out]; exact hI3.out.2.2)
          have KS := sort_seg wx A2 c2 all2 (g.leads n fs) hL2.out.sq (by rw [hna.out]; omega) hperm (leads_srt g n fs)
          rw [hna.out] at KS
          have KS := Lib.hid KS
          have hlen := Lib.hid hperm.length_eq
          have hba := Lib.hid hL2.out.ba
          have hnb := Lib.hid (hL2.out.sq.ne_box hL2.out.ba (by decide))
          have hgA := Lib.hid hL2.out.gA
          have hon := Lib.hid hL2.out.on
          clear hperm hL2 hI3
          go_wp2_with fail
          refine KS.out.mono ?_
          rintro e w3 ⟨rfl, f3, r3⟩
          have c10' : w3.cell? ⟨pa, 0, none⟩ = some (.slice A2 i c2) := by rw [← hna.out]; exact (hba.out.kept f3 hnb.out).cell 0
          have fin : Hid (LdPost w (g.leads n fs) (.returned (.slice A2 i c2)) w3) := Lib.hid ⟨A2, c2, by rw [← hlen.out, hna.out], r3, HB.out.trans ((hon.out.trans (f3.below hgA.out hon.out.size)).mono HB.out.size)⟩
          clear f3 r3 KS c10
          go_wp2_with fail
          go_ret
          exact fin.out
end Go.Proofs.Ytpdidgacmikllaa.tj
